/- The document's ParseSuper. -/
import Derived.Test.YtadcgngiofdhcaaDoorRc1
import Derived.Test.YtadcgngiofdhcaaDoorRb1
import Derived.Test.YtadcgngiofdhcaaDoorIc
import Derived.Test.YtadcgngiofdhcaaDoorUnp
import Derived.Deep.CutRange
namespace Go.Proofs.YtadcgngiofdhcaaDoor
open Go.ChangeShapes Go.WideShapes Go.ChangeAt Go.RowKit Go.Shelf
set_option linter.unusedVariables false
set_option linter.unusedSimpArgs false
set_option maxRecDepth 100000
attribute [local go_sem] Oper.semAt_some

theorem run_slice_str2 (P : Program) (w : World) (t : TypeId) (s : ByteArray) (ht : P.underlying t = some .string) (l h : Int) (h0 : 0 ≤ l) (h1 : l ≤ h) (h2 : h ≤ s.size) :
    (Instr.slice t (.string s) (some (.int .i64 l)) (some (.int .i64 h)) none).run P w = .ok (.string (s.extract l.toNat h.toNat)) w := by
  simp [Instr.slice, run_underlying ht, Instr.sliceBounds, run_sliceBound, sliced, *, (by omega : (h.toNat : Int) = h), (by omega : 0 ≤ h), (by omega : 0 ≤ l)]
theorem str_byte2 {BS : ByteArray} {b : List Int} (hB : AllB b) (h : BS = strOfNums b) (k : Nat) (hk1 : k < BS.size) : (((BS[k]'hk1).toNat : Nat) : Int) = b.getD k 0 := by
  subst h
  have hk : k < b.length := by rw [strOfNums_size] at hk1; exact hk1
  have h1 : (strOfNums b)[k]'hk1 = UInt8.ofNat (b[k]'hk).toNat := by
    show (strOfNums b).data[k]'_ = _
    simp [strOfNums]
  have h2 := hB (b[k]'hk) (List.getElem_mem hk)
  rw [h1, List.getD_eq_getElem?_getD, List.getElem?_eq_getElem hk]
  simp
  omega
theorem results_paR (tmps : Array Value) (w : World) (g : Nat) (cs : Array Value) (v : Value) (h2 : tmps.getD 2 undef = .pointer (some ⟨g, 0, none⟩)) (h3 : tmps.getD 3 undef = v) (hg : w.heap[g]? = some (.cells cs 34 (0, 0))) (hs : cs.size = 14) :
    (results Tryd.f30 tmps).run Tryd.prog w = .ok (.tuple #[.agg cs, v]) w := by
  have h2' : tmps[2]?.getD undef = .pointer (some ⟨g, 0, none⟩) := by simpa using h2
  have h3' : tmps[3]?.getD undef = v := by simpa using h3
  have hr := run_loadVar_row (P := Tryd.prog) w g 34 34 cs (0, 0) _ hg Tryd.underlying34 rfl (by rw [hs]; exact sizeRu)
  simp [results, Tryd.f30, h2', h3', asAddr, hr]
theorem SU.S_B2 {P : SU} (h : P.Wf) : AllB P.S := by
  unfold SU.S
  split
  · exact szL_B (allB_app2 (SU.H_B h) ((shaL_B _).takeB 8))
  · exact fun x hx => by cases hx
theorem bit_of {b : List Int} (hB : AllB b) {k : Nat} (hk : k < 256) : ∃ V : Int, b.getD (27 + k / 8) 0 / 2 ^ (7 - k % 8) = V ∧ 0 ≤ V ∧ V < 256 ∧ V % 2 = if (unpackL ((b.drop 27).take 32) 256).getD k false then 1 else 0 := by
  have h := byte_getD hB (27 + k / 8)
  refine ⟨_, rfl, Int.ediv_nonneg h.1 (Int.le_of_lt (Int.pow_pos (by omega))), Int.lt_of_le_of_lt (Int.ediv_le_self _ h.1) h.2, ?_⟩
  rw [unpackL_getD hk]
  unfold bitOf
  have e : ((b.drop 27).take 32).getD (k / 8) 0 = b.getD (27 + k / 8) 0 := by
    simp only [List.getD_eq_getElem?_getD]
    rw [List.getElem?_take_of_lt (by omega), List.getElem?_drop]
  rw [e]
  obtain ⟨x, hx⟩ := Int.eq_ofNat_of_zero_le h.1
  rw [hx, Int.toNat_natCast]
  rw [Nat.testBit_eq_decide_div_mod_eq]
  have e2 : ((x : Int) / 2 ^ (7 - k % 8)) % 2 = ((x / 2 ^ (7 - k % 8) % 2 : Nat) : Int) := by simp
  rw [e2]
  have : x / 2 ^ (7 - k % 8) % 2 < 2 := Nat.mod_lt _ (by omega)
  by_cases h1 : x / 2 ^ (7 - k % 8) % 2 = 1
  · simp [h1]
  · have h0 : x / 2 ^ (7 - k % 8) % 2 = 0 := by omega
    simp [h0]

set_option maxHeartbeats 32000000 in
theorem refParseSuper_any (b : List Int) (hB : AllB b) (hl : b.length ≤ 600) (w : World) :
    Calls Tryd.prog 30 #[.string (strOfNums b)] w fun e w' => Below w.heap.size w w' ∧ ((b.length ≠ 512 ∧ e = .returned (.tuple #[.agg #[.string { data := #[] }, .int .i64 0, .int .i64 0, .int .i64 0, .int .i64 0, .int .i64 0, .int .u64 0, .int .u64 0, .int .u64 0, .slice none 0 0, .int .u64 0, .int .u64 0, .int .i64 0, .int .u64 0], .bool false])) ∨
      (b.length = 512 ∧ ∃ a c, e = .returned (.tuple #[ruA (psuR b) (.slice a (psuR b).L.length c), .bool (decide ((psuR b).S = b))]) ∧ IA w' a (psuR b).L.length c (psuR b).L)) := by
  obtain ⟨BS, hBS⟩ : ∃ BS, BS = strOfNums b := ⟨_, rfl⟩
  have hsz : BS.size = b.length := by rw [hBS]; exact strOfNums_size b
  obtain ⟨N, hN⟩ : ∃ N, N = b.length := ⟨_, rfl⟩
  rw [← hN] at hsz hl ⊢
  rw [← hBS]
  by_cases h5 : N = 512
  case neg =>
    have q1 : ¬ (N : Int) = 512 := by omega
    have HN5 := Lib.hid h5
    have HS14 := Lib.hid (show (Tryd.prog.info? 34).map (·.size) = some 14 from sizeRu)
    clear hBS hN h5
    go_enter Tryd.func30, Tryd.ntmps30
    go_wp2
    refine bodyPost_ret (v := .tuple #[.agg #[.string { data := #[] }, .int .i64 0, .int .i64 0, .int .i64 0, .int .i64 0, .int .i64 0, .int .u64 0, .int .u64 0, .int .u64 0, .slice none 0 0, .int .u64 0, .int .u64 0, .int .i64 0, .int .u64 0], .bool false]) (results_paR _ _ w.heap.size _ _ rfl rfl (heap_alloc_new w _) rfl) rfl ⟨(Below.refl _ _).alloc (Nat.le_refl _) _, .inl ⟨HN5.out, rfl⟩⟩
  case pos =>
    have hlb : b.length = 512 := by omega
    have hP : (psuR b).Wf := psuR_wf hB hlb
    have hPb : (psuR b).bl = nb b 15 4 ∧ (psuR b).bo = nb b 19 4 ∧ (psuR b).ep = nb b 23 4 ∧ (psuR b).rf = nb b 59 4 ∧ (psuR b).sc = nb b 63 4 ∧ (psuR b).rs = nb b 68 4 ∧ (psuR b).inn = unpackL ((b.drop 27).take 32) 256 := ⟨rfl, rfl, rfl, rfl, rfl, rfl, rfl⟩
    have hPn : (psuR b).nm = (b.drop 2).take 8 ∧ (psuR b).p = b.getD 10 0 ∧ (psuR b).n = b.getD 11 0 ∧ (psuR b).t = b.getD 12 0 ∧ (psuR b).m = b.getD 13 0 ∧ (psuR b).c = b.getD 14 0 ∧ (psuR b).tg = b.getD 67 0 := ⟨rfl, rfl, rfl, rfl, rfl, rfl, rfl⟩
    generalize psuR b = P at hP hPb hPn ⊢
    obtain ⟨SS, hSS⟩ : ∃ s, s = strOfNums P.nm := ⟨_, rfl⟩
    obtain ⟨A, hA⟩ : ∃ A, A = w.alloc (.cells #[.string { data := #[] }, .int .i64 0, .int .i64 0, .int .i64 0, .int .i64 0, .int .i64 0, .int .u64 0, .int .u64 0, .int .u64 0, .slice none 0 0, .int .u64 0, .int .u64 0, .int .i64 0, .int .u64 0] 34) := ⟨_, rfl⟩
    have hbA : Below w.heap.size w A := by rw [hA]; exact (Below.refl _ _).alloc (Nat.le_refl _) _
    have hAs : A.heap.size = w.heap.size + 1 := by rw [hA]; simp
    have hrA : A.heap[w.heap.size]? = some (.cells #[.string { data := #[] }, .int .i64 0, .int .i64 0, .int .i64 0, .int .i64 0, .int .i64 0, .int .u64 0, .int .u64 0, .int .u64 0, .slice none 0 0, .int .u64 0, .int .u64 0, .int .i64 0, .int .u64 0] 34 (0, 0)) := by rw [hA]; exact heap_alloc_new w _
    have HA := Lib.hid (And.intro (show A = w.alloc (.cells #[.string { data := #[] }, .int .i64 0, .int .i64 0, .int .i64 0, .int .i64 0, .int .i64 0, .int .u64 0, .int .u64 0, .int .u64 0, .slice none 0 0, .int .u64 0, .int .u64 0, .int .i64 0, .int .u64 0] 34) from hA) (And.intro hbA (And.intro hAs hrA)))
    have HAT := Lib.hid (show ∀ (k : Nat) (W : World), k ≤ 512 → Below A.heap.size A W → Calls Tryd.prog 48 #[.string BS, .int .i64 (k : Nat), .int .i64 4] W fun e w' => e = .returned (.int .u64 (nb b k 4)) ∧ Below W.heap.size W w' ∧ Below A.heap.size A w' from fun k W hk hW => by
      rw [hBS]
      exact (refAt_any b k 4 hB (by omega) (by omega) (by omega) W).mono fun e w' h => ⟨h.1, h.2, bt hW h.2⟩)
    have HA15 := Lib.hid (show ∀ W, Below A.heap.size A W → Calls Tryd.prog 48 #[.string BS, .int .i64 15, .int .i64 4] W fun e w' => e = .returned (.int .u64 P.bl) ∧ Below W.heap.size W w' ∧ Below A.heap.size A w' from fun W hW => by rw [show P.bl = nb b 15 4 by simp [hPb]]; exact HAT.out 15 W (by omega) hW)
    have HA19 := Lib.hid (show ∀ W, Below A.heap.size A W → Calls Tryd.prog 48 #[.string BS, .int .i64 19, .int .i64 4] W fun e w' => e = .returned (.int .u64 P.bo) ∧ Below W.heap.size W w' ∧ Below A.heap.size A w' from fun W hW => by rw [show P.bo = nb b 19 4 by simp [hPb]]; exact HAT.out 19 W (by omega) hW)
    have HA23 := Lib.hid (show ∀ W, Below A.heap.size A W → Calls Tryd.prog 48 #[.string BS, .int .i64 23, .int .i64 4] W fun e w' => e = .returned (.int .u64 P.ep) ∧ Below W.heap.size W w' ∧ Below A.heap.size A w' from fun W hW => by rw [show P.ep = nb b 23 4 by simp [hPb]]; exact HAT.out 23 W (by omega) hW)
    have HA59 := Lib.hid (show ∀ W, Below A.heap.size A W → Calls Tryd.prog 48 #[.string BS, .int .i64 59, .int .i64 4] W fun e w' => e = .returned (.int .u64 P.rf) ∧ Below W.heap.size W w' ∧ Below A.heap.size A w' from fun W hW => by rw [show P.rf = nb b 59 4 by simp [hPb]]; exact HAT.out 59 W (by omega) hW)
    have HA63 := Lib.hid (show ∀ W, Below A.heap.size A W → Calls Tryd.prog 48 #[.string BS, .int .i64 63, .int .i64 4] W fun e w' => e = .returned (.int .u64 P.sc) ∧ Below W.heap.size W w' ∧ Below A.heap.size A w' from fun W hW => by rw [show P.sc = nb b 63 4 by simp [hPb]]; exact HAT.out 63 W (by omega) hW)
    have HA68 := Lib.hid (show ∀ W, Below A.heap.size A W → Calls Tryd.prog 48 #[.string BS, .int .i64 68, .int .i64 4] W fun e w' => e = .returned (.int .u64 P.rs) ∧ Below W.heap.size W w' ∧ Below A.heap.size A w' from fun W hW => by rw [show P.rs = nb b 68 4 by simp [hPb]]; exact HAT.out 68 W (by omega) hW)
    have g10 : 10 < BS.size := by rw [hsz]; omega
    have w10 : IntKind.i64.wrap (((BS[10]'g10).toNat : Nat) : Int) = P.p := by rw [str_byte2 hB hBS 10, show b.getD 10 0 = P.p by simp [hPn]]; have := hP.p; unfold byteI at this; exact IntWalk.i64_in _ (by omega)
    have g11 : 11 < BS.size := by rw [hsz]; omega
    have w11 : IntKind.i64.wrap (((BS[11]'g11).toNat : Nat) : Int) = P.n := by rw [str_byte2 hB hBS 11, show b.getD 11 0 = P.n by simp [hPn]]; have := hP.n; unfold byteI at this; exact IntWalk.i64_in _ (by omega)
    have g12 : 12 < BS.size := by rw [hsz]; omega
    have w12 : IntKind.i64.wrap (((BS[12]'g12).toNat : Nat) : Int) = P.t := by rw [str_byte2 hB hBS 12, show b.getD 12 0 = P.t by simp [hPn]]; have := hP.t; unfold byteI at this; exact IntWalk.i64_in _ (by omega)
    have g13 : 13 < BS.size := by rw [hsz]; omega
    have w13 : IntKind.i64.wrap (((BS[13]'g13).toNat : Nat) : Int) = P.m := by rw [str_byte2 hB hBS 13, show b.getD 13 0 = P.m by simp [hPn]]; have := hP.m; unfold byteI at this; exact IntWalk.i64_in _ (by omega)
    have g14 : 14 < BS.size := by rw [hsz]; omega
    have w14 : IntKind.i64.wrap (((BS[14]'g14).toNat : Nat) : Int) = P.c := by rw [str_byte2 hB hBS 14, show b.getD 14 0 = P.c by simp [hPn]]; have := hP.c; unfold byteI at this; exact IntWalk.i64_in _ (by omega)
    have g67 : 67 < BS.size := by rw [hsz]; omega
    have w67 : IntKind.i64.wrap (((BS[67]'g67).toNat : Nat) : Int) = P.tg := by rw [str_byte2 hB hBS 67, show b.getD 67 0 = P.tg by simp [hPn]]; have := hP.tg; unfold byteI at this; exact IntWalk.i64_in _ (by omega)
    have hsl : ∀ W, (Instr.slice 9 (.string BS) (some (.int .i64 2)) (some (.int .i64 10)) none).run Tryd.prog W = .ok (.string SS) W := fun W => by
      rw [run_slice_str2 _ W _ _ Tryd.underlying9 2 10 (by omega) (by omega) (by rw [hsz]; omega), hBS, hSS, str_cut, hPn.1]
      congr 3
      show List.drop 2 (List.take 10 b) = List.take 8 (List.drop 2 b)
      rw [List.drop_take]
    have HBY := Lib.hid (show ∀ k, k < 256 → ∃ (hk : 27 + k / 8 < BS.size) (V : Int), (((BS[27 + k / 8]'hk).toNat : Nat) : Int) / 2 ^ (7 - k % 8) = V ∧ 0 ≤ V ∧ V < 256 ∧ V % 2 = if P.inn.getD k false then 1 else 0 from fun k hk => by
      have h1 : 27 + k / 8 < BS.size := by rw [hsz]; omega
      obtain ⟨V, h3, h4, h5, h6⟩ := bit_of hB hk
      exact ⟨h1, V, by rw [str_byte2 hB hBS _ h1]; exact h3, h4, h5, by rw [hPb.2.2.2.2.2.2]; exact h6⟩)
    have HPP := Lib.hid hP
    have HSS := Lib.hid hSS
    have HBS := Lib.hid hBS
    have HBL := Lib.hid (And.intro hB hlb)
    clear hBS hN hP hPb hPn hSS hA hbA hAs hrA hlb hB hl
    subst h5
    go_enter Tryd.func30, Tryd.ntmps30
    go_upto_region 3 with fail
    rw [← HA.out.1]
    go_cut [4] from 10 to 42 (fun p wx => ∃ g : Nat, p = .pointer (some ⟨g, 0, none⟩) ∧ Hid (wx.heap[g]? = some (.cells #[.string SS, .int .i64 P.p, .int .i64 P.n, .int .i64 P.t, .int .i64 P.m, .int .i64 P.c, .int .u64 P.bl, .int .u64 P.bo, .int .u64 P.ep, .slice none 0 0, .int .u64 P.rf, .int .u64 P.sc, .int .i64 P.tg, .int .u64 P.rs] 34 (0, 0))) ∧ Hid (A.heap.size ≤ g) ∧ Hid (Below A.heap.size A wx))
    case first =>
      refine wp_region_held_drew (S := fun W => Below A.heap.size A W) (by kernel_rfl) (Below.refl _ _).drew (fun hHeld => ?_)
      generalize A.drew = v0 at hHeld ⊢
      refine wpAnyH_take (i := 0) (oi := { dst := some 10, op := Go.Op.move (Go.Operand.tmp 0), type := 9, pos := "ref.go:112", after := #[], guard := none }) (v := ?v0d1) rfl (by kernel_rfl) (by kernel_rfl) (by kernel_rfl) (fun _ _ _ h => h) (Or.inl ⟨by rfl, ?hy0d1⟩) hHeld ?rest0d1
      case hy0d1 =>
        intro W' hV
        try dsimp only at hV
        go_simp
        all_goals with_reducible rfl
      case' rest0d1 => try simp only [Act.put, List.setIfInBounds_toArray, List.set_cons_zero, List.set_cons_succ]
      refine wpAnyH_take (i := 1) (oi := { dst := some 11, op := Go.Op.slice 9 (Go.Operand.tmp 10) (some (Go.Operand.const (Go.Value.int Go.IntKind.i64 2))) (some (Go.Operand.const (Go.Value.int Go.IntKind.i64 10))) none, type := 9, pos := "ref.go:112", after := #[{ on := 0, ground := Go.Ground.data }], guard := none }) (v := ?v1d2) rfl (by kernel_rfl) (by kernel_rfl) (by kernel_rfl) (fun _ _ _ h => h) (Or.inl ⟨by rfl, ?hy1d2⟩) hHeld ?rest1d2
      case hy1d2 =>
        intro W' hV
        try dsimp only at hV
        go_simp
        all_goals with_reducible rfl
      case' rest1d2 => try simp only [Act.put, List.setIfInBounds_toArray, List.set_cons_zero, List.set_cons_succ]
      refine wpAnyH_take (i := 2) (oi := { dst := some 12, op := Go.Op.move (Go.Operand.tmp 0), type := 9, pos := "ref.go:112", after := #[], guard := none }) (v := ?v2d3) rfl (by kernel_rfl) (by kernel_rfl) (by kernel_rfl) (fun _ _ _ h => h) (Or.inl ⟨by rfl, ?hy2d3⟩) hHeld ?rest2d3
      case hy2d3 =>
        intro W' hV
        try dsimp only at hV
        go_simp
        all_goals with_reducible rfl
      case' rest2d3 => try simp only [Act.put, List.setIfInBounds_toArray, List.set_cons_zero, List.set_cons_succ]
      refine wpAnyH_take (i := 3) (oi := { dst := some 13, op := Go.Op.index 9 (Go.Operand.tmp 12) (Go.Operand.const (Go.Value.int Go.IntKind.i64 10)), type := 5, pos := "ref.go:112", after := #[{ on := 2, ground := Go.Ground.data }], guard := none }) (v := ?v3d4) rfl (by kernel_rfl) (by kernel_rfl) (by kernel_rfl) (fun _ _ _ h => h) (Or.inl ⟨by rfl, ?hy3d4⟩) hHeld ?rest3d4
      case hy3d4 =>
        intro W' hV
        try dsimp only at hV
        go_simp
        all_goals with_reducible rfl
      case' rest3d4 => try simp only [Act.put, List.setIfInBounds_toArray, List.set_cons_zero, List.set_cons_succ]
      refine wpAnyH_take (i := 4) (oi := { dst := some 14, op := Go.Op.convert 5 3 (Go.Operand.tmp 13), type := 3, pos := "ref.go:112", after := #[{ on := 3, ground := Go.Ground.data }], guard := none }) (v := ?v4d5) rfl (by kernel_rfl) (by kernel_rfl) (by kernel_rfl) (fun _ _ _ h => h) (Or.inl ⟨by rfl, ?hy4d5⟩) hHeld ?rest4d5
      case hy4d5 =>
        intro W' hV
        try dsimp only at hV
        go_simp
        all_goals with_reducible rfl
      case' rest4d5 => try simp only [Act.put, List.setIfInBounds_toArray, List.set_cons_zero, List.set_cons_succ]
      refine wpAnyH_take (i := 5) (oi := { dst := some 15, op := Go.Op.move (Go.Operand.tmp 0), type := 9, pos := "ref.go:112", after := #[], guard := none }) (v := ?v5d6) rfl (by kernel_rfl) (by kernel_rfl) (by kernel_rfl) (fun _ _ _ h => h) (Or.inl ⟨by rfl, ?hy5d6⟩) hHeld ?rest5d6
      case hy5d6 =>
        intro W' hV
        try dsimp only at hV
        go_simp
        all_goals with_reducible rfl
      case' rest5d6 => try simp only [Act.put, List.setIfInBounds_toArray, List.set_cons_zero, List.set_cons_succ]
      refine wpAnyH_take (i := 6) (oi := { dst := some 16, op := Go.Op.index 9 (Go.Operand.tmp 15) (Go.Operand.const (Go.Value.int Go.IntKind.i64 11)), type := 5, pos := "ref.go:112", after := #[{ on := 5, ground := Go.Ground.data }], guard := none }) (v := ?v6d7) rfl (by kernel_rfl) (by kernel_rfl) (by kernel_rfl) (fun _ _ _ h => h) (Or.inl ⟨by rfl, ?hy6d7⟩) hHeld ?rest6d7
      case hy6d7 =>
        intro W' hV
        try dsimp only at hV
        go_simp
        all_goals with_reducible rfl
      case' rest6d7 => try simp only [Act.put, List.setIfInBounds_toArray, List.set_cons_zero, List.set_cons_succ]
      refine wpAnyH_take (i := 7) (oi := { dst := some 17, op := Go.Op.convert 5 3 (Go.Operand.tmp 16), type := 3, pos := "ref.go:112", after := #[{ on := 6, ground := Go.Ground.data }], guard := none }) (v := ?v7d8) rfl (by kernel_rfl) (by kernel_rfl) (by kernel_rfl) (fun _ _ _ h => h) (Or.inl ⟨by rfl, ?hy7d8⟩) hHeld ?rest7d8
      case hy7d8 =>
        intro W' hV
        try dsimp only at hV
        go_simp
        all_goals with_reducible rfl
      case' rest7d8 => try simp only [Act.put, List.setIfInBounds_toArray, List.set_cons_zero, List.set_cons_succ]
      refine wpAnyH_take (i := 8) (oi := { dst := some 18, op := Go.Op.move (Go.Operand.tmp 0), type := 9, pos := "ref.go:112", after := #[], guard := none }) (v := ?v8d9) rfl (by kernel_rfl) (by kernel_rfl) (by kernel_rfl) (fun _ _ _ h => h) (Or.inl ⟨by rfl, ?hy8d9⟩) hHeld ?rest8d9
      case hy8d9 =>
        intro W' hV
        try dsimp only at hV
        go_simp
        all_goals with_reducible rfl
      case' rest8d9 => try simp only [Act.put, List.setIfInBounds_toArray, List.set_cons_zero, List.set_cons_succ]
      refine wpAnyH_take (i := 9) (oi := { dst := some 19, op := Go.Op.index 9 (Go.Operand.tmp 18) (Go.Operand.const (Go.Value.int Go.IntKind.i64 12)), type := 5, pos := "ref.go:112", after := #[{ on := 8, ground := Go.Ground.data }], guard := none }) (v := ?v9d10) rfl (by kernel_rfl) (by kernel_rfl) (by kernel_rfl) (fun _ _ _ h => h) (Or.inl ⟨by rfl, ?hy9d10⟩) hHeld ?rest9d10
      case hy9d10 =>
        intro W' hV
        try dsimp only at hV
        go_simp
        all_goals with_reducible rfl
      case' rest9d10 => try simp only [Act.put, List.setIfInBounds_toArray, List.set_cons_zero, List.set_cons_succ]
      refine wpAnyH_take (i := 10) (oi := { dst := some 20, op := Go.Op.convert 5 3 (Go.Operand.tmp 19), type := 3, pos := "ref.go:112", after := #[{ on := 9, ground := Go.Ground.data }], guard := none }) (v := ?v10d11) rfl (by kernel_rfl) (by kernel_rfl) (by kernel_rfl) (fun _ _ _ h => h) (Or.inl ⟨by rfl, ?hy10d11⟩) hHeld ?rest10d11
      case hy10d11 =>
        intro W' hV
        try dsimp only at hV
        go_simp
        all_goals with_reducible rfl
      case' rest10d11 => try simp only [Act.put, List.setIfInBounds_toArray, List.set_cons_zero, List.set_cons_succ]
      refine wpAnyH_take (i := 11) (oi := { dst := some 21, op := Go.Op.move (Go.Operand.tmp 0), type := 9, pos := "ref.go:112", after := #[], guard := none }) (v := ?v11d12) rfl (by kernel_rfl) (by kernel_rfl) (by kernel_rfl) (fun _ _ _ h => h) (Or.inl ⟨by rfl, ?hy11d12⟩) hHeld ?rest11d12
      case hy11d12 =>
        intro W' hV
        try dsimp only at hV
        go_simp
        all_goals with_reducible rfl
      case' rest11d12 => try simp only [Act.put, List.setIfInBounds_toArray, List.set_cons_zero, List.set_cons_succ]
      refine wpAnyH_take (i := 12) (oi := { dst := some 22, op := Go.Op.index 9 (Go.Operand.tmp 21) (Go.Operand.const (Go.Value.int Go.IntKind.i64 13)), type := 5, pos := "ref.go:112", after := #[{ on := 11, ground := Go.Ground.data }], guard := none }) (v := ?v12d13) rfl (by kernel_rfl) (by kernel_rfl) (by kernel_rfl) (fun _ _ _ h => h) (Or.inl ⟨by rfl, ?hy12d13⟩) hHeld ?rest12d13
      case hy12d13 =>
        intro W' hV
        try dsimp only at hV
        go_simp
        all_goals with_reducible rfl
      case' rest12d13 => try simp only [Act.put, List.setIfInBounds_toArray, List.set_cons_zero, List.set_cons_succ]
      refine wpAnyH_take (i := 13) (oi := { dst := some 23, op := Go.Op.convert 5 3 (Go.Operand.tmp 22), type := 3, pos := "ref.go:112", after := #[{ on := 12, ground := Go.Ground.data }], guard := none }) (v := ?v13d14) rfl (by kernel_rfl) (by kernel_rfl) (by kernel_rfl) (fun _ _ _ h => h) (Or.inl ⟨by rfl, ?hy13d14⟩) hHeld ?rest13d14
      case hy13d14 =>
        intro W' hV
        try dsimp only at hV
        go_simp
        all_goals with_reducible rfl
      case' rest13d14 => try simp only [Act.put, List.setIfInBounds_toArray, List.set_cons_zero, List.set_cons_succ]
      refine wpAnyH_take (i := 14) (oi := { dst := some 24, op := Go.Op.move (Go.Operand.tmp 0), type := 9, pos := "ref.go:112", after := #[], guard := none }) (v := ?v14d15) rfl (by kernel_rfl) (by kernel_rfl) (by kernel_rfl) (fun _ _ _ h => h) (Or.inl ⟨by rfl, ?hy14d15⟩) hHeld ?rest14d15
      case hy14d15 =>
        intro W' hV
        try dsimp only at hV
        go_simp
        all_goals with_reducible rfl
      case' rest14d15 => try simp only [Act.put, List.setIfInBounds_toArray, List.set_cons_zero, List.set_cons_succ]
      refine wpAnyH_take (i := 15) (oi := { dst := some 25, op := Go.Op.index 9 (Go.Operand.tmp 24) (Go.Operand.const (Go.Value.int Go.IntKind.i64 14)), type := 5, pos := "ref.go:112", after := #[{ on := 14, ground := Go.Ground.data }], guard := none }) (v := ?v15d16) rfl (by kernel_rfl) (by kernel_rfl) (by kernel_rfl) (fun _ _ _ h => h) (Or.inl ⟨by rfl, ?hy15d16⟩) hHeld ?rest15d16
      case hy15d16 =>
        intro W' hV
        try dsimp only at hV
        go_simp
        all_goals with_reducible rfl
      case' rest15d16 => try simp only [Act.put, List.setIfInBounds_toArray, List.set_cons_zero, List.set_cons_succ]
      refine wpAnyH_take (i := 16) (oi := { dst := some 26, op := Go.Op.convert 5 3 (Go.Operand.tmp 25), type := 3, pos := "ref.go:112", after := #[{ on := 15, ground := Go.Ground.data }], guard := none }) (v := ?v16d17) rfl (by kernel_rfl) (by kernel_rfl) (by kernel_rfl) (fun _ _ _ h => h) (Or.inl ⟨by rfl, ?hy16d17⟩) hHeld ?rest16d17
      case hy16d17 =>
        intro W' hV
        try dsimp only at hV
        go_simp
        all_goals with_reducible rfl
      case' rest16d17 => try simp only [Act.put, List.setIfInBounds_toArray, List.set_cons_zero, List.set_cons_succ]
      refine wpAnyH_take (i := 17) (oi := { dst := some 27, op := Go.Op.move (Go.Operand.tmp 0), type := 9, pos := "ref.go:112", after := #[], guard := none }) (v := ?v17d18) rfl (by kernel_rfl) (by kernel_rfl) (by kernel_rfl) (fun _ _ _ h => h) (Or.inl ⟨by rfl, ?hy17d18⟩) hHeld ?rest17d18
      case hy17d18 =>
        intro W' hV
        try dsimp only at hV
        go_simp
        all_goals with_reducible rfl
      case' rest17d18 => try simp only [Act.put, List.setIfInBounds_toArray, List.set_cons_zero, List.set_cons_succ]
      refine wpAnyH_take (i := 19) (oi := { dst := some 29, op := Go.Op.move (Go.Operand.tmp 0), type := 9, pos := "ref.go:112", after := #[], guard := none }) (v := ?v19d19) rfl (by kernel_rfl) (by kernel_rfl) (by kernel_rfl) (fun _ _ _ h => h) (Or.inl ⟨by rfl, ?hy19d19⟩) hHeld ?rest19d19
      case hy19d19 =>
        intro W' hV
        try dsimp only at hV
        go_simp
        all_goals with_reducible rfl
      case' rest19d19 => try simp only [Act.put, List.setIfInBounds_toArray, List.set_cons_zero, List.set_cons_succ]
      refine wpAnyH_take (i := 21) (oi := { dst := some 31, op := Go.Op.move (Go.Operand.tmp 0), type := 9, pos := "ref.go:112", after := #[], guard := none }) (v := ?v21d20) rfl (by kernel_rfl) (by kernel_rfl) (by kernel_rfl) (fun _ _ _ h => h) (Or.inl ⟨by rfl, ?hy21d20⟩) hHeld ?rest21d20
      case hy21d20 =>
        intro W' hV
        try dsimp only at hV
        go_simp
        all_goals with_reducible rfl
      case' rest21d20 => try simp only [Act.put, List.setIfInBounds_toArray, List.set_cons_zero, List.set_cons_succ]
      refine wpAnyH_take (i := 23) (oi := { dst := some 33, op := Go.Op.move (Go.Operand.tmp 0), type := 9, pos := "ref.go:112", after := #[], guard := none }) (v := ?v23d21) rfl (by kernel_rfl) (by kernel_rfl) (by kernel_rfl) (fun _ _ _ h => h) (Or.inl ⟨by rfl, ?hy23d21⟩) hHeld ?rest23d21
      case hy23d21 =>
        intro W' hV
        try dsimp only at hV
        go_simp
        all_goals with_reducible rfl
      case' rest23d21 => try simp only [Act.put, List.setIfInBounds_toArray, List.set_cons_zero, List.set_cons_succ]
      refine wpAnyH_take (i := 25) (oi := { dst := some 35, op := Go.Op.move (Go.Operand.tmp 0), type := 9, pos := "ref.go:112", after := #[], guard := none }) (v := ?v25d22) rfl (by kernel_rfl) (by kernel_rfl) (by kernel_rfl) (fun _ _ _ h => h) (Or.inl ⟨by rfl, ?hy25d22⟩) hHeld ?rest25d22
      case hy25d22 =>
        intro W' hV
        try dsimp only at hV
        go_simp
        all_goals with_reducible rfl
      case' rest25d22 => try simp only [Act.put, List.setIfInBounds_toArray, List.set_cons_zero, List.set_cons_succ]
      refine wpAnyH_take (i := 27) (oi := { dst := some 37, op := Go.Op.move (Go.Operand.tmp 0), type := 9, pos := "ref.go:112", after := #[], guard := none }) (v := ?v27d23) rfl (by kernel_rfl) (by kernel_rfl) (by kernel_rfl) (fun _ _ _ h => h) (Or.inl ⟨by rfl, ?hy27d23⟩) hHeld ?rest27d23
      case hy27d23 =>
        intro W' hV
        try dsimp only at hV
        go_simp
        all_goals with_reducible rfl
      case' rest27d23 => try simp only [Act.put, List.setIfInBounds_toArray, List.set_cons_zero, List.set_cons_succ]
      refine wpAnyH_take (i := 28) (oi := { dst := some 38, op := Go.Op.index 9 (Go.Operand.tmp 37) (Go.Operand.const (Go.Value.int Go.IntKind.i64 67)), type := 5, pos := "ref.go:112", after := #[{ on := 27, ground := Go.Ground.data }], guard := none }) (v := ?v28d24) rfl (by kernel_rfl) (by kernel_rfl) (by kernel_rfl) (fun _ _ _ h => h) (Or.inl ⟨by rfl, ?hy28d24⟩) hHeld ?rest28d24
      case hy28d24 =>
        intro W' hV
        try dsimp only at hV
        go_simp
        all_goals with_reducible rfl
      case' rest28d24 => try simp only [Act.put, List.setIfInBounds_toArray, List.set_cons_zero, List.set_cons_succ]
      refine wpAnyH_take (i := 29) (oi := { dst := some 39, op := Go.Op.convert 5 3 (Go.Operand.tmp 38), type := 3, pos := "ref.go:112", after := #[{ on := 28, ground := Go.Ground.data }], guard := none }) (v := ?v29d25) rfl (by kernel_rfl) (by kernel_rfl) (by kernel_rfl) (fun _ _ _ h => h) (Or.inl ⟨by rfl, ?hy29d25⟩) hHeld ?rest29d25
      case hy29d25 =>
        intro W' hV
        try dsimp only at hV
        go_simp
        all_goals with_reducible rfl
      case' rest29d25 => try simp only [Act.put, List.setIfInBounds_toArray, List.set_cons_zero, List.set_cons_succ]
      refine wpAnyH_take (i := 30) (oi := { dst := some 40, op := Go.Op.move (Go.Operand.tmp 0), type := 9, pos := "ref.go:112", after := #[], guard := none }) (v := ?v30d26) rfl (by kernel_rfl) (by kernel_rfl) (by kernel_rfl) (fun _ _ _ h => h) (Or.inl ⟨by rfl, ?hy30d26⟩) hHeld ?rest30d26
      case hy30d26 =>
        intro W' hV
        try dsimp only at hV
        go_simp
        all_goals with_reducible rfl
      case' rest30d26 => try simp only [Act.put, List.setIfInBounds_toArray, List.set_cons_zero, List.set_cons_succ]
      refine wpAnyH_ready (rs := [18, 33]) (by kernel_rfl) (by simp) ?_
      refine AllReadyH.cons (o := { dst := some 28, op := Go.Op.call { callee := Go.Callee.value (Go.Operand.func 48), args := #[Go.Operand.tmp 27, Go.Operand.const (Go.Value.int Go.IntKind.i64 15), Go.Operand.const (Go.Value.int Go.IntKind.i64 4)], argTypes := #[9, 3, 3] }, type := 31, pos := "ref.go:112", after := #[{ on := 17, ground := Go.Ground.data }], guard := none }) rfl (fun K' hK => ?_) (AllReadyH.cons (o := { dst := some 4, op := Go.Op.alloc 34, type := 0, pos := "ref.go:112", after := #[], guard := none }) rfl (fun K' hK => ?_) AllReadyH.nil)
      · rw [if_pos (by rfl)]
        go_simp
        go_wp2_with (go_at_call 48; go_loud ((with_reducible refine (HA15.out _ (by first | assumption | exact hHeld)).mono ?_); rintro e v1 ⟨rfl, hb, hbw⟩))
        clear hb
        refine hK.out _ _ hbw (fun hHeld1 => ?_)
        clear hK K' hHeld
        have hHeld := hHeld1
        clear hHeld1
        try simp only [Act.put, List.setIfInBounds_toArray, List.set_cons_zero, List.set_cons_succ]
        refine wpAnyH_ready (rs := [20, 33]) (by kernel_rfl) (by simp) ?_
        refine AllReadyH.cons (o := { dst := some 30, op := Go.Op.call { callee := Go.Callee.value (Go.Operand.func 48), args := #[Go.Operand.tmp 29, Go.Operand.const (Go.Value.int Go.IntKind.i64 19), Go.Operand.const (Go.Value.int Go.IntKind.i64 4)], argTypes := #[9, 3, 3] }, type := 31, pos := "ref.go:112", after := #[{ on := 19, ground := Go.Ground.data }, { on := 18, ground := Go.Ground.chain }], guard := none }) rfl (fun K' hK => ?_) (AllReadyH.cons (o := { dst := some 4, op := Go.Op.alloc 34, type := 0, pos := "ref.go:112", after := #[], guard := none }) rfl (fun K' hK => ?_) AllReadyH.nil)
        · rw [if_pos (by rfl)]
          go_simp
          go_wp2_with (go_at_call 48; go_loud ((with_reducible refine (HA19.out _ (by first | assumption | exact hHeld)).mono ?_); rintro e v2 ⟨rfl, hb, hbw⟩))
          clear hb
          refine hK.out _ _ hbw (fun hHeld1 => ?_)
          clear hK K' hHeld
          have hHeld := hHeld1
          clear hHeld1
          try simp only [Act.put, List.setIfInBounds_toArray, List.set_cons_zero, List.set_cons_succ]
          refine wpAnyH_ready (rs := [22, 33]) (by kernel_rfl) (by simp) ?_
          refine AllReadyH.cons (o := { dst := some 32, op := Go.Op.call { callee := Go.Callee.value (Go.Operand.func 48), args := #[Go.Operand.tmp 31, Go.Operand.const (Go.Value.int Go.IntKind.i64 23), Go.Operand.const (Go.Value.int Go.IntKind.i64 4)], argTypes := #[9, 3, 3] }, type := 31, pos := "ref.go:112", after := #[{ on := 21, ground := Go.Ground.data }, { on := 20, ground := Go.Ground.chain }], guard := none }) rfl (fun K' hK => ?_) (AllReadyH.cons (o := { dst := some 4, op := Go.Op.alloc 34, type := 0, pos := "ref.go:112", after := #[], guard := none }) rfl (fun K' hK => ?_) AllReadyH.nil)
          · rw [if_pos (by rfl)]
            go_simp
            go_wp2_with (go_at_call 48; go_loud ((with_reducible refine (HA23.out _ (by first | assumption | exact hHeld)).mono ?_); rintro e v3 ⟨rfl, hb, hbw⟩))
            clear hb
            refine hK.out _ _ hbw (fun hHeld1 => ?_)
            clear hK K' hHeld
            have hHeld := hHeld1
            clear hHeld1
            try simp only [Act.put, List.setIfInBounds_toArray, List.set_cons_zero, List.set_cons_succ]
            refine wpAnyH_ready (rs := [24, 33]) (by kernel_rfl) (by simp) ?_
            refine AllReadyH.cons (o := { dst := some 34, op := Go.Op.call { callee := Go.Callee.value (Go.Operand.func 48), args := #[Go.Operand.tmp 33, Go.Operand.const (Go.Value.int Go.IntKind.i64 59), Go.Operand.const (Go.Value.int Go.IntKind.i64 4)], argTypes := #[9, 3, 3] }, type := 31, pos := "ref.go:112", after := #[{ on := 23, ground := Go.Ground.data }, { on := 22, ground := Go.Ground.chain }], guard := none }) rfl (fun K' hK => ?_) (AllReadyH.cons (o := { dst := some 4, op := Go.Op.alloc 34, type := 0, pos := "ref.go:112", after := #[], guard := none }) rfl (fun K' hK => ?_) AllReadyH.nil)
            · rw [if_pos (by rfl)]
              go_simp
              go_wp2_with (go_at_call 48; go_loud ((with_reducible refine (HA59.out _ (by first | assumption | exact hHeld)).mono ?_); rintro e v4 ⟨rfl, hb, hbw⟩))
              clear hb
              refine hK.out _ _ hbw (fun hHeld1 => ?_)
              clear hK K' hHeld
              have hHeld := hHeld1
              clear hHeld1
              try simp only [Act.put, List.setIfInBounds_toArray, List.set_cons_zero, List.set_cons_succ]
              refine wpAnyH_ready (rs := [26, 33]) (by kernel_rfl) (by simp) ?_
              refine AllReadyH.cons (o := { dst := some 36, op := Go.Op.call { callee := Go.Callee.value (Go.Operand.func 48), args := #[Go.Operand.tmp 35, Go.Operand.const (Go.Value.int Go.IntKind.i64 63), Go.Operand.const (Go.Value.int Go.IntKind.i64 4)], argTypes := #[9, 3, 3] }, type := 31, pos := "ref.go:112", after := #[{ on := 25, ground := Go.Ground.data }, { on := 24, ground := Go.Ground.chain }], guard := none }) rfl (fun K' hK => ?_) (AllReadyH.cons (o := { dst := some 4, op := Go.Op.alloc 34, type := 0, pos := "ref.go:112", after := #[], guard := none }) rfl (fun K' hK => ?_) AllReadyH.nil)
              · rw [if_pos (by rfl)]
                go_simp
                go_wp2_with (go_at_call 48; go_loud ((with_reducible refine (HA63.out _ (by first | assumption | exact hHeld)).mono ?_); rintro e v5 ⟨rfl, hb, hbw⟩))
                clear hb
                refine hK.out _ _ hbw (fun hHeld1 => ?_)
                clear hK K' hHeld
                have hHeld := hHeld1
                clear hHeld1
                try simp only [Act.put, List.setIfInBounds_toArray, List.set_cons_zero, List.set_cons_succ]
                refine wpAnyH_ready (rs := [31, 33]) (by kernel_rfl) (by simp) ?_
                refine AllReadyH.cons (o := { dst := some 41, op := Go.Op.call { callee := Go.Callee.value (Go.Operand.func 48), args := #[Go.Operand.tmp 40, Go.Operand.const (Go.Value.int Go.IntKind.i64 68), Go.Operand.const (Go.Value.int Go.IntKind.i64 4)], argTypes := #[9, 3, 3] }, type := 31, pos := "ref.go:112", after := #[{ on := 30, ground := Go.Ground.data }, { on := 26, ground := Go.Ground.chain }], guard := none }) rfl (fun K' hK => ?_) (AllReadyH.cons (o := { dst := some 4, op := Go.Op.alloc 34, type := 0, pos := "ref.go:112", after := #[], guard := none }) rfl (fun K' hK => ?_) AllReadyH.nil)
                · rw [if_pos (by rfl)]
                  go_simp
                  go_wp2_with (go_at_call 48; go_loud ((with_reducible refine (HA68.out _ (by first | assumption | exact hHeld)).mono ?_); rintro e v6 ⟨rfl, hb, hbw⟩))
                  clear hb
                  refine hK.out _ _ hbw (fun hHeld1 => ?_)
                  clear hK K' hHeld
                  have hHeld := hHeld1
                  clear hHeld1
                  try simp only [Act.put, List.setIfInBounds_toArray, List.set_cons_zero, List.set_cons_succ]
                  refine wpAnyH_take (i := 32) (oi := { dst := some 42, op := Go.Op.build 34 #[(0, Go.Operand.tmp 11), (1, Go.Operand.tmp 14), (2, Go.Operand.tmp 17), (3, Go.Operand.tmp 20), (4, Go.Operand.tmp 23), (5, Go.Operand.tmp 26), (6, Go.Operand.tmp 28), (7, Go.Operand.tmp 30), (8, Go.Operand.tmp 32), (9, Go.Operand.const (Go.Value.slice none 0 0)), (10, Go.Operand.tmp 34), (11, Go.Operand.tmp 36), (12, Go.Operand.tmp 39), (13, Go.Operand.tmp 41)], type := 34, pos := "ref.go:112", after := #[{ on := 1, ground := Go.Ground.data }, { on := 4, ground := Go.Ground.data }, { on := 7, ground := Go.Ground.data }, { on := 10, ground := Go.Ground.data }, { on := 13, ground := Go.Ground.data }, { on := 16, ground := Go.Ground.data }, { on := 18, ground := Go.Ground.data }, { on := 20, ground := Go.Ground.data }, { on := 22, ground := Go.Ground.data }, { on := 24, ground := Go.Ground.data }, { on := 26, ground := Go.Ground.data }, { on := 29, ground := Go.Ground.data }, { on := 31, ground := Go.Ground.data }], guard := none }) (v := ?v32d27) rfl (by kernel_rfl) (by kernel_rfl) (by kernel_rfl) (fun _ _ _ h => h) (Or.inl ⟨by rfl, ?hy32d27⟩) hHeld ?rest32d27
                  case hy32d27 =>
                    intro W' hV
                    try dsimp only at hV
                    go_simp
                    all_goals with_reducible rfl
                  case' rest32d27 => try simp only [Act.put, List.setIfInBounds_toArray, List.set_cons_zero, List.set_cons_succ]
                  refine wpAnyH_ready (rs := [33]) (by kernel_rfl) (by simp) ?_
                  refine AllReadyH.cons (o := { dst := some 4, op := Go.Op.alloc 34, type := 0, pos := "ref.go:112", after := #[], guard := none }) rfl (fun K' hK => ?_) AllReadyH.nil
                  rw [if_pos (by rfl)]
                  go_simp
                  refine hK.out _ _ (Below.alloc hHeld hHeld.size _) (fun hHeld1 => ?_)
                  have HGE := Lib.hid hHeld.size
                  clear hK K' hHeld
                  have hHeld := hHeld1
                  clear hHeld1
                  try simp only [Act.put, List.setIfInBounds_toArray, List.set_cons_zero, List.set_cons_succ]
                  obtain ⟨g, hg⟩ : ∃ g, g = v6.heap.size := ⟨_, rfl⟩
                  have HRU := Lib.hid (show (v6.alloc (.cells #[.string { data := #[] }, .int .i64 0, .int .i64 0, .int .i64 0, .int .i64 0, .int .i64 0, .int .u64 0, .int .u64 0, .int .u64 0, .slice none 0 0, .int .u64 0, .int .u64 0, .int .i64 0, .int .u64 0] 34)).heap[g]? = some (.cells #[.string { data := #[] }, .int .i64 0, .int .i64 0, .int .i64 0, .int .i64 0, .int .i64 0, .int .u64 0, .int .u64 0, .int .u64 0, .slice none 0 0, .int .u64 0, .int .u64 0, .int .i64 0, .int .u64 0] 34 (0, 0)) by rw [hg]; exact heap_alloc_new v6 _)
                  rw [← hg] at HGE ⊢
                  clear hg
                  generalize v6.alloc (.cells #[.string { data := #[] }, .int .i64 0, .int .i64 0, .int .i64 0, .int .i64 0, .int .i64 0, .int .u64 0, .int .u64 0, .int .u64 0, .slice none 0 0, .int .u64 0, .int .u64 0, .int .i64 0, .int .u64 0] 34) = U at HRU hHeld ⊢
                  refine wpAnyH_ready (rs := [34]) (by kernel_rfl) (by simp) ?_
                  refine AllReadyH.cons (o := { dst := none, op := Go.Op.store 34 (Go.Operand.tmp 4) (Go.Operand.tmp 42), type := 0, pos := "ref.go:112", after := #[{ on := 33, ground := Go.Ground.data }, { on := 32, ground := Go.Ground.data }, { on := 31, ground := Go.Ground.chain }, { on := 0, ground := Go.Ground.phase }, { on := 1, ground := Go.Ground.phase }, { on := 2, ground := Go.Ground.phase }, { on := 3, ground := Go.Ground.phase }, { on := 4, ground := Go.Ground.phase }, { on := 5, ground := Go.Ground.phase }, { on := 6, ground := Go.Ground.phase }, { on := 7, ground := Go.Ground.phase }, { on := 8, ground := Go.Ground.phase }, { on := 9, ground := Go.Ground.phase }, { on := 10, ground := Go.Ground.phase }, { on := 11, ground := Go.Ground.phase }, { on := 12, ground := Go.Ground.phase }, { on := 13, ground := Go.Ground.phase }, { on := 14, ground := Go.Ground.phase }, { on := 15, ground := Go.Ground.phase }, { on := 16, ground := Go.Ground.phase }, { on := 17, ground := Go.Ground.phase }, { on := 18, ground := Go.Ground.phase }, { on := 19, ground := Go.Ground.phase }, { on := 20, ground := Go.Ground.phase }, { on := 21, ground := Go.Ground.phase }, { on := 22, ground := Go.Ground.phase }, { on := 23, ground := Go.Ground.phase }, { on := 24, ground := Go.Ground.phase }, { on := 25, ground := Go.Ground.phase }, { on := 26, ground := Go.Ground.phase }, { on := 27, ground := Go.Ground.phase }, { on := 28, ground := Go.Ground.phase }, { on := 29, ground := Go.Ground.phase }, { on := 30, ground := Go.Ground.phase }, { on := 31, ground := Go.Ground.phase }, { on := 32, ground := Go.Ground.phase }, { on := 33, ground := Go.Ground.phase }], guard := none }) rfl (fun K' hK => ?_) AllReadyH.nil
                  rw [if_pos (by rfl)]
                  refine wp_store_row 34 (.tmp 4) (.tmp 42) rfl g #[.string SS, .int .i64 P.p, .int .i64 P.n, .int .i64 P.t, .int .i64 P.m, .int .i64 P.c, .int .u64 P.bl, .int .u64 P.bo, .int .u64 P.ep, .slice none 0 0, .int .u64 P.rf, .int .u64 P.sc, .int .i64 P.tg, .int .u64 P.rs] rfl rfl 34 #[.string { data := #[] }, .int .i64 0, .int .i64 0, .int .i64 0, .int .i64 0, .int .i64 0, .int .u64 0, .int .u64 0, .int .u64 0, .slice none 0 0, .int .u64 0, .int .u64 0, .int .i64 0, .int .u64 0] HRU.out sizeRu rfl (by simp [Value.oneCell']) ?_
                  have HFin := Lib.hid (setRow_heap _ _ _ #[.string SS, .int .i64 P.p, .int .i64 P.n, .int .i64 P.t, .int .i64 P.m, .int .i64 P.c, .int .u64 P.bl, .int .u64 P.bo, .int .u64 P.ep, .slice none 0 0, .int .u64 P.rf, .int .u64 P.sc, .int .i64 P.tg, .int .u64 P.rs] _ _ HRU.out)
                  refine hK.out _ _ (below_setRow hHeld HGE.out _) (fun hHeld1 => ?_)
                  clear hK K' hHeld
                  have hHeld := hHeld1
                  clear hHeld1
                  try simp only [Act.put, List.setIfInBounds_toArray, List.set_cons_zero, List.set_cons_succ]
                  refine wpAnyH_done (by kernel_rfl) ?_ _
                  go_wp2_with fail
                  go_meet
                  exact ⟨g, rfl, HFin, HGE, Lib.hid hHeld⟩
                · rw [if_pos (by rfl)]
                  go_simp
                  refine hK.out _ _ (Below.alloc hHeld hHeld.size _) (fun hHeld1 => ?_)
                  have HGE := Lib.hid hHeld.size
                  clear hK K' hHeld
                  have hHeld := hHeld1
                  clear hHeld1
                  try simp only [Act.put, List.setIfInBounds_toArray, List.set_cons_zero, List.set_cons_succ]
                  obtain ⟨g, hg⟩ : ∃ g, g = v5.heap.size := ⟨_, rfl⟩
                  have HRU := Lib.hid (show (v5.alloc (.cells #[.string { data := #[] }, .int .i64 0, .int .i64 0, .int .i64 0, .int .i64 0, .int .i64 0, .int .u64 0, .int .u64 0, .int .u64 0, .slice none 0 0, .int .u64 0, .int .u64 0, .int .i64 0, .int .u64 0] 34)).heap[g]? = some (.cells #[.string { data := #[] }, .int .i64 0, .int .i64 0, .int .i64 0, .int .i64 0, .int .i64 0, .int .u64 0, .int .u64 0, .int .u64 0, .slice none 0 0, .int .u64 0, .int .u64 0, .int .i64 0, .int .u64 0] 34 (0, 0)) by rw [hg]; exact heap_alloc_new v5 _)
                  rw [← hg] at HGE ⊢
                  clear hg
                  generalize v5.alloc (.cells #[.string { data := #[] }, .int .i64 0, .int .i64 0, .int .i64 0, .int .i64 0, .int .i64 0, .int .u64 0, .int .u64 0, .int .u64 0, .slice none 0 0, .int .u64 0, .int .u64 0, .int .i64 0, .int .u64 0] 34) = U at HRU hHeld ⊢
                  refine wpAnyH_ready (rs := [31]) (by kernel_rfl) (by simp) ?_
                  refine AllReadyH.cons (o := { dst := some 41, op := Go.Op.call { callee := Go.Callee.value (Go.Operand.func 48), args := #[Go.Operand.tmp 40, Go.Operand.const (Go.Value.int Go.IntKind.i64 68), Go.Operand.const (Go.Value.int Go.IntKind.i64 4)], argTypes := #[9, 3, 3] }, type := 31, pos := "ref.go:112", after := #[{ on := 30, ground := Go.Ground.data }, { on := 26, ground := Go.Ground.chain }], guard := none }) rfl (fun K' hK => ?_) AllReadyH.nil
                  rw [if_pos (by rfl)]
                  go_simp
                  go_wp2_with (go_at_call 48; go_loud ((with_reducible refine (HA68.out _ (by first | assumption | exact hHeld)).mono ?_); rintro e u6 ⟨rfl, hb, hbw⟩))
                  have HRu6 := Lib.hid ((hb.block g (Array.getElem?_eq_some_iff.1 HRU.out).1).trans HRU.out)
                  clear HRU
                  clear hb
                  refine hK.out _ _ hbw (fun hHeld1 => ?_)
                  clear hK K' hHeld
                  have hHeld := hHeld1
                  clear hHeld1
                  try simp only [Act.put, List.setIfInBounds_toArray, List.set_cons_zero, List.set_cons_succ]
                  refine wpAnyH_take (i := 32) (oi := { dst := some 42, op := Go.Op.build 34 #[(0, Go.Operand.tmp 11), (1, Go.Operand.tmp 14), (2, Go.Operand.tmp 17), (3, Go.Operand.tmp 20), (4, Go.Operand.tmp 23), (5, Go.Operand.tmp 26), (6, Go.Operand.tmp 28), (7, Go.Operand.tmp 30), (8, Go.Operand.tmp 32), (9, Go.Operand.const (Go.Value.slice none 0 0)), (10, Go.Operand.tmp 34), (11, Go.Operand.tmp 36), (12, Go.Operand.tmp 39), (13, Go.Operand.tmp 41)], type := 34, pos := "ref.go:112", after := #[{ on := 1, ground := Go.Ground.data }, { on := 4, ground := Go.Ground.data }, { on := 7, ground := Go.Ground.data }, { on := 10, ground := Go.Ground.data }, { on := 13, ground := Go.Ground.data }, { on := 16, ground := Go.Ground.data }, { on := 18, ground := Go.Ground.data }, { on := 20, ground := Go.Ground.data }, { on := 22, ground := Go.Ground.data }, { on := 24, ground := Go.Ground.data }, { on := 26, ground := Go.Ground.data }, { on := 29, ground := Go.Ground.data }, { on := 31, ground := Go.Ground.data }], guard := none }) (v := ?v32d28) rfl (by kernel_rfl) (by kernel_rfl) (by kernel_rfl) (fun _ _ _ h => h) (Or.inl ⟨by rfl, ?hy32d28⟩) hHeld ?rest32d28
                  case hy32d28 =>
                    intro W' hV
                    try dsimp only at hV
                    go_simp
                    all_goals with_reducible rfl
                  case' rest32d28 => try simp only [Act.put, List.setIfInBounds_toArray, List.set_cons_zero, List.set_cons_succ]
                  refine wpAnyH_ready (rs := [34]) (by kernel_rfl) (by simp) ?_
                  refine AllReadyH.cons (o := { dst := none, op := Go.Op.store 34 (Go.Operand.tmp 4) (Go.Operand.tmp 42), type := 0, pos := "ref.go:112", after := #[{ on := 33, ground := Go.Ground.data }, { on := 32, ground := Go.Ground.data }, { on := 31, ground := Go.Ground.chain }, { on := 0, ground := Go.Ground.phase }, { on := 1, ground := Go.Ground.phase }, { on := 2, ground := Go.Ground.phase }, { on := 3, ground := Go.Ground.phase }, { on := 4, ground := Go.Ground.phase }, { on := 5, ground := Go.Ground.phase }, { on := 6, ground := Go.Ground.phase }, { on := 7, ground := Go.Ground.phase }, { on := 8, ground := Go.Ground.phase }, { on := 9, ground := Go.Ground.phase }, { on := 10, ground := Go.Ground.phase }, { on := 11, ground := Go.Ground.phase }, { on := 12, ground := Go.Ground.phase }, { on := 13, ground := Go.Ground.phase }, { on := 14, ground := Go.Ground.phase }, { on := 15, ground := Go.Ground.phase }, { on := 16, ground := Go.Ground.phase }, { on := 17, ground := Go.Ground.phase }, { on := 18, ground := Go.Ground.phase }, { on := 19, ground := Go.Ground.phase }, { on := 20, ground := Go.Ground.phase }, { on := 21, ground := Go.Ground.phase }, { on := 22, ground := Go.Ground.phase }, { on := 23, ground := Go.Ground.phase }, { on := 24, ground := Go.Ground.phase }, { on := 25, ground := Go.Ground.phase }, { on := 26, ground := Go.Ground.phase }, { on := 27, ground := Go.Ground.phase }, { on := 28, ground := Go.Ground.phase }, { on := 29, ground := Go.Ground.phase }, { on := 30, ground := Go.Ground.phase }, { on := 31, ground := Go.Ground.phase }, { on := 32, ground := Go.Ground.phase }, { on := 33, ground := Go.Ground.phase }], guard := none }) rfl (fun K' hK => ?_) AllReadyH.nil
                  rw [if_pos (by rfl)]
                  refine wp_store_row 34 (.tmp 4) (.tmp 42) rfl g #[.string SS, .int .i64 P.p, .int .i64 P.n, .int .i64 P.t, .int .i64 P.m, .int .i64 P.c, .int .u64 P.bl, .int .u64 P.bo, .int .u64 P.ep, .slice none 0 0, .int .u64 P.rf, .int .u64 P.sc, .int .i64 P.tg, .int .u64 P.rs] rfl rfl 34 #[.string { data := #[] }, .int .i64 0, .int .i64 0, .int .i64 0, .int .i64 0, .int .i64 0, .int .u64 0, .int .u64 0, .int .u64 0, .slice none 0 0, .int .u64 0, .int .u64 0, .int .i64 0, .int .u64 0] HRu6.out sizeRu rfl (by simp [Value.oneCell']) ?_
                  have HFin := Lib.hid (setRow_heap _ _ _ #[.string SS, .int .i64 P.p, .int .i64 P.n, .int .i64 P.t, .int .i64 P.m, .int .i64 P.c, .int .u64 P.bl, .int .u64 P.bo, .int .u64 P.ep, .slice none 0 0, .int .u64 P.rf, .int .u64 P.sc, .int .i64 P.tg, .int .u64 P.rs] _ _ HRu6.out)
                  refine hK.out _ _ (below_setRow hHeld HGE.out _) (fun hHeld1 => ?_)
                  clear hK K' hHeld
                  have hHeld := hHeld1
                  clear hHeld1
                  try simp only [Act.put, List.setIfInBounds_toArray, List.set_cons_zero, List.set_cons_succ]
                  refine wpAnyH_done (by kernel_rfl) ?_ _
                  go_wp2_with fail
                  go_meet
                  exact ⟨g, rfl, HFin, HGE, Lib.hid hHeld⟩
              · rw [if_pos (by rfl)]
                go_simp
                refine hK.out _ _ (Below.alloc hHeld hHeld.size _) (fun hHeld1 => ?_)
                have HGE := Lib.hid hHeld.size
                clear hK K' hHeld
                have hHeld := hHeld1
                clear hHeld1
                try simp only [Act.put, List.setIfInBounds_toArray, List.set_cons_zero, List.set_cons_succ]
                obtain ⟨g, hg⟩ : ∃ g, g = v4.heap.size := ⟨_, rfl⟩
                have HRU := Lib.hid (show (v4.alloc (.cells #[.string { data := #[] }, .int .i64 0, .int .i64 0, .int .i64 0, .int .i64 0, .int .i64 0, .int .u64 0, .int .u64 0, .int .u64 0, .slice none 0 0, .int .u64 0, .int .u64 0, .int .i64 0, .int .u64 0] 34)).heap[g]? = some (.cells #[.string { data := #[] }, .int .i64 0, .int .i64 0, .int .i64 0, .int .i64 0, .int .i64 0, .int .u64 0, .int .u64 0, .int .u64 0, .slice none 0 0, .int .u64 0, .int .u64 0, .int .i64 0, .int .u64 0] 34 (0, 0)) by rw [hg]; exact heap_alloc_new v4 _)
                rw [← hg] at HGE ⊢
                clear hg
                generalize v4.alloc (.cells #[.string { data := #[] }, .int .i64 0, .int .i64 0, .int .i64 0, .int .i64 0, .int .i64 0, .int .u64 0, .int .u64 0, .int .u64 0, .slice none 0 0, .int .u64 0, .int .u64 0, .int .i64 0, .int .u64 0] 34) = U at HRU hHeld ⊢
                refine wpAnyH_ready (rs := [26]) (by kernel_rfl) (by simp) ?_
                refine AllReadyH.cons (o := { dst := some 36, op := Go.Op.call { callee := Go.Callee.value (Go.Operand.func 48), args := #[Go.Operand.tmp 35, Go.Operand.const (Go.Value.int Go.IntKind.i64 63), Go.Operand.const (Go.Value.int Go.IntKind.i64 4)], argTypes := #[9, 3, 3] }, type := 31, pos := "ref.go:112", after := #[{ on := 25, ground := Go.Ground.data }, { on := 24, ground := Go.Ground.chain }], guard := none }) rfl (fun K' hK => ?_) AllReadyH.nil
                rw [if_pos (by rfl)]
                go_simp
                go_wp2_with (go_at_call 48; go_loud ((with_reducible refine (HA63.out _ (by first | assumption | exact hHeld)).mono ?_); rintro e u5 ⟨rfl, hb, hbw⟩))
                have HRu5 := Lib.hid ((hb.block g (Array.getElem?_eq_some_iff.1 HRU.out).1).trans HRU.out)
                clear HRU
                clear hb
                refine hK.out _ _ hbw (fun hHeld1 => ?_)
                clear hK K' hHeld
                have hHeld := hHeld1
                clear hHeld1
                try simp only [Act.put, List.setIfInBounds_toArray, List.set_cons_zero, List.set_cons_succ]
                refine wpAnyH_ready (rs := [31]) (by kernel_rfl) (by simp) ?_
                refine AllReadyH.cons (o := { dst := some 41, op := Go.Op.call { callee := Go.Callee.value (Go.Operand.func 48), args := #[Go.Operand.tmp 40, Go.Operand.const (Go.Value.int Go.IntKind.i64 68), Go.Operand.const (Go.Value.int Go.IntKind.i64 4)], argTypes := #[9, 3, 3] }, type := 31, pos := "ref.go:112", after := #[{ on := 30, ground := Go.Ground.data }, { on := 26, ground := Go.Ground.chain }], guard := none }) rfl (fun K' hK => ?_) AllReadyH.nil
                rw [if_pos (by rfl)]
                go_simp
                go_wp2_with (go_at_call 48; go_loud ((with_reducible refine (HA68.out _ (by first | assumption | exact hHeld)).mono ?_); rintro e u6 ⟨rfl, hb, hbw⟩))
                have HRu6 := Lib.hid ((hb.block g (Array.getElem?_eq_some_iff.1 HRu5.out).1).trans HRu5.out)
                clear HRu5
                clear hb
                refine hK.out _ _ hbw (fun hHeld1 => ?_)
                clear hK K' hHeld
                have hHeld := hHeld1
                clear hHeld1
                try simp only [Act.put, List.setIfInBounds_toArray, List.set_cons_zero, List.set_cons_succ]
                refine wpAnyH_take (i := 32) (oi := { dst := some 42, op := Go.Op.build 34 #[(0, Go.Operand.tmp 11), (1, Go.Operand.tmp 14), (2, Go.Operand.tmp 17), (3, Go.Operand.tmp 20), (4, Go.Operand.tmp 23), (5, Go.Operand.tmp 26), (6, Go.Operand.tmp 28), (7, Go.Operand.tmp 30), (8, Go.Operand.tmp 32), (9, Go.Operand.const (Go.Value.slice none 0 0)), (10, Go.Operand.tmp 34), (11, Go.Operand.tmp 36), (12, Go.Operand.tmp 39), (13, Go.Operand.tmp 41)], type := 34, pos := "ref.go:112", after := #[{ on := 1, ground := Go.Ground.data }, { on := 4, ground := Go.Ground.data }, { on := 7, ground := Go.Ground.data }, { on := 10, ground := Go.Ground.data }, { on := 13, ground := Go.Ground.data }, { on := 16, ground := Go.Ground.data }, { on := 18, ground := Go.Ground.data }, { on := 20, ground := Go.Ground.data }, { on := 22, ground := Go.Ground.data }, { on := 24, ground := Go.Ground.data }, { on := 26, ground := Go.Ground.data }, { on := 29, ground := Go.Ground.data }, { on := 31, ground := Go.Ground.data }], guard := none }) (v := ?v32d29) rfl (by kernel_rfl) (by kernel_rfl) (by kernel_rfl) (fun _ _ _ h => h) (Or.inl ⟨by rfl, ?hy32d29⟩) hHeld ?rest32d29
                case hy32d29 =>
                  intro W' hV
                  try dsimp only at hV
                  go_simp
                  all_goals with_reducible rfl
                case' rest32d29 => try simp only [Act.put, List.setIfInBounds_toArray, List.set_cons_zero, List.set_cons_succ]
                refine wpAnyH_ready (rs := [34]) (by kernel_rfl) (by simp) ?_
                refine AllReadyH.cons (o := { dst := none, op := Go.Op.store 34 (Go.Operand.tmp 4) (Go.Operand.tmp 42), type := 0, pos := "ref.go:112", after := #[{ on := 33, ground := Go.Ground.data }, { on := 32, ground := Go.Ground.data }, { on := 31, ground := Go.Ground.chain }, { on := 0, ground := Go.Ground.phase }, { on := 1, ground := Go.Ground.phase }, { on := 2, ground := Go.Ground.phase }, { on := 3, ground := Go.Ground.phase }, { on := 4, ground := Go.Ground.phase }, { on := 5, ground := Go.Ground.phase }, { on := 6, ground := Go.Ground.phase }, { on := 7, ground := Go.Ground.phase }, { on := 8, ground := Go.Ground.phase }, { on := 9, ground := Go.Ground.phase }, { on := 10, ground := Go.Ground.phase }, { on := 11, ground := Go.Ground.phase }, { on := 12, ground := Go.Ground.phase }, { on := 13, ground := Go.Ground.phase }, { on := 14, ground := Go.Ground.phase }, { on := 15, ground := Go.Ground.phase }, { on := 16, ground := Go.Ground.phase }, { on := 17, ground := Go.Ground.phase }, { on := 18, ground := Go.Ground.phase }, { on := 19, ground := Go.Ground.phase }, { on := 20, ground := Go.Ground.phase }, { on := 21, ground := Go.Ground.phase }, { on := 22, ground := Go.Ground.phase }, { on := 23, ground := Go.Ground.phase }, { on := 24, ground := Go.Ground.phase }, { on := 25, ground := Go.Ground.phase }, { on := 26, ground := Go.Ground.phase }, { on := 27, ground := Go.Ground.phase }, { on := 28, ground := Go.Ground.phase }, { on := 29, ground := Go.Ground.phase }, { on := 30, ground := Go.Ground.phase }, { on := 31, ground := Go.Ground.phase }, { on := 32, ground := Go.Ground.phase }, { on := 33, ground := Go.Ground.phase }], guard := none }) rfl (fun K' hK => ?_) AllReadyH.nil
                rw [if_pos (by rfl)]
                refine wp_store_row 34 (.tmp 4) (.tmp 42) rfl g #[.string SS, .int .i64 P.p, .int .i64 P.n, .int .i64 P.t, .int .i64 P.m, .int .i64 P.c, .int .u64 P.bl, .int .u64 P.bo, .int .u64 P.ep, .slice none 0 0, .int .u64 P.rf, .int .u64 P.sc, .int .i64 P.tg, .int .u64 P.rs] rfl rfl 34 #[.string { data := #[] }, .int .i64 0, .int .i64 0, .int .i64 0, .int .i64 0, .int .i64 0, .int .u64 0, .int .u64 0, .int .u64 0, .slice none 0 0, .int .u64 0, .int .u64 0, .int .i64 0, .int .u64 0] HRu6.out sizeRu rfl (by simp [Value.oneCell']) ?_
                have HFin := Lib.hid (setRow_heap _ _ _ #[.string SS, .int .i64 P.p, .int .i64 P.n, .int .i64 P.t, .int .i64 P.m, .int .i64 P.c, .int .u64 P.bl, .int .u64 P.bo, .int .u64 P.ep, .slice none 0 0, .int .u64 P.rf, .int .u64 P.sc, .int .i64 P.tg, .int .u64 P.rs] _ _ HRu6.out)
                refine hK.out _ _ (below_setRow hHeld HGE.out _) (fun hHeld1 => ?_)
                clear hK K' hHeld
                have hHeld := hHeld1
                clear hHeld1
                try simp only [Act.put, List.setIfInBounds_toArray, List.set_cons_zero, List.set_cons_succ]
                refine wpAnyH_done (by kernel_rfl) ?_ _
                go_wp2_with fail
                go_meet
                exact ⟨g, rfl, HFin, HGE, Lib.hid hHeld⟩
            · rw [if_pos (by rfl)]
              go_simp
              refine hK.out _ _ (Below.alloc hHeld hHeld.size _) (fun hHeld1 => ?_)
              have HGE := Lib.hid hHeld.size
              clear hK K' hHeld
              have hHeld := hHeld1
              clear hHeld1
              try simp only [Act.put, List.setIfInBounds_toArray, List.set_cons_zero, List.set_cons_succ]
              obtain ⟨g, hg⟩ : ∃ g, g = v3.heap.size := ⟨_, rfl⟩
              have HRU := Lib.hid (show (v3.alloc (.cells #[.string { data := #[] }, .int .i64 0, .int .i64 0, .int .i64 0, .int .i64 0, .int .i64 0, .int .u64 0, .int .u64 0, .int .u64 0, .slice none 0 0, .int .u64 0, .int .u64 0, .int .i64 0, .int .u64 0] 34)).heap[g]? = some (.cells #[.string { data := #[] }, .int .i64 0, .int .i64 0, .int .i64 0, .int .i64 0, .int .i64 0, .int .u64 0, .int .u64 0, .int .u64 0, .slice none 0 0, .int .u64 0, .int .u64 0, .int .i64 0, .int .u64 0] 34 (0, 0)) by rw [hg]; exact heap_alloc_new v3 _)
              rw [← hg] at HGE ⊢
              clear hg
              generalize v3.alloc (.cells #[.string { data := #[] }, .int .i64 0, .int .i64 0, .int .i64 0, .int .i64 0, .int .i64 0, .int .u64 0, .int .u64 0, .int .u64 0, .slice none 0 0, .int .u64 0, .int .u64 0, .int .i64 0, .int .u64 0] 34) = U at HRU hHeld ⊢
              refine wpAnyH_ready (rs := [24]) (by kernel_rfl) (by simp) ?_
              refine AllReadyH.cons (o := { dst := some 34, op := Go.Op.call { callee := Go.Callee.value (Go.Operand.func 48), args := #[Go.Operand.tmp 33, Go.Operand.const (Go.Value.int Go.IntKind.i64 59), Go.Operand.const (Go.Value.int Go.IntKind.i64 4)], argTypes := #[9, 3, 3] }, type := 31, pos := "ref.go:112", after := #[{ on := 23, ground := Go.Ground.data }, { on := 22, ground := Go.Ground.chain }], guard := none }) rfl (fun K' hK => ?_) AllReadyH.nil
              rw [if_pos (by rfl)]
              go_simp
              go_wp2_with (go_at_call 48; go_loud ((with_reducible refine (HA59.out _ (by first | assumption | exact hHeld)).mono ?_); rintro e u4 ⟨rfl, hb, hbw⟩))
              have HRu4 := Lib.hid ((hb.block g (Array.getElem?_eq_some_iff.1 HRU.out).1).trans HRU.out)
              clear HRU
              clear hb
              refine hK.out _ _ hbw (fun hHeld1 => ?_)
              clear hK K' hHeld
              have hHeld := hHeld1
              clear hHeld1
              try simp only [Act.put, List.setIfInBounds_toArray, List.set_cons_zero, List.set_cons_succ]
              refine wpAnyH_ready (rs := [26]) (by kernel_rfl) (by simp) ?_
              refine AllReadyH.cons (o := { dst := some 36, op := Go.Op.call { callee := Go.Callee.value (Go.Operand.func 48), args := #[Go.Operand.tmp 35, Go.Operand.const (Go.Value.int Go.IntKind.i64 63), Go.Operand.const (Go.Value.int Go.IntKind.i64 4)], argTypes := #[9, 3, 3] }, type := 31, pos := "ref.go:112", after := #[{ on := 25, ground := Go.Ground.data }, { on := 24, ground := Go.Ground.chain }], guard := none }) rfl (fun K' hK => ?_) AllReadyH.nil
              rw [if_pos (by rfl)]
              go_simp
              go_wp2_with (go_at_call 48; go_loud ((with_reducible refine (HA63.out _ (by first | assumption | exact hHeld)).mono ?_); rintro e u5 ⟨rfl, hb, hbw⟩))
              have HRu5 := Lib.hid ((hb.block g (Array.getElem?_eq_some_iff.1 HRu4.out).1).trans HRu4.out)
              clear HRu4
              clear hb
              refine hK.out _ _ hbw (fun hHeld1 => ?_)
              clear hK K' hHeld
              have hHeld := hHeld1
              clear hHeld1
              try simp only [Act.put, List.setIfInBounds_toArray, List.set_cons_zero, List.set_cons_succ]
              refine wpAnyH_ready (rs := [31]) (by kernel_rfl) (by simp) ?_
              refine AllReadyH.cons (o := { dst := some 41, op := Go.Op.call { callee := Go.Callee.value (Go.Operand.func 48), args := #[Go.Operand.tmp 40, Go.Operand.const (Go.Value.int Go.IntKind.i64 68), Go.Operand.const (Go.Value.int Go.IntKind.i64 4)], argTypes := #[9, 3, 3] }, type := 31, pos := "ref.go:112", after := #[{ on := 30, ground := Go.Ground.data }, { on := 26, ground := Go.Ground.chain }], guard := none }) rfl (fun K' hK => ?_) AllReadyH.nil
              rw [if_pos (by rfl)]
              go_simp
              go_wp2_with (go_at_call 48; go_loud ((with_reducible refine (HA68.out _ (by first | assumption | exact hHeld)).mono ?_); rintro e u6 ⟨rfl, hb, hbw⟩))
              have HRu6 := Lib.hid ((hb.block g (Array.getElem?_eq_some_iff.1 HRu5.out).1).trans HRu5.out)
              clear HRu5
              clear hb
              refine hK.out _ _ hbw (fun hHeld1 => ?_)
              clear hK K' hHeld
              have hHeld := hHeld1
              clear hHeld1
              try simp only [Act.put, List.setIfInBounds_toArray, List.set_cons_zero, List.set_cons_succ]
              refine wpAnyH_take (i := 32) (oi := { dst := some 42, op := Go.Op.build 34 #[(0, Go.Operand.tmp 11), (1, Go.Operand.tmp 14), (2, Go.Operand.tmp 17), (3, Go.Operand.tmp 20), (4, Go.Operand.tmp 23), (5, Go.Operand.tmp 26), (6, Go.Operand.tmp 28), (7, Go.Operand.tmp 30), (8, Go.Operand.tmp 32), (9, Go.Operand.const (Go.Value.slice none 0 0)), (10, Go.Operand.tmp 34), (11, Go.Operand.tmp 36), (12, Go.Operand.tmp 39), (13, Go.Operand.tmp 41)], type := 34, pos := "ref.go:112", after := #[{ on := 1, ground := Go.Ground.data }, { on := 4, ground := Go.Ground.data }, { on := 7, ground := Go.Ground.data }, { on := 10, ground := Go.Ground.data }, { on := 13, ground := Go.Ground.data }, { on := 16, ground := Go.Ground.data }, { on := 18, ground := Go.Ground.data }, { on := 20, ground := Go.Ground.data }, { on := 22, ground := Go.Ground.data }, { on := 24, ground := Go.Ground.data }, { on := 26, ground := Go.Ground.data }, { on := 29, ground := Go.Ground.data }, { on := 31, ground := Go.Ground.data }], guard := none }) (v := ?v32d30) rfl (by kernel_rfl) (by kernel_rfl) (by kernel_rfl) (fun _ _ _ h => h) (Or.inl ⟨by rfl, ?hy32d30⟩) hHeld ?rest32d30
              case hy32d30 =>
                intro W' hV
                try dsimp only at hV
                go_simp
                all_goals with_reducible rfl
              case' rest32d30 => try simp only [Act.put, List.setIfInBounds_toArray, List.set_cons_zero, List.set_cons_succ]
              refine wpAnyH_ready (rs := [34]) (by kernel_rfl) (by simp) ?_
              refine AllReadyH.cons (o := { dst := none, op := Go.Op.store 34 (Go.Operand.tmp 4) (Go.Operand.tmp 42), type := 0, pos := "ref.go:112", after := #[{ on := 33, ground := Go.Ground.data }, { on := 32, ground := Go.Ground.data }, { on := 31, ground := Go.Ground.chain }, { on := 0, ground := Go.Ground.phase }, { on := 1, ground := Go.Ground.phase }, { on := 2, ground := Go.Ground.phase }, { on := 3, ground := Go.Ground.phase }, { on := 4, ground := Go.Ground.phase }, { on := 5, ground := Go.Ground.phase }, { on := 6, ground := Go.Ground.phase }, { on := 7, ground := Go.Ground.phase }, { on := 8, ground := Go.Ground.phase }, { on := 9, ground := Go.Ground.phase }, { on := 10, ground := Go.Ground.phase }, { on := 11, ground := Go.Ground.phase }, { on := 12, ground := Go.Ground.phase }, { on := 13, ground := Go.Ground.phase }, { on := 14, ground := Go.Ground.phase }, { on := 15, ground := Go.Ground.phase }, { on := 16, ground := Go.Ground.phase }, { on := 17, ground := Go.Ground.phase }, { on := 18, ground := Go.Ground.phase }, { on := 19, ground := Go.Ground.phase }, { on := 20, ground := Go.Ground.phase }, { on := 21, ground := Go.Ground.phase }, { on := 22, ground := Go.Ground.phase }, { on := 23, ground := Go.Ground.phase }, { on := 24, ground := Go.Ground.phase }, { on := 25, ground := Go.Ground.phase }, { on := 26, ground := Go.Ground.phase }, { on := 27, ground := Go.Ground.phase }, { on := 28, ground := Go.Ground.phase }, { on := 29, ground := Go.Ground.phase }, { on := 30, ground := Go.Ground.phase }, { on := 31, ground := Go.Ground.phase }, { on := 32, ground := Go.Ground.phase }, { on := 33, ground := Go.Ground.phase }], guard := none }) rfl (fun K' hK => ?_) AllReadyH.nil
              rw [if_pos (by rfl)]
              refine wp_store_row 34 (.tmp 4) (.tmp 42) rfl g #[.string SS, .int .i64 P.p, .int .i64 P.n, .int .i64 P.t, .int .i64 P.m, .int .i64 P.c, .int .u64 P.bl, .int .u64 P.bo, .int .u64 P.ep, .slice none 0 0, .int .u64 P.rf, .int .u64 P.sc, .int .i64 P.tg, .int .u64 P.rs] rfl rfl 34 #[.string { data := #[] }, .int .i64 0, .int .i64 0, .int .i64 0, .int .i64 0, .int .i64 0, .int .u64 0, .int .u64 0, .int .u64 0, .slice none 0 0, .int .u64 0, .int .u64 0, .int .i64 0, .int .u64 0] HRu6.out sizeRu rfl (by simp [Value.oneCell']) ?_
              have HFin := Lib.hid (setRow_heap _ _ _ #[.string SS, .int .i64 P.p, .int .i64 P.n, .int .i64 P.t, .int .i64 P.m, .int .i64 P.c, .int .u64 P.bl, .int .u64 P.bo, .int .u64 P.ep, .slice none 0 0, .int .u64 P.rf, .int .u64 P.sc, .int .i64 P.tg, .int .u64 P.rs] _ _ HRu6.out)
              refine hK.out _ _ (below_setRow hHeld HGE.out _) (fun hHeld1 => ?_)
              clear hK K' hHeld
              have hHeld := hHeld1
              clear hHeld1
              try simp only [Act.put, List.setIfInBounds_toArray, List.set_cons_zero, List.set_cons_succ]
              refine wpAnyH_done (by kernel_rfl) ?_ _
              go_wp2_with fail
              go_meet
              exact ⟨g, rfl, HFin, HGE, Lib.hid hHeld⟩
          · rw [if_pos (by rfl)]
            go_simp
            refine hK.out _ _ (Below.alloc hHeld hHeld.size _) (fun hHeld1 => ?_)
            have HGE := Lib.hid hHeld.size
            clear hK K' hHeld
            have hHeld := hHeld1
            clear hHeld1
            try simp only [Act.put, List.setIfInBounds_toArray, List.set_cons_zero, List.set_cons_succ]
            obtain ⟨g, hg⟩ : ∃ g, g = v2.heap.size := ⟨_, rfl⟩
            have HRU := Lib.hid (show (v2.alloc (.cells #[.string { data := #[] }, .int .i64 0, .int .i64 0, .int .i64 0, .int .i64 0, .int .i64 0, .int .u64 0, .int .u64 0, .int .u64 0, .slice none 0 0, .int .u64 0, .int .u64 0, .int .i64 0, .int .u64 0] 34)).heap[g]? = some (.cells #[.string { data := #[] }, .int .i64 0, .int .i64 0, .int .i64 0, .int .i64 0, .int .i64 0, .int .u64 0, .int .u64 0, .int .u64 0, .slice none 0 0, .int .u64 0, .int .u64 0, .int .i64 0, .int .u64 0] 34 (0, 0)) by rw [hg]; exact heap_alloc_new v2 _)
            rw [← hg] at HGE ⊢
            clear hg
            generalize v2.alloc (.cells #[.string { data := #[] }, .int .i64 0, .int .i64 0, .int .i64 0, .int .i64 0, .int .i64 0, .int .u64 0, .int .u64 0, .int .u64 0, .slice none 0 0, .int .u64 0, .int .u64 0, .int .i64 0, .int .u64 0] 34) = U at HRU hHeld ⊢
            refine wpAnyH_ready (rs := [22]) (by kernel_rfl) (by simp) ?_
            refine AllReadyH.cons (o := { dst := some 32, op := Go.Op.call { callee := Go.Callee.value (Go.Operand.func 48), args := #[Go.Operand.tmp 31, Go.Operand.const (Go.Value.int Go.IntKind.i64 23), Go.Operand.const (Go.Value.int Go.IntKind.i64 4)], argTypes := #[9, 3, 3] }, type := 31, pos := "ref.go:112", after := #[{ on := 21, ground := Go.Ground.data }, { on := 20, ground := Go.Ground.chain }], guard := none }) rfl (fun K' hK => ?_) AllReadyH.nil
            rw [if_pos (by rfl)]
            go_simp
            go_wp2_with (go_at_call 48; go_loud ((with_reducible refine (HA23.out _ (by first | assumption | exact hHeld)).mono ?_); rintro e u3 ⟨rfl, hb, hbw⟩))
            have HRu3 := Lib.hid ((hb.block g (Array.getElem?_eq_some_iff.1 HRU.out).1).trans HRU.out)
            clear HRU
            clear hb
            refine hK.out _ _ hbw (fun hHeld1 => ?_)
            clear hK K' hHeld
            have hHeld := hHeld1
            clear hHeld1
            try simp only [Act.put, List.setIfInBounds_toArray, List.set_cons_zero, List.set_cons_succ]
            refine wpAnyH_ready (rs := [24]) (by kernel_rfl) (by simp) ?_
            refine AllReadyH.cons (o := { dst := some 34, op := Go.Op.call { callee := Go.Callee.value (Go.Operand.func 48), args := #[Go.Operand.tmp 33, Go.Operand.const (Go.Value.int Go.IntKind.i64 59), Go.Operand.const (Go.Value.int Go.IntKind.i64 4)], argTypes := #[9, 3, 3] }, type := 31, pos := "ref.go:112", after := #[{ on := 23, ground := Go.Ground.data }, { on := 22, ground := Go.Ground.chain }], guard := none }) rfl (fun K' hK => ?_) AllReadyH.nil
            rw [if_pos (by rfl)]
            go_simp
            go_wp2_with (go_at_call 48; go_loud ((with_reducible refine (HA59.out _ (by first | assumption | exact hHeld)).mono ?_); rintro e u4 ⟨rfl, hb, hbw⟩))
            have HRu4 := Lib.hid ((hb.block g (Array.getElem?_eq_some_iff.1 HRu3.out).1).trans HRu3.out)
            clear HRu3
            clear hb
            refine hK.out _ _ hbw (fun hHeld1 => ?_)
            clear hK K' hHeld
            have hHeld := hHeld1
            clear hHeld1
            try simp only [Act.put, List.setIfInBounds_toArray, List.set_cons_zero, List.set_cons_succ]
            refine wpAnyH_ready (rs := [26]) (by kernel_rfl) (by simp) ?_
            refine AllReadyH.cons (o := { dst := some 36, op := Go.Op.call { callee := Go.Callee.value (Go.Operand.func 48), args := #[Go.Operand.tmp 35, Go.Operand.const (Go.Value.int Go.IntKind.i64 63), Go.Operand.const (Go.Value.int Go.IntKind.i64 4)], argTypes := #[9, 3, 3] }, type := 31, pos := "ref.go:112", after := #[{ on := 25, ground := Go.Ground.data }, { on := 24, ground := Go.Ground.chain }], guard := none }) rfl (fun K' hK => ?_) AllReadyH.nil
            rw [if_pos (by rfl)]
            go_simp
            go_wp2_with (go_at_call 48; go_loud ((with_reducible refine (HA63.out _ (by first | assumption | exact hHeld)).mono ?_); rintro e u5 ⟨rfl, hb, hbw⟩))
            have HRu5 := Lib.hid ((hb.block g (Array.getElem?_eq_some_iff.1 HRu4.out).1).trans HRu4.out)
            clear HRu4
            clear hb
            refine hK.out _ _ hbw (fun hHeld1 => ?_)
            clear hK K' hHeld
            have hHeld := hHeld1
            clear hHeld1
            try simp only [Act.put, List.setIfInBounds_toArray, List.set_cons_zero, List.set_cons_succ]
            refine wpAnyH_ready (rs := [31]) (by kernel_rfl) (by simp) ?_
            refine AllReadyH.cons (o := { dst := some 41, op := Go.Op.call { callee := Go.Callee.value (Go.Operand.func 48), args := #[Go.Operand.tmp 40, Go.Operand.const (Go.Value.int Go.IntKind.i64 68), Go.Operand.const (Go.Value.int Go.IntKind.i64 4)], argTypes := #[9, 3, 3] }, type := 31, pos := "ref.go:112", after := #[{ on := 30, ground := Go.Ground.data }, { on := 26, ground := Go.Ground.chain }], guard := none }) rfl (fun K' hK => ?_) AllReadyH.nil
            rw [if_pos (by rfl)]
            go_simp
            go_wp2_with (go_at_call 48; go_loud ((with_reducible refine (HA68.out _ (by first | assumption | exact hHeld)).mono ?_); rintro e u6 ⟨rfl, hb, hbw⟩))
            have HRu6 := Lib.hid ((hb.block g (Array.getElem?_eq_some_iff.1 HRu5.out).1).trans HRu5.out)
            clear HRu5
            clear hb
            refine hK.out _ _ hbw (fun hHeld1 => ?_)
            clear hK K' hHeld
            have hHeld := hHeld1
            clear hHeld1
            try simp only [Act.put, List.setIfInBounds_toArray, List.set_cons_zero, List.set_cons_succ]
            refine wpAnyH_take (i := 32) (oi := { dst := some 42, op := Go.Op.build 34 #[(0, Go.Operand.tmp 11), (1, Go.Operand.tmp 14), (2, Go.Operand.tmp 17), (3, Go.Operand.tmp 20), (4, Go.Operand.tmp 23), (5, Go.Operand.tmp 26), (6, Go.Operand.tmp 28), (7, Go.Operand.tmp 30), (8, Go.Operand.tmp 32), (9, Go.Operand.const (Go.Value.slice none 0 0)), (10, Go.Operand.tmp 34), (11, Go.Operand.tmp 36), (12, Go.Operand.tmp 39), (13, Go.Operand.tmp 41)], type := 34, pos := "ref.go:112", after := #[{ on := 1, ground := Go.Ground.data }, { on := 4, ground := Go.Ground.data }, { on := 7, ground := Go.Ground.data }, { on := 10, ground := Go.Ground.data }, { on := 13, ground := Go.Ground.data }, { on := 16, ground := Go.Ground.data }, { on := 18, ground := Go.Ground.data }, { on := 20, ground := Go.Ground.data }, { on := 22, ground := Go.Ground.data }, { on := 24, ground := Go.Ground.data }, { on := 26, ground := Go.Ground.data }, { on := 29, ground := Go.Ground.data }, { on := 31, ground := Go.Ground.data }], guard := none }) (v := ?v32d31) rfl (by kernel_rfl) (by kernel_rfl) (by kernel_rfl) (fun _ _ _ h => h) (Or.inl ⟨by rfl, ?hy32d31⟩) hHeld ?rest32d31
            case hy32d31 =>
              intro W' hV
              try dsimp only at hV
              go_simp
              all_goals with_reducible rfl
            case' rest32d31 => try simp only [Act.put, List.setIfInBounds_toArray, List.set_cons_zero, List.set_cons_succ]
            refine wpAnyH_ready (rs := [34]) (by kernel_rfl) (by simp) ?_
            refine AllReadyH.cons (o := { dst := none, op := Go.Op.store 34 (Go.Operand.tmp 4) (Go.Operand.tmp 42), type := 0, pos := "ref.go:112", after := #[{ on := 33, ground := Go.Ground.data }, { on := 32, ground := Go.Ground.data }, { on := 31, ground := Go.Ground.chain }, { on := 0, ground := Go.Ground.phase }, { on := 1, ground := Go.Ground.phase }, { on := 2, ground := Go.Ground.phase }, { on := 3, ground := Go.Ground.phase }, { on := 4, ground := Go.Ground.phase }, { on := 5, ground := Go.Ground.phase }, { on := 6, ground := Go.Ground.phase }, { on := 7, ground := Go.Ground.phase }, { on := 8, ground := Go.Ground.phase }, { on := 9, ground := Go.Ground.phase }, { on := 10, ground := Go.Ground.phase }, { on := 11, ground := Go.Ground.phase }, { on := 12, ground := Go.Ground.phase }, { on := 13, ground := Go.Ground.phase }, { on := 14, ground := Go.Ground.phase }, { on := 15, ground := Go.Ground.phase }, { on := 16, ground := Go.Ground.phase }, { on := 17, ground := Go.Ground.phase }, { on := 18, ground := Go.Ground.phase }, { on := 19, ground := Go.Ground.phase }, { on := 20, ground := Go.Ground.phase }, { on := 21, ground := Go.Ground.phase }, { on := 22, ground := Go.Ground.phase }, { on := 23, ground := Go.Ground.phase }, { on := 24, ground := Go.Ground.phase }, { on := 25, ground := Go.Ground.phase }, { on := 26, ground := Go.Ground.phase }, { on := 27, ground := Go.Ground.phase }, { on := 28, ground := Go.Ground.phase }, { on := 29, ground := Go.Ground.phase }, { on := 30, ground := Go.Ground.phase }, { on := 31, ground := Go.Ground.phase }, { on := 32, ground := Go.Ground.phase }, { on := 33, ground := Go.Ground.phase }], guard := none }) rfl (fun K' hK => ?_) AllReadyH.nil
            rw [if_pos (by rfl)]
            refine wp_store_row 34 (.tmp 4) (.tmp 42) rfl g #[.string SS, .int .i64 P.p, .int .i64 P.n, .int .i64 P.t, .int .i64 P.m, .int .i64 P.c, .int .u64 P.bl, .int .u64 P.bo, .int .u64 P.ep, .slice none 0 0, .int .u64 P.rf, .int .u64 P.sc, .int .i64 P.tg, .int .u64 P.rs] rfl rfl 34 #[.string { data := #[] }, .int .i64 0, .int .i64 0, .int .i64 0, .int .i64 0, .int .i64 0, .int .u64 0, .int .u64 0, .int .u64 0, .slice none 0 0, .int .u64 0, .int .u64 0, .int .i64 0, .int .u64 0] HRu6.out sizeRu rfl (by simp [Value.oneCell']) ?_
            have HFin := Lib.hid (setRow_heap _ _ _ #[.string SS, .int .i64 P.p, .int .i64 P.n, .int .i64 P.t, .int .i64 P.m, .int .i64 P.c, .int .u64 P.bl, .int .u64 P.bo, .int .u64 P.ep, .slice none 0 0, .int .u64 P.rf, .int .u64 P.sc, .int .i64 P.tg, .int .u64 P.rs] _ _ HRu6.out)
            refine hK.out _ _ (below_setRow hHeld HGE.out _) (fun hHeld1 => ?_)
            clear hK K' hHeld
            have hHeld := hHeld1
            clear hHeld1
            try simp only [Act.put, List.setIfInBounds_toArray, List.set_cons_zero, List.set_cons_succ]
            refine wpAnyH_done (by kernel_rfl) ?_ _
            go_wp2_with fail
            go_meet
            exact ⟨g, rfl, HFin, HGE, Lib.hid hHeld⟩
        · rw [if_pos (by rfl)]
          go_simp
          refine hK.out _ _ (Below.alloc hHeld hHeld.size _) (fun hHeld1 => ?_)
          have HGE := Lib.hid hHeld.size
          clear hK K' hHeld
          have hHeld := hHeld1
          clear hHeld1
          try simp only [Act.put, List.setIfInBounds_toArray, List.set_cons_zero, List.set_cons_succ]
          obtain ⟨g, hg⟩ : ∃ g, g = v1.heap.size := ⟨_, rfl⟩
          have HRU := Lib.hid (show (v1.alloc (.cells #[.string { data := #[] }, .int .i64 0, .int .i64 0, .int .i64 0, .int .i64 0, .int .i64 0, .int .u64 0, .int .u64 0, .int .u64 0, .slice none 0 0, .int .u64 0, .int .u64 0, .int .i64 0, .int .u64 0] 34)).heap[g]? = some (.cells #[.string { data := #[] }, .int .i64 0, .int .i64 0, .int .i64 0, .int .i64 0, .int .i64 0, .int .u64 0, .int .u64 0, .int .u64 0, .slice none 0 0, .int .u64 0, .int .u64 0, .int .i64 0, .int .u64 0] 34 (0, 0)) by rw [hg]; exact heap_alloc_new v1 _)
          rw [← hg] at HGE ⊢
          clear hg
          generalize v1.alloc (.cells #[.string { data := #[] }, .int .i64 0, .int .i64 0, .int .i64 0, .int .i64 0, .int .i64 0, .int .u64 0, .int .u64 0, .int .u64 0, .slice none 0 0, .int .u64 0, .int .u64 0, .int .i64 0, .int .u64 0] 34) = U at HRU hHeld ⊢
          refine wpAnyH_ready (rs := [20]) (by kernel_rfl) (by simp) ?_
          refine AllReadyH.cons (o := { dst := some 30, op := Go.Op.call { callee := Go.Callee.value (Go.Operand.func 48), args := #[Go.Operand.tmp 29, Go.Operand.const (Go.Value.int Go.IntKind.i64 19), Go.Operand.const (Go.Value.int Go.IntKind.i64 4)], argTypes := #[9, 3, 3] }, type := 31, pos := "ref.go:112", after := #[{ on := 19, ground := Go.Ground.data }, { on := 18, ground := Go.Ground.chain }], guard := none }) rfl (fun K' hK => ?_) AllReadyH.nil
          rw [if_pos (by rfl)]
          go_simp
          go_wp2_with (go_at_call 48; go_loud ((with_reducible refine (HA19.out _ (by first | assumption | exact hHeld)).mono ?_); rintro e u2 ⟨rfl, hb, hbw⟩))
          have HRu2 := Lib.hid ((hb.block g (Array.getElem?_eq_some_iff.1 HRU.out).1).trans HRU.out)
          clear HRU
          clear hb
          refine hK.out _ _ hbw (fun hHeld1 => ?_)
          clear hK K' hHeld
          have hHeld := hHeld1
          clear hHeld1
          try simp only [Act.put, List.setIfInBounds_toArray, List.set_cons_zero, List.set_cons_succ]
          refine wpAnyH_ready (rs := [22]) (by kernel_rfl) (by simp) ?_
          refine AllReadyH.cons (o := { dst := some 32, op := Go.Op.call { callee := Go.Callee.value (Go.Operand.func 48), args := #[Go.Operand.tmp 31, Go.Operand.const (Go.Value.int Go.IntKind.i64 23), Go.Operand.const (Go.Value.int Go.IntKind.i64 4)], argTypes := #[9, 3, 3] }, type := 31, pos := "ref.go:112", after := #[{ on := 21, ground := Go.Ground.data }, { on := 20, ground := Go.Ground.chain }], guard := none }) rfl (fun K' hK => ?_) AllReadyH.nil
          rw [if_pos (by rfl)]
          go_simp
          go_wp2_with (go_at_call 48; go_loud ((with_reducible refine (HA23.out _ (by first | assumption | exact hHeld)).mono ?_); rintro e u3 ⟨rfl, hb, hbw⟩))
          have HRu3 := Lib.hid ((hb.block g (Array.getElem?_eq_some_iff.1 HRu2.out).1).trans HRu2.out)
          clear HRu2
          clear hb
          refine hK.out _ _ hbw (fun hHeld1 => ?_)
          clear hK K' hHeld
          have hHeld := hHeld1
          clear hHeld1
          try simp only [Act.put, List.setIfInBounds_toArray, List.set_cons_zero, List.set_cons_succ]
          refine wpAnyH_ready (rs := [24]) (by kernel_rfl) (by simp) ?_
          refine AllReadyH.cons (o := { dst := some 34, op := Go.Op.call { callee := Go.Callee.value (Go.Operand.func 48), args := #[Go.Operand.tmp 33, Go.Operand.const (Go.Value.int Go.IntKind.i64 59), Go.Operand.const (Go.Value.int Go.IntKind.i64 4)], argTypes := #[9, 3, 3] }, type := 31, pos := "ref.go:112", after := #[{ on := 23, ground := Go.Ground.data }, { on := 22, ground := Go.Ground.chain }], guard := none }) rfl (fun K' hK => ?_) AllReadyH.nil
          rw [if_pos (by rfl)]
          go_simp
          go_wp2_with (go_at_call 48; go_loud ((with_reducible refine (HA59.out _ (by first | assumption | exact hHeld)).mono ?_); rintro e u4 ⟨rfl, hb, hbw⟩))
          have HRu4 := Lib.hid ((hb.block g (Array.getElem?_eq_some_iff.1 HRu3.out).1).trans HRu3.out)
          clear HRu3
          clear hb
          refine hK.out _ _ hbw (fun hHeld1 => ?_)
          clear hK K' hHeld
          have hHeld := hHeld1
          clear hHeld1
          try simp only [Act.put, List.setIfInBounds_toArray, List.set_cons_zero, List.set_cons_succ]
          refine wpAnyH_ready (rs := [26]) (by kernel_rfl) (by simp) ?_
          refine AllReadyH.cons (o := { dst := some 36, op := Go.Op.call { callee := Go.Callee.value (Go.Operand.func 48), args := #[Go.Operand.tmp 35, Go.Operand.const (Go.Value.int Go.IntKind.i64 63), Go.Operand.const (Go.Value.int Go.IntKind.i64 4)], argTypes := #[9, 3, 3] }, type := 31, pos := "ref.go:112", after := #[{ on := 25, ground := Go.Ground.data }, { on := 24, ground := Go.Ground.chain }], guard := none }) rfl (fun K' hK => ?_) AllReadyH.nil
          rw [if_pos (by rfl)]
          go_simp
          go_wp2_with (go_at_call 48; go_loud ((with_reducible refine (HA63.out _ (by first | assumption | exact hHeld)).mono ?_); rintro e u5 ⟨rfl, hb, hbw⟩))
          have HRu5 := Lib.hid ((hb.block g (Array.getElem?_eq_some_iff.1 HRu4.out).1).trans HRu4.out)
          clear HRu4
          clear hb
          refine hK.out _ _ hbw (fun hHeld1 => ?_)
          clear hK K' hHeld
          have hHeld := hHeld1
          clear hHeld1
          try simp only [Act.put, List.setIfInBounds_toArray, List.set_cons_zero, List.set_cons_succ]
          refine wpAnyH_ready (rs := [31]) (by kernel_rfl) (by simp) ?_
          refine AllReadyH.cons (o := { dst := some 41, op := Go.Op.call { callee := Go.Callee.value (Go.Operand.func 48), args := #[Go.Operand.tmp 40, Go.Operand.const (Go.Value.int Go.IntKind.i64 68), Go.Operand.const (Go.Value.int Go.IntKind.i64 4)], argTypes := #[9, 3, 3] }, type := 31, pos := "ref.go:112", after := #[{ on := 30, ground := Go.Ground.data }, { on := 26, ground := Go.Ground.chain }], guard := none }) rfl (fun K' hK => ?_) AllReadyH.nil
          rw [if_pos (by rfl)]
          go_simp
          go_wp2_with (go_at_call 48; go_loud ((with_reducible refine (HA68.out _ (by first | assumption | exact hHeld)).mono ?_); rintro e u6 ⟨rfl, hb, hbw⟩))
          have HRu6 := Lib.hid ((hb.block g (Array.getElem?_eq_some_iff.1 HRu5.out).1).trans HRu5.out)
          clear HRu5
          clear hb
          refine hK.out _ _ hbw (fun hHeld1 => ?_)
          clear hK K' hHeld
          have hHeld := hHeld1
          clear hHeld1
          try simp only [Act.put, List.setIfInBounds_toArray, List.set_cons_zero, List.set_cons_succ]
          refine wpAnyH_take (i := 32) (oi := { dst := some 42, op := Go.Op.build 34 #[(0, Go.Operand.tmp 11), (1, Go.Operand.tmp 14), (2, Go.Operand.tmp 17), (3, Go.Operand.tmp 20), (4, Go.Operand.tmp 23), (5, Go.Operand.tmp 26), (6, Go.Operand.tmp 28), (7, Go.Operand.tmp 30), (8, Go.Operand.tmp 32), (9, Go.Operand.const (Go.Value.slice none 0 0)), (10, Go.Operand.tmp 34), (11, Go.Operand.tmp 36), (12, Go.Operand.tmp 39), (13, Go.Operand.tmp 41)], type := 34, pos := "ref.go:112", after := #[{ on := 1, ground := Go.Ground.data }, { on := 4, ground := Go.Ground.data }, { on := 7, ground := Go.Ground.data }, { on := 10, ground := Go.Ground.data }, { on := 13, ground := Go.Ground.data }, { on := 16, ground := Go.Ground.data }, { on := 18, ground := Go.Ground.data }, { on := 20, ground := Go.Ground.data }, { on := 22, ground := Go.Ground.data }, { on := 24, ground := Go.Ground.data }, { on := 26, ground := Go.Ground.data }, { on := 29, ground := Go.Ground.data }, { on := 31, ground := Go.Ground.data }], guard := none }) (v := ?v32d32) rfl (by kernel_rfl) (by kernel_rfl) (by kernel_rfl) (fun _ _ _ h => h) (Or.inl ⟨by rfl, ?hy32d32⟩) hHeld ?rest32d32
          case hy32d32 =>
            intro W' hV
            try dsimp only at hV
            go_simp
            all_goals with_reducible rfl
          case' rest32d32 => try simp only [Act.put, List.setIfInBounds_toArray, List.set_cons_zero, List.set_cons_succ]
          refine wpAnyH_ready (rs := [34]) (by kernel_rfl) (by simp) ?_
          refine AllReadyH.cons (o := { dst := none, op := Go.Op.store 34 (Go.Operand.tmp 4) (Go.Operand.tmp 42), type := 0, pos := "ref.go:112", after := #[{ on := 33, ground := Go.Ground.data }, { on := 32, ground := Go.Ground.data }, { on := 31, ground := Go.Ground.chain }, { on := 0, ground := Go.Ground.phase }, { on := 1, ground := Go.Ground.phase }, { on := 2, ground := Go.Ground.phase }, { on := 3, ground := Go.Ground.phase }, { on := 4, ground := Go.Ground.phase }, { on := 5, ground := Go.Ground.phase }, { on := 6, ground := Go.Ground.phase }, { on := 7, ground := Go.Ground.phase }, { on := 8, ground := Go.Ground.phase }, { on := 9, ground := Go.Ground.phase }, { on := 10, ground := Go.Ground.phase }, { on := 11, ground := Go.Ground.phase }, { on := 12, ground := Go.Ground.phase }, { on := 13, ground := Go.Ground.phase }, { on := 14, ground := Go.Ground.phase }, { on := 15, ground := Go.Ground.phase }, { on := 16, ground := Go.Ground.phase }, { on := 17, ground := Go.Ground.phase }, { on := 18, ground := Go.Ground.phase }, { on := 19, ground := Go.Ground.phase }, { on := 20, ground := Go.Ground.phase }, { on := 21, ground := Go.Ground.phase }, { on := 22, ground := Go.Ground.phase }, { on := 23, ground := Go.Ground.phase }, { on := 24, ground := Go.Ground.phase }, { on := 25, ground := Go.Ground.phase }, { on := 26, ground := Go.Ground.phase }, { on := 27, ground := Go.Ground.phase }, { on := 28, ground := Go.Ground.phase }, { on := 29, ground := Go.Ground.phase }, { on := 30, ground := Go.Ground.phase }, { on := 31, ground := Go.Ground.phase }, { on := 32, ground := Go.Ground.phase }, { on := 33, ground := Go.Ground.phase }], guard := none }) rfl (fun K' hK => ?_) AllReadyH.nil
          rw [if_pos (by rfl)]
          refine wp_store_row 34 (.tmp 4) (.tmp 42) rfl g #[.string SS, .int .i64 P.p, .int .i64 P.n, .int .i64 P.t, .int .i64 P.m, .int .i64 P.c, .int .u64 P.bl, .int .u64 P.bo, .int .u64 P.ep, .slice none 0 0, .int .u64 P.rf, .int .u64 P.sc, .int .i64 P.tg, .int .u64 P.rs] rfl rfl 34 #[.string { data := #[] }, .int .i64 0, .int .i64 0, .int .i64 0, .int .i64 0, .int .i64 0, .int .u64 0, .int .u64 0, .int .u64 0, .slice none 0 0, .int .u64 0, .int .u64 0, .int .i64 0, .int .u64 0] HRu6.out sizeRu rfl (by simp [Value.oneCell']) ?_
          have HFin := Lib.hid (setRow_heap _ _ _ #[.string SS, .int .i64 P.p, .int .i64 P.n, .int .i64 P.t, .int .i64 P.m, .int .i64 P.c, .int .u64 P.bl, .int .u64 P.bo, .int .u64 P.ep, .slice none 0 0, .int .u64 P.rf, .int .u64 P.sc, .int .i64 P.tg, .int .u64 P.rs] _ _ HRu6.out)
          refine hK.out _ _ (below_setRow hHeld HGE.out _) (fun hHeld1 => ?_)
          clear hK K' hHeld
          have hHeld := hHeld1
          clear hHeld1
          try simp only [Act.put, List.setIfInBounds_toArray, List.set_cons_zero, List.set_cons_succ]
          refine wpAnyH_done (by kernel_rfl) ?_ _
          go_wp2_with fail
          go_meet
          exact ⟨g, rfl, HFin, HGE, Lib.hid hHeld⟩
      · rw [if_pos (by rfl)]
        go_simp
        refine hK.out _ _ (Below.alloc hHeld hHeld.size _) (fun hHeld1 => ?_)
        have HGE := Lib.hid hHeld.size
        clear hK K' hHeld
        have hHeld := hHeld1
        clear hHeld1
        try simp only [Act.put, List.setIfInBounds_toArray, List.set_cons_zero, List.set_cons_succ]
        obtain ⟨g, hg⟩ : ∃ g, g = v0.heap.size := ⟨_, rfl⟩
        have HRU := Lib.hid (show (v0.alloc (.cells #[.string { data := #[] }, .int .i64 0, .int .i64 0, .int .i64 0, .int .i64 0, .int .i64 0, .int .u64 0, .int .u64 0, .int .u64 0, .slice none 0 0, .int .u64 0, .int .u64 0, .int .i64 0, .int .u64 0] 34)).heap[g]? = some (.cells #[.string { data := #[] }, .int .i64 0, .int .i64 0, .int .i64 0, .int .i64 0, .int .i64 0, .int .u64 0, .int .u64 0, .int .u64 0, .slice none 0 0, .int .u64 0, .int .u64 0, .int .i64 0, .int .u64 0] 34 (0, 0)) by rw [hg]; exact heap_alloc_new v0 _)
        rw [← hg] at HGE ⊢
        clear hg
        generalize v0.alloc (.cells #[.string { data := #[] }, .int .i64 0, .int .i64 0, .int .i64 0, .int .i64 0, .int .i64 0, .int .u64 0, .int .u64 0, .int .u64 0, .slice none 0 0, .int .u64 0, .int .u64 0, .int .i64 0, .int .u64 0] 34) = U at HRU hHeld ⊢
        refine wpAnyH_ready (rs := [18]) (by kernel_rfl) (by simp) ?_
        refine AllReadyH.cons (o := { dst := some 28, op := Go.Op.call { callee := Go.Callee.value (Go.Operand.func 48), args := #[Go.Operand.tmp 27, Go.Operand.const (Go.Value.int Go.IntKind.i64 15), Go.Operand.const (Go.Value.int Go.IntKind.i64 4)], argTypes := #[9, 3, 3] }, type := 31, pos := "ref.go:112", after := #[{ on := 17, ground := Go.Ground.data }], guard := none }) rfl (fun K' hK => ?_) AllReadyH.nil
        rw [if_pos (by rfl)]
        go_simp
        go_wp2_with (go_at_call 48; go_loud ((with_reducible refine (HA15.out _ (by first | assumption | exact hHeld)).mono ?_); rintro e u1 ⟨rfl, hb, hbw⟩))
        have HRu1 := Lib.hid ((hb.block g (Array.getElem?_eq_some_iff.1 HRU.out).1).trans HRU.out)
        clear HRU
        clear hb
        refine hK.out _ _ hbw (fun hHeld1 => ?_)
        clear hK K' hHeld
        have hHeld := hHeld1
        clear hHeld1
        try simp only [Act.put, List.setIfInBounds_toArray, List.set_cons_zero, List.set_cons_succ]
        refine wpAnyH_ready (rs := [20]) (by kernel_rfl) (by simp) ?_
        refine AllReadyH.cons (o := { dst := some 30, op := Go.Op.call { callee := Go.Callee.value (Go.Operand.func 48), args := #[Go.Operand.tmp 29, Go.Operand.const (Go.Value.int Go.IntKind.i64 19), Go.Operand.const (Go.Value.int Go.IntKind.i64 4)], argTypes := #[9, 3, 3] }, type := 31, pos := "ref.go:112", after := #[{ on := 19, ground := Go.Ground.data }, { on := 18, ground := Go.Ground.chain }], guard := none }) rfl (fun K' hK => ?_) AllReadyH.nil
        rw [if_pos (by rfl)]
        go_simp
        go_wp2_with (go_at_call 48; go_loud ((with_reducible refine (HA19.out _ (by first | assumption | exact hHeld)).mono ?_); rintro e u2 ⟨rfl, hb, hbw⟩))
        have HRu2 := Lib.hid ((hb.block g (Array.getElem?_eq_some_iff.1 HRu1.out).1).trans HRu1.out)
        clear HRu1
        clear hb
        refine hK.out _ _ hbw (fun hHeld1 => ?_)
        clear hK K' hHeld
        have hHeld := hHeld1
        clear hHeld1
        try simp only [Act.put, List.setIfInBounds_toArray, List.set_cons_zero, List.set_cons_succ]
        refine wpAnyH_ready (rs := [22]) (by kernel_rfl) (by simp) ?_
        refine AllReadyH.cons (o := { dst := some 32, op := Go.Op.call { callee := Go.Callee.value (Go.Operand.func 48), args := #[Go.Operand.tmp 31, Go.Operand.const (Go.Value.int Go.IntKind.i64 23), Go.Operand.const (Go.Value.int Go.IntKind.i64 4)], argTypes := #[9, 3, 3] }, type := 31, pos := "ref.go:112", after := #[{ on := 21, ground := Go.Ground.data }, { on := 20, ground := Go.Ground.chain }], guard := none }) rfl (fun K' hK => ?_) AllReadyH.nil
        rw [if_pos (by rfl)]
        go_simp
        go_wp2_with (go_at_call 48; go_loud ((with_reducible refine (HA23.out _ (by first | assumption | exact hHeld)).mono ?_); rintro e u3 ⟨rfl, hb, hbw⟩))
        have HRu3 := Lib.hid ((hb.block g (Array.getElem?_eq_some_iff.1 HRu2.out).1).trans HRu2.out)
        clear HRu2
        clear hb
        refine hK.out _ _ hbw (fun hHeld1 => ?_)
        clear hK K' hHeld
        have hHeld := hHeld1
        clear hHeld1
        try simp only [Act.put, List.setIfInBounds_toArray, List.set_cons_zero, List.set_cons_succ]
        refine wpAnyH_ready (rs := [24]) (by kernel_rfl) (by simp) ?_
        refine AllReadyH.cons (o := { dst := some 34, op := Go.Op.call { callee := Go.Callee.value (Go.Operand.func 48), args := #[Go.Operand.tmp 33, Go.Operand.const (Go.Value.int Go.IntKind.i64 59), Go.Operand.const (Go.Value.int Go.IntKind.i64 4)], argTypes := #[9, 3, 3] }, type := 31, pos := "ref.go:112", after := #[{ on := 23, ground := Go.Ground.data }, { on := 22, ground := Go.Ground.chain }], guard := none }) rfl (fun K' hK => ?_) AllReadyH.nil
        rw [if_pos (by rfl)]
        go_simp
        go_wp2_with (go_at_call 48; go_loud ((with_reducible refine (HA59.out _ (by first | assumption | exact hHeld)).mono ?_); rintro e u4 ⟨rfl, hb, hbw⟩))
        have HRu4 := Lib.hid ((hb.block g (Array.getElem?_eq_some_iff.1 HRu3.out).1).trans HRu3.out)
        clear HRu3
        clear hb
        refine hK.out _ _ hbw (fun hHeld1 => ?_)
        clear hK K' hHeld
        have hHeld := hHeld1
        clear hHeld1
        try simp only [Act.put, List.setIfInBounds_toArray, List.set_cons_zero, List.set_cons_succ]
        refine wpAnyH_ready (rs := [26]) (by kernel_rfl) (by simp) ?_
        refine AllReadyH.cons (o := { dst := some 36, op := Go.Op.call { callee := Go.Callee.value (Go.Operand.func 48), args := #[Go.Operand.tmp 35, Go.Operand.const (Go.Value.int Go.IntKind.i64 63), Go.Operand.const (Go.Value.int Go.IntKind.i64 4)], argTypes := #[9, 3, 3] }, type := 31, pos := "ref.go:112", after := #[{ on := 25, ground := Go.Ground.data }, { on := 24, ground := Go.Ground.chain }], guard := none }) rfl (fun K' hK => ?_) AllReadyH.nil
        rw [if_pos (by rfl)]
        go_simp
        go_wp2_with (go_at_call 48; go_loud ((with_reducible refine (HA63.out _ (by first | assumption | exact hHeld)).mono ?_); rintro e u5 ⟨rfl, hb, hbw⟩))
        have HRu5 := Lib.hid ((hb.block g (Array.getElem?_eq_some_iff.1 HRu4.out).1).trans HRu4.out)
        clear HRu4
        clear hb
        refine hK.out _ _ hbw (fun hHeld1 => ?_)
        clear hK K' hHeld
        have hHeld := hHeld1
        clear hHeld1
        try simp only [Act.put, List.setIfInBounds_toArray, List.set_cons_zero, List.set_cons_succ]
        refine wpAnyH_ready (rs := [31]) (by kernel_rfl) (by simp) ?_
        refine AllReadyH.cons (o := { dst := some 41, op := Go.Op.call { callee := Go.Callee.value (Go.Operand.func 48), args := #[Go.Operand.tmp 40, Go.Operand.const (Go.Value.int Go.IntKind.i64 68), Go.Operand.const (Go.Value.int Go.IntKind.i64 4)], argTypes := #[9, 3, 3] }, type := 31, pos := "ref.go:112", after := #[{ on := 30, ground := Go.Ground.data }, { on := 26, ground := Go.Ground.chain }], guard := none }) rfl (fun K' hK => ?_) AllReadyH.nil
        rw [if_pos (by rfl)]
        go_simp
        go_wp2_with (go_at_call 48; go_loud ((with_reducible refine (HA68.out _ (by first | assumption | exact hHeld)).mono ?_); rintro e u6 ⟨rfl, hb, hbw⟩))
        have HRu6 := Lib.hid ((hb.block g (Array.getElem?_eq_some_iff.1 HRu5.out).1).trans HRu5.out)
        clear HRu5
        clear hb
        refine hK.out _ _ hbw (fun hHeld1 => ?_)
        clear hK K' hHeld
        have hHeld := hHeld1
        clear hHeld1
        try simp only [Act.put, List.setIfInBounds_toArray, List.set_cons_zero, List.set_cons_succ]
        refine wpAnyH_take (i := 32) (oi := { dst := some 42, op := Go.Op.build 34 #[(0, Go.Operand.tmp 11), (1, Go.Operand.tmp 14), (2, Go.Operand.tmp 17), (3, Go.Operand.tmp 20), (4, Go.Operand.tmp 23), (5, Go.Operand.tmp 26), (6, Go.Operand.tmp 28), (7, Go.Operand.tmp 30), (8, Go.Operand.tmp 32), (9, Go.Operand.const (Go.Value.slice none 0 0)), (10, Go.Operand.tmp 34), (11, Go.Operand.tmp 36), (12, Go.Operand.tmp 39), (13, Go.Operand.tmp 41)], type := 34, pos := "ref.go:112", after := #[{ on := 1, ground := Go.Ground.data }, { on := 4, ground := Go.Ground.data }, { on := 7, ground := Go.Ground.data }, { on := 10, ground := Go.Ground.data }, { on := 13, ground := Go.Ground.data }, { on := 16, ground := Go.Ground.data }, { on := 18, ground := Go.Ground.data }, { on := 20, ground := Go.Ground.data }, { on := 22, ground := Go.Ground.data }, { on := 24, ground := Go.Ground.data }, { on := 26, ground := Go.Ground.data }, { on := 29, ground := Go.Ground.data }, { on := 31, ground := Go.Ground.data }], guard := none }) (v := ?v32d33) rfl (by kernel_rfl) (by kernel_rfl) (by kernel_rfl) (fun _ _ _ h => h) (Or.inl ⟨by rfl, ?hy32d33⟩) hHeld ?rest32d33
        case hy32d33 =>
          intro W' hV
          try dsimp only at hV
          go_simp
          all_goals with_reducible rfl
        case' rest32d33 => try simp only [Act.put, List.setIfInBounds_toArray, List.set_cons_zero, List.set_cons_succ]
        refine wpAnyH_ready (rs := [34]) (by kernel_rfl) (by simp) ?_
        refine AllReadyH.cons (o := { dst := none, op := Go.Op.store 34 (Go.Operand.tmp 4) (Go.Operand.tmp 42), type := 0, pos := "ref.go:112", after := #[{ on := 33, ground := Go.Ground.data }, { on := 32, ground := Go.Ground.data }, { on := 31, ground := Go.Ground.chain }, { on := 0, ground := Go.Ground.phase }, { on := 1, ground := Go.Ground.phase }, { on := 2, ground := Go.Ground.phase }, { on := 3, ground := Go.Ground.phase }, { on := 4, ground := Go.Ground.phase }, { on := 5, ground := Go.Ground.phase }, { on := 6, ground := Go.Ground.phase }, { on := 7, ground := Go.Ground.phase }, { on := 8, ground := Go.Ground.phase }, { on := 9, ground := Go.Ground.phase }, { on := 10, ground := Go.Ground.phase }, { on := 11, ground := Go.Ground.phase }, { on := 12, ground := Go.Ground.phase }, { on := 13, ground := Go.Ground.phase }, { on := 14, ground := Go.Ground.phase }, { on := 15, ground := Go.Ground.phase }, { on := 16, ground := Go.Ground.phase }, { on := 17, ground := Go.Ground.phase }, { on := 18, ground := Go.Ground.phase }, { on := 19, ground := Go.Ground.phase }, { on := 20, ground := Go.Ground.phase }, { on := 21, ground := Go.Ground.phase }, { on := 22, ground := Go.Ground.phase }, { on := 23, ground := Go.Ground.phase }, { on := 24, ground := Go.Ground.phase }, { on := 25, ground := Go.Ground.phase }, { on := 26, ground := Go.Ground.phase }, { on := 27, ground := Go.Ground.phase }, { on := 28, ground := Go.Ground.phase }, { on := 29, ground := Go.Ground.phase }, { on := 30, ground := Go.Ground.phase }, { on := 31, ground := Go.Ground.phase }, { on := 32, ground := Go.Ground.phase }, { on := 33, ground := Go.Ground.phase }], guard := none }) rfl (fun K' hK => ?_) AllReadyH.nil
        rw [if_pos (by rfl)]
        refine wp_store_row 34 (.tmp 4) (.tmp 42) rfl g #[.string SS, .int .i64 P.p, .int .i64 P.n, .int .i64 P.t, .int .i64 P.m, .int .i64 P.c, .int .u64 P.bl, .int .u64 P.bo, .int .u64 P.ep, .slice none 0 0, .int .u64 P.rf, .int .u64 P.sc, .int .i64 P.tg, .int .u64 P.rs] rfl rfl 34 #[.string { data := #[] }, .int .i64 0, .int .i64 0, .int .i64 0, .int .i64 0, .int .i64 0, .int .u64 0, .int .u64 0, .int .u64 0, .slice none 0 0, .int .u64 0, .int .u64 0, .int .i64 0, .int .u64 0] HRu6.out sizeRu rfl (by simp [Value.oneCell']) ?_
        have HFin := Lib.hid (setRow_heap _ _ _ #[.string SS, .int .i64 P.p, .int .i64 P.n, .int .i64 P.t, .int .i64 P.m, .int .i64 P.c, .int .u64 P.bl, .int .u64 P.bo, .int .u64 P.ep, .slice none 0 0, .int .u64 P.rf, .int .u64 P.sc, .int .i64 P.tg, .int .u64 P.rs] _ _ HRu6.out)
        refine hK.out _ _ (below_setRow hHeld HGE.out _) (fun hHeld1 => ?_)
        clear hK K' hHeld
        have hHeld := hHeld1
        clear hHeld1
        try simp only [Act.put, List.setIfInBounds_toArray, List.set_cons_zero, List.set_cons_succ]
        refine wpAnyH_done (by kernel_rfl) ?_ _
        go_wp2_with fail
        go_meet
        exact ⟨g, rfl, HFin, HGE, Lib.hid hHeld⟩

    case rest =>
      obtain ⟨q, rfl, HR0, HQ, HB0⟩ := hcut
      rename World => W0
      obtain ⟨iI, hi5, hz5⟩ := Option.map_eq_some_iff.1 infoI
      simp only [Prod.mk.injEq] at hz5
      have HI := Lib.hid (And.intro hi5 hz5)
      clear hi5 hz5
      clear w10 w11 w12 w13 w14 w67 g10 g11 g12 g13 g14 g67 hsl
      go_wp2_with fail
      go_loopw [5] (fun iv wr => ∃ (k : Nat) (a : Option Addr) (c : Nat), k ≤ 256 ∧ iv = .int .i64 (k : Nat) ∧ Hid (wr.heap[q]? = some (.cells #[.string SS, .int .i64 P.p, .int .i64 P.n, .int .i64 P.t, .int .i64 P.m, .int .i64 P.c, .int .u64 P.bl, .int .u64 P.bo, .int .u64 P.ep, .slice a (inK P.inn k).length c, .int .u64 P.rf, .int .u64 P.sc, .int .i64 P.tg, .int .u64 P.rs] 34 (0, 0))) ∧ Hid (wr.ownsRow (q + 1) 3 1 (.slice a (inK P.inn k).length c) (inK P.inn k).length ((inK P.inn k).map (Value.int .i64))) ∧ Hid (Below q W0 wr))
        (fun iv _ => 256 - (intOf iv).toNat)
      case atStart => exact ⟨0, none, 0, by omega, rfl, Lib.hid HR0.out, Lib.hid (own_emptyI _ _), Lib.hid (Below.refl _ _)⟩
      case round =>
        obtain ⟨k, a, c, hk, rfl, hr, ho, hb⟩ := hrel
        rename World => wr
        by_cases hlt : k < 256
        · obtain ⟨hk1, V, hV, hV0, hV1, hV2⟩ := HBY.out k hlt
          obtain ⟨v, hv⟩ : ∃ v, v = P.inn.getD k false := ⟨_, rfl⟩
          rw [← hv] at hV2
          obtain ⟨n, hn⟩ : ∃ n, n = (inK P.inn k).length := ⟨_, rfl⟩
          have hnk : n ≤ k := by rw [hn]; exact inK_len _ _
          rw [← hn] at hr ho
          have HN := Lib.hid hn
          have qk : (k : Int) < 256 := by omega
          obtain ⟨d1, d2, d3, d4⟩ := div8 (k := k) (by omega)
          obtain ⟨r1, r2, r3, r4⟩ := mod8 (k := k) (by omega)
          have s1 : IntKind.i64.wrap (27 + (k : Int) / 8) = 27 + (k : Int) / 8 := IntWalk.i64_in _ (by omega)
          have s2 : (27 + (k : Int) / 8).toNat = 27 + k / 8 := by omega
          have s3 : (0 : Int) ≤ 27 + (k : Int) / 8 := by omega
          have s4 : 27 + (k : Int) / 8 < 512 := by omega
          have s5 : IntKind.i64.wrap (7 - (k : Int) % 8) = 7 - (k : Int) % 8 := IntWalk.i64_in _ (by omega)
          have s6 : (7 - (k : Int) % 8).toNat = 7 - k % 8 := by omega
          have s7 : (0 : Int) ≤ 7 - (k : Int) % 8 := by omega
          cases v with
          | false =>
            have t1 : V.tmod 2 = 0 := by rw [Int.tmod_eq_emod_of_nonneg hV0]; exact hV2
            have HK := Lib.hid (inK_no hv.symm)
            clear hv hn hV2
            go_wp2
            go_roundw
            case rel => exact ⟨k + 1, a, c, by omega, by go_num, Lib.hid (by rw [HK.out, ← HN.out]; exact hr.out), Lib.hid (by rw [HK.out, ← HN.out]; exact ho.out), hb⟩
            case measure => simp [intOf]; omega
          | true =>
            have t1 : V.tmod 2 = 1 := by rw [Int.tmod_eq_emod_of_nonneg hV0]; exact hV2
            have HK := Lib.hid (inK_yes hv.symm)
            have hcl := (cell14 hr.out).2.2.2.2.2.2.2.2.2.1
            have HQL := Lib.hid (Array.getElem?_eq_some_iff.1 hr.out).1
            clear hv hn hV2
            go_wp2_with ((with_reducible show wpList _ _ _ (⟨some 62, _, _, _, _, _⟩ :: _) _ _); go_loud (refine wpList_append_i1 _ rfl (.tmp 59) (.tmp 61) 32 rfl (q + 1) 3 iI Tryd.underlying32 HI.out.1 HI.out.2.1 HI.out.2.2.1 HI.out.2.2.2 (.slice a n c) n (inK P.inn k) rfl (ho.out.alloc _) ⟨wr.heap.size, 0, none⟩ (k : Int) rfl (by simp) (by omega) (by have := HQL.out; simp; omega) (wr.heap.size + 1) (by simp) ?_; intro g4 c4 w4 ho4 hg4 hat4; have h4r := (hg4.block q (by have := HQL.out; simp; omega) (fun e => by have := (ho.out.lt q e.symm).1; omega)).trans ((heap_alloc_old wr _ HQL.out).trans hr.out); have HR4 := Lib.hid h4r; have HO4 := Lib.hid ho4; have HB4 := Lib.hid ((hb.out.alloc (Nat.le_of_lt HQL.out) _).grown hg4 (by have := HQL.out; simp; omega) (fun j e => by have := (ho.out.lt j e).1; omega)); have z9 := (cell14 h4r).2.2.2.2.2.2.2.2.2.1; have zf := frozen_of_row w4 q 9 _ _ h4r; clear ho4 hg4 h4r))
            go_roundw
            case rel =>
              refine ⟨k + 1, some ⟨g4, 0, none⟩, c4, by omega, by go_num, Lib.hid ?_, Lib.hid ?_, Lib.hid (HB4.out.setCell (p := ⟨q, 9, none⟩) (Nat.le_refl _) _)⟩
              · rw [HK.out, List.length_append, ← HN.out]
                exact heap_setCell_same w4 q 9 _ _ _ HR4.out
              · rw [HK.out, List.length_append, ← HN.out]
                exact own_blockT HO4.out (fun g e => heap_setCell_other w4 ⟨q, 9, none⟩ g _ (by have := (HO4.out.lt g e).1; show g ≠ q; omega))
            case measure => simp [intOf]; omega
        · obtain rfl : k = 256 := by omega
          obtain ⟨n, hn⟩ : ∃ n, n = (inK P.inn 256).length := ⟨_, rfl⟩
          rw [← hn] at hr ho
          have HRW := Lib.hid hr.out
          have HWQ := Lib.hid (show w.heap.size < q from by have h1 := HQ.out; have h2 := HA.out.2.2.1; omega)
          have HQW := Lib.hid (show q ≠ w.heap.size from by have := HWQ.out; omega)
          have HQL := Lib.hid (show q < wr.heap.size from (Array.getElem?_eq_some_iff.1 hr.out).1)
          have HWL := Lib.hid (show w.heap.size < wr.heap.size from by have h1 := HWQ.out; have h2 := HQL.out; omega)
          have HBW := Lib.hid (show Below w.heap.size w wr from by
            have h1 := HWQ.out
            have h2 := HA.out.2.2.1
            exact (HA.out.2.1.trans (HB0.out.mono (by omega))).trans (hb.out.mono (by omega)))
          have HZ := Lib.hid (show wr.heap[w.heap.size]? = some (.cells #[.string { data := #[] }, .int .i64 0, .int .i64 0, .int .i64 0, .int .i64 0, .int .i64 0, .int .u64 0, .int .u64 0, .int .u64 0, .slice none 0 0, .int .u64 0, .int .u64 0, .int .i64 0, .int .u64 0] 34 (0, 0)) from by
            have h1 := HWQ.out
            have h2 := HA.out.2.2.1
            rw [hb.out.block _ (by omega), HB0.out.block _ (by omega)]
            exact HA.out.2.2.2)
          have HIA := Lib.hid (show IA wr a n c P.L from ia_own ho.out (fun x hx => SU.L_64 256 x hx (Nat.le_refl _)))
          have HRS := Lib.hid (show ∀ W, Below wr.heap.size wr W → Calls Tryd.prog 7 #[.agg #[.string SS, .int .i64 P.p, .int .i64 P.n, .int .i64 P.t, .int .i64 P.m, .int .i64 P.c, .int .u64 P.bl, .int .u64 P.bo, .int .u64 P.ep, .slice a n c, .int .u64 P.rf, .int .u64 P.sc, .int .i64 P.tg, .int .u64 P.rs]] W fun e w' => e = .returned (.string (strOfNums P.S)) ∧ Below W.heap.size W w' from fun W hW => by
            have h := refSuper_any P HPP.out a n c W (HIA.out.on hW)
            unfold ruA at h
            rw [← HSS.out] at h
            exact h)
          obtain ⟨SP, hSP⟩ : ∃ s, s = strOfNums P.S := ⟨_, rfl⟩
          rw [← hSP] at HRS
          have HSP := Lib.hid hSP
          have HON := Lib.hid (And.intro hn ho.out)
          clear hn hSP hr ho hb hlt
          go_upto_region 9 with fail
          refine wp_region_held_drew (S := fun W => W.heap[q]? = some (.cells #[.string SS, .int .i64 P.p, .int .i64 P.n, .int .i64 P.t, .int .i64 P.m, .int .i64 P.c, .int .u64 P.bl, .int .u64 P.bo, .int .u64 P.ep, .slice a n c, .int .u64 P.rf, .int .u64 P.sc, .int .i64 P.tg, .int .u64 P.rs] 34 (0, 0))) (by kernel_rfl) (show wr.heap[q]? = some (.cells #[.string SS, .int .i64 P.p, .int .i64 P.n, .int .i64 P.t, .int .i64 P.m, .int .i64 P.c, .int .u64 P.bl, .int .u64 P.bo, .int .u64 P.ep, .slice a n c, .int .u64 P.rf, .int .u64 P.sc, .int .i64 P.tg, .int .u64 P.rs] 34 (0, 0)) from HRW.out) (fun hHeld => ?_)
          generalize hwd : wr.drew = v0 at hHeld ⊢
          have HBD := Lib.hid (show Below wr.heap.size wr v0 by rw [← hwd]; exact (Below.refl _ _).drew)
          clear hwd
          refine wpAnyH_take (i := 0) (oi := { dst := some 64, op := Go.Op.load 34 (Go.Operand.tmp 4), type := 34, pos := "ref.go:118", after := #[], guard := none }) (v := ?v0e1) rfl (by kernel_rfl) (by kernel_rfl) (by kernel_rfl) (fun _ _ _ h => h) (Or.inl ⟨by rfl, ?hy0e1⟩) hHeld ?rest0e1
          case hy0e1 =>
            intro W' hV
            try dsimp only at hV
            obtain ⟨x0, x1, x2, x3, x4, x5, x6, x7, x8, x9, xa, xb, xc, xd⟩ := cell14 hV
            clear hV
            go_simp
            all_goals with_reducible rfl
          case' rest0e1 => try simp only [Act.put, List.setIfInBounds_toArray, List.set_cons_zero, List.set_cons_succ]
          refine wpAnyH_take (i := 1) (oi := { dst := some 65, op := Go.Op.load 34 (Go.Operand.tmp 4), type := 34, pos := "ref.go:118", after := #[], guard := none }) (v := ?v1e2) rfl (by kernel_rfl) (by kernel_rfl) (by kernel_rfl) (fun _ _ _ h => h) (Or.inl ⟨by rfl, ?hy1e2⟩) hHeld ?rest1e2
          case hy1e2 =>
            intro W' hV
            try dsimp only at hV
            obtain ⟨x0, x1, x2, x3, x4, x5, x6, x7, x8, x9, xa, xb, xc, xd⟩ := cell14 hV
            clear hV
            go_simp
            all_goals with_reducible rfl
          case' rest1e2 => try simp only [Act.put, List.setIfInBounds_toArray, List.set_cons_zero, List.set_cons_succ]
          refine wpAnyH_take (i := 3) (oi := { dst := some 67, op := Go.Op.move (Go.Operand.tmp 0), type := 9, pos := "ref.go:118", after := #[{ on := 5, ground := Go.Ground.gcOnly Go.Departure.lateStores }], guard := none }) (v := ?v3e3) rfl (by kernel_rfl) (by kernel_rfl) (by kernel_rfl) (fun _ _ _ h => h) (Or.inl ⟨by rfl, ?hy3e3⟩) hHeld ?rest3e3
          case hy3e3 =>
            intro W' hV
            try dsimp only at hV
            go_simp
            all_goals with_reducible rfl
          case' rest3e3 => try simp only [Act.put, List.setIfInBounds_toArray, List.set_cons_zero, List.set_cons_succ]
          refine wpAnyH_ready (rs := [2]) (by kernel_rfl) (by simp) ?_
          refine AllReadyH.cons (o := { dst := some 66, op := Go.Op.call { callee := Go.Callee.value (Go.Operand.func 7), args := #[Go.Operand.tmp 65], argTypes := #[34] }, type := 9, pos := "ref.go:118", after := #[{ on := 1, ground := Go.Ground.data }], guard := none }) rfl (fun K' hK => ?_) AllReadyH.nil
          rw [if_pos (by rfl)]
          go_simp
          go_wp2_with (go_at_call 7; go_loud ((with_reducible refine (HRS.out _ HBD.out).mono ?_); rintro e v1 ⟨rfl, hb⟩))
          have HB1 := Lib.hid (bt HBD.out hb)
          refine hK.out _ _ ((hb.block q (Array.getElem?_eq_some_iff.1 hHeld).1).trans hHeld) (fun hHeld1 => ?_)
          clear hK K' hHeld hb
          have hHeld := hHeld1
          clear hHeld1
          try simp only [Act.put, List.setIfInBounds_toArray, List.set_cons_zero, List.set_cons_succ]
          refine wpAnyH_take (i := 4) (oi := { dst := some 68, op := Go.Op.binOp Go.BinOp.eql 9 (Go.Operand.tmp 66) (Go.Operand.tmp 67) 9, type := 4, pos := "ref.go:118", after := #[{ on := 2, ground := Go.Ground.data }, { on := 3, ground := Go.Ground.data }, { on := 5, ground := Go.Ground.gcOnly Go.Departure.lateStores }], guard := none }) (v := ?v4e4) rfl (by kernel_rfl) (by kernel_rfl) (by kernel_rfl) (fun _ _ _ h => h) (Or.inl ⟨by rfl, ?hy4e4⟩) hHeld ?rest4e4
          case hy4e4 =>
            intro W' hV
            try dsimp only at hV
            go_simp
            all_goals with_reducible rfl
          case' rest4e4 => try simp only [Act.put, List.setIfInBounds_toArray, List.set_cons_zero, List.set_cons_succ]
          refine wpAnyH_ready (rs := [5]) (by kernel_rfl) (by simp) ?_
          refine AllReadyH.cons (o := { dst := none, op := Go.Op.store 34 (Go.Operand.tmp 2) (Go.Operand.tmp 64), type := 0, pos := "ref.go:118", after := #[{ on := 0, ground := Go.Ground.data }, { on := 2, ground := Go.Ground.chain }, { on := 0, ground := Go.Ground.phase }, { on := 1, ground := Go.Ground.textOnly Go.Departure.lateStores }, { on := 2, ground := Go.Ground.textOnly Go.Departure.lateStoresUnsure }, { on := 3, ground := Go.Ground.textOnly Go.Departure.lateStores }, { on := 4, ground := Go.Ground.textOnly Go.Departure.lateStores }], guard := none }) rfl (fun K' hK => ?_) AllReadyH.nil
          rw [if_pos (by rfl)]
          refine wp_store_row 34 (.tmp 2) (.tmp 64) rfl w.heap.size #[.string SS, .int .i64 P.p, .int .i64 P.n, .int .i64 P.t, .int .i64 P.m, .int .i64 P.c, .int .u64 P.bl, .int .u64 P.bo, .int .u64 P.ep, .slice a n c, .int .u64 P.rf, .int .u64 P.sc, .int .i64 P.tg, .int .u64 P.rs] rfl rfl 34 #[.string { data := #[] }, .int .i64 0, .int .i64 0, .int .i64 0, .int .i64 0, .int .i64 0, .int .u64 0, .int .u64 0, .int .u64 0, .slice none 0 0, .int .u64 0, .int .u64 0, .int .i64 0, .int .u64 0] ((HB1.out.block w.heap.size HWL.out).trans HZ.out) sizeRu rfl (by simp [Value.oneCell']) ?_
          refine hK.out _ _ ((setRow_other _ _ _ _ HQW.out).trans hHeld) (fun hHeld1 => ?_)
          clear hK K' hHeld
          have hHeld := hHeld1
          clear hHeld1
          try simp only [Act.put, List.setIfInBounds_toArray, List.set_cons_zero, List.set_cons_succ]
          refine wpAnyH_take (i := 6) (oi := { dst := some 3, op := Go.Op.assign (Go.Operand.tmp 68), type := 4, pos := "ref.go:118", after := #[{ on := 4, ground := Go.Ground.data }, { on := 5, ground := Go.Ground.chain }, { on := 0, ground := Go.Ground.phase }, { on := 1, ground := Go.Ground.phase }, { on := 2, ground := Go.Ground.phase }, { on := 3, ground := Go.Ground.phase }, { on := 4, ground := Go.Ground.phase }, { on := 5, ground := Go.Ground.phase }], guard := none }) (v := ?v6e5) rfl (by kernel_rfl) (by kernel_rfl) (by kernel_rfl) (fun _ _ _ h => h) (Or.inl ⟨by rfl, ?hy6e5⟩) hHeld ?rest6e5
          case hy6e5 =>
            intro W' hV
            try dsimp only at hV
            go_simp
            all_goals with_reducible rfl
          case' rest6e5 => try simp only [Act.put, List.setIfInBounds_toArray, List.set_cons_zero, List.set_cons_succ]
          refine wpAnyH_done (by kernel_rfl) ?_ _
          clear hHeld
          go_wp2
          refine bodyPost_ret (v := .tuple #[.agg #[.string SS, .int .i64 P.p, .int .i64 P.n, .int .i64 P.t, .int .i64 P.m, .int .i64 P.c, .int .u64 P.bl, .int .u64 P.bo, .int .u64 P.ep, .slice a n c, .int .u64 P.rf, .int .u64 P.sc, .int .i64 P.tg, .int .u64 P.rs], .bool (SP.toList == BS.toList)]) (results_paR _ _ w.heap.size _ _ rfl rfl (setRow_heap _ _ _ _ _ _ ((HB1.out.block w.heap.size HWL.out).trans HZ.out)) rfl) rfl ⟨below_setRow (bt HBW.out HB1.out) (Nat.le_refl _) _, .inr ⟨trivial, a, c, ?_, ?_⟩⟩
          · have e1 : (SP.toList == BS.toList) = decide (P.S = b) := by
              rw [HSP.out, HBS.out]
              by_cases h : P.S = b
              · rw [str_eq h, decide_eq_true h]
              · rw [str_ne (SU.S_B2 HPP.out) HBL.out.1 h, decide_eq_false h]
            rw [e1, HON.out.1, HSS.out]
            rfl
          · have e2 : P.L.length = n := HON.out.1.symm
            rw [e2]
            have hk := HB1.out
            refine (HIA.out.on HB1.out).onB fun hp g o e => setRow_other _ _ _ _ ?_
            have h3 := (HON.out.2.lt g (by rw [e]; rfl)).1
            have h1 := HWQ.out
            omega
end Go.Proofs.YtadcgngiofdhcaaDoor
