/- The document's ParseShare. -/
import Derived.Test.YtadcgngiofdhcaaIg
import Derived.BigRegion
import Derived.Deep.RegionHeld
namespace Go.Proofs.Ytadcgngiofdhcaa
open Go.ChangeShapes Go.WideShapes Go.ChangeAt Go.RowKit Go.Shelf
set_option linter.unusedVariables false
set_option linter.unusedSimpArgs false
set_option maxRecDepth 100000
attribute [local go_sem] Oper.semAt_some

theorem run_slice_str_lh (P : Program) (w : World) (t : TypeId) (s : ByteArray) (ht : P.underlying t = some .string) (l h : Int) (h0 : 0 ≤ l) (h1 : l ≤ h) (h2 : h ≤ s.size) :
    (Instr.slice t (.string s) (some (.int .i64 l)) (some (.int .i64 h)) none).run P w = .ok (.string (s.extract l.toNat h.toNat)) w := by
  simp [Instr.slice, run_underlying ht, Instr.sliceBounds, run_sliceBound, sliced, *, (by omega : (h.toNat : Int) = h), (by omega : 0 ≤ h), (by omega : 0 ≤ l)]
def set5 (W : World) (g : Nat) (x0 x1 x2 x3 x4 : Value) : World := ((((W.setCell ⟨g, 0, none⟩ x0).setCell ⟨g, 1, none⟩ x1).setCell ⟨g, 2, none⟩ x2).setCell ⟨g, 3, none⟩ x3).setCell ⟨g, 4, none⟩ x4
theorem set5_row {W : World} {g : Nat} {T : TypeId} {a0 a1 a2 a3 a4 : Value} (x0 x1 x2 x3 x4 : Value) (h : W.heap[g]? = some (.cells #[a0, a1, a2, a3, a4] T (0, 0))) : (set5 W g x0 x1 x2 x3 x4).heap[g]? = some (.cells #[x0, x1, x2, x3, x4] T (0, 0)) :=
  heap_setCell_same _ g 4 _ T x4 (heap_setCell_same _ g 3 _ T x3 (heap_setCell_same _ g 2 _ T x2 (heap_setCell_same _ g 1 _ T x1 (heap_setCell_same _ g 0 _ T x0 h))))
theorem set5_below {B : Nat} {V W : World} (h : Below B V W) {g : Nat} (hg : B ≤ g) (x0 x1 x2 x3 x4 : Value) : Below B V (set5 W g x0 x1 x2 x3 x4) :=
  ((((h.setCell (p := ⟨g, 0, none⟩) hg x0).setCell (p := ⟨g, 1, none⟩) hg x1).setCell (p := ⟨g, 2, none⟩) hg x2).setCell (p := ⟨g, 3, none⟩) hg x3).setCell (p := ⟨g, 4, none⟩) hg x4
theorem str_byte {BS : ByteArray} {b : List Int} (hB : AllB b) (h : BS = strOfNums b) (k : Nat) (hk : k < BS.size) : (((BS[k]'hk).toNat : Nat) : Int) = b.getD k 0 := by
  subst h
  have hk2 : k < b.length := by rw [strOfNums_size] at hk; exact hk
  have h1 : (strOfNums b)[k]'hk = UInt8.ofNat (b[k]'hk2).toNat := by
    show (strOfNums b).data[k]'_ = _
    simp [strOfNums]
  have h2 := hB (b[k]'hk2) (List.getElem_mem hk2)
  rw [h1, List.getD_eq_getElem?_getD, List.getElem?_eq_getElem hk2]
  simp
  omega
theorem sizeShR : (Try.prog.info? 46).map (·.size) = some 5 := by kernel_rfl
theorem results_share (tmps : Array Value) (w : World) (g : Nat) (x0 x1 x2 x3 x4 v : Value) (h2 : tmps.getD 2 undef = .pointer (some ⟨g, 0, none⟩)) (h3 : tmps.getD 3 undef = v) (hg : w.heap[g]? = some (.cells #[x0, x1, x2, x3, x4] 46 (0, 0))) :
    (results Try.f15 tmps).run Try.prog w = .ok (.tuple #[.agg #[x0, x1, x2, x3, x4], v]) w := by
  have h2' : tmps[2]?.getD undef = .pointer (some ⟨g, 0, none⟩) := by simpa using h2
  have h3' : tmps[3]?.getD undef = v := by simpa using h3
  have hr := run_loadVar_row (P := Try.prog) w g 46 46 #[x0, x1, x2, x3, x4] (0, 0) _ hg Try.underlying46 rfl sizeShR
  simp [results, Try.f15, h2', h3', asAddr, hr]
def pshZ (b : List Int) : SH := (psh b).getD ⟨0, 0, 0, 0, []⟩
set_option maxHeartbeats 2000000 in
theorem refParse_any (b : List Int) (hB : AllB b) (hl : b.length ≤ 600) (w : World) :
    Calls Try.prog 15 #[.string (strOfNums b)] w fun e w' => e = .returned (.tuple #[shA (pshZ b), .bool (psh b).isSome]) ∧ Below w.heap.size w w' := by
  obtain ⟨BS, hBS⟩ : ∃ BS, BS = strOfNums b := ⟨_, rfl⟩
  have hsz : BS.size = b.length := by rw [hBS]; exact strOfNums_size b
  obtain ⟨N, hN⟩ : ∃ N, N = b.length := ⟨_, rfl⟩
  rw [← hN] at hsz hl
  have HN := Lib.hid hN
  rw [← hBS]
  by_cases h5 : N = 512
  case neg =>
    have HP := Lib.hid (show psh b = none by unfold psh; exact if_neg (fun h => h5 (by rw [hN]; exact h.1)))
    have q1 : ¬ (N : Int) = 512 := by omega
    clear hBS hN h5
    go_enter Try.func15, Try.ntmps15
    go_wp2
    have hz : pshZ b = ⟨0, 0, 0, 0, []⟩ := by unfold pshZ; rw [HP.out]; rfl
    refine bodyPost_ret (v := .tuple #[.agg #[.int .u8 0, .int .u8 0, .int .u32 0, .int .u64 0, .string { data := #[] }], .bool false]) (results_share _ _ w.heap.size _ _ _ _ _ _ rfl rfl (heap_alloc_new w _)) rfl ⟨?_, (Below.refl _ _).alloc (Nat.le_refl _) _⟩
    rw [hz, HP.out]; rfl
  case pos =>
    have HAT := Lib.hid (show ∀ (k n : Nat) (W : World), k ≤ 512 → n ≤ 8 → Below w.heap.size w W → Calls Try.prog 38 #[.string BS, .int .i64 (k : Nat), .int .i64 (n : Nat)] W fun e w' => e = .returned (.int .u64 (nb b k n)) ∧ Below W.heap.size W w' ∧ Below w.heap.size w w' from fun k n W hk hn hW => by
      rw [hBS]
      exact (refAt_any b k n hB (by omega) (by omega) hn W).mono fun e w' h => ⟨h.1, h.2, bt hW h.2⟩)
    have HNB := Lib.hid (nb_bound hB 16 2)
    obtain ⟨n16, h16⟩ : ∃ n : Nat, nb b 16 2 = (n : Int) := ⟨(nb b 16 2).toNat, by have := (nb_bound hB 16 2).1; omega⟩
    have hn16 : n16 < 65536 := by have := (nb_bound hB 16 2).2; rw [h16] at this; have e : (256 : Int) ^ 2 = 65536 := (by decide); omega
    have HA16 := Lib.hid (show ∀ W, Below w.heap.size w W → Calls Try.prog 38 #[.string BS, .int .i64 16, .int .i64 2] W fun e w' => e = .returned (.int .u64 (n16 : Nat)) ∧ Below W.heap.size W w' ∧ Below w.heap.size w w' from fun W hW => by have h := HAT.out 16 2 W (by omega) (by omega) hW; rw [h16] at h; exact h)
    have H16 := Lib.hid h16
    have hba : Below w.heap.size w (w.alloc (.cells #[.int .u8 0, .int .u8 0, .int .u32 0, .int .u64 0, .string { data := #[] }] 46)) := (Below.refl _ _).alloc (Nat.le_refl _) _
    have hq5 : (N : Int) = 512 := by omega
    by_cases h480 : 480 < n16
    · have HP := Lib.hid (show psh b = none by unfold psh; exact if_neg (fun h => by have := h.2.1; rw [h16] at this; omega))
      have q3 : (480 : Int) < (n16 : Int) := by omega
      clear hBS hN h16
      go_enter Try.func15, Try.ntmps15
      go_wp2_with (go_at_call 38; go_loud (refine (HA16.out _ hba).mono ?_; rintro e w1 ⟨rfl, hb1, hbw1⟩; have hk := (hb1.block w.heap.size (by simp)).trans (heap_alloc_new w _); have HK := Lib.hid hk; have hcc := cell5 hk; have k0 := hcc.1; have k1 := hcc.2.1; have k2 := hcc.2.2.1; have k3 := hcc.2.2.2.1; have k4 := hcc.2.2.2.2; have f0 := frozen_of_row w1 w.heap.size 0 _ _ hk; have f1 := frozen_of_row w1 w.heap.size 1 _ _ hk; have f2 := frozen_of_row w1 w.heap.size 2 _ _ hk; have f3 := frozen_of_row w1 w.heap.size 3 _ _ hk; have f4 := frozen_of_row w1 w.heap.size 4 _ _ hk; clear hcc hk hb1))
      have hz : pshZ b = ⟨0, 0, 0, 0, []⟩ := by unfold pshZ; rw [HP.out]; rfl
      refine bodyPost_ret (v := .tuple #[.agg #[.int .u8 0, .int .u8 0, .int .u32 0, .int .u64 0, .string { data := #[] }], .bool false]) (results_share _ _ w.heap.size _ _ _ _ _ _ rfl rfl (set5_row _ _ _ _ _ HK.out)) rfl ⟨?_, set5_below hbw1 (Nat.le_refl _) _ _ _ _ _⟩
      rw [hz, HP.out]; rfl
    · have q3 : ¬ (480 : Int) < (n16 : Int) := by omega
      have HBS := Lib.hid hBS
      clear hBS hN h16
      go_enter Try.func15, Try.ntmps15
      go_upto_region 6 with (go_at_call 38; go_loud (refine (HA16.out _ hba).mono ?_; rintro e w1 ⟨rfl, hb1, hbw1⟩; have HB1 := Lib.hid hb1; have HBW1 := Lib.hid hbw1; clear hb1 hbw1))
      have HAU := Lib.hid (show ∀ (k n : Nat) (W : World), k ≤ 512 → n ≤ 8 → Below w1.heap.size w1 W → Calls Try.prog 38 #[.string BS, .int .i64 (k : Nat), .int .i64 (n : Nat)] W fun e w' => e = .returned (.int .u64 (nb b k n)) ∧ Below W.heap.size W w' ∧ Below w1.heap.size w1 w' from fun k n W hk hn hW => (HAT.out k n W hk hn (bt HBW1.out hW)).mono fun e w' h => ⟨h.1, h.2.1, bt hW h.2.1⟩)
      obtain ⟨q44, hq44⟩ : ∃ q, q = nb b 4 4 := ⟨_, rfl⟩
      obtain ⟨q88, hq88⟩ : ∃ q, q = nb b 8 8 := ⟨_, rfl⟩
      have hb44 : 0 ≤ q44 ∧ q44 < 4294967296 := by rw [hq44]; exact nb_bound hB 4 4
      have kw4 : ∀ [Inhabited Unit], IntKind.u32.wrap q44 = q44 := by intro _; rw [IntKind.wrap_u32]; omega
      have kw5 : ∀ [Inhabited Unit], IntKind.i64.wrap (32 + (n16 : Int)) = 32 + (n16 : Int) := by intro _; rw [IntKind.wrap_i64]; omega
      have kt : ∀ [Inhabited Unit], (32 + (n16 : Int)).toNat = 32 + n16 := by intro _; omega
      have q6x : (32 + (n16 : Int)) ≤ (N : Int) := by omega
      obtain ⟨RS, hRS⟩ : ∃ RS, RS = strOfNums ((b.drop 32).take n16) := ⟨_, rfl⟩
      have hex : BS.extract 32 (32 + n16) = RS := by rw [HBS.out, hRS, str_cut, List.take_drop]
      have hsl : ∀ W, (Instr.slice 9 (.string BS) (some (.int .i64 32)) (some (.int .i64 (32 + (n16 : Int)))) none).run Try.prog W = .ok (.string RS) W := fun W => by rw [run_slice_str_lh _ _ _ _ Try.underlying9 32 (32 + (n16 : Int)) (by omega) (by omega) (by rw [hsz]; exact q6x), ← hex, kt]; rfl
      have e2 := str_byte hB HBS.out 2 (by rw [hsz]; omega)
      have e3 := str_byte hB HBS.out 3 (by rw [hsz]; omega)
      have E23 := Lib.hid (And.intro e2 e3)
      clear e2 e3
      obtain ⟨y2, hy2⟩ : ∃ y, BS[2]? = some y := ⟨BS[2]'(by rw [hsz]; omega), getElem?_pos BS 2 (by rw [hsz]; omega)⟩
      obtain ⟨y3, hy3⟩ : ∃ y, BS[3]? = some y := ⟨BS[3]'(by rw [hsz]; omega), getElem?_pos BS 3 (by rw [hsz]; omega)⟩
      have HA4 := Lib.hid (show ∀ W, Below w1.heap.size w1 W → Calls Try.prog 38 #[.string BS, .int .i64 4, .int .i64 4] W fun e w' => e = .returned (.int .u64 q44) ∧ Below W.heap.size W w' ∧ Below w1.heap.size w1 w' from fun W hW => by rw [hq44]; exact HAU.out 4 4 W (by omega) (by omega) hW)
      have HA8 := Lib.hid (show ∀ W, Below w1.heap.size w1 W → Calls Try.prog 38 #[.string BS, .int .i64 8, .int .i64 8] W fun e w' => e = .returned (.int .u64 q88) ∧ Below W.heap.size W w' ∧ Below w1.heap.size w1 w' from fun W hW => by rw [hq88]; exact HAU.out 8 8 W (by omega) (by omega) hW)
      have HQ := Lib.hid (And.intro hq44 (And.intro hq88 hRS))
      clear hq44 hq88 hRS
      refine wp_region_held_drew (S := fun U => Below w1.heap.size w1 U) (by kernel_rfl) (Below.refl _ _).drew (fun hHeld => ?_)
      refine wpAnyH_take (i := 0) (oi := { dst := some 16, op := Go.Op.move (Go.Operand.tmp 0), type := 9, pos := "ref.go:55", after := #[], guard := none }) (v := ?v0h4) rfl (by kernel_rfl) (by kernel_rfl) (by kernel_rfl) (fun _ _ _ h => h) (Or.inl ⟨by rfl, ?hy0h4⟩) hHeld ?rest0h4
      case hy0h4 =>
        intro W' hV
        try dsimp only at hV
        go_simp
        all_goals with_reducible rfl
      case' rest0h4 => try simp only [Act.put, List.setIfInBounds_toArray, List.set_cons_zero, List.set_cons_succ]
      refine wpAnyH_take (i := 2) (oi := { dst := some 18, op := Go.Op.move (Go.Operand.tmp 0), type := 9, pos := "ref.go:55", after := #[], guard := none }) (v := ?v2h5) rfl (by kernel_rfl) (by kernel_rfl) (by kernel_rfl) (fun _ _ _ h => h) (Or.inl ⟨by rfl, ?hy2h5⟩) hHeld ?rest2h5
      case hy2h5 =>
        intro W' hV
        try dsimp only at hV
        go_simp
        all_goals with_reducible rfl
      case' rest2h5 => try simp only [Act.put, List.setIfInBounds_toArray, List.set_cons_zero, List.set_cons_succ]
      refine wpAnyH_take (i := 4) (oi := { dst := some 20, op := Go.Op.move (Go.Operand.tmp 0), type := 9, pos := "ref.go:55", after := #[], guard := none }) (v := ?v4h6) rfl (by kernel_rfl) (by kernel_rfl) (by kernel_rfl) (fun _ _ _ h => h) (Or.inl ⟨by rfl, ?hy4h6⟩) hHeld ?rest4h6
      case hy4h6 =>
        intro W' hV
        try dsimp only at hV
        go_simp
        all_goals with_reducible rfl
      case' rest4h6 => try simp only [Act.put, List.setIfInBounds_toArray, List.set_cons_zero, List.set_cons_succ]
      refine wpAnyH_take (i := 7) (oi := { dst := some 23, op := Go.Op.move (Go.Operand.tmp 0), type := 9, pos := "ref.go:55", after := #[], guard := none }) (v := ?v7h7) rfl (by kernel_rfl) (by kernel_rfl) (by kernel_rfl) (fun _ _ _ h => h) (Or.inl ⟨by rfl, ?hy7h7⟩) hHeld ?rest7h7
      case hy7h7 =>
        intro W' hV
        try dsimp only at hV
        go_simp
        all_goals with_reducible rfl
      case' rest7h7 => try simp only [Act.put, List.setIfInBounds_toArray, List.set_cons_zero, List.set_cons_succ]
      refine wpAnyH_take (i := 9) (oi := { dst := some 25, op := Go.Op.move (Go.Operand.tmp 0), type := 9, pos := "ref.go:55", after := #[], guard := none }) (v := ?v9h8) rfl (by kernel_rfl) (by kernel_rfl) (by kernel_rfl) (fun _ _ _ h => h) (Or.inl ⟨by rfl, ?hy9h8⟩) hHeld ?rest9h8
      case hy9h8 =>
        intro W' hV
        try dsimp only at hV
        go_simp
        all_goals with_reducible rfl
      case' rest9h8 => try simp only [Act.put, List.setIfInBounds_toArray, List.set_cons_zero, List.set_cons_succ]
      refine wpAnyH_take (i := 10) (oi := { dst := some 26, op := Go.Op.move (Go.Operand.tmp 4), type := 3, pos := "ref.go:55", after := #[], guard := none }) (v := ?v10h9) rfl (by kernel_rfl) (by kernel_rfl) (by kernel_rfl) (fun _ _ _ h => h) (Or.inl ⟨by rfl, ?hy10h9⟩) hHeld ?rest10h9
      case hy10h9 =>
        intro W' hV
        try dsimp only at hV
        go_simp
        all_goals with_reducible rfl
      case' rest10h9 => try simp only [Act.put, List.setIfInBounds_toArray, List.set_cons_zero, List.set_cons_succ]
      refine wpAnyH_take (i := 11) (oi := { dst := some 27, op := Go.Op.binOp Go.BinOp.add 3 (Go.Operand.const (Go.Value.int Go.IntKind.i64 32)) (Go.Operand.tmp 26) 3, type := 3, pos := "ref.go:55", after := #[{ on := 10, ground := Go.Ground.data }], guard := none }) (v := ?v11h10) rfl (by kernel_rfl) (by kernel_rfl) (by kernel_rfl) (fun _ _ _ h => h) (Or.inl ⟨by rfl, ?hy11h10⟩) hHeld ?rest11h10
      case hy11h10 =>
        intro W' hV
        try dsimp only at hV
        go_simp
        all_goals with_reducible rfl
      case' rest11h10 => try simp only [Act.put, List.setIfInBounds_toArray, List.set_cons_zero, List.set_cons_succ]
      refine wpAnyH_take (i := 1) (oi := { dst := some 17, op := Go.Op.index 9 (Go.Operand.tmp 16) (Go.Operand.const (Go.Value.int Go.IntKind.i64 2)), type := 5, pos := "ref.go:55", after := #[{ on := 0, ground := Go.Ground.data }], guard := none }) (v := ?v1h11) rfl (by kernel_rfl) (by kernel_rfl) (by kernel_rfl) (fun _ _ _ h => h) (Or.inl ⟨by rfl, ?hy1h11⟩) hHeld ?rest1h11
      case hy1h11 =>
        intro W' hV
        try dsimp only at hV
        go_simp
        all_goals with_reducible rfl
      case' rest1h11 => try simp only [Act.put, List.setIfInBounds_toArray, List.set_cons_zero, List.set_cons_succ]
      refine wpAnyH_take (i := 3) (oi := { dst := some 19, op := Go.Op.index 9 (Go.Operand.tmp 18) (Go.Operand.const (Go.Value.int Go.IntKind.i64 3)), type := 5, pos := "ref.go:55", after := #[{ on := 2, ground := Go.Ground.data }], guard := none }) (v := ?v3h12) rfl (by kernel_rfl) (by kernel_rfl) (by kernel_rfl) (fun _ _ _ h => h) (Or.inl ⟨by rfl, ?hy3h12⟩) hHeld ?rest3h12
      case hy3h12 =>
        intro W' hV
        try dsimp only at hV
        go_simp
        all_goals with_reducible rfl
      case' rest3h12 => try simp only [Act.put, List.setIfInBounds_toArray, List.set_cons_zero, List.set_cons_succ]
      refine wpAnyH_take (i := 12) (oi := { dst := some 28, op := Go.Op.slice 9 (Go.Operand.tmp 25) (some (Go.Operand.const (Go.Value.int Go.IntKind.i64 32))) (some (Go.Operand.tmp 27)) none, type := 9, pos := "ref.go:55", after := #[{ on := 9, ground := Go.Ground.data }, { on := 11, ground := Go.Ground.data }], guard := none }) (v := ?v12h13) rfl (by kernel_rfl) (by kernel_rfl) (by kernel_rfl) (fun _ _ _ h => h) (Or.inl ⟨by rfl, ?hy12h13⟩) hHeld ?rest12h13
      case hy12h13 =>
        intro W' hV
        try dsimp only at hV
        go_simp
        all_goals with_reducible rfl
      case' rest12h13 => try simp only [Act.put, List.setIfInBounds_toArray, List.set_cons_zero, List.set_cons_succ]
      refine wpAnyH_ready (rs := [5, 14]) (by kernel_rfl) (by simp) ?_
      refine AllReadyH.cons (o := { dst := some 21, op := Go.Op.call { callee := Go.Callee.value (Go.Operand.func 38), args := #[Go.Operand.tmp 20, Go.Operand.const (Go.Value.int Go.IntKind.i64 4), Go.Operand.const (Go.Value.int Go.IntKind.i64 4)], argTypes := #[9, 3, 3] }, type := 26, pos := "ref.go:55", after := #[{ on := 4, ground := Go.Ground.data }], guard := none }) rfl (fun K' hK => ?_) (AllReadyH.cons (o := { dst := some 5, op := Go.Op.alloc 46, type := 0, pos := "ref.go:55", after := #[], guard := none }) rfl (fun K' hK => ?_) AllReadyH.nil)
      · rw [if_pos (by rfl)]
        go_simp
        go_wp2_with (go_at_call 38; go_loud ((with_reducible refine (HA4.out _ (by first | assumption | exact hHeld)).mono ?_); rintro e w2 ⟨rfl, hb, hbw⟩))
        have HB2 := Lib.hid hb
        clear hb
        refine hK.out _ _ hbw (fun hHeld1 => ?_)
        clear hK K' hHeld
        have hHeld := hHeld1
        clear hHeld1
        try simp only [Act.put, List.setIfInBounds_toArray, List.set_cons_zero, List.set_cons_succ]
        refine wpAnyH_take (i := 6) (oi := { dst := some 22, op := Go.Op.convert 26 25 (Go.Operand.tmp 21), type := 25, pos := "ref.go:55", after := #[{ on := 5, ground := Go.Ground.data }], guard := none }) (v := ?v6h1) rfl (by kernel_rfl) (by kernel_rfl) (by kernel_rfl) (fun _ _ _ h => h) (Or.inl ⟨by rfl, ?hy6h1⟩) hHeld ?rest6h1
        case hy6h1 =>
          intro W' hV
          try dsimp only at hV
          go_simp
          all_goals with_reducible rfl
        case' rest6h1 => try simp only [Act.put, List.setIfInBounds_toArray, List.set_cons_zero, List.set_cons_succ]
        refine wpAnyH_ready (rs := [8, 14]) (by kernel_rfl) (by simp) ?_
        refine AllReadyH.cons (o := { dst := some 24, op := Go.Op.call { callee := Go.Callee.value (Go.Operand.func 38), args := #[Go.Operand.tmp 23, Go.Operand.const (Go.Value.int Go.IntKind.i64 8), Go.Operand.const (Go.Value.int Go.IntKind.i64 8)], argTypes := #[9, 3, 3] }, type := 26, pos := "ref.go:55", after := #[{ on := 7, ground := Go.Ground.data }, { on := 5, ground := Go.Ground.chain }], guard := none }) rfl (fun K' hK => ?_) (AllReadyH.cons (o := { dst := some 5, op := Go.Op.alloc 46, type := 0, pos := "ref.go:55", after := #[], guard := none }) rfl (fun K' hK => ?_) AllReadyH.nil)
        · rw [if_pos (by rfl)]
          go_simp
          go_wp2_with (go_at_call 38; go_loud ((with_reducible refine (HA8.out _ (by first | assumption | exact hHeld)).mono ?_); rintro e w3 ⟨rfl, hb, hbw⟩))
          refine hK.out _ _ hbw (fun hHeld1 => ?_)
          clear hK K' hHeld
          have hHeld := hHeld1
          clear hHeld1
          try simp only [Act.put, List.setIfInBounds_toArray, List.set_cons_zero, List.set_cons_succ]
          refine wpAnyH_take (i := 13) (oi := { dst := some 29, op := Go.Op.build 46 #[(0, Go.Operand.tmp 17), (1, Go.Operand.tmp 19), (2, Go.Operand.tmp 22), (3, Go.Operand.tmp 24), (4, Go.Operand.tmp 28)], type := 46, pos := "ref.go:55", after := #[{ on := 1, ground := Go.Ground.data }, { on := 3, ground := Go.Ground.data }, { on := 6, ground := Go.Ground.data }, { on := 8, ground := Go.Ground.data }, { on := 12, ground := Go.Ground.data }], guard := none }) (v := ?v13h2) rfl (by kernel_rfl) (by kernel_rfl) (by kernel_rfl) (fun _ _ _ h => h) (Or.inl ⟨by rfl, ?hy13h2⟩) hHeld ?rest13h2
          case hy13h2 =>
            intro W' hV
            try dsimp only at hV
            go_simp
            all_goals with_reducible rfl
          case' rest13h2 => try simp only [Act.put, List.setIfInBounds_toArray, List.set_cons_zero, List.set_cons_succ]
          refine wpAnyH_ready (rs := [14]) (by kernel_rfl) (by simp) ?_
          refine AllReadyH.cons (o := { dst := some 5, op := Go.Op.alloc 46, type := 0, pos := "ref.go:55", after := #[], guard := none }) rfl (fun K' hK => ?_) AllReadyH.nil
          rw [if_pos (by rfl)]
          go_simp
          refine hK.out _ _ (hHeld.alloc hHeld.size _) (fun hHeld1 => ?_)
          clear hK K' hHeld
          have hHeld := hHeld1
          clear hHeld1
          try simp only [Act.put, List.setIfInBounds_toArray, List.set_cons_zero, List.set_cons_succ]
          have hbx : (w3.alloc (.cells #[.int .u8 0, .int .u8 0, .int .u32 0, .int .u64 0, .string { data := #[] }] 46)).heap[w3.heap.size]? = some (.cells #[.int .u8 0, .int .u8 0, .int .u32 0, .int .u64 0, .string { data := #[] }] 46 (0, 0)) := heap_alloc_new w3 _
          have hcc := cell5 hbx
          have k0 := hcc.1
          have k1 := hcc.2.1
          have k2 := hcc.2.2.1
          have k3 := hcc.2.2.2.1
          have k4 := hcc.2.2.2.2
          have f0 := frozen_of_row (w3.alloc (.cells #[.int .u8 0, .int .u8 0, .int .u32 0, .int .u64 0, .string { data := #[] }] 46)) (w3.heap.size) 0 _ _ hbx
          have f1 := frozen_of_row (w3.alloc (.cells #[.int .u8 0, .int .u8 0, .int .u32 0, .int .u64 0, .string { data := #[] }] 46)) (w3.heap.size) 1 _ _ hbx
          have f2 := frozen_of_row (w3.alloc (.cells #[.int .u8 0, .int .u8 0, .int .u32 0, .int .u64 0, .string { data := #[] }] 46)) (w3.heap.size) 2 _ _ hbx
          have f3 := frozen_of_row (w3.alloc (.cells #[.int .u8 0, .int .u8 0, .int .u32 0, .int .u64 0, .string { data := #[] }] 46)) (w3.heap.size) 3 _ _ hbx
          have f4 := frozen_of_row (w3.alloc (.cells #[.int .u8 0, .int .u8 0, .int .u32 0, .int .u64 0, .string { data := #[] }] 46)) (w3.heap.size) 4 _ _ hbx
          have HBX := Lib.hid hbx
          clear hcc hbx
          refine wpAnyH_ready (rs := [15]) (by kernel_rfl) (by simp) ?_
          refine AllReadyH.cons (o := { dst := none, op := Go.Op.store 46 (Go.Operand.tmp 5) (Go.Operand.tmp 29), type := 0, pos := "ref.go:55", after := #[{ on := 14, ground := Go.Ground.data }, { on := 13, ground := Go.Ground.data }, { on := 8, ground := Go.Ground.chain }, { on := 0, ground := Go.Ground.phase }, { on := 1, ground := Go.Ground.phase }, { on := 2, ground := Go.Ground.phase }, { on := 3, ground := Go.Ground.phase }, { on := 4, ground := Go.Ground.phase }, { on := 5, ground := Go.Ground.phase }, { on := 6, ground := Go.Ground.phase }, { on := 7, ground := Go.Ground.phase }, { on := 8, ground := Go.Ground.phase }, { on := 9, ground := Go.Ground.phase }, { on := 10, ground := Go.Ground.phase }, { on := 11, ground := Go.Ground.phase }, { on := 12, ground := Go.Ground.phase }, { on := 13, ground := Go.Ground.phase }, { on := 14, ground := Go.Ground.phase }], guard := none }) rfl (fun K' hK => ?_) AllReadyH.nil
          rw [if_pos (by rfl)]
          go_simp
          obtain ⟨gb, hgb⟩ : ∃ g, g = w3.heap.size := ⟨_, rfl⟩
          obtain ⟨W6, hW6⟩ : ∃ W6, W6 = w3.alloc (.cells #[.int .u8 (BS[2]'(by rw [hsz]; omega)).toNat, .int .u8 (BS[3]'(by rw [hsz]; omega)).toNat, .int .u32 q44, .int .u64 q88, .string RS] 46) := ⟨_, rfl⟩
          have hrow : W6.heap[gb]? = some (.cells #[.int .u8 (BS[2]'(by rw [hsz]; omega)).toNat, .int .u8 (BS[3]'(by rw [hsz]; omega)).toNat, .int .u32 q44, .int .u64 q88, .string RS] 46 (0, 0)) := by rw [hW6, hgb]; exact heap_alloc_new w3 _
          have hbw6 : Below w1.heap.size w1 W6 := by rw [hW6]; exact hbw.alloc hbw.size _
          unfold set5 at hW6
          rw [← hW6, ← hgb]
          refine hK.out _ _ hbw6 (fun hHeld1 => ?_)
          clear hK K' hHeld
          have hHeld := hHeld1
          clear hHeld1
          try simp only [Act.put, List.setIfInBounds_toArray, List.set_cons_zero, List.set_cons_succ]
          refine wpAnyH_done (by kernel_rfl) ?_ _
          clear hHeld
          clear hW6 hgb
          have hlg : gb < W6.heap.size := (Array.getElem?_eq_some_iff.1 hrow).1
          have hl1 : w.heap.size < w1.heap.size := by have := HB1.out.size; simp only [World.size_alloc] at this; omega
          have hz1 : w1.heap[w.heap.size]? = some (.cells #[.int .u8 0, .int .u8 0, .int .u32 0, .int .u64 0, .string { data := #[] }] 46 (0, 0)) := (HB1.out.block w.heap.size (by simp)).trans (heap_alloc_new w _)
          have hz6 := (hbw6.block w.heap.size hl1).trans hz1
          have hlz : w.heap.size < W6.heap.size := (Array.getElem?_eq_some_iff.1 hz6).1
          have HZ6 := Lib.hid hz6
          have HR6 := Lib.hid hrow
          have HBW := Lib.hid (bt HBW1.out hbw6)
          obtain ⟨R, hR⟩ : ∃ R, R = pshR b := ⟨_, rfl⟩
          have HRR := Lib.hid hR
          have HWF := Lib.hid (pshR_wf hB)
          have hA : (.agg #[.int .u8 (BS[2]'(by rw [hsz]; omega)).toNat, .int .u8 (BS[3]'(by rw [hsz]; omega)).toNat, .int .u32 q44, .int .u64 q88, .string RS] : Value) = shA R := by
            rw [hR]
            unfold shA pshR
            rw [E23.out.1, E23.out.2, HQ.out.1, HQ.out.2.1, HQ.out.2.2, H16.out]
            rfl
          have HA := Lib.hid hA
          have hrl : R.row.length ≤ 512 := by
            rw [hR]; unfold pshR; dsimp only; rw [List.length_take, H16.out]; omega
          obtain ⟨SL, hSL⟩ : ∃ SL, SL = R.S := ⟨_, rfl⟩
          obtain ⟨SS, hSS⟩ : ∃ SS, SS = strOfNums SL := ⟨_, rfl⟩
          have HSH := Lib.hid (show ∀ W, Calls Try.prog 13 #[.agg #[.int .u8 (BS[2]'(by rw [hsz]; omega)).toNat, .int .u8 (BS[3]'(by rw [hsz]; omega)).toNat, .int .u32 q44, .int .u64 q88, .string RS]] W fun e w' => e = .returned (.string SS) ∧ Below W.heap.size W w' from fun W => by
            rw [hA, hSS, hSL]
            exact refShare_any R (by rw [hR]; exact HWF.out) hrl W)
          have hSB : AllB SL := by
            rw [hSL]; unfold SH.S; split
            · exact SH.B_B (by rw [hR]; exact HWF.out)
            · exact fun x hx => absurd hx (List.not_mem_nil)
          have hcc := cell5 hrow
          have k0 := hcc.1
          have k1 := hcc.2.1
          have k2 := hcc.2.2.1
          have k3 := hcc.2.2.2.1
          have k4 := hcc.2.2.2.2
          clear hcc hA
          by_cases hS : SL = b
          · have hc : (SS.toList == BS.toList) = true := by rw [hSS, HBS.out]; exact str_eq hS
            have hP : psh b = some R := by
              rw [hSL] at hS
              unfold SH.S at hS
              have h5n : b.length = 512 := by rw [← HN.out]; exact h5
              by_cases ho : R.Ok
              · rw [if_pos ho] at hS
                unfold psh
                rw [← hR]
                exact if_pos ⟨h5n, by rw [H16.out]; omega, ho, hS⟩
              · rw [if_neg ho] at hS
                rw [← hS] at h5n
                simp at h5n
            have HP := Lib.hid hP
            clear hS hSL hSS hR hP hSB HQ HNB hrow hz6 hz1 hex hq5 q3 hn16 hrl HRR
            go_wp2_with (go_at_call 13; go_loud (refine (HSH.out _).mono ?_; rintro e w7 ⟨rfl, hb7⟩; have hk7 := (hb7.block gb hlg).trans HR6.out; have HK7 := Lib.hid hk7; have hd := cell5 hk7; have m0 := hd.1; have m1 := hd.2.1; have m2 := hd.2.2.1; have m3 := hd.2.2.2.1; have m4 := hd.2.2.2.2; have hz7 := (hb7.block w.heap.size hlz).trans HZ6.out; have HZ7 := Lib.hid hz7; have hd2 := cell5 hz7; have z0 := hd2.1; have z1 := hd2.2.1; have z2 := hd2.2.2.1; have z3 := hd2.2.2.2.1; have z4 := hd2.2.2.2.2; have g0 := frozen_of_row w7 w.heap.size 0 _ _ hz7; have g1 := frozen_of_row w7 w.heap.size 1 _ _ hz7; have g2 := frozen_of_row w7 w.heap.size 2 _ _ hz7; have g3 := frozen_of_row w7 w.heap.size 3 _ _ hz7; have g4 := frozen_of_row w7 w.heap.size 4 _ _ hz7; have HB7 := Lib.hid hb7; clear hd hd2 hk7 hz7 hb7))
            have hz : pshZ b = R := by unfold pshZ; rw [HP.out]; rfl
            have hbw8 : Below w.heap.size w w7 := bt HBW.out HB7.out
            refine bodyPost_ret (v := .tuple #[.agg #[.int .u8 (BS[2]'(by rw [hsz]; omega)).toNat, .int .u8 (BS[3]'(by rw [hsz]; omega)).toNat, .int .u32 q44, .int .u64 q88, .string RS], .bool true]) (results_share _ _ w.heap.size _ _ _ _ _ _ rfl rfl (set5_row _ _ _ _ _ HZ7.out)) rfl ⟨?_, set5_below hbw8 (Nat.le_refl _) _ _ _ _ _⟩
            rw [hz, HP.out, HA.out]; rfl
          · have hc : (SS.toList == BS.toList) = false := by rw [hSS, HBS.out]; exact str_ne hSB hB hS
            have hP : psh b = none := by
              unfold psh
              rw [← hR]
              refine if_neg fun h => hS ?_
              rw [hSL]
              unfold SH.S
              rw [if_pos h.2.2.1]
              exact h.2.2.2
            have HP := Lib.hid hP
            clear hS hSL hSS hR hP hSB HQ HNB hrow hz6 hz1 hex hq5 q3 hn16 hrl HRR
            go_wp2_with (go_at_call 13; go_loud (refine (HSH.out _).mono ?_; rintro e w7 ⟨rfl, hb7⟩; have hk7 := (hb7.block gb hlg).trans HR6.out; have HK7 := Lib.hid hk7; have hd := cell5 hk7; have m0 := hd.1; have m1 := hd.2.1; have m2 := hd.2.2.1; have m3 := hd.2.2.2.1; have m4 := hd.2.2.2.2; have hz7 := (hb7.block w.heap.size hlz).trans HZ6.out; have HZ7 := Lib.hid hz7; have hd2 := cell5 hz7; have z0 := hd2.1; have z1 := hd2.2.1; have z2 := hd2.2.2.1; have z3 := hd2.2.2.2.1; have z4 := hd2.2.2.2.2; have g0 := frozen_of_row w7 w.heap.size 0 _ _ hz7; have g1 := frozen_of_row w7 w.heap.size 1 _ _ hz7; have g2 := frozen_of_row w7 w.heap.size 2 _ _ hz7; have g3 := frozen_of_row w7 w.heap.size 3 _ _ hz7; have g4 := frozen_of_row w7 w.heap.size 4 _ _ hz7; have HB7 := Lib.hid hb7; clear hd hd2 hk7 hz7 hb7))
            have hz : pshZ b = ⟨0, 0, 0, 0, []⟩ := by unfold pshZ; rw [HP.out]; rfl
            have hbw8 : Below w.heap.size w w7 := bt HBW.out HB7.out
            refine bodyPost_ret (v := .tuple #[.agg #[.int .u8 0, .int .u8 0, .int .u32 0, .int .u64 0, .string { data := #[] }], .bool false]) (results_share _ _ w.heap.size _ _ _ _ _ _ rfl rfl (set5_row _ _ _ _ _ HZ7.out)) rfl ⟨?_, set5_below hbw8 (Nat.le_refl _) _ _ _ _ _⟩
            rw [hz, HP.out]; rfl
        · rw [if_pos (by rfl)]
          have hHw2 := hHeld.size
          go_simp
          refine hK.out _ _ (hHeld.alloc hHeld.size _) (fun hHeld1 => ?_)
          clear hK K' hHeld
          have hHeld := hHeld1
          clear hHeld1
          try simp only [Act.put, List.setIfInBounds_toArray, List.set_cons_zero, List.set_cons_succ]
          refine wpAnyH_ready (rs := [8]) (by kernel_rfl) (by simp) ?_
          refine AllReadyH.cons (o := { dst := some 24, op := Go.Op.call { callee := Go.Callee.value (Go.Operand.func 38), args := #[Go.Operand.tmp 23, Go.Operand.const (Go.Value.int Go.IntKind.i64 8), Go.Operand.const (Go.Value.int Go.IntKind.i64 8)], argTypes := #[9, 3, 3] }, type := 26, pos := "ref.go:55", after := #[{ on := 7, ground := Go.Ground.data }, { on := 5, ground := Go.Ground.chain }], guard := none }) rfl (fun K' hK => ?_) AllReadyH.nil
          rw [if_pos (by rfl)]
          go_simp
          go_wp2_with (go_at_call 38; go_loud ((with_reducible refine (HA8.out _ (by first | assumption | exact hHeld)).mono ?_); rintro e w3 ⟨rfl, hb, hbw⟩))
          have hbx : w3.heap[w2.heap.size]? = some (.cells #[.int .u8 0, .int .u8 0, .int .u32 0, .int .u64 0, .string { data := #[] }] 46 (0, 0)) := (hb.block w2.heap.size (by simp)).trans (heap_alloc_new w2 _)
          refine hK.out _ _ hbw (fun hHeld1 => ?_)
          clear hK K' hHeld
          have hHeld := hHeld1
          clear hHeld1
          try simp only [Act.put, List.setIfInBounds_toArray, List.set_cons_zero, List.set_cons_succ]
          refine wpAnyH_take (i := 13) (oi := { dst := some 29, op := Go.Op.build 46 #[(0, Go.Operand.tmp 17), (1, Go.Operand.tmp 19), (2, Go.Operand.tmp 22), (3, Go.Operand.tmp 24), (4, Go.Operand.tmp 28)], type := 46, pos := "ref.go:55", after := #[{ on := 1, ground := Go.Ground.data }, { on := 3, ground := Go.Ground.data }, { on := 6, ground := Go.Ground.data }, { on := 8, ground := Go.Ground.data }, { on := 12, ground := Go.Ground.data }], guard := none }) (v := ?v13h3) rfl (by kernel_rfl) (by kernel_rfl) (by kernel_rfl) (fun _ _ _ h => h) (Or.inl ⟨by rfl, ?hy13h3⟩) hHeld ?rest13h3
          case hy13h3 =>
            intro W' hV
            try dsimp only at hV
            go_simp
            all_goals with_reducible rfl
          case' rest13h3 => try simp only [Act.put, List.setIfInBounds_toArray, List.set_cons_zero, List.set_cons_succ]
          have hcc := cell5 hbx
          have k0 := hcc.1
          have k1 := hcc.2.1
          have k2 := hcc.2.2.1
          have k3 := hcc.2.2.2.1
          have k4 := hcc.2.2.2.2
          have f0 := frozen_of_row w3 (w2.heap.size) 0 _ _ hbx
          have f1 := frozen_of_row w3 (w2.heap.size) 1 _ _ hbx
          have f2 := frozen_of_row w3 (w2.heap.size) 2 _ _ hbx
          have f3 := frozen_of_row w3 (w2.heap.size) 3 _ _ hbx
          have f4 := frozen_of_row w3 (w2.heap.size) 4 _ _ hbx
          have HBX := Lib.hid hbx
          clear hcc hbx
          refine wpAnyH_ready (rs := [15]) (by kernel_rfl) (by simp) ?_
          refine AllReadyH.cons (o := { dst := none, op := Go.Op.store 46 (Go.Operand.tmp 5) (Go.Operand.tmp 29), type := 0, pos := "ref.go:55", after := #[{ on := 14, ground := Go.Ground.data }, { on := 13, ground := Go.Ground.data }, { on := 8, ground := Go.Ground.chain }, { on := 0, ground := Go.Ground.phase }, { on := 1, ground := Go.Ground.phase }, { on := 2, ground := Go.Ground.phase }, { on := 3, ground := Go.Ground.phase }, { on := 4, ground := Go.Ground.phase }, { on := 5, ground := Go.Ground.phase }, { on := 6, ground := Go.Ground.phase }, { on := 7, ground := Go.Ground.phase }, { on := 8, ground := Go.Ground.phase }, { on := 9, ground := Go.Ground.phase }, { on := 10, ground := Go.Ground.phase }, { on := 11, ground := Go.Ground.phase }, { on := 12, ground := Go.Ground.phase }, { on := 13, ground := Go.Ground.phase }, { on := 14, ground := Go.Ground.phase }], guard := none }) rfl (fun K' hK => ?_) AllReadyH.nil
          rw [if_pos (by rfl)]
          go_simp
          obtain ⟨gb, hgb⟩ : ∃ g, g = w2.heap.size := ⟨_, rfl⟩
          obtain ⟨W6, hW6⟩ : ∃ W6, W6 = set5 w3 w2.heap.size (.int .u8 (BS[2]'(by rw [hsz]; omega)).toNat) (.int .u8 (BS[3]'(by rw [hsz]; omega)).toNat) (.int .u32 q44) (.int .u64 q88) (.string RS) := ⟨_, rfl⟩
          have hrow : W6.heap[gb]? = some (.cells #[.int .u8 (BS[2]'(by rw [hsz]; omega)).toNat, .int .u8 (BS[3]'(by rw [hsz]; omega)).toNat, .int .u32 q44, .int .u64 q88, .string RS] 46 (0, 0)) := by rw [hW6, hgb]; exact set5_row _ _ _ _ _ HBX.out
          have hbw6 : Below w1.heap.size w1 W6 := by rw [hW6]; exact set5_below hbw hHw2 _ _ _ _ _
          unfold set5 at hW6
          rw [← hW6, ← hgb]
          refine hK.out _ _ hbw6 (fun hHeld1 => ?_)
          clear hK K' hHeld
          have hHeld := hHeld1
          clear hHeld1
          try simp only [Act.put, List.setIfInBounds_toArray, List.set_cons_zero, List.set_cons_succ]
          refine wpAnyH_done (by kernel_rfl) ?_ _
          clear hHeld
          clear hW6 hgb
          have hlg : gb < W6.heap.size := (Array.getElem?_eq_some_iff.1 hrow).1
          have hl1 : w.heap.size < w1.heap.size := by have := HB1.out.size; simp only [World.size_alloc] at this; omega
          have hz1 : w1.heap[w.heap.size]? = some (.cells #[.int .u8 0, .int .u8 0, .int .u32 0, .int .u64 0, .string { data := #[] }] 46 (0, 0)) := (HB1.out.block w.heap.size (by simp)).trans (heap_alloc_new w _)
          have hz6 := (hbw6.block w.heap.size hl1).trans hz1
          have hlz : w.heap.size < W6.heap.size := (Array.getElem?_eq_some_iff.1 hz6).1
          have HZ6 := Lib.hid hz6
          have HR6 := Lib.hid hrow
          have HBW := Lib.hid (bt HBW1.out hbw6)
          obtain ⟨R, hR⟩ : ∃ R, R = pshR b := ⟨_, rfl⟩
          have HRR := Lib.hid hR
          have HWF := Lib.hid (pshR_wf hB)
          have hA : (.agg #[.int .u8 (BS[2]'(by rw [hsz]; omega)).toNat, .int .u8 (BS[3]'(by rw [hsz]; omega)).toNat, .int .u32 q44, .int .u64 q88, .string RS] : Value) = shA R := by
            rw [hR]
            unfold shA pshR
            rw [E23.out.1, E23.out.2, HQ.out.1, HQ.out.2.1, HQ.out.2.2, H16.out]
            rfl
          have HA := Lib.hid hA
          have hrl : R.row.length ≤ 512 := by
            rw [hR]; unfold pshR; dsimp only; rw [List.length_take, H16.out]; omega
          obtain ⟨SL, hSL⟩ : ∃ SL, SL = R.S := ⟨_, rfl⟩
          obtain ⟨SS, hSS⟩ : ∃ SS, SS = strOfNums SL := ⟨_, rfl⟩
          have HSH := Lib.hid (show ∀ W, Calls Try.prog 13 #[.agg #[.int .u8 (BS[2]'(by rw [hsz]; omega)).toNat, .int .u8 (BS[3]'(by rw [hsz]; omega)).toNat, .int .u32 q44, .int .u64 q88, .string RS]] W fun e w' => e = .returned (.string SS) ∧ Below W.heap.size W w' from fun W => by
            rw [hA, hSS, hSL]
            exact refShare_any R (by rw [hR]; exact HWF.out) hrl W)
          have hSB : AllB SL := by
            rw [hSL]; unfold SH.S; split
            · exact SH.B_B (by rw [hR]; exact HWF.out)
            · exact fun x hx => absurd hx (List.not_mem_nil)
          have hcc := cell5 hrow
          have k0 := hcc.1
          have k1 := hcc.2.1
          have k2 := hcc.2.2.1
          have k3 := hcc.2.2.2.1
          have k4 := hcc.2.2.2.2
          clear hcc hA
          by_cases hS : SL = b
          · have hc : (SS.toList == BS.toList) = true := by rw [hSS, HBS.out]; exact str_eq hS
            have hP : psh b = some R := by
              rw [hSL] at hS
              unfold SH.S at hS
              have h5n : b.length = 512 := by rw [← HN.out]; exact h5
              by_cases ho : R.Ok
              · rw [if_pos ho] at hS
                unfold psh
                rw [← hR]
                exact if_pos ⟨h5n, by rw [H16.out]; omega, ho, hS⟩
              · rw [if_neg ho] at hS
                rw [← hS] at h5n
                simp at h5n
            have HP := Lib.hid hP
            clear hS hSL hSS hR hP hSB HQ HNB hrow hz6 hz1 hex hq5 q3 hn16 hrl HRR
            go_wp2_with (go_at_call 13; go_loud (refine (HSH.out _).mono ?_; rintro e w7 ⟨rfl, hb7⟩; have hk7 := (hb7.block gb hlg).trans HR6.out; have HK7 := Lib.hid hk7; have hd := cell5 hk7; have m0 := hd.1; have m1 := hd.2.1; have m2 := hd.2.2.1; have m3 := hd.2.2.2.1; have m4 := hd.2.2.2.2; have hz7 := (hb7.block w.heap.size hlz).trans HZ6.out; have HZ7 := Lib.hid hz7; have hd2 := cell5 hz7; have z0 := hd2.1; have z1 := hd2.2.1; have z2 := hd2.2.2.1; have z3 := hd2.2.2.2.1; have z4 := hd2.2.2.2.2; have g0 := frozen_of_row w7 w.heap.size 0 _ _ hz7; have g1 := frozen_of_row w7 w.heap.size 1 _ _ hz7; have g2 := frozen_of_row w7 w.heap.size 2 _ _ hz7; have g3 := frozen_of_row w7 w.heap.size 3 _ _ hz7; have g4 := frozen_of_row w7 w.heap.size 4 _ _ hz7; have HB7 := Lib.hid hb7; clear hd hd2 hk7 hz7 hb7))
            have hz : pshZ b = R := by unfold pshZ; rw [HP.out]; rfl
            have hbw8 : Below w.heap.size w w7 := bt HBW.out HB7.out
            refine bodyPost_ret (v := .tuple #[.agg #[.int .u8 (BS[2]'(by rw [hsz]; omega)).toNat, .int .u8 (BS[3]'(by rw [hsz]; omega)).toNat, .int .u32 q44, .int .u64 q88, .string RS], .bool true]) (results_share _ _ w.heap.size _ _ _ _ _ _ rfl rfl (set5_row _ _ _ _ _ HZ7.out)) rfl ⟨?_, set5_below hbw8 (Nat.le_refl _) _ _ _ _ _⟩
            rw [hz, HP.out, HA.out]; rfl
          · have hc : (SS.toList == BS.toList) = false := by rw [hSS, HBS.out]; exact str_ne hSB hB hS
            have hP : psh b = none := by
              unfold psh
              rw [← hR]
              refine if_neg fun h => hS ?_
              rw [hSL]
              unfold SH.S
              rw [if_pos h.2.2.1]
              exact h.2.2.2
            have HP := Lib.hid hP
            clear hS hSL hSS hR hP hSB HQ HNB hrow hz6 hz1 hex hq5 q3 hn16 hrl HRR
            go_wp2_with (go_at_call 13; go_loud (refine (HSH.out _).mono ?_; rintro e w7 ⟨rfl, hb7⟩; have hk7 := (hb7.block gb hlg).trans HR6.out; have HK7 := Lib.hid hk7; have hd := cell5 hk7; have m0 := hd.1; have m1 := hd.2.1; have m2 := hd.2.2.1; have m3 := hd.2.2.2.1; have m4 := hd.2.2.2.2; have hz7 := (hb7.block w.heap.size hlz).trans HZ6.out; have HZ7 := Lib.hid hz7; have hd2 := cell5 hz7; have z0 := hd2.1; have z1 := hd2.2.1; have z2 := hd2.2.2.1; have z3 := hd2.2.2.2.1; have z4 := hd2.2.2.2.2; have g0 := frozen_of_row w7 w.heap.size 0 _ _ hz7; have g1 := frozen_of_row w7 w.heap.size 1 _ _ hz7; have g2 := frozen_of_row w7 w.heap.size 2 _ _ hz7; have g3 := frozen_of_row w7 w.heap.size 3 _ _ hz7; have g4 := frozen_of_row w7 w.heap.size 4 _ _ hz7; have HB7 := Lib.hid hb7; clear hd hd2 hk7 hz7 hb7))
            have hz : pshZ b = ⟨0, 0, 0, 0, []⟩ := by unfold pshZ; rw [HP.out]; rfl
            have hbw8 : Below w.heap.size w w7 := bt HBW.out HB7.out
            refine bodyPost_ret (v := .tuple #[.agg #[.int .u8 0, .int .u8 0, .int .u32 0, .int .u64 0, .string { data := #[] }], .bool false]) (results_share _ _ w.heap.size _ _ _ _ _ _ rfl rfl (set5_row _ _ _ _ _ HZ7.out)) rfl ⟨?_, set5_below hbw8 (Nat.le_refl _) _ _ _ _ _⟩
            rw [hz, HP.out]; rfl
      · rw [if_pos (by rfl)]
        go_simp
        refine hK.out _ _ (hHeld.alloc hHeld.size _) (fun hHeld1 => ?_)
        clear hK K' hHeld
        have hHeld := hHeld1
        clear hHeld1
        try simp only [Act.put, List.setIfInBounds_toArray, List.set_cons_zero, List.set_cons_succ]
        refine wpAnyH_ready (rs := [5]) (by kernel_rfl) (by simp) ?_
        refine AllReadyH.cons (o := { dst := some 21, op := Go.Op.call { callee := Go.Callee.value (Go.Operand.func 38), args := #[Go.Operand.tmp 20, Go.Operand.const (Go.Value.int Go.IntKind.i64 4), Go.Operand.const (Go.Value.int Go.IntKind.i64 4)], argTypes := #[9, 3, 3] }, type := 26, pos := "ref.go:55", after := #[{ on := 4, ground := Go.Ground.data }], guard := none }) rfl (fun K' hK => ?_) AllReadyH.nil
        rw [if_pos (by rfl)]
        go_simp
        go_wp2_with (go_at_call 38; go_loud ((with_reducible refine (HA4.out _ (by first | assumption | exact hHeld)).mono ?_); rintro e w2 ⟨rfl, hb, hbw⟩))
        have hbx2 : w2.heap[w1.heap.size]? = some (.cells #[.int .u8 0, .int .u8 0, .int .u32 0, .int .u64 0, .string { data := #[] }] 46 (0, 0)) := (hb.block w1.heap.size (by simp)).trans (heap_alloc_new w1.drew _)
        refine hK.out _ _ hbw (fun hHeld1 => ?_)
        clear hK K' hHeld
        have hHeld := hHeld1
        clear hHeld1
        try simp only [Act.put, List.setIfInBounds_toArray, List.set_cons_zero, List.set_cons_succ]
        refine wpAnyH_take (i := 6) (oi := { dst := some 22, op := Go.Op.convert 26 25 (Go.Operand.tmp 21), type := 25, pos := "ref.go:55", after := #[{ on := 5, ground := Go.Ground.data }], guard := none }) (v := ?v6h14) rfl (by kernel_rfl) (by kernel_rfl) (by kernel_rfl) (fun _ _ _ h => h) (Or.inl ⟨by rfl, ?hy6h14⟩) hHeld ?rest6h14
        case hy6h14 =>
          intro W' hV
          try dsimp only at hV
          go_simp
          all_goals with_reducible rfl
        case' rest6h14 => try simp only [Act.put, List.setIfInBounds_toArray, List.set_cons_zero, List.set_cons_succ]
        refine wpAnyH_ready (rs := [8]) (by kernel_rfl) (by simp) ?_
        refine AllReadyH.cons (o := { dst := some 24, op := Go.Op.call { callee := Go.Callee.value (Go.Operand.func 38), args := #[Go.Operand.tmp 23, Go.Operand.const (Go.Value.int Go.IntKind.i64 8), Go.Operand.const (Go.Value.int Go.IntKind.i64 8)], argTypes := #[9, 3, 3] }, type := 26, pos := "ref.go:55", after := #[{ on := 7, ground := Go.Ground.data }, { on := 5, ground := Go.Ground.chain }], guard := none }) rfl (fun K' hK => ?_) AllReadyH.nil
        rw [if_pos (by rfl)]
        go_simp
        go_wp2_with (go_at_call 38; go_loud ((with_reducible refine (HA8.out _ (by first | assumption | exact hHeld)).mono ?_); rintro e w3 ⟨rfl, hb, hbw⟩))
        have hbx : w3.heap[w1.heap.size]? = some (.cells #[.int .u8 0, .int .u8 0, .int .u32 0, .int .u64 0, .string { data := #[] }] 46 (0, 0)) := (hb.block w1.heap.size (Array.getElem?_eq_some_iff.1 hbx2).1).trans hbx2
        refine hK.out _ _ hbw (fun hHeld1 => ?_)
        clear hK K' hHeld
        have hHeld := hHeld1
        clear hHeld1
        try simp only [Act.put, List.setIfInBounds_toArray, List.set_cons_zero, List.set_cons_succ]
        refine wpAnyH_take (i := 13) (oi := { dst := some 29, op := Go.Op.build 46 #[(0, Go.Operand.tmp 17), (1, Go.Operand.tmp 19), (2, Go.Operand.tmp 22), (3, Go.Operand.tmp 24), (4, Go.Operand.tmp 28)], type := 46, pos := "ref.go:55", after := #[{ on := 1, ground := Go.Ground.data }, { on := 3, ground := Go.Ground.data }, { on := 6, ground := Go.Ground.data }, { on := 8, ground := Go.Ground.data }, { on := 12, ground := Go.Ground.data }], guard := none }) (v := ?v13h15) rfl (by kernel_rfl) (by kernel_rfl) (by kernel_rfl) (fun _ _ _ h => h) (Or.inl ⟨by rfl, ?hy13h15⟩) hHeld ?rest13h15
        case hy13h15 =>
          intro W' hV
          try dsimp only at hV
          go_simp
          all_goals with_reducible rfl
        case' rest13h15 => try simp only [Act.put, List.setIfInBounds_toArray, List.set_cons_zero, List.set_cons_succ]
        have hcc := cell5 hbx
        have k0 := hcc.1
        have k1 := hcc.2.1
        have k2 := hcc.2.2.1
        have k3 := hcc.2.2.2.1
        have k4 := hcc.2.2.2.2
        have f0 := frozen_of_row w3 (w1.heap.size) 0 _ _ hbx
        have f1 := frozen_of_row w3 (w1.heap.size) 1 _ _ hbx
        have f2 := frozen_of_row w3 (w1.heap.size) 2 _ _ hbx
        have f3 := frozen_of_row w3 (w1.heap.size) 3 _ _ hbx
        have f4 := frozen_of_row w3 (w1.heap.size) 4 _ _ hbx
        have HBX := Lib.hid hbx
        clear hcc hbx
        refine wpAnyH_ready (rs := [15]) (by kernel_rfl) (by simp) ?_
        refine AllReadyH.cons (o := { dst := none, op := Go.Op.store 46 (Go.Operand.tmp 5) (Go.Operand.tmp 29), type := 0, pos := "ref.go:55", after := #[{ on := 14, ground := Go.Ground.data }, { on := 13, ground := Go.Ground.data }, { on := 8, ground := Go.Ground.chain }, { on := 0, ground := Go.Ground.phase }, { on := 1, ground := Go.Ground.phase }, { on := 2, ground := Go.Ground.phase }, { on := 3, ground := Go.Ground.phase }, { on := 4, ground := Go.Ground.phase }, { on := 5, ground := Go.Ground.phase }, { on := 6, ground := Go.Ground.phase }, { on := 7, ground := Go.Ground.phase }, { on := 8, ground := Go.Ground.phase }, { on := 9, ground := Go.Ground.phase }, { on := 10, ground := Go.Ground.phase }, { on := 11, ground := Go.Ground.phase }, { on := 12, ground := Go.Ground.phase }, { on := 13, ground := Go.Ground.phase }, { on := 14, ground := Go.Ground.phase }], guard := none }) rfl (fun K' hK => ?_) AllReadyH.nil
        rw [if_pos (by rfl)]
        go_simp
        obtain ⟨gb, hgb⟩ : ∃ g, g = w1.heap.size := ⟨_, rfl⟩
        obtain ⟨W6, hW6⟩ : ∃ W6, W6 = set5 w3 w1.heap.size (.int .u8 (BS[2]'(by rw [hsz]; omega)).toNat) (.int .u8 (BS[3]'(by rw [hsz]; omega)).toNat) (.int .u32 q44) (.int .u64 q88) (.string RS) := ⟨_, rfl⟩
        have hrow : W6.heap[gb]? = some (.cells #[.int .u8 (BS[2]'(by rw [hsz]; omega)).toNat, .int .u8 (BS[3]'(by rw [hsz]; omega)).toNat, .int .u32 q44, .int .u64 q88, .string RS] 46 (0, 0)) := by rw [hW6, hgb]; exact set5_row _ _ _ _ _ HBX.out
        have hbw6 : Below w1.heap.size w1 W6 := by rw [hW6]; exact set5_below hbw (Nat.le_refl _) _ _ _ _ _
        unfold set5 at hW6
        rw [← hW6, ← hgb]
        refine hK.out _ _ hbw6 (fun hHeld1 => ?_)
        clear hK K' hHeld
        have hHeld := hHeld1
        clear hHeld1
        try simp only [Act.put, List.setIfInBounds_toArray, List.set_cons_zero, List.set_cons_succ]
        refine wpAnyH_done (by kernel_rfl) ?_ _
        clear hHeld
        clear hW6 hgb
        have hlg : gb < W6.heap.size := (Array.getElem?_eq_some_iff.1 hrow).1
        have hl1 : w.heap.size < w1.heap.size := by have := HB1.out.size; simp only [World.size_alloc] at this; omega
        have hz1 : w1.heap[w.heap.size]? = some (.cells #[.int .u8 0, .int .u8 0, .int .u32 0, .int .u64 0, .string { data := #[] }] 46 (0, 0)) := (HB1.out.block w.heap.size (by simp)).trans (heap_alloc_new w _)
        have hz6 := (hbw6.block w.heap.size hl1).trans hz1
        have hlz : w.heap.size < W6.heap.size := (Array.getElem?_eq_some_iff.1 hz6).1
        have HZ6 := Lib.hid hz6
        have HR6 := Lib.hid hrow
        have HBW := Lib.hid (bt HBW1.out hbw6)
        obtain ⟨R, hR⟩ : ∃ R, R = pshR b := ⟨_, rfl⟩
        have HRR := Lib.hid hR
        have HWF := Lib.hid (pshR_wf hB)
        have hA : (.agg #[.int .u8 (BS[2]'(by rw [hsz]; omega)).toNat, .int .u8 (BS[3]'(by rw [hsz]; omega)).toNat, .int .u32 q44, .int .u64 q88, .string RS] : Value) = shA R := by
          rw [hR]
          unfold shA pshR
          rw [E23.out.1, E23.out.2, HQ.out.1, HQ.out.2.1, HQ.out.2.2, H16.out]
          rfl
        have HA := Lib.hid hA
        have hrl : R.row.length ≤ 512 := by
          rw [hR]; unfold pshR; dsimp only; rw [List.length_take, H16.out]; omega
        obtain ⟨SL, hSL⟩ : ∃ SL, SL = R.S := ⟨_, rfl⟩
        obtain ⟨SS, hSS⟩ : ∃ SS, SS = strOfNums SL := ⟨_, rfl⟩
        have HSH := Lib.hid (show ∀ W, Calls Try.prog 13 #[.agg #[.int .u8 (BS[2]'(by rw [hsz]; omega)).toNat, .int .u8 (BS[3]'(by rw [hsz]; omega)).toNat, .int .u32 q44, .int .u64 q88, .string RS]] W fun e w' => e = .returned (.string SS) ∧ Below W.heap.size W w' from fun W => by
          rw [hA, hSS, hSL]
          exact refShare_any R (by rw [hR]; exact HWF.out) hrl W)
        have hSB : AllB SL := by
          rw [hSL]; unfold SH.S; split
          · exact SH.B_B (by rw [hR]; exact HWF.out)
          · exact fun x hx => absurd hx (List.not_mem_nil)
        have hcc := cell5 hrow
        have k0 := hcc.1
        have k1 := hcc.2.1
        have k2 := hcc.2.2.1
        have k3 := hcc.2.2.2.1
        have k4 := hcc.2.2.2.2
        clear hcc hA
        by_cases hS : SL = b
        · have hc : (SS.toList == BS.toList) = true := by rw [hSS, HBS.out]; exact str_eq hS
          have hP : psh b = some R := by
            rw [hSL] at hS
            unfold SH.S at hS
            have h5n : b.length = 512 := by rw [← HN.out]; exact h5
            by_cases ho : R.Ok
            · rw [if_pos ho] at hS
              unfold psh
              rw [← hR]
              exact if_pos ⟨h5n, by rw [H16.out]; omega, ho, hS⟩
            · rw [if_neg ho] at hS
              rw [← hS] at h5n
              simp at h5n
          have HP := Lib.hid hP
          clear hS hSL hSS hR hP hSB HQ HNB hrow hz6 hz1 hex hq5 q3 hn16 hrl HRR
          go_wp2_with (go_at_call 13; go_loud (refine (HSH.out _).mono ?_; rintro e w7 ⟨rfl, hb7⟩; have hk7 := (hb7.block gb hlg).trans HR6.out; have HK7 := Lib.hid hk7; have hd := cell5 hk7; have m0 := hd.1; have m1 := hd.2.1; have m2 := hd.2.2.1; have m3 := hd.2.2.2.1; have m4 := hd.2.2.2.2; have hz7 := (hb7.block w.heap.size hlz).trans HZ6.out; have HZ7 := Lib.hid hz7; have hd2 := cell5 hz7; have z0 := hd2.1; have z1 := hd2.2.1; have z2 := hd2.2.2.1; have z3 := hd2.2.2.2.1; have z4 := hd2.2.2.2.2; have g0 := frozen_of_row w7 w.heap.size 0 _ _ hz7; have g1 := frozen_of_row w7 w.heap.size 1 _ _ hz7; have g2 := frozen_of_row w7 w.heap.size 2 _ _ hz7; have g3 := frozen_of_row w7 w.heap.size 3 _ _ hz7; have g4 := frozen_of_row w7 w.heap.size 4 _ _ hz7; have HB7 := Lib.hid hb7; clear hd hd2 hk7 hz7 hb7))
          have hz : pshZ b = R := by unfold pshZ; rw [HP.out]; rfl
          have hbw8 : Below w.heap.size w w7 := bt HBW.out HB7.out
          refine bodyPost_ret (v := .tuple #[.agg #[.int .u8 (BS[2]'(by rw [hsz]; omega)).toNat, .int .u8 (BS[3]'(by rw [hsz]; omega)).toNat, .int .u32 q44, .int .u64 q88, .string RS], .bool true]) (results_share _ _ w.heap.size _ _ _ _ _ _ rfl rfl (set5_row _ _ _ _ _ HZ7.out)) rfl ⟨?_, set5_below hbw8 (Nat.le_refl _) _ _ _ _ _⟩
          rw [hz, HP.out, HA.out]; rfl
        · have hc : (SS.toList == BS.toList) = false := by rw [hSS, HBS.out]; exact str_ne hSB hB hS
          have hP : psh b = none := by
            unfold psh
            rw [← hR]
            refine if_neg fun h => hS ?_
            rw [hSL]
            unfold SH.S
            rw [if_pos h.2.2.1]
            exact h.2.2.2
          have HP := Lib.hid hP
          clear hS hSL hSS hR hP hSB HQ HNB hrow hz6 hz1 hex hq5 q3 hn16 hrl HRR
          go_wp2_with (go_at_call 13; go_loud (refine (HSH.out _).mono ?_; rintro e w7 ⟨rfl, hb7⟩; have hk7 := (hb7.block gb hlg).trans HR6.out; have HK7 := Lib.hid hk7; have hd := cell5 hk7; have m0 := hd.1; have m1 := hd.2.1; have m2 := hd.2.2.1; have m3 := hd.2.2.2.1; have m4 := hd.2.2.2.2; have hz7 := (hb7.block w.heap.size hlz).trans HZ6.out; have HZ7 := Lib.hid hz7; have hd2 := cell5 hz7; have z0 := hd2.1; have z1 := hd2.2.1; have z2 := hd2.2.2.1; have z3 := hd2.2.2.2.1; have z4 := hd2.2.2.2.2; have g0 := frozen_of_row w7 w.heap.size 0 _ _ hz7; have g1 := frozen_of_row w7 w.heap.size 1 _ _ hz7; have g2 := frozen_of_row w7 w.heap.size 2 _ _ hz7; have g3 := frozen_of_row w7 w.heap.size 3 _ _ hz7; have g4 := frozen_of_row w7 w.heap.size 4 _ _ hz7; have HB7 := Lib.hid hb7; clear hd hd2 hk7 hz7 hb7))
          have hz : pshZ b = ⟨0, 0, 0, 0, []⟩ := by unfold pshZ; rw [HP.out]; rfl
          have hbw8 : Below w.heap.size w w7 := bt HBW.out HB7.out
          refine bodyPost_ret (v := .tuple #[.agg #[.int .u8 0, .int .u8 0, .int .u32 0, .int .u64 0, .string { data := #[] }], .bool false]) (results_share _ _ w.heap.size _ _ _ _ _ _ rfl rfl (set5_row _ _ _ _ _ HZ7.out)) rfl ⟨?_, set5_below hbw8 (Nat.le_refl _) _ _ _ _ _⟩
          rw [hz, HP.out]; rfl
end Go.Proofs.Ytadcgngiofdhcaa
