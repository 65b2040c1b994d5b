/- Texts of mine, one behind the other: Hk. -/
import Derived.Test.YtappfdbmhgifcaaGreatDoorZS16
import Derived.Test.YtappfdbmhgifcaaGreatDoorZS18
import Derived.Test.YtappfdbmhgifcaaGreatDoorZS20
import Derived.Test.YtappfdbmhgifcaaGreatDoorZS07
import Derived.BigQuiet
import Derived.Deep.QuietTactic
import Derived.Deep.AppendLies
import Derived.Deep.RegionHeld
/- The document's Package (written by gen17_hk.py out of the walk of AontWraps). -/
namespace Go.Proofs.YtappfdbmhgifcaaGreatDoor
open Go.ChangeShapes Go.WideShapes Go.ChangeAt Go.RowKit Go.Shelf
set_option linter.unusedVariables false
set_option linter.unusedSimpArgs false
set_option maxRecDepth 100000

theorem wpList_append_l8 {P : Program} {w : World} {ops : Array Oper} {rest : List Oper} {o : Oper} {a : Act} {Q : Exit → Act → World → Prop} (hgd : o.guard = none) (s x : Operand) (t : TypeId)
    (ho : o.op = .call { callee := .builtin .append, args := #[s, x], argTypes := #[t, t] })
    (base : Nat) (e : TypeId) (i : TypeInfo) (ht : P.underlying t = some (.slice e)) (hi : P.info? e = some i) (hz : i.zero = some (.int .u8 0)) (hsize : i.size = 1) (hby : i.bytes = 1)
    (v : Value) (n : Nat) (l : List Int) (hs : a.eval s = v) (hown : w.ownsRow base e 1 v n (l.map (Value.int .u8)))
    (g : Nat) (y : Int) (hx : a.eval x = .slice (some ⟨g, 0, none⟩) 1 1) (hB : w.cell? ⟨g, 0, none⟩ = some (.int .u8 y)) (hn : n + 1 ≤ 140737488355328) (hbase : base ≤ w.heap.size) (Hs : Nat) (hH : w.heap.size = Hs)
    (h : ∀ g' c' w', w'.ownsRow base e 1 (.slice (some ⟨g', 0, none⟩) (n + 1) c') (n + 1) ((l ++ [y]).map (Value.int .u8)) → w.grownBy w' v.ownBlock → (v.ownBlock = some g' ∨ g' = Hs) → wpList P ops Q rest (a.put o.dst (.slice (some ⟨g', 0, none⟩) (n + 1) c')) w') :
    wpList P ops Q (o :: rest) a w := by
  refine wpList_append_lies w hgd s x t ho base e i (.int .u8 0) 1 1 ht hi hz hsize hby rfl (by decide) v n (l.map (Value.int .u8)) hs hown ⟨g, 0, none⟩ 1 1 [.int .u8 y] hx rfl ?_ ?_ (by decide) (by unfold maxLen; omega) (by omega) hbase Hs hH ?_
  · intro j u hj
    cases j with
    | zero =>
      have hu : u = .int .u8 y := (Option.some.inj hj).symm
      rw [hu]
      exact hB
    | succ j => cases hj
  · intro u hu
    cases List.mem_singleton.1 hu
    rfl
  · intro g' cap w' h1 h2 h3 _
    exact h g' cap w' (by rw [List.map_append]; exact h1) h2 h3
theorem arg8_but {w w' : World} {r : Option Nat} {g n c : Nat} {l : List Int} (h : Arg8 w (some ⟨g, 0, none⟩) n c l) (hg : w.grownBy w' r) (hn : 0 < n) (hne : r ≠ some g) : Arg8 w' (some ⟨g, 0, none⟩) n c l := by
  obtain ⟨h1, h2, h3, h4, h5⟩ := h
  refine ⟨h1, h2, fun h0 => ?_, h4, h5⟩
  obtain ⟨b, off, e, hb, hc⟩ := h3 h0
  cases e
  exact ⟨g, 0, rfl, Nat.lt_of_lt_of_le hb hg.size, fun i hi => (hg.cell_far ⟨g, 0 + i, none⟩ hb (fun e => hne e.symm)).trans (hc i hi)⟩
theorem row8_but {w w' : World} {r : Option Nat} {g n : Nat} {l : List Int} (h : Row8 w g n l) (hg : w.grownBy w' r) (hne : r ≠ some g) : Row8 w' g n l :=
  ⟨h.1, h.2.1, Nat.lt_of_lt_of_le h.2.2.1 hg.size, fun i hi => (hg.cell_far ⟨g, i, none⟩ h.2.2.1 (fun e => hne e.symm)).trans (h.2.2.2 i hi)⟩
theorem arg8_at {w : World} {g o n c : Nat} {l : List Int} (h : Arg8 w (some ⟨g, o, none⟩) n c l) {i : Nat} (hi : i < n) : w.cell? ⟨g, o + i, none⟩ = some (.int .u8 (l.getD i 0)) := by
  obtain ⟨hl, _, hb, _⟩ := h
  obtain ⟨b, off, e, _, hc⟩ := hb.at_ (k := i) (by omega)
  cases e
  exact hc
theorem arg8_lt {w : World} {g o n c : Nat} {l : List Int} (h : Arg8 w (some ⟨g, o, none⟩) n c l) (hn : 0 < n) : g < w.heap.size := by
  obtain ⟨b, off, e, hb, _⟩ := h.2.2.1 (by rw [h.1]; exact hn)
  cases e
  exact hb
theorem refPutZ (X : Int) (h0 : 0 ≤ X) (h1 : X < 18446744073709551616) (w : World) :
    Calls Tryz.prog 59 #[.int .u64 X, .int .i64 8] w fun e w' => ∃ g, e = .returned (.slice (some ⟨g, 0, none⟩) 8 8) ∧ Arg8 w' (some ⟨g, 0, none⟩) 8 8 (be 8 X) ∧ Below w.heap.size w w' := by
  refine (show Calls Tryz.prog 59 #[.int .u64 X, .int .i64 8] w _ from refPut 8 (by omega) X h0 h1 w).mono ?_
  rintro e w' ⟨g, rfl, ho, hb⟩
  exact ⟨g, rfl, (own_any ho (allB_be _ _)).1, hb⟩
theorem refEncZ (a : Option Addr) (c : Nat) (K : List Int) (a2 : Option Addr) (c2 : Nat) (X : Nat) (w : World) (hx : Arg8 w a 32 c K) (hy : Arg8 w a2 16 c2 (Z8 ++ be 8 (X : Int))) :
    Calls Tryz.prog 58 #[.slice a (32 : Nat) c, .slice a2 (16 : Nat) c2] w fun e w' => ∃ g, e = .returned (.slice (some ⟨g, 0, none⟩) 16 16) ∧ Arg8 w' (some ⟨g, 0, none⟩) 16 16 (strf K Z8 X) ∧ Below w.heap.size w w' ∧ w.heap.size ≤ g := by
  unfold strf encL keyW
  rw [hx.1]
  exact refEnc_new a 32 c 8 K a2 c2 _ w hx (Or.inr rfl) rfl hy
theorem hid_at {K B : List Int} (hK : AllB K) (hB : AllB B) {i : Nat} (hi : i < B.length) : (hidL K B).getD i 0 = bits .xor .u8 (B.getD i 0) ((strf K Z8 (i / 16)).getD (i % 16) 0) := by
  have wx := allB_getD hB i
  have wy := allB_getD (strf_B hK Z8 (i / 16)) (i % 16)
  rw [u8_xor _ _ wx.1 wx.2 wy.1 wy.2]
  unfold hidL
  rw [xorL_getD (by rw [length_stL, Nat.min_self]; exact hi), getD_stL _ _ hi, Nat.zero_add]
  rfl
theorem xor_at {x y : List Int} (hx : AllB x) (hy : AllB y) {i : Nat} (h1 : i < x.length) (h2 : i < y.length) : (xorL x y).getD i 0 = bits .xor .u8 (x.getD i 0) (y.getD i 0) := by
  have wx := allB_getD hx i
  have wy := allB_getD hy i
  rw [u8_xor _ _ wx.1 wx.2 wy.1 wy.2, xorL_getD (by omega)]
/-- Rows of one's own: what a round of the first loop knows. -/
def WS (f : Nat → List Int) (base : Nat) (C : List Int) (i : Nat) (v X : Value) (wr : World) : Prop :=
  ∃ a c, v = .slice a i c ∧ wr.ownsRow base 5 1 (.slice a i c) i ((C.take i).map (Value.int .u8)) ∧
    (i = 0 ∨ ∃ gx : Nat, X = .slice (some ⟨gx, 0, none⟩) 16 16 ∧ Arg8 wr (some ⟨gx, 0, none⟩) 16 16 (f ((i - 1) / 16)) ∧ (Value.slice a i c).ownBlock ≠ some gx)
set_option maxHeartbeats 8000000 in
theorem refPkg_int (a1 : Option Addr) (L1 c1 : Nat) (B : List Int) (bk ok cK : Nat) (K : List Int) (w : World) (hB : Arg8c w a1 L1 c1 B) (hK : Arg8 w (some ⟨bk, ok, none⟩) 32 cK K) (hL : L1 ≤ 500) :
    Calls Tryz.prog 32 #[.slice a1 L1 c1, .slice (some ⟨bk, ok, none⟩) 32 cK] w fun e w' => ∃ a c, e = .returned (.slice a (1 + (L1 + 32)) c) ∧ Arg8c w' a (1 + (L1 + 32)) c ([1] ++ pkgL K B) ∧ Below w.heap.size w w' := by
  obtain ⟨i5, hi, hz0, hz1, hz2⟩ := info_parts info5
  have HI := Lib.hid hi
  have HZ0 := Lib.hid hz0
  have HZ1 := Lib.hid hz1
  have HZ2 := Lib.hid hz2
  clear hi hz0 hz1 hz2
  have HK := Lib.hid hK
  have HX := Lib.hid hB
  have HL := Lib.hid hL
  have HBB := Lib.hid (show AllB B from hB.1.2.1)
  have HBL := Lib.hid (show B.length = L1 from hB.1.1)
  have HKB := Lib.hid (show AllB K from hK.2.1)
  have HKL := Lib.hid (show K.length = 32 from hK.1)
  have HCL := Lib.hid (show (hidL K B).length = L1 by rw [hidL_len]; exact hB.1.1)
  have HCB := Lib.hid (hidL_B HKB.out hB.1.2.1)
  have HCV := Lib.hid (show ∀ i, i < L1 → (hidL K B).getD i 0 = bits .xor .u8 (B.getD i 0) ((strf K Z8 (i / 16)).getD (i % 16) 0) from fun i hi => hid_at HKB.out HBB.out (by rw [HBL.out]; exact hi))
  have HENC := Lib.hid (fun (a : Option Addr) (c : Nat) (a2 : Option Addr) (c2 X : Nat) (W : World) (h1 : Arg8 W a 32 c K) (h2 : Arg8 W a2 16 c2 (Z8 ++ be 8 (X : Int))) => refEncZ a c K a2 c2 X W h1 h2)
  have HPK := Lib.hid (show pkgL K B = hidL K B ++ xorL K (shaL (hidL K B)) from rfl)
  have HPB := Lib.hid (pkgL_B HKB.out HBB.out)
  have HMA := Lib.hid (fun W : World => (own_any (own_made (w := W) (e := 5) (n := 8) (by unfold maxLen; omega)) Z8_B).1)
  have hmk := run_make_row' (P := Tryz.prog) 22 5 (.int .u8 0) 1 Tryz.underlying22 info5 rfl .i64 .i64 8 (by omega) (by omega)
  rw [show ((8 : Nat) : Int) = 2 * 4 from rfl] at hmk
  simp only [Int.reduceMul] at hmk
  have HMK := Lib.hid hmk
  clear hmk
  have HBZ := Lib.hid (Below.refl w.heap.size w)
  have hkd := hK.2.2.2
  clear hB hL hK
  obtain ⟨P, hP⟩ : ∃ P, P = pkgL K B := ⟨_, rfl⟩
  obtain ⟨C, hC⟩ : ∃ C, C = hidL K B := ⟨_, rfl⟩
  obtain ⟨f, hf⟩ : ∃ f, f = strf K Z8 := ⟨_, rfl⟩
  have HPP := Lib.hid hP
  rw [← hP] at HPK HPB
  rw [← hC] at HPK HCL HCB HCV
  rw [← hf] at HCV
  have HENC : Hid (∀ (a : Option Addr) (c : Nat) (a2 : Option Addr) (c2 X : Nat) (W : World), Arg8 W a 32 c K → Arg8 W a2 16 c2 (Z8 ++ be 8 (X : Int)) → Calls Tryz.prog 58 #[.slice a (32 : Nat) c, .slice a2 (16 : Nat) c2] W fun e w' => ∃ g, e = .returned (.slice (some ⟨g, 0, none⟩) 16 16) ∧ Arg8 w' (some ⟨g, 0, none⟩) 16 16 (f X) ∧ Below W.heap.size W w' ∧ W.heap.size ≤ g) := by
    rw [hf]; exact HENC
  clear hP hC hf
  obtain ⟨base, hbase⟩ : ∃ n, n = w.heap.size := ⟨_, rfl⟩
  have HBS := Lib.hid hbase
  have HS0 := Lib.hid (show ((w.alloc (.cells #[] 5)).alloc (.cells #[] 5)).ownsRow base 5 1 (.slice (some ⟨w.heap.size, 0, none⟩) 0 0) 0 ((([] : List Int)).map (Value.int .u8)) from by
    rw [hbase]
    exact (World.ownsRow_lit (base := w.heap.size) (e := 5) (size := 1) w #[] 0 (Nat.le_refl _) (Nat.zero_le _) rfl).alloc _)
  have HB0 := Lib.hid (show Below w.heap.size w ((w.alloc (.cells #[] 5)).alloc (.cells #[] 5)) from ((Below.refl _ _).alloc (Nat.le_refl _) _).alloc (by simp) _)
  clear hbase
  go_enter Tryz.func32, Tryz.ntmps32
  go_wp2_with fail
  go_loopw [5, 6, 16] (fun v X q wr => ∃ i : Nat, i ≤ L1 ∧ q = .int .i64 (i : Nat) ∧ WS f base C i v X wr ∧ Below w.heap.size w wr) (fun _ _ q _ => L1 - (intOf q).toNat)
  case atStart => exact ⟨0, by omega, rfl, ⟨_, 0, rfl, HS0.out, Or.inl rfl⟩, HB0.out⟩
  case round =>
    obtain ⟨i, hi, rfl, ⟨av, cv, rfl, hown, hs⟩, hbel⟩ := hrel
    rename World => V
    have HOV := Lib.hid hown
    have HSV := Lib.hid hs
    have HBV := Lib.hid hbel
    have HKV := Lib.hid (HK.out.on hbel)
    clear hown hs hbel
    by_cases hlt : i < L1
    · have HLT := Lib.hid hlt
      have HXV := Lib.hid (HX.out.1.on (bt HBZ.out HBV.out))
      obtain ⟨bb, ob, rfl⟩ := arg_some HXV.out (by omega)
      have hcb := arg8_at HXV.out hlt
      obtain ⟨X1, hX1⟩ : ∃ X, X = B.getD i 0 := ⟨_, rfl⟩
      rw [← hX1] at hcb
      have HX1 := Lib.hid hX1
      have wx := allB_getD HBB.out i
      rw [← hX1] at wx
      obtain ⟨Cq, hCq⟩ : ∃ c, c = i / 16 := ⟨_, rfl⟩
      obtain ⟨R, hR⟩ : ∃ r, r = i % 16 := ⟨_, rfl⟩
      have HCQ := Lib.hid hCq.symm
      have HRQ := Lib.hid hR.symm
      have HR16 := Lib.hid (show R < 16 by omega)
      have qR : (i : Int) % 16 = (R : Int) := by omega
      have qi : (i : Int) < (L1 : Int) := by omega
      have HCB16 := Lib.hid (show (0 : Int) ≤ (Cq : Int) ∧ (Cq : Int) < 18446744073709551616 by have := HL.out; omega)
      have HPUT := Lib.hid (fun W : World => refPutZ (Cq : Int) HCB16.out.1 HCB16.out.2 W)
      have qD : (i : Int).tdiv 16 = (Cq : Int) := by rw [Int.tdiv_eq_ediv_of_nonneg (by omega)]; omega
      have qE : (i : Int) / 16 = (Cq : Int) := by omega
      have qb : (0 : Int) ≤ (Cq : Int) ∧ (Cq : Int) ≤ 500 := by have := HL.out; omega
      obtain ⟨qb1, qb2⟩ := qb
      have kw1 : ∀ [Inhabited Unit], IntKind.i64.wrap (Cq : Int) = (Cq : Int) := by intro _; rw [IntKind.wrap_i64]; omega
      have kw2 : ∀ [Inhabited Unit], IntKind.u64.wrap (Cq : Int) = (Cq : Int) := by intro _; rw [IntKind.wrap_u64]; omega
      clear hX1 hCq hR
      by_cases h0 : R = 0
      · have q1 : ((R : Int) == 0) = true := by simp; omega
        clear h0
        go_wp2_with fail
        have hmk := HMK.out
        try simp only [List.getElem_toArray, List.getElem_cons_succ, List.getElem_cons_zero, List.setIfInBounds_toArray, List.set_cons_zero, List.set_cons_succ, Act.put]
        refine wp_region_held_drew (S := fun U => Below V.heap.size V U) (by kernel_rfl) (Below.refl _ _).drew (fun hHeld => ?_)
        refine wpAnyH_take (i := 0) (oi := { dst := some 24, op := Go.Op.move (Go.Operand.tmp 1), type := 22, pos := "ref.go:17", after := #[], guard := none }) (v := ?v0r1) rfl (by kernel_rfl) (by kernel_rfl) (by kernel_rfl) (fun _ _ _ h => h) (Or.inl ⟨by rfl, ?hy0r1⟩) hHeld ?rest0r1
        case hy0r1 =>
          intro W' hV
          try dsimp only at hV
          go_simp
          all_goals with_reducible rfl
        case' rest0r1 => try simp only [Act.put, List.setIfInBounds_toArray, List.set_cons_zero, List.set_cons_succ]
        refine wpAnyH_take (i := 2) (oi := { dst := some 26, op := Go.Op.move (Go.Operand.tmp 7), type := 3, pos := "ref.go:17", after := #[], guard := none }) (v := ?v2r2) rfl (by kernel_rfl) (by kernel_rfl) (by kernel_rfl) (fun _ _ _ h => h) (Or.inl ⟨by rfl, ?hy2r2⟩) hHeld ?rest2r2
        case hy2r2 =>
          intro W' hV
          try dsimp only at hV
          go_simp
          all_goals with_reducible rfl
        case' rest2r2 => try simp only [Act.put, List.setIfInBounds_toArray, List.set_cons_zero, List.set_cons_succ]
        refine wpAnyH_take (i := 3) (oi := { dst := some 27, op := Go.Op.binOp Go.BinOp.quo 3 (Go.Operand.tmp 26) (Go.Operand.const (Go.Value.int Go.IntKind.i64 16)) 3, type := 3, pos := "ref.go:17", after := #[{ on := 2, ground := Go.Ground.data }], guard := none }) (v := ?v3r3) rfl (by kernel_rfl) (by kernel_rfl) (by kernel_rfl) (fun _ _ _ h => h) (Or.inl ⟨by rfl, ?hy3r3⟩) hHeld ?rest3r3
        case hy3r3 =>
          intro W' hV
          try dsimp only at hV
          go_simp
          all_goals with_reducible rfl
        case' rest3r3 => try simp only [Act.put, List.setIfInBounds_toArray, List.set_cons_zero, List.set_cons_succ]
        refine wpAnyH_take (i := 4) (oi := { dst := some 28, op := Go.Op.convert 3 90 (Go.Operand.tmp 27), type := 90, pos := "ref.go:17", after := #[{ on := 3, ground := Go.Ground.data }], guard := none }) (v := ?v4r4) rfl (by kernel_rfl) (by kernel_rfl) (by kernel_rfl) (fun _ _ _ h => h) (Or.inl ⟨by rfl, ?hy4r4⟩) hHeld ?rest4r4
        case hy4r4 =>
          intro W' hV
          try dsimp only at hV
          go_simp
          all_goals with_reducible rfl
        case' rest4r4 => try simp only [Act.put, List.setIfInBounds_toArray, List.set_cons_zero, List.set_cons_succ]
        refine wpAnyH_ready (rs := [1, 5]) (by kernel_rfl) (by simp) ?_
        refine AllReadyH.cons (o := { dst := some 25, op := Go.Op.makeSlice 22 (Go.Operand.const (Go.Value.int Go.IntKind.i64 8)) (Go.Operand.const (Go.Value.int Go.IntKind.i64 8)), type := 22, pos := "ref.go:17", after := #[], guard := none }) rfl (fun K' hK => ?_) (AllReadyH.cons (o := { dst := some 29, op := Go.Op.call { callee := Go.Callee.value (Go.Operand.func 59), args := #[Go.Operand.tmp 28, Go.Operand.const (Go.Value.int Go.IntKind.i64 8)], argTypes := #[90, 3] }, type := 22, pos := "ref.go:17", after := #[{ on := 4, ground := Go.Ground.data }], guard := none }) rfl (fun K' hK => ?_) AllReadyH.nil)
        · rw [if_pos (by rfl)]
          go_simp
          refine hK.out _ _ (hHeld.alloc hHeld.size _) (fun hHeld1 => ?_)
          clear hK K' hHeld
          have hHeld := hHeld1
          clear hHeld1
          try simp only [Act.put, List.setIfInBounds_toArray, List.set_cons_zero, List.set_cons_succ]
          refine wpAnyH_ready (rs := [5]) (by kernel_rfl) (by simp) ?_
          refine AllReadyH.cons (o := { dst := some 29, op := Go.Op.call { callee := Go.Callee.value (Go.Operand.func 59), args := #[Go.Operand.tmp 28, Go.Operand.const (Go.Value.int Go.IntKind.i64 8)], argTypes := #[90, 3] }, type := 22, pos := "ref.go:17", after := #[{ on := 4, ground := Go.Ground.data }], guard := none }) rfl (fun K' hK => ?_) AllReadyH.nil
          rw [if_pos (by rfl)]
          go_simp
          go_wp2_with (go_at_call 59; go_loud ((with_reducible refine (HPUT.out _).mono ?_); rintro e w7 ⟨g7, rfl, hp, hb⟩))
          have HP7 := Lib.hid hp
          have hb7 := bt hHeld hb
          have HM7 := Lib.hid ((HMA.out V.drew).on hb)
          have HB7 := Lib.hid hb7
          clear hp hb hb7
          refine hK.out _ _ HB7.out (fun hHeld1 => ?_)
          clear hK K' hHeld
          have hHeld := hHeld1
          clear hHeld1
          try simp only [Act.put, List.setIfInBounds_toArray, List.set_cons_zero, List.set_cons_succ]
          refine wpAnyH_ready (rs := [6]) (by kernel_rfl) (by simp) ?_
          refine AllReadyH.cons (o := { dst := some 30, op := Go.Op.call { callee := Go.Callee.builtin Go.Builtin.append, args := #[Go.Operand.tmp 25, Go.Operand.tmp 29], argTypes := #[22, 22] }, type := 22, pos := "ref.go:17", after := #[{ on := 1, ground := Go.Ground.data }, { on := 5, ground := Go.Ground.data }, { on := 5, ground := Go.Ground.chain }], guard := none }) rfl (fun K' hK => ?_) AllReadyH.nil
          rw [if_pos (by rfl)]
          refine wp_append_full (.tmp 25) (.tmp 29) 22 rfl 5 i5 Tryz.underlying22 HI.out HZ0.out HZ1.out HZ2.out (some ⟨V.heap.size, 0, none⟩) 8 8 Z8 (by rfl) HM7.out (by omega) (some ⟨g7, 0, none⟩) 8 8 (be 8 (Cq : Int)) (by rfl) HP7.out (by omega) (by omega) (by omega) ?_
          intro g8 cap8 w8 hx hb
          have HX8 := Lib.hid hx
          have HB8 := Lib.hid (bt hHeld hb)
          clear hx hb
          refine hK.out _ _ HB8.out (fun hHeld1 => ?_)
          clear hK K' hHeld
          have hHeld := hHeld1
          clear hHeld1
          try simp only [Act.put, List.setIfInBounds_toArray, List.set_cons_zero, List.set_cons_succ]
          refine wpAnyH_ready (rs := [7]) (by kernel_rfl) (by simp) ?_
          refine AllReadyH.cons (o := { dst := some 31, op := Go.Op.call { callee := Go.Callee.value (Go.Operand.func 58), args := #[Go.Operand.tmp 24, Go.Operand.tmp 30], argTypes := #[22, 22] }, type := 22, pos := "ref.go:17", after := #[{ on := 0, ground := Go.Ground.data }, { on := 6, ground := Go.Ground.data }, { on := 6, ground := Go.Ground.chain }], guard := none }) rfl (fun K' hK => ?_) AllReadyH.nil
          rw [if_pos (by rfl)]
          go_simp
          go_wp2_with (go_at_call 58; (with_reducible refine (HENC.out (some ⟨bk, ok, none⟩) cK (some ⟨g8, 0, none⟩) cap8 Cq w8 (HKV.out.on HB8.out) HX8.out).mono ?_); rintro e w9 ⟨g9, rfl, ha, hb, hg9⟩)
          have HE9 := Lib.hid ha
          have HB9 := Lib.hid (bt HB8.out hb)
          have HG9 := Lib.hid (show V.heap.size ≤ g9 from Nat.le_trans HB8.out.size hg9)
          clear ha hb hg9
          refine hK.out _ _ HB9.out (fun hHeld1 => ?_)
          clear hK K' hHeld
          have hHeld := hHeld1
          clear hHeld1
          try simp only [Act.put, List.setIfInBounds_toArray, List.set_cons_zero, List.set_cons_succ]
          refine wpAnyH_take (i := 8) (oi := { dst := some 6, op := Go.Op.assign (Go.Operand.tmp 31), type := 22, pos := "ref.go:17", after := #[{ on := 7, ground := Go.Ground.data }, { on := 7, ground := Go.Ground.chain }, { on := 0, ground := Go.Ground.phase }, { on := 1, ground := Go.Ground.phase }, { on := 2, ground := Go.Ground.phase }, { on := 3, ground := Go.Ground.phase }, { on := 4, ground := Go.Ground.phase }, { on := 5, ground := Go.Ground.phase }, { on := 6, ground := Go.Ground.phase }, { on := 7, ground := Go.Ground.phase }], guard := none }) (v := ?v8ra1) rfl (by kernel_rfl) (by kernel_rfl) (by kernel_rfl) (fun _ _ _ h => h) (Or.inl ⟨by rfl, ?hy8ra1⟩) hHeld ?rest8ra1
          case hy8ra1 =>
            intro W' hV
            try dsimp only at hV
            go_simp
            all_goals with_reducible rfl
          case' rest8ra1 => try simp only [Act.put, List.setIfInBounds_toArray, List.set_cons_zero, List.set_cons_succ]
          refine wpAnyH_done (by kernel_rfl) ?_ _
          clear hHeld
          have hcx := arg8_at HE9.out HR16.out
          rw [Nat.zero_add] at hcx
          obtain ⟨Y1, hY⟩ : ∃ Y, Y = (f Cq).getD R 0 := ⟨_, rfl⟩
          have HYV := Lib.hid (show C.getD i 0 = bits .xor .u8 X1 Y1 by rw [HCV.out i HLT.out, HCQ.out, HRQ.out, hY, HX1.out])
          rw [← hY] at hcx
          have HOW := Lib.hid (own_belowK HOV.out HB9.out)
          have HNE := Lib.hid (show (Value.slice av i cv).ownBlock ≠ some g9 from fun e => by have := (HOV.out.lt g9 e).2; have := HG9.out; omega)
          have HBW := Lib.hid (bt HBV.out HB9.out)
          have HEW := Lib.hid HE9.out
          have qr : (R : Int) < 16 := by have := HR16.out; omega
          clear hY
          go_wp2_with ((with_reducible show wpList _ _ _ (⟨some 41, _, _, _, _, _⟩ :: _) _ _); go_loud (refine wpList_append_l8 (o := ⟨some 41, _, _, _, _, _⟩) rfl (.tmp 32) (.tmp 40) 22 rfl base 5 i5 Tryz.underlying22 HI.out HZ0.out HZ1.out HZ2.out (.slice av i cv) i (C.take i) rfl (HOW.out.alloc _) w9.heap.size (bits .xor .u8 X1 Y1) rfl (by simp) (by have := HLT.out; have := HL.out; omega) (by have := HBW.out.size; have := HBS.out; simp; omega) (w9.heap.size + 1) (by simp) ?_; intro g7 c7 w7' ho7 hg7 hl7; have HO7 := Lib.hid ho7; have HG7 := Lib.hid hg7; have HL7 := Lib.hid hl7; clear ho7 hg7 hl7))
          go_roundw
          case rel =>
            refine ⟨i + 1, by have := HLT.out; omega, by go_num, ⟨some ⟨g7, 0, none⟩, c7, rfl, ?_, Or.inr ⟨g9, rfl, ?_, ?_⟩⟩, ?_⟩
            · rw [take_snoc_getD (by rw [HCL.out]; exact HLT.out), HYV.out]
              exact HO7.out
            · rw [Nat.add_sub_cancel, HCQ.out]
              exact arg8_but (HEW.out.on ((Below.refl _ _).alloc (Nat.le_refl _) _)) HG7.out (by omega) HNE.out
            · have h9 := arg8_lt HEW.out (by omega)
              intro e9
              have e9 : g7 = g9 := Option.some.inj e9
              rcases HL7.out with h8 | h8
              · exact HNE.out (by rw [h8, e9])
              · omega
            · exact (HBW.out.alloc (by have := HBW.out.size; exact this) _).grown HG7.out (by have := HBW.out.size; simp; omega) (fun z hz => by have h9 := (HOW.out.lt z hz).1; have := HBS.out; omega)
          case measure => simp [intOf]; have := HLT.out; omega
        · rw [if_pos (by rfl)]
          go_simp
          go_wp2_with (go_at_call 59; go_loud ((with_reducible refine (HPUT.out _).mono ?_); rintro e w7 ⟨g7, rfl, hp, hb⟩))
          have HP7 := Lib.hid hp
          have hb7 := bt hHeld hb
          have HB7 := Lib.hid hb7
          clear hp hb hb7
          refine hK.out _ _ HB7.out (fun hHeld1 => ?_)
          clear hK K' hHeld
          have hHeld := hHeld1
          clear hHeld1
          try simp only [Act.put, List.setIfInBounds_toArray, List.set_cons_zero, List.set_cons_succ]
          refine wpAnyH_ready (rs := [1]) (by kernel_rfl) (by simp) ?_
          refine AllReadyH.cons (o := { dst := some 25, op := Go.Op.makeSlice 22 (Go.Operand.const (Go.Value.int Go.IntKind.i64 8)) (Go.Operand.const (Go.Value.int Go.IntKind.i64 8)), type := 22, pos := "ref.go:17", after := #[], guard := none }) rfl (fun K' hK => ?_) AllReadyH.nil
          rw [if_pos (by rfl)]
          go_simp
          refine hK.out _ _ (hHeld.alloc hHeld.size _) (fun hHeld1 => ?_)
          clear hK K' hHeld
          have hHeld := hHeld1
          clear hHeld1
          try simp only [Act.put, List.setIfInBounds_toArray, List.set_cons_zero, List.set_cons_succ]
          refine wpAnyH_ready (rs := [6]) (by kernel_rfl) (by simp) ?_
          refine AllReadyH.cons (o := { dst := some 30, op := Go.Op.call { callee := Go.Callee.builtin Go.Builtin.append, args := #[Go.Operand.tmp 25, Go.Operand.tmp 29], argTypes := #[22, 22] }, type := 22, pos := "ref.go:17", after := #[{ on := 1, ground := Go.Ground.data }, { on := 5, ground := Go.Ground.data }, { on := 5, ground := Go.Ground.chain }], guard := none }) rfl (fun K' hK => ?_) AllReadyH.nil
          rw [if_pos (by rfl)]
          refine wp_append_full (.tmp 25) (.tmp 29) 22 rfl 5 i5 Tryz.underlying22 HI.out HZ0.out HZ1.out HZ2.out (some ⟨w7.heap.size, 0, none⟩) 8 8 Z8 (by rfl) (HMA.out w7) (by omega) (some ⟨g7, 0, none⟩) 8 8 (be 8 (Cq : Int)) (by rfl) (HP7.out.on ((Below.refl _ _).alloc (Nat.le_refl _) _)) (by omega) (by omega) (by omega) ?_
          intro g8 cap8 w8 hx hb
          have HX8 := Lib.hid hx
          have HB8 := Lib.hid (bt hHeld hb)
          clear hx hb
          refine hK.out _ _ HB8.out (fun hHeld1 => ?_)
          clear hK K' hHeld
          have hHeld := hHeld1
          clear hHeld1
          try simp only [Act.put, List.setIfInBounds_toArray, List.set_cons_zero, List.set_cons_succ]
          refine wpAnyH_ready (rs := [7]) (by kernel_rfl) (by simp) ?_
          refine AllReadyH.cons (o := { dst := some 31, op := Go.Op.call { callee := Go.Callee.value (Go.Operand.func 58), args := #[Go.Operand.tmp 24, Go.Operand.tmp 30], argTypes := #[22, 22] }, type := 22, pos := "ref.go:17", after := #[{ on := 0, ground := Go.Ground.data }, { on := 6, ground := Go.Ground.data }, { on := 6, ground := Go.Ground.chain }], guard := none }) rfl (fun K' hK => ?_) AllReadyH.nil
          rw [if_pos (by rfl)]
          go_simp
          go_wp2_with (go_at_call 58; (with_reducible refine (HENC.out (some ⟨bk, ok, none⟩) cK (some ⟨g8, 0, none⟩) cap8 Cq w8 (HKV.out.on HB8.out) HX8.out).mono ?_); rintro e w9 ⟨g9, rfl, ha, hb, hg9⟩)
          have HE9 := Lib.hid ha
          have HB9 := Lib.hid (bt HB8.out hb)
          have HG9 := Lib.hid (show V.heap.size ≤ g9 from Nat.le_trans HB8.out.size hg9)
          clear ha hb hg9
          refine hK.out _ _ HB9.out (fun hHeld1 => ?_)
          clear hK K' hHeld
          have hHeld := hHeld1
          clear hHeld1
          try simp only [Act.put, List.setIfInBounds_toArray, List.set_cons_zero, List.set_cons_succ]
          refine wpAnyH_take (i := 8) (oi := { dst := some 6, op := Go.Op.assign (Go.Operand.tmp 31), type := 22, pos := "ref.go:17", after := #[{ on := 7, ground := Go.Ground.data }, { on := 7, ground := Go.Ground.chain }, { on := 0, ground := Go.Ground.phase }, { on := 1, ground := Go.Ground.phase }, { on := 2, ground := Go.Ground.phase }, { on := 3, ground := Go.Ground.phase }, { on := 4, ground := Go.Ground.phase }, { on := 5, ground := Go.Ground.phase }, { on := 6, ground := Go.Ground.phase }, { on := 7, ground := Go.Ground.phase }], guard := none }) (v := ?v8rb1) rfl (by kernel_rfl) (by kernel_rfl) (by kernel_rfl) (fun _ _ _ h => h) (Or.inl ⟨by rfl, ?hy8rb1⟩) hHeld ?rest8rb1
          case hy8rb1 =>
            intro W' hV
            try dsimp only at hV
            go_simp
            all_goals with_reducible rfl
          case' rest8rb1 => try simp only [Act.put, List.setIfInBounds_toArray, List.set_cons_zero, List.set_cons_succ]
          refine wpAnyH_done (by kernel_rfl) ?_ _
          clear hHeld
          have hcx := arg8_at HE9.out HR16.out
          rw [Nat.zero_add] at hcx
          obtain ⟨Y1, hY⟩ : ∃ Y, Y = (f Cq).getD R 0 := ⟨_, rfl⟩
          have HYV := Lib.hid (show C.getD i 0 = bits .xor .u8 X1 Y1 by rw [HCV.out i HLT.out, HCQ.out, HRQ.out, hY, HX1.out])
          rw [← hY] at hcx
          have HOW := Lib.hid (own_belowK HOV.out HB9.out)
          have HNE := Lib.hid (show (Value.slice av i cv).ownBlock ≠ some g9 from fun e => by have := (HOV.out.lt g9 e).2; have := HG9.out; omega)
          have HBW := Lib.hid (bt HBV.out HB9.out)
          have HEW := Lib.hid HE9.out
          have qr : (R : Int) < 16 := by have := HR16.out; omega
          clear hY
          go_wp2_with ((with_reducible show wpList _ _ _ (⟨some 41, _, _, _, _, _⟩ :: _) _ _); go_loud (refine wpList_append_l8 (o := ⟨some 41, _, _, _, _, _⟩) rfl (.tmp 32) (.tmp 40) 22 rfl base 5 i5 Tryz.underlying22 HI.out HZ0.out HZ1.out HZ2.out (.slice av i cv) i (C.take i) rfl (HOW.out.alloc _) w9.heap.size (bits .xor .u8 X1 Y1) rfl (by simp) (by have := HLT.out; have := HL.out; omega) (by have := HBW.out.size; have := HBS.out; simp; omega) (w9.heap.size + 1) (by simp) ?_; intro g7 c7 w7' ho7 hg7 hl7; have HO7 := Lib.hid ho7; have HG7 := Lib.hid hg7; have HL7 := Lib.hid hl7; clear ho7 hg7 hl7))
          go_roundw
          case rel =>
            refine ⟨i + 1, by have := HLT.out; omega, by go_num, ⟨some ⟨g7, 0, none⟩, c7, rfl, ?_, Or.inr ⟨g9, rfl, ?_, ?_⟩⟩, ?_⟩
            · rw [take_snoc_getD (by rw [HCL.out]; exact HLT.out), HYV.out]
              exact HO7.out
            · rw [Nat.add_sub_cancel, HCQ.out]
              exact arg8_but (HEW.out.on ((Below.refl _ _).alloc (Nat.le_refl _) _)) HG7.out (by omega) HNE.out
            · have h9 := arg8_lt HEW.out (by omega)
              intro e9
              have e9 : g7 = g9 := Option.some.inj e9
              rcases HL7.out with h8 | h8
              · exact HNE.out (by rw [h8, e9])
              · omega
            · exact (HBW.out.alloc (by have := HBW.out.size; exact this) _).grown HG7.out (by have := HBW.out.size; simp; omega) (fun z hz => by have h9 := (HOW.out.lt z hz).1; have := HBS.out; omega)
          case measure => simp [intOf]; have := HLT.out; omega
      · have q1 : ((R : Int) == 0) = false := by simp; omega
        rcases HSV.out with h2 | ⟨gx, rfl, hx, hne⟩
        · exact absurd (show R = 0 by have := HRQ.out; omega) h0
        · rw [show (i - 1) / 16 = Cq by have := HCQ.out; have := HRQ.out; omega] at hx
          have HE9 := Lib.hid hx
          have HNX := Lib.hid hne
          clear hx hne h0
          have hcx := arg8_at HE9.out HR16.out
          rw [Nat.zero_add] at hcx
          obtain ⟨Y1, hY⟩ : ∃ Y, Y = (f Cq).getD R 0 := ⟨_, rfl⟩
          have HYV := Lib.hid (show C.getD i 0 = bits .xor .u8 X1 Y1 by rw [HCV.out i HLT.out, HCQ.out, HRQ.out, hY, HX1.out])
          rw [← hY] at hcx
          have HOW := Lib.hid HOV.out
          have HNE := Lib.hid HNX.out
          have HBW := Lib.hid HBV.out
          have HEW := Lib.hid HE9.out
          have qr : (R : Int) < 16 := by have := HR16.out; omega
          clear hY
          go_wp2_with ((with_reducible show wpList _ _ _ (⟨some 41, _, _, _, _, _⟩ :: _) _ _); go_loud (refine wpList_append_l8 (o := ⟨some 41, _, _, _, _, _⟩) rfl (.tmp 32) (.tmp 40) 22 rfl base 5 i5 Tryz.underlying22 HI.out HZ0.out HZ1.out HZ2.out (.slice av i cv) i (C.take i) rfl (HOW.out.alloc _) V.heap.size (bits .xor .u8 X1 Y1) rfl (by simp) (by have := HLT.out; have := HL.out; omega) (by have := HBW.out.size; have := HBS.out; simp; omega) (V.heap.size + 1) (by simp) ?_; intro g7 c7 w7' ho7 hg7 hl7; have HO7 := Lib.hid ho7; have HG7 := Lib.hid hg7; have HL7 := Lib.hid hl7; clear ho7 hg7 hl7))
          go_roundw
          case rel =>
            refine ⟨i + 1, by have := HLT.out; omega, by go_num, ⟨some ⟨g7, 0, none⟩, c7, rfl, ?_, Or.inr ⟨gx, rfl, ?_, ?_⟩⟩, ?_⟩
            · rw [take_snoc_getD (by rw [HCL.out]; exact HLT.out), HYV.out]
              exact HO7.out
            · rw [Nat.add_sub_cancel, HCQ.out]
              exact arg8_but (HEW.out.on ((Below.refl _ _).alloc (Nat.le_refl _) _)) HG7.out (by omega) HNE.out
            · have h9 := arg8_lt HEW.out (by omega)
              intro e9
              have e9 : g7 = gx := Option.some.inj e9
              rcases HL7.out with h8 | h8
              · exact HNE.out (by rw [h8, e9])
              · omega
            · exact (HBW.out.alloc (by have := HBW.out.size; exact this) _).grown HG7.out (by have := HBW.out.size; simp; omega) (fun z hz => by have h9 := (HOW.out.lt z hz).1; have := HBS.out; omega)
          case measure => simp [intOf]; have := HLT.out; omega
    · obtain rfl : i = L1 := by omega
      have hown := HOV.out
      rw [List.take_of_length_le (by rw [HCL.out]; exact Nat.le_refl _)] at hown
      have HOW := Lib.hid hown
      obtain ⟨a9, c9, e9, hb9, hl9, hn9, hm9, hc9⟩ := own_form hown
      cases e9
      have HSM := Lib.hid (refSum_new av i cv C V ⟨⟨hl9, HCB.out, hb9, hn9, hm9⟩, hc9⟩ (by have := HL.out; omega))
      obtain ⟨sS, hsS⟩ : ∃ s, s = shaL C := ⟨_, rfl⟩
      rw [← hsS] at HSM HPK
      have HSL := Lib.hid (show sS.length = 32 by rw [hsS]; exact shaL_len _)
      have HSB := Lib.hid (show AllB sS by rw [hsS]; exact shaL_B _)
      clear hown hb9 hl9 hn9 hm9 hc9 hsS hlt HSV HMK
      go_upto_region 10 with (go_at_call 60; go_loud ((with_reducible refine HSM.out.mono ?_); rintro e wS ⟨gS, cS, rfl, hr, hb, hg⟩; have HRS := Lib.hid hr; have HGS := Lib.hid hg; have HOS := Lib.hid (own_belowK HOW.out hb); have HBW := Lib.hid (show Below w.heap.size w wS from bt HBV.out hb); clear hr hb hg))
      obtain ⟨KS, hKS⟩ : ∃ x, x = xorL K sS := ⟨_, rfl⟩
      have HKS := Lib.hid (show KS.length = 32 by rw [hKS, length_xorL, HKL.out, HSL.out]; rfl)
      have HKV2 := Lib.hid (show ∀ j, j < 32 → KS.getD j 0 = bits .xor .u8 (K.getD j 0) (sS.getD j 0) from fun j hj => by rw [hKS]; exact xor_at HKB.out HSB.out (by rw [HKL.out]; exact hj) (by rw [HSL.out]; exact hj))
      rw [← hKS] at HPK
      have HNE0 := Lib.hid (show (Value.slice av i cv).ownBlock ≠ some gS from fun e => by have := (HOW.out.lt gS e).2; have := HGS.out; omega)
      clear hKS HSM
      go_wp2_with fail
      go_loopw [5, 47] (fun v q wr => ∃ (j : Nat) (a : Option Addr) (c : Nat), j ≤ 32 ∧ q = .int .i64 (j : Nat) ∧ v = .slice a (i + j) c ∧ wr.ownsRow base 5 1 (.slice a (i + j) c) (i + j) ((C ++ KS.take j).map (Value.int .u8)) ∧ (Value.slice a (i + j) c).ownBlock ≠ some gS ∧ Row8 wr gS 32 sS ∧ Below w.heap.size w wr) (fun _ q _ => 32 - (intOf q).toNat)
      case atStart => exact ⟨0, av, cv, by omega, rfl, rfl, by rw [List.take_zero, List.append_nil]; exact HOS.out, HNE0.out, HRS.out, HBW.out⟩
      case round =>
        obtain ⟨j, av, cv, hj, rfl, rfl, h1, h2, h3, h4⟩ := hrel
        rename World => U
        have HO := Lib.hid h1
        have HNE := Lib.hid h2
        have HRU := Lib.hid h3
        have HBU := Lib.hid h4
        have HKU := Lib.hid (HK.out.on h4)
        clear h1 h2 h3 h4 HOS HNE0 HRS HBW
        by_cases hlt : j < 32
        · have HLJ := Lib.hid hlt
          have hck := arg8_at HKU.out hlt
          have hcs := HRU.out.2.2.2 j hlt
          obtain ⟨X1, hX1⟩ : ∃ X, X = K.getD j 0 := ⟨_, rfl⟩
          obtain ⟨Y1, hY1⟩ : ∃ X, X = sS.getD j 0 := ⟨_, rfl⟩
          have HYV := Lib.hid (show KS.getD j 0 = bits .xor .u8 X1 Y1 by rw [HKV2.out j hlt, hX1, hY1])
          rw [← hX1] at hck
          rw [← hY1] at hcs
          have qj : (j : Int) < 32 := by omega
          have qj0 : (0 : Int) ≤ (j : Int) := by omega
          clear hX1 hY1 hlt
          go_wp2_with ((with_reducible show wpList _ _ _ (⟨some 60, _, _, _, _, _⟩ :: _) _ _); go_loud (refine wpList_append_l8 (o := ⟨some 60, _, _, _, _, _⟩) rfl (.tmp 52) (.tmp 59) 22 rfl base 5 i5 Tryz.underlying22 HI.out HZ0.out HZ1.out HZ2.out (.slice av (i + j) cv) (i + j) (C ++ KS.take j) rfl (HO.out.alloc _) U.heap.size (bits .xor .u8 X1 Y1) rfl (by simp) (by have := HLJ.out; have := HL.out; omega) (by have := HBU.out.size; have := HBS.out; simp; omega) (U.heap.size + 1) (by simp) ?_; intro g7 c7 w7' ho7 hg7 hl7; have HO7 := Lib.hid ho7; have HG7 := Lib.hid hg7; have HL7 := Lib.hid hl7; clear ho7 hg7 hl7))
          go_roundw
          case rel =>
            refine ⟨j + 1, some ⟨g7, 0, none⟩, c7, by have := HLJ.out; omega, by go_num, rfl, ?_, ?_, ?_, ?_⟩
            · rw [take_snoc_getD (by rw [HKS.out]; exact HLJ.out), HYV.out, ← List.append_assoc]
              exact HO7.out
            · have h9 := HRU.out.2.2.1
              intro e9
              have e9 : g7 = gS := Option.some.inj e9
              rcases HL7.out with h8 | h8
              · exact HNE.out (by rw [h8, e9])
              · omega
            · exact row8_but (HRU.out.on ((Below.refl _ _).alloc (Nat.le_refl _) _) HRU.out.2.2.1) HG7.out HNE.out
            · exact (HBU.out.alloc (by have := HBU.out.size; exact this) _).grown HG7.out (by have := HBU.out.size; simp; omega) (fun z hz => by have h9 := (HO.out.lt z hz).1; have := HBS.out; omega)
          case measure => simp [intOf]; have := HLJ.out; omega
        · obtain rfl : j = 32 := by omega
          have ho := HO.out
          rw [List.take_of_length_le (by rw [HKS.out]; exact Nat.le_refl _), ← HPK.out] at ho
          obtain ⟨a8, c8, e8, hb8, hl8, hn8, hm8, hc8⟩ := own_form ho
          cases e8
          have HWU := Lib.hid (show Arg8 U av (i + 32) cv P from ⟨hl8, HPB.out, hb8, hn8, hm8⟩)
          obtain ⟨bx, ox, rfl⟩ := arg_some HWU.out (by omega)
          have h1 : Arg8 (U.alloc (.cells #[.int .u8 1] 5)) (some ⟨U.heap.size, 0, none⟩) 1 1 [1] := by
            refine ⟨rfl, fun x hx => by rw [List.mem_singleton.1 hx]; omega, fun _ => ⟨U.heap.size, 0, rfl, by simp, fun i hi => ?_⟩, Nat.le_refl _, by unfold maxLen; omega⟩
            have : i = 0 := by simp at hi; exact hi
            subst this
            simp
          have H1 := Lib.hid h1
          have HA1 := Lib.hid ((Below.refl U.heap.size U).alloc (Nat.le_refl _) (.cells #[.int .u8 1] 5))
          clear ho hb8 hl8 hn8 hm8 hc8 hlt h1
          have hcap := HWU.out.2.2.2
          go_wp2_with ((with_reducible show wpList _ _ _ (⟨some 64, _, _, _, _, _⟩ :: _) _ _); go_loud (refine wpList_append_full (o := ⟨some 64, _, _, _, _, _⟩) rfl (.tmp 62) (.tmp 63) 22 rfl 5 i5 Tryz.underlying22 HI.out HZ0.out HZ1.out HZ2.out (some ⟨U.heap.size, 0, none⟩) 1 1 [1] rfl H1.out (by omega) (some ⟨bx, ox, none⟩) (i + 32) cv P rfl (HWU.out.on HA1.out) (by omega) (by have := HL.out; omega) (by have := HL.out; omega) ?_; intro g8 cap8 w8 hx hb; have HX8 := Lib.hid hx; have HB8 := Lib.hid (bt HBU.out (bt HA1.out hb)); clear hx hb))
          go_ret
          refine ⟨_, _, rfl, ?_, HB8.out⟩
          rw [← HPP.out]
          exact ⟨HX8.out, fun e => by cases e⟩
theorem refPkg_any (aB : Option Addr) (cB : Nat) (B : List GF) (aK : Option Addr) (cK : Nat) (K : List GF) (w : World) (hB : Pa w aB 440 cB B) (hK : Pa w aK 32 cK K) :
    Calls Tryz.prog 32 #[.slice aB 440 cB, .slice aK 32 cK] w fun e w' => ∃ a c, e = .returned (.slice a 473 c) ∧ Pa w' a 473 c (parG K B) ∧ Below w.heap.size w w' := by
  obtain ⟨bk, ok, rfl, _⟩ := hK.at_ (k := 0) (by omega)
  refine (refPkg_int aB 440 cB (iL B) bk ok cK (iL K) w hB hK.1 (by omega)).mono ?_
  rintro e w' ⟨a, c, rfl, h, hb⟩
  refine ⟨a, c, rfl, ?_, hb⟩
  have h2 := Pa.of h
  rw [show gL ([1] ++ pkgL (iL K) (iL B)) = parG K B from rfl] at h2
  exact h2
end Go.Proofs.YtappfdbmhgifcaaGreatDoor
