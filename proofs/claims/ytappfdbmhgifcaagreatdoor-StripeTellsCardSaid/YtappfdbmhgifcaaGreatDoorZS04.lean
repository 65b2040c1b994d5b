/- Texts of mine, one behind the other: QK2. -/
import Derived.Test.YtappfdbmhgifcaaGreatDoorZS03
import Derived.Deep.RegionHeld
import Derived.Deep.DrawnRows
import Derived.Maps.AppendAt
import Derived.RangeFuncNested
import Derived.RangeFuncBox
import Derived.RangeFuncCalls
import Derived.RangeFuncLeaves
import Derived.Shelf.Abstract
import Derived.Shelf.RegionOpen
import Derived.OwnWalkIn
import Derived.TacticsInMore
import Derived.LoopNIn
import Derived.LoopIn
import Derived.OrdersIn
import Derived.Deep.CutRange
/- Texts of mine, one behind the other: Kj Kk Kro Kl. -/
/- Contracts of the cipher's Encrypt (written by gen18.py). -/
namespace Go.Proofs.YtappfdbmhgifcaaGreatDoor
open Go.ChangeShapes Go.WideShapes Go.ChangeAt Go.RowKit
set_option linter.unusedVariables false
set_option linter.unusedSimpArgs false
set_option maxRecDepth 100000
attribute [local go_sem ↓] Go.wp_at_zero Go.wp_at_succ

theorem below_but {w w' : World} (h : Below w.heap.size w w') (row : Option Nat) : w.grownBy w' row := ⟨h.os, h.tape, h.output, h.size, fun k hk _ => h.block k hk⟩
theorem setRow_but (w : World) (b : Nat) (cs : Array Value) : w.grownBy (w.setRow b cs) (some b) := ⟨rfl, rfl, rfl, by rw [setRow_size]; exact Nat.le_refl _, fun k hk hne => setRow_other w b k cs (fun e => hne (by rw [e]))⟩
theorem drew_but (w : World) (row : Option Nat) : w.grownBy w.drew row := ⟨rfl, rfl, rfl, Nat.le_refl _, fun _ _ _ => rfl⟩
theorem but_below {w w' : World} {b B : Nat} (h : w.grownBy w' (some b)) (hB : B ≤ b) (hBs : B ≤ w.heap.size) : Below B w w' := ⟨h.os, h.tape, h.output, h.size, fun k hk => h.block k (by omega) (fun e => by injection e with e; omega)⟩
/-- What a cipher has in memory, its blocks named. -/
def CipA (w : World) (b g cap n : Nat) (W : Nat → Nat → Nat) : Prop := g < w.heap.size ∧ n + 1 ≤ cap ∧ cap ≤ 9223372036854775807 ∧ w.cell? ⟨b, 0, none⟩ = some (.slice (some ⟨g, 0, none⟩) (n + 1) cap) ∧ (∀ j, j ≤ n → w.rangeAt g (4 * j) (sqL4 (rk W j))) ∧
    Tb w b 1 box ∧ Tb w b 257 bxb ∧ Tp w b 513 (prt m2) ∧ Tp w b 769 (prt m14)
theorem CipA.cip {w : World} {b g cap n : Nat} {W : Nat → Nat → Nat} (h : CipA w b g cap n W) : Cip w b n W := ⟨g, cap, h⟩
theorem CipA.but {w w' : World} {b g cap n x : Nat} {W : Nat → Nat → Nat} (h : CipA w b g cap n W) (hg : w.grownBy w' (some x)) (h1 : b ≠ x) (h2 : g ≠ x) : CipA w' b g cap n W := by
  have hlt := h.cip.lt
  obtain ⟨a1, a2, a3, a4, a5, a6, a7, a8, a9⟩ := h
  have k1 : ∀ o, w'.cell? ⟨b, o, none⟩ = w.cell? ⟨b, o, none⟩ := fun o => World.cell?_of_block (w := w) (a := ⟨b, o, none⟩) (hg.block b hlt (fun e => h1 (by injection e)))
  have k2 : ∀ o, w'.cell? ⟨g, o, none⟩ = w.cell? ⟨g, o, none⟩ := fun o => World.cell?_of_block (w := w) (a := ⟨g, o, none⟩) (hg.block g a1 (fun e => h2 (by injection e)))
  exact ⟨Nat.lt_of_lt_of_le a1 hg.size, a2, a3, (k1 0).trans a4, fun j hj k v hv => (k2 _).trans (a5 j hj k v hv), ⟨Nat.lt_of_lt_of_le hlt hg.size, fun j hj => (k1 _).trans (a6.2 j hj)⟩, ⟨Nat.lt_of_lt_of_le hlt hg.size, fun j hj => (k1 _).trans (a7.2 j hj)⟩, ⟨Nat.lt_of_lt_of_le hlt hg.size, fun j hj => (k1 _).trans (a8.2 j hj)⟩, ⟨Nat.lt_of_lt_of_le hlt hg.size, fun j hj => (k1 _).trans (a9.2 j hj)⟩⟩
theorem CipA.on {w w' : World} {b g cap n : Nat} {W : Nat → Nat → Nat} (h : CipA w b g cap n W) (hb : Below w.heap.size w w') : CipA w' b g cap n W := by
  have hlt := h.cip.lt
  obtain ⟨h1, h2, h3, h4, h5, h6, h7, h8, h9⟩ := h
  exact ⟨Nat.lt_of_lt_of_le h1 hb.size, h2, h3, (hb.cell (p := ⟨b, 0, none⟩) hlt).trans h4, fun j hj k v hv => (hb.cell (p := ⟨g, 4 * j + k, none⟩) h1).trans (h5 j hj k v hv), h6.on hb, h7.on hb, h8.on hb, h9.on hb⟩
theorem Blk.range {w : World} {b : Nat} {T : TypeId} {K : Nat → Nat → Nat} (h : Blk w b T 4 (sqc K)) : w.rangeAt b 0 (sqL4 K) := fun j v hv => by
  have hj : j < 4 := by have := (List.getElem?_eq_some_iff.1 hv).1; simpa [sqL4] using this
  rw [Nat.zero_add, h.cell hj]
  simpa [sqL4, hj] using hv
theorem rangeAt.but {w w' : World} {b o x : Nat} {cs : List Value} (h : w.rangeAt b o cs) (hg : w.grownBy w' (some x)) (hlt : b < w.heap.size) (hne : b ≠ x) : w'.rangeAt b o cs := fun j v hv =>
  (World.cell?_of_block (w := w) (a := ⟨b, o + j, none⟩) (hg.block b hlt (fun e => hne (by injection e)))).trans (h j v hv)
theorem size_sqL4 (S : Nat → Nat → Nat) : (Tryz.prog.info? 164).map (·.size) = some (sqL4 S).length := by rw [show (sqL4 S).length = 4 from by simp [sqL4]]; exact size_sq
theorem size_sqVi (S : Nat → Nat → Nat) : (Tryz.prog.info? 164).map (·.size) = some (sqV S).size := by rw [size_sqV]; exact size_sq
theorem sqV_ones (S : Nat → Nat → Nat) : (sqV S).all (·.oneCell') = true := tabV_one fun _ => rfl
theorem sq_sizes (S T : Nat → Nat → Nat) : (tabV 4 (sqc S)).size = (sqV T).size := by rw [size_tabV, size_sqV]

set_option maxHeartbeats 8000000 in
theorem encrypt_ok (b n : Nat) (W : Nat → Nat → Nat) (hW : SqB W) (hn : 1 ≤ n) (hn2 : n ≤ 100) (ba oa c : Nat) (l : List Int) (w : World) (h : Cip w b n W) (hl : l.length = 16) (hA : AllB l) (hb : Bs w w.heap.size (some ⟨ba, oa, none⟩) l) (hc : 16 ≤ c) (hcm : c ≤ 9223372036854775807) :
    Calls Tryz.prog 168 #[.pointer (some ⟨b, 0, none⟩), .slice (some ⟨ba, oa, none⟩) 16 c] w fun e w' => ∃ a, e = .returned (.tuple #[.slice a 16 16, .int .i64 0]) ∧ w'.ownsRow w.heap.size 5 1 (.slice a 16 16) 16 ((outL (enc W n (kw l)) 4).map (Value.int .u8)) ∧ Below w.heap.size w w' := by
  have hz := zeroSq
  have HSQ := Lib.hid (squareOf_ok b n W ba oa c l w h hl hA hb hc hcm)
  have HXB := Lib.hid (kw_lt hA)
  have HWB := Lib.hid hW
  obtain ⟨g, cap, hca0⟩ := h
  have hcap := hca0.2
  have hcap1 : n + 1 ≤ cap := hcap.1
  have hcap2 : cap ≤ 9223372036854775807 := hcap.2.1
  have HCA0 := Lib.hid (show CipA w b g cap n W from hca0)
  obtain ⟨X, hX⟩ : ∃ X, X = kw l := ⟨_, rfl⟩
  rw [← hX] at HSQ HXB ⊢
  clear hX hl hA hb hca0 hW hcap
  go_enter Tryz.func168, Tryz.ntmps168
  go_upto_region 4 with (first
    | (go_at_call 176; refine HSQ.out.mono ?_; rintro e w1 ⟨rfl, hb1⟩; have HB1 := Lib.hid hb1; have HCA1 := Lib.hid (HCA0.out.on hb1); clear hb1)
    | ((with_reducible show wpList _ _ _ (⟨none, _, _, _, _, _⟩ :: _) _ _); refine wpList_store_row rfl 164 (.tmp 6) (.tmp 15) rfl w1.heap.size (sqV X) rfl rfl _ _ (heap_alloc_new _ _) (size_sqVi _) (by rw [size_sqV]; exact size_tabV _ _) (sqV_ones X) ?_))
  obtain ⟨b6, hb6⟩ : ∃ b, b = w1.heap.size := ⟨_, rfl⟩
  obtain ⟨CW, hCW⟩ : ∃ C, C = (w1.alloc (.cells noSq 164)).setRow w1.heap.size (sqV X) := ⟨_, rfl⟩
  have hal : Below w1.heap.size w1 (w1.alloc (.cells noSq 164)) := (Below.refl _ _).alloc (Nat.le_refl _) _
  have HBC := Lib.hid (show Below w.heap.size w CW by rw [hCW]; exact below_setRow (bt HB1.out hal) HB1.out.size _)
  have HCA := Lib.hid (show CipA CW b g cap n W by rw [hCW]; exact (HCA1.out.on (below_setRow hal (Nat.le_refl _) _)))
  have HX6 := Lib.hid (show Blk CW b6 164 4 (sqc X) by rw [hCW, hb6]; exact Blk.row (Blk.made w1 164 4 (fun _ => .int .u32 0)) (sqc X))
  have HB6L := Lib.hid (show b6 < CW.heap.size from HX6.out.lt)
  have HB6W := Lib.hid (show w.heap.size ≤ b6 by rw [hb6]; exact HB1.out.size)
  have HNE := Lib.hid (show b ≠ b6 ∧ g ≠ b6 by have := HCA1.out.cip.lt; have := HCA1.out.1; rw [hb6]; omega)
  rw [← hCW, ← hb6]
  clear hb6 hCW hal hz
  have HRO := Lib.hid (fun W' (hW' : Cip W' b n W) => rounds_cip b n W W' hW')
  go_upto_region 5 with (go_at_call 149; refine (HRO.out _ HCA.out.cip).mono ?_; rintro e w' ⟨rfl, rfl⟩)
  go_wp2_with fail
  refine wp_region_held_drew (S := fun W => CW.grownBy W (some b6)) (by kernel_rfl) (drew_but _ _) (fun hHeld => ?_)
  refine wpAnyH_take (i := 1) (oi := { dst := some 23, op := Op.move (Operand.tmp 0), type := 133, pos := "cipher.go:205", after := #[], guard := none }) (v := ?v1a1) rfl (by kernel_rfl) (by kernel_rfl) (by kernel_rfl) (fun _ _ _ h => h) (Or.inl ⟨by rfl, ?hy1a1⟩) hHeld ?rest1a1
  case hy1a1 =>
    intro W' hV
    try dsimp only at hV
    go_simp
    all_goals with_reducible rfl
  case' rest1a1 => try simp only [Act.put, List.setIfInBounds_toArray, List.set_cons_zero, List.set_cons_succ]
  refine wpAnyH_take (i := 2) (oi := { dst := some 24, op := Op.nilCheck (Operand.tmp 23), type := 0, pos := "cipher.go:205", after := #[{ on := 1, ground := Ground.data }], guard := none }) (v := ?v2a2) rfl (by kernel_rfl) (by kernel_rfl) (by kernel_rfl) (fun _ _ _ h => h) (Or.inl ⟨by rfl, ?hy2a2⟩) hHeld ?rest2a2
  case hy2a2 =>
    intro W' hV
    try dsimp only at hV
    go_simp
    all_goals with_reducible rfl
  case' rest2a2 => try simp only [Act.put, List.setIfInBounds_toArray, List.set_cons_zero, List.set_cons_succ]
  refine wpAnyH_take (i := 3) (oi := { dst := some 25, op := Op.fieldAddr 155 (Operand.tmp 24) 0, type := 0, pos := "cipher.go:205", after := #[{ on := 2, ground := Ground.data }], guard := none }) (v := ?v3a3) rfl (by kernel_rfl) (by kernel_rfl) (by kernel_rfl) (fun _ _ _ h => h) (Or.inl ⟨by rfl, ?hy3a3⟩) hHeld ?rest3a3
  case hy3a3 =>
    intro W' hV
    try dsimp only at hV
    go_simp
    all_goals with_reducible rfl
  case' rest3a3 => try simp only [Act.put, List.setIfInBounds_toArray, List.set_cons_zero, List.set_cons_succ]
  refine wpAnyH_take (i := 4) (oi := { dst := some 26, op := Op.load 153 (Operand.tmp 25), type := 153, pos := "cipher.go:205", after := #[{ on := 3, ground := Ground.data }], guard := none }) (v := ?v4a4) rfl (by kernel_rfl) (by kernel_rfl) (by kernel_rfl) (fun _ _ _ h => h) (Or.inl ⟨by rfl, ?hy4a4⟩) hHeld ?rest4a4
  case hy4a4 =>
    intro W' hV
    try dsimp only at hV
    have hca := (HCA.out.but hV HNE.out.1 HNE.out.2).2.2.2.1
    go_simp
    all_goals with_reducible rfl
  case' rest4a4 => try simp only [Act.put, List.setIfInBounds_toArray, List.set_cons_zero, List.set_cons_succ]
  refine wpAnyH_take (i := 5) (oi := { dst := some 27, op := Op.indexAddr 153 (Operand.tmp 26) (Operand.const (Value.int IntKind.i64 0)), type := 0, pos := "cipher.go:205", after := #[{ on := 4, ground := Ground.data }], guard := none }) (v := ?v5a5) rfl (by kernel_rfl) (by kernel_rfl) (by kernel_rfl) (fun _ _ _ h => h) (Or.inl ⟨by rfl, ?hy5a5⟩) hHeld ?rest5a5
  case hy5a5 =>
    intro W' hV
    try dsimp only at hV
    go_simp
    all_goals with_reducible rfl
  case' rest5a5 => try simp only [Act.put, List.setIfInBounds_toArray, List.set_cons_zero, List.set_cons_succ]
  refine wpAnyH_take (i := 6) (oi := { dst := some 28, op := Op.load 164 (Operand.tmp 27), type := 164, pos := "cipher.go:205", after := #[{ on := 5, ground := Ground.data }], guard := none }) (v := .agg (sqL4 (rk W 0)).toArray) rfl (by kernel_rfl) (by kernel_rfl) (by kernel_rfl) (fun _ _ _ h => h) (yieldsIf_load_mid (by rfl) 164 (.tmp 27) rfl g 0 (by rfl) (sqL4 (rk W 0)) _ (fun W hS => (HCA.out.but hS HNE.out.1 HNE.out.2).2.2.2.2.1 0 (by omega)) Tryz.underlying164 rfl (size_sqL4 _)) hHeld ?rest6a6
  case' rest6a6 => try simp only [Act.put, List.setIfInBounds_toArray, List.set_cons_zero, List.set_cons_succ]
  refine wpAnyH_ready (rs := [0]) (by kernel_rfl) (by simp) ?_
  refine AllReadyH.cons (o := { dst := some 22, op := Op.load 164 (Operand.tmp 6), type := 164, pos := "cipher.go:205", after := #[], guard := none }) rfl (fun K' hK => ?_) AllReadyH.nil
  rw [if_pos (by rfl)]
  refine wp_load_row 164 (.tmp 6) rfl b6 (by rfl) _ (sqV X) _ _ HX6.out Tryz.underlying164 rfl (size_sqVi X) ?_
  refine hK.out _ _ hHeld (fun hHeld1 => ?_)
  clear hK K' hHeld
  have hHeld := hHeld1
  clear hHeld1
  try simp only [Act.put, List.setIfInBounds_toArray, List.set_cons_zero, List.set_cons_succ]
  refine wpAnyH_ready (rs := [7]) (by kernel_rfl) (by simp) ?_
  refine AllReadyH.cons (o := { dst := some 29, op := Op.call { callee := Callee.value (Operand.func 177), args := #[Operand.tmp 22, Operand.tmp 28], argTypes := #[164, 164] }, type := 164, pos := "cipher.go:205", after := #[{ on := 0, ground := Ground.data }, { on := 6, ground := Ground.data }], guard := none }) rfl (fun K' hK => ?_) AllReadyH.nil
  rw [if_pos (by rfl)]
  go_simp
  go_wp2_with (go_at_call 177; refine (sqPlus_any X (rk W 0) HXB.out (HWB.out.rk 0) _).mono ?_; rintro e w4 ⟨rfl, hb4⟩)
  have hg4 : CW.grownBy w4 (some b6) := hHeld.trans (below_but hb4 _)
  have HG4 := Lib.hid hg4
  have HX4 := Lib.hid (show Blk w4 b6 164 4 (sqc X) from Blk.on (w := CW.drew) HX6.out hb4 HB6L.out)
  clear hb4 hg4
  refine hK.out _ _ HG4.out (fun hHeld1 => ?_)
  clear hK K' hHeld
  have hHeld := hHeld1
  clear hHeld1
  try simp only [Act.put, List.setIfInBounds_toArray, List.set_cons_zero, List.set_cons_succ]
  refine wpAnyH_ready (rs := [8]) (by kernel_rfl) (by simp) ?_
  refine AllReadyH.cons (o := { dst := none, op := Op.store 164 (Operand.tmp 6) (Operand.tmp 29), type := 0, pos := "cipher.go:205", after := #[{ on := 7, ground := Ground.data }, { on := 7, ground := Ground.chain }, { on := 0, ground := Ground.phase }, { on := 1, ground := Ground.phase }, { on := 2, ground := Ground.phase }, { on := 3, ground := Ground.phase }, { on := 4, ground := Ground.phase }, { on := 5, ground := Ground.phase }, { on := 6, ground := Ground.phase }, { on := 7, ground := Ground.phase }], guard := none }) rfl (fun K' hK => ?_) AllReadyH.nil
  rw [if_pos (by rfl)]
  refine wp_store_row 164 (.tmp 6) (.tmp 29) rfl b6 (sqV (adds X (rk W 0))) (by rfl) (by rfl) _ _ HX4.out (size_sqVi _) (sq_sizes _ _) (sqV_ones _) ?_
  refine hK.out _ _ (HG4.out.trans (setRow_but w4 b6 _)) (fun hHeld1 => ?_)
  clear hK K' hHeld
  have hHeld := hHeld1
  clear hHeld1
  try simp only [Act.put, List.setIfInBounds_toArray, List.set_cons_zero, List.set_cons_succ]
  refine wpAnyH_done (by kernel_rfl) ?_ _
  clear hHeld
  obtain ⟨C5, hC5⟩ : ∃ C, C = w4.setRow b6 (sqV (adds X (rk W 0))) := ⟨_, rfl⟩
  have HG5 := Lib.hid (show CW.grownBy C5 (some b6) by rw [hC5]; exact HG4.out.trans (setRow_but w4 b6 _))
  have HX5 := Lib.hid (show Blk C5 b6 164 4 (sqc (encR W X 0)) by rw [hC5]; exact HX4.out.row _)
  rw [← hC5]
  have hca5 := (HCA.out.but HG5.out HNE.out.1 HNE.out.2).2.2.2.1
  have qn1 : (1 : Int) ≤ (n : Int) := by omega
  have qn2 : (n : Int) ≤ (cap : Int) := by omega
  have qn3 : (cap : Int) ≤ 9223372036854775807 := by omega
  clear hC5 HX6 HX4 HG4
  go_wp2_with fail
  clear hca5
  go_loopw [37] (fun q wr => ∃ i : Nat, i ≤ n - 1 ∧ q = .int .i64 (i : Nat) ∧ CW.grownBy wr (some b6) ∧ Blk wr b6 164 4 (sqc (encR W X i))) (fun q _ => (n - 1) - (intOf q).toNat)
  case atStart => exact ⟨0, Nat.zero_le _, rfl, HG5.out, HX5.out⟩
  case round =>
    obtain ⟨i, hi, rfl, hg, hx⟩ := hrel
    have HG := Lib.hid hg
    have HX := Lib.hid hx
    clear hg hx HG5 HX5
    rename World => wr
    by_cases hlt : i < n - 1
    · have qi : (i : Int) < (n : Int) - 1 := by omega
      have qi0 : (0 : Int) ≤ (i : Int) := by omega
      have hz := zeroSq
      have hE := encR_bd HWB.out HXB.out i
      have HRNG := Lib.hid (show wr.rangeAt g (4 + i * 4) (sqL4 (rk W (i + 1))) by
        have h := (HCA.out.but HG.out HNE.out.1 HNE.out.2).2.2.2.2.1 (i + 1) (by omega)
        rw [show 4 * (i + 1) = 4 + i * 4 by omega] at h
        exact h)
      obtain ⟨E, hEE⟩ : ∃ E, E = encR W X i := ⟨_, rfl⟩
      rw [← hEE] at HX hE
      have HEB := Lib.hid hE
      have HEE := Lib.hid hEE
      clear hE hEE
      go_wp2_with (first
        | ((with_reducible show wpList _ _ _ (⟨some 40, _, _, _, _, _⟩ :: _) _ _); refine wpList_load_mid rfl 164 (.tmp 39) rfl g (4 + i * 4) rfl (sqL4 (rk W (i + 1))) _ HRNG.out Tryz.underlying164 rfl (size_sqL4 _) ?_)
        | ((with_reducible show wpList _ _ _ (⟨none, _, _, _, _, _⟩ :: _) _ _); refine wpList_store_row rfl 164 (.tmp 10) (.tmp 40) rfl wr.heap.size (sqV (rk W (i + 1))) rfl rfl _ _ (heap_alloc_new _ _) (size_sqVi _) (by rw [size_sqV]; exact size_tabV _ _) (sqV_ones _) ?_))
      obtain ⟨b10, hb10⟩ : ∃ b, b = wr.heap.size := ⟨_, rfl⟩
      obtain ⟨V9, hV9⟩ : ∃ C, C = (wr.alloc (.cells noSq 164)).setRow wr.heap.size (sqV (rk W (i + 1))) := ⟨_, rfl⟩
      have hbv : Below wr.heap.size wr V9 := by rw [hV9]; exact below_setRow ((Below.refl _ _).alloc (Nat.le_refl _) _) (Nat.le_refl _) _
      have HGV := Lib.hid (HG.out.trans (below_but hbv _))
      have HXV := Lib.hid (HX.out.on hbv HX.out.lt)
      have HCV := Lib.hid (HCA.out.but HGV.out HNE.out.1 HNE.out.2)
      have HNB := Lib.hid (show b10 ≠ b6 by have := HX.out.lt; rw [hb10]; omega)
      have HKV := Lib.hid (show Blk V9 b10 164 4 (sqc (rk W (i + 1))) by rw [hV9, hb10]; exact Blk.row (Blk.made wr 164 4 (fun _ => .int .u32 0)) _)
      rw [← hV9, ← hb10]
      clear hV9 hb10 hbv hz
      refine wp_region_held_drew (S := fun W => V9.grownBy W (some b6)) (by kernel_rfl) (drew_but _ _) (fun hHeld => ?_)
      refine wpAnyH_take (i := 1) (oi := { dst := some 42, op := Op.move (Operand.tmp 0), type := 133, pos := "cipher.go:207", after := #[], guard := none }) (v := ?v1b1) rfl (by kernel_rfl) (by kernel_rfl) (by kernel_rfl) (fun _ _ _ h => h) (Or.inl ⟨by rfl, ?hy1b1⟩) hHeld ?rest1b1
      case hy1b1 =>
        intro W' hV
        try dsimp only at hV
        go_simp
        all_goals with_reducible rfl
      case' rest1b1 => try simp only [Act.put, List.setIfInBounds_toArray, List.set_cons_zero, List.set_cons_succ]
      refine wpAnyH_take (i := 2) (oi := { dst := some 43, op := Op.nilCheck (Operand.tmp 42), type := 0, pos := "cipher.go:207", after := #[{ on := 1, ground := Ground.data }], guard := none }) (v := ?v2b2) rfl (by kernel_rfl) (by kernel_rfl) (by kernel_rfl) (fun _ _ _ h => h) (Or.inl ⟨by rfl, ?hy2b2⟩) hHeld ?rest2b2
      case hy2b2 =>
        intro W' hV
        try dsimp only at hV
        go_simp
        all_goals with_reducible rfl
      case' rest2b2 => try simp only [Act.put, List.setIfInBounds_toArray, List.set_cons_zero, List.set_cons_succ]
      refine wpAnyH_take (i := 3) (oi := { dst := some 44, op := Op.fieldAddr 155 (Operand.tmp 43) 1, type := 0, pos := "cipher.go:207", after := #[{ on := 2, ground := Ground.data }], guard := none }) (v := ?v3b3) rfl (by kernel_rfl) (by kernel_rfl) (by kernel_rfl) (fun _ _ _ h => h) (Or.inl ⟨by rfl, ?hy3b3⟩) hHeld ?rest3b3
      case hy3b3 =>
        intro W' hV
        try dsimp only at hV
        go_simp
        all_goals with_reducible rfl
      case' rest3b3 => try simp only [Act.put, List.setIfInBounds_toArray, List.set_cons_zero, List.set_cons_succ]
      refine wpAnyH_take (i := 5) (oi := { dst := some 46, op := Op.move (Operand.tmp 0), type := 133, pos := "cipher.go:207", after := #[], guard := none }) (v := ?v5b4) rfl (by kernel_rfl) (by kernel_rfl) (by kernel_rfl) (fun _ _ _ h => h) (Or.inl ⟨by rfl, ?hy5b4⟩) hHeld ?rest5b4
      case hy5b4 =>
        intro W' hV
        try dsimp only at hV
        go_simp
        all_goals with_reducible rfl
      case' rest5b4 => try simp only [Act.put, List.setIfInBounds_toArray, List.set_cons_zero, List.set_cons_succ]
      refine wpAnyH_take (i := 6) (oi := { dst := some 47, op := Op.nilCheck (Operand.tmp 46), type := 0, pos := "cipher.go:207", after := #[{ on := 5, ground := Ground.data }], guard := none }) (v := ?v6b5) rfl (by kernel_rfl) (by kernel_rfl) (by kernel_rfl) (fun _ _ _ h => h) (Or.inl ⟨by rfl, ?hy6b5⟩) hHeld ?rest6b5
      case hy6b5 =>
        intro W' hV
        try dsimp only at hV
        go_simp
        all_goals with_reducible rfl
      case' rest6b5 => try simp only [Act.put, List.setIfInBounds_toArray, List.set_cons_zero, List.set_cons_succ]
      refine wpAnyH_take (i := 7) (oi := { dst := some 48, op := Op.fieldAddr 155 (Operand.tmp 47) 3, type := 0, pos := "cipher.go:207", after := #[{ on := 6, ground := Ground.data }], guard := none }) (v := ?v7b6) rfl (by kernel_rfl) (by kernel_rfl) (by kernel_rfl) (fun _ _ _ h => h) (Or.inl ⟨by rfl, ?hy7b6⟩) hHeld ?rest7b6
      case hy7b6 =>
        intro W' hV
        try dsimp only at hV
        go_simp
        all_goals with_reducible rfl
      case' rest7b6 => try simp only [Act.put, List.setIfInBounds_toArray, List.set_cons_zero, List.set_cons_succ]
      refine wpAnyH_take (i := 9) (oi := { dst := some 50, op := Op.load 164 (Operand.tmp 10), type := 164, pos := "cipher.go:207", after := #[], guard := none }) (v := .agg (sqL4 (rk W (i + 1))).toArray) rfl (by kernel_rfl) (by kernel_rfl) (by kernel_rfl) (fun _ _ _ h => h) (yieldsIf_load_mid (by rfl) 164 (.tmp 10) rfl b10 0 (by rfl) (sqL4 (rk W (i + 1))) _ (fun W hS => rangeAt.but HKV.out.range hS HKV.out.lt HNB.out) Tryz.underlying164 rfl (size_sqL4 _)) hHeld ?rest9b7
      case' rest9b7 => try simp only [Act.put, List.setIfInBounds_toArray, List.set_cons_zero, List.set_cons_succ]
      refine wpAnyH_ready (rs := [0]) (by kernel_rfl) (by simp) ?_
      refine AllReadyH.cons (o := { dst := some 41, op := Op.load 164 (Operand.tmp 6), type := 164, pos := "cipher.go:207", after := #[], guard := none }) rfl (fun K' hK => ?_) AllReadyH.nil
      rw [if_pos (by rfl)]
      refine wp_load_row 164 (.tmp 6) rfl b6 (by rfl) _ (sqV E) _ _ HXV.out Tryz.underlying164 rfl (size_sqVi E) ?_
      refine hK.out _ _ hHeld (fun hHeld1 => ?_)
      clear hK K' hHeld
      have hHeld := hHeld1
      clear hHeld1
      try simp only [Act.put, List.setIfInBounds_toArray, List.set_cons_zero, List.set_cons_succ]
      refine wpAnyH_ready (rs := [4]) (by kernel_rfl) (by simp) ?_
      refine AllReadyH.cons (o := { dst := some 45, op := Op.call { callee := Callee.value (Operand.func 178), args := #[Operand.tmp 41, Operand.tmp 44, Operand.const (Value.int IntKind.i64 1)], argTypes := #[164, 162, 3] }, type := 164, pos := "cipher.go:207", after := #[{ on := 0, ground := Ground.data }, { on := 3, ground := Ground.data }], guard := none }) rfl (fun K' hK => ?_) AllReadyH.nil
      rw [if_pos (by rfl)]
      go_simp
      go_wp2_with (go_at_call 178; refine (sqThrough_any E HEB.out b 1 box box_lt 1 1 (.inl ⟨rfl, rfl⟩) _ (HCV.out.but hHeld HNE.out.1 HNE.out.2).2.2.2.2.2.1).mono ?_; rintro e w45 ⟨rfl, hb⟩)
      have hg : V9.grownBy w45 (some b6) := hHeld.trans (below_but hb _)
      have HG45 := Lib.hid hg
      have HX45 := Lib.hid (show Blk w45 b6 164 4 (sqc E) from Blk.on (w := V9.drew) HXV.out hb HXV.out.lt)
      clear hb hg
      refine hK.out _ _ HG45.out (fun hHeld1 => ?_)
      clear hK K' hHeld
      have hHeld := hHeld1
      clear hHeld1
      try simp only [Act.put, List.setIfInBounds_toArray, List.set_cons_zero, List.set_cons_succ]
      refine wpAnyH_ready (rs := [8]) (by kernel_rfl) (by simp) ?_
      refine AllReadyH.cons (o := { dst := some 49, op := Op.call { callee := Callee.value (Operand.func 179), args := #[Operand.tmp 45, Operand.tmp 48], argTypes := #[164, 212] }, type := 164, pos := "cipher.go:207", after := #[{ on := 4, ground := Ground.data }, { on := 7, ground := Ground.data }, { on := 4, ground := Ground.chain }], guard := none }) rfl (fun K' hK => ?_) AllReadyH.nil
      rw [if_pos (by rfl)]
      go_simp
      go_wp2_with (go_at_call 179; refine (sqTimes_any (thr box 1 E) (SqB.thr box_lt _ _) b 513 m2 _ (HCV.out.but hHeld HNE.out.1 HNE.out.2).2.2.2.2.2.2.2.1).mono ?_; rintro e w49 ⟨rfl, hb⟩)
      have hg : V9.grownBy w49 (some b6) := hHeld.trans (below_but hb _)
      have HG49 := Lib.hid hg
      have HX49 := Lib.hid (show Blk w49 b6 164 4 (sqc E) from HX45.out.on hb HX45.out.lt)
      clear hb hg
      refine hK.out _ _ HG49.out (fun hHeld1 => ?_)
      clear hK K' hHeld
      have hHeld := hHeld1
      clear hHeld1
      try simp only [Act.put, List.setIfInBounds_toArray, List.set_cons_zero, List.set_cons_succ]
      refine wpAnyH_ready (rs := [10]) (by kernel_rfl) (by simp) ?_
      refine AllReadyH.cons (o := { dst := some 51, op := Op.call { callee := Callee.value (Operand.func 177), args := #[Operand.tmp 49, Operand.tmp 50], argTypes := #[164, 164] }, type := 164, pos := "cipher.go:207", after := #[{ on := 8, ground := Ground.data }, { on := 9, ground := Ground.data }, { on := 8, ground := Ground.chain }], guard := none }) rfl (fun K' hK => ?_) AllReadyH.nil
      rw [if_pos (by rfl)]
      go_simp
      go_wp2_with (go_at_call 177; refine (sqPlus_any (mix m2 (thr box 1 E)) (rk W (i + 1)) (SqB.mix _ _) (HWB.out.rk _) _).mono ?_; rintro e w51 ⟨rfl, hb⟩)
      have hg : V9.grownBy w51 (some b6) := hHeld.trans (below_but hb _)
      have HG51 := Lib.hid hg
      have HX51 := Lib.hid (show Blk w51 b6 164 4 (sqc E) from HX49.out.on hb HX49.out.lt)
      clear hb hg
      refine hK.out _ _ HG51.out (fun hHeld1 => ?_)
      clear hK K' hHeld
      have hHeld := hHeld1
      clear hHeld1
      try simp only [Act.put, List.setIfInBounds_toArray, List.set_cons_zero, List.set_cons_succ]
      refine wpAnyH_ready (rs := [11]) (by kernel_rfl) (by simp) ?_
      refine AllReadyH.cons (o := { dst := none, op := Op.store 164 (Operand.tmp 6) (Operand.tmp 51), type := 0, pos := "cipher.go:207", after := #[{ on := 10, ground := Ground.data }, { on := 10, ground := Ground.chain }, { on := 0, ground := Ground.phase }, { on := 1, ground := Ground.phase }, { on := 2, ground := Ground.phase }, { on := 3, ground := Ground.phase }, { on := 4, ground := Ground.phase }, { on := 5, ground := Ground.phase }, { on := 6, ground := Ground.phase }, { on := 7, ground := Ground.phase }, { on := 8, ground := Ground.phase }, { on := 9, ground := Ground.phase }, { on := 10, ground := Ground.phase }], guard := none }) rfl (fun K' hK => ?_) AllReadyH.nil
      rw [if_pos (by rfl)]
      refine wp_store_row 164 (.tmp 6) (.tmp 51) rfl b6 (sqV (adds (mix m2 (thr box 1 E)) (rk W (i + 1)))) (by rfl) (by rfl) _ _ HX51.out (size_sqVi _) (sq_sizes _ _) (sqV_ones _) ?_
      refine hK.out _ _ (HG51.out.trans (setRow_but w51 b6 _)) (fun hHeld1 => ?_)
      clear hK K' hHeld
      have hHeld := hHeld1
      clear hHeld1
      try simp only [Act.put, List.setIfInBounds_toArray, List.set_cons_zero, List.set_cons_succ]
      refine wpAnyH_done (by kernel_rfl) ?_ _
      clear hHeld
      go_wp2
      go_roundw
      case rel => exact ⟨i + 1, by omega, by go_num, HGV.out.trans (HG51.out.trans (setRow_but w51 b6 _)), by rw [encR, ← HEE.out]; exact HX51.out.row _⟩
      case measure => simp [intOf]; omega
    · obtain rfl : i = n - 1 := by omega
      have HE0 := Lib.hid (encR_bd HWB.out HXB.out (n - 1))
      have HEN := Lib.hid (show enc W n X = adds (thr box 1 (encR W X (n - 1))) (rk W n) from rfl)
      obtain ⟨E, hEE⟩ : ∃ E, E = encR W X (n - 1) := ⟨_, rfl⟩
      rw [← hEE] at HX HE0 HEN
      have HBW := Lib.hid (show Below w.heap.size w wr from HBC.out.trans (but_below HG.out HB6W.out HBC.out.size))
      have HCR := Lib.hid (HCA.out.but HG.out HNE.out.1 HNE.out.2)
      have HRNG := Lib.hid (show wr.rangeAt g (n * 4) (sqL4 (rk W n)) by
        have h := HCR.out.2.2.2.2.1 n (Nat.le_refl _)
        rw [show 4 * n = n * 4 by omega] at h
        exact h)
      have qn4 : (n : Int) < (n : Int) + 1 := by omega
      have qn5 : (0 : Int) ≤ (n : Int) := by omega
      clear hEE
      go_wp2_with fail
      refine wp_region_held_drew (S := fun W => Below wr.heap.size wr W) (by kernel_rfl) (Below.refl _ _).drew (fun hHeld => ?_)
      refine wpAnyH_take (i := 1) (oi := { dst := some 54, op := Op.move (Operand.tmp 0), type := 133, pos := "cipher.go:209", after := #[], guard := none }) (v := ?v1c1) rfl (by kernel_rfl) (by kernel_rfl) (by kernel_rfl) (fun _ _ _ h => h) (Or.inl ⟨by rfl, ?hy1c1⟩) hHeld ?rest1c1
      case hy1c1 =>
        intro W' hV
        try dsimp only at hV
        go_simp
        all_goals with_reducible rfl
      case' rest1c1 => try simp only [Act.put, List.setIfInBounds_toArray, List.set_cons_zero, List.set_cons_succ]
      refine wpAnyH_take (i := 2) (oi := { dst := some 55, op := Op.nilCheck (Operand.tmp 54), type := 0, pos := "cipher.go:209", after := #[{ on := 1, ground := Ground.data }], guard := none }) (v := ?v2c2) rfl (by kernel_rfl) (by kernel_rfl) (by kernel_rfl) (fun _ _ _ h => h) (Or.inl ⟨by rfl, ?hy2c2⟩) hHeld ?rest2c2
      case hy2c2 =>
        intro W' hV
        try dsimp only at hV
        go_simp
        all_goals with_reducible rfl
      case' rest2c2 => try simp only [Act.put, List.setIfInBounds_toArray, List.set_cons_zero, List.set_cons_succ]
      refine wpAnyH_take (i := 3) (oi := { dst := some 56, op := Op.fieldAddr 155 (Operand.tmp 55) 1, type := 0, pos := "cipher.go:209", after := #[{ on := 2, ground := Ground.data }], guard := none }) (v := ?v3c3) rfl (by kernel_rfl) (by kernel_rfl) (by kernel_rfl) (fun _ _ _ h => h) (Or.inl ⟨by rfl, ?hy3c3⟩) hHeld ?rest3c3
      case hy3c3 =>
        intro W' hV
        try dsimp only at hV
        go_simp
        all_goals with_reducible rfl
      case' rest3c3 => try simp only [Act.put, List.setIfInBounds_toArray, List.set_cons_zero, List.set_cons_succ]
      refine wpAnyH_take (i := 5) (oi := { dst := some 58, op := Op.move (Operand.tmp 0), type := 133, pos := "cipher.go:209", after := #[], guard := none }) (v := ?v5c4) rfl (by kernel_rfl) (by kernel_rfl) (by kernel_rfl) (fun _ _ _ h => h) (Or.inl ⟨by rfl, ?hy5c4⟩) hHeld ?rest5c4
      case hy5c4 =>
        intro W' hV
        try dsimp only at hV
        go_simp
        all_goals with_reducible rfl
      case' rest5c4 => try simp only [Act.put, List.setIfInBounds_toArray, List.set_cons_zero, List.set_cons_succ]
      refine wpAnyH_take (i := 6) (oi := { dst := some 59, op := Op.nilCheck (Operand.tmp 58), type := 0, pos := "cipher.go:209", after := #[{ on := 5, ground := Ground.data }], guard := none }) (v := ?v6c5) rfl (by kernel_rfl) (by kernel_rfl) (by kernel_rfl) (fun _ _ _ h => h) (Or.inl ⟨by rfl, ?hy6c5⟩) hHeld ?rest6c5
      case hy6c5 =>
        intro W' hV
        try dsimp only at hV
        go_simp
        all_goals with_reducible rfl
      case' rest6c5 => try simp only [Act.put, List.setIfInBounds_toArray, List.set_cons_zero, List.set_cons_succ]
      refine wpAnyH_take (i := 7) (oi := { dst := some 60, op := Op.fieldAddr 155 (Operand.tmp 59) 0, type := 0, pos := "cipher.go:209", after := #[{ on := 6, ground := Ground.data }], guard := none }) (v := ?v7c6) rfl (by kernel_rfl) (by kernel_rfl) (by kernel_rfl) (fun _ _ _ h => h) (Or.inl ⟨by rfl, ?hy7c6⟩) hHeld ?rest7c6
      case hy7c6 =>
        intro W' hV
        try dsimp only at hV
        go_simp
        all_goals with_reducible rfl
      case' rest7c6 => try simp only [Act.put, List.setIfInBounds_toArray, List.set_cons_zero, List.set_cons_succ]
      refine wpAnyH_take (i := 8) (oi := { dst := some 61, op := Op.load 153 (Operand.tmp 60), type := 153, pos := "cipher.go:209", after := #[{ on := 7, ground := Ground.data }], guard := none }) (v := ?v8c7) rfl (by kernel_rfl) (by kernel_rfl) (by kernel_rfl) (fun _ _ _ h => h) (Or.inl ⟨by rfl, ?hy8c7⟩) hHeld ?rest8c7
      case hy8c7 =>
        intro W' hV
        try dsimp only at hV
        have hca := (HCR.out.on hV).2.2.2.1
        go_simp
        all_goals with_reducible rfl
      case' rest8c7 => try simp only [Act.put, List.setIfInBounds_toArray, List.set_cons_zero, List.set_cons_succ]
      refine wpAnyH_take (i := 9) (oi := { dst := some 62, op := Op.move (Operand.tmp 8), type := 3, pos := "cipher.go:209", after := #[], guard := none }) (v := ?v9c8) rfl (by kernel_rfl) (by kernel_rfl) (by kernel_rfl) (fun _ _ _ h => h) (Or.inl ⟨by rfl, ?hy9c8⟩) hHeld ?rest9c8
      case hy9c8 =>
        intro W' hV
        try dsimp only at hV
        go_simp
        all_goals with_reducible rfl
      case' rest9c8 => try simp only [Act.put, List.setIfInBounds_toArray, List.set_cons_zero, List.set_cons_succ]
      refine wpAnyH_take (i := 10) (oi := { dst := some 63, op := Op.indexAddr 153 (Operand.tmp 61) (Operand.tmp 62), type := 0, pos := "cipher.go:209", after := #[{ on := 8, ground := Ground.data }, { on := 9, ground := Ground.data }], guard := none }) (v := ?v10c9) rfl (by kernel_rfl) (by kernel_rfl) (by kernel_rfl) (fun _ _ _ h => h) (Or.inl ⟨by rfl, ?hy10c9⟩) hHeld ?rest10c9
      case hy10c9 =>
        intro W' hV
        try dsimp only at hV
        go_simp
        all_goals with_reducible rfl
      case' rest10c9 => try simp only [Act.put, List.setIfInBounds_toArray, List.set_cons_zero, List.set_cons_succ]
      refine wpAnyH_take (i := 11) (oi := { dst := some 64, op := Op.load 164 (Operand.tmp 63), type := 164, pos := "cipher.go:209", after := #[{ on := 10, ground := Ground.data }], guard := none }) (v := .agg (sqL4 (rk W n)).toArray) rfl (by kernel_rfl) (by kernel_rfl) (by kernel_rfl) (fun _ _ _ h => h) (yieldsIf_load_mid (by rfl) 164 (.tmp 63) rfl g (n * 4) (by rfl) (sqL4 (rk W n)) _ (fun W hS j v hv => (hS.cell (p := ⟨g, n * 4 + j, none⟩) HCR.out.1).trans (HRNG.out j v hv)) Tryz.underlying164 rfl (size_sqL4 _)) hHeld ?rest11c10
      case' rest11c10 => try simp only [Act.put, List.setIfInBounds_toArray, List.set_cons_zero, List.set_cons_succ]
      refine wpAnyH_take (i := 0) (oi := { dst := some 53, op := Op.load 164 (Operand.tmp 6), type := 164, pos := "cipher.go:209", after := #[], guard := none }) (v := .agg (sqL4 E).toArray) rfl (by kernel_rfl) (by kernel_rfl) (by kernel_rfl) (fun _ _ _ h => h) (yieldsIf_load_mid (by rfl) 164 (.tmp 6) rfl b6 0 (by rfl) (sqL4 E) _ (fun W hS => (HX.out.on hS HX.out.lt).range) Tryz.underlying164 rfl (size_sqL4 _)) hHeld ?rest0c11
      case' rest0c11 => try simp only [Act.put, List.setIfInBounds_toArray, List.set_cons_zero, List.set_cons_succ]
      refine wpAnyH_ready (rs := [4]) (by kernel_rfl) (by simp) ?_
      refine AllReadyH.cons (o := { dst := some 57, op := Op.call { callee := Callee.value (Operand.func 178), args := #[Operand.tmp 53, Operand.tmp 56, Operand.const (Value.int IntKind.i64 1)], argTypes := #[164, 162, 3] }, type := 164, pos := "cipher.go:209", after := #[{ on := 0, ground := Ground.data }, { on := 3, ground := Ground.data }], guard := none }) rfl (fun K' hK => ?_) AllReadyH.nil
      rw [if_pos (by rfl)]
      go_simp
      go_wp2_with (go_at_call 178; refine (sqThrough_any E HE0.out b 1 box box_lt 1 1 (.inl ⟨rfl, rfl⟩) _ (HCR.out.on hHeld).2.2.2.2.2.1).mono ?_; rintro e w57 ⟨rfl, hb⟩)
      have hg : Below wr.heap.size wr w57 := bt hHeld hb
      have HB57 := Lib.hid hg
      clear hb hg
      refine hK.out _ _ HB57.out (fun hHeld1 => ?_)
      clear hK K' hHeld
      have hHeld := hHeld1
      clear hHeld1
      try simp only [Act.put, List.setIfInBounds_toArray, List.set_cons_zero, List.set_cons_succ]
      refine wpAnyH_ready (rs := [12]) (by kernel_rfl) (by simp) ?_
      refine AllReadyH.cons (o := { dst := some 65, op := Op.call { callee := Callee.value (Operand.func 177), args := #[Operand.tmp 57, Operand.tmp 64], argTypes := #[164, 164] }, type := 164, pos := "cipher.go:209", after := #[{ on := 4, ground := Ground.data }, { on := 11, ground := Ground.data }, { on := 4, ground := Ground.chain }], guard := none }) rfl (fun K' hK => ?_) AllReadyH.nil
      rw [if_pos (by rfl)]
      go_simp
      go_wp2_with (go_at_call 177; refine (sqPlus_any (thr box 1 E) (rk W n) (SqB.thr box_lt _ _) (HWB.out.rk _) _).mono ?_; rintro e w65 ⟨rfl, hb⟩)
      have hg : Below wr.heap.size wr w65 := bt hHeld hb
      have HB65 := Lib.hid hg
      clear hb hg
      refine hK.out _ _ HB65.out (fun hHeld1 => ?_)
      clear hK K' hHeld
      have hHeld := hHeld1
      clear hHeld1
      try simp only [Act.put, List.setIfInBounds_toArray, List.set_cons_zero, List.set_cons_succ]
      refine wpAnyH_ready (rs := [13]) (by kernel_rfl) (by simp) ?_
      refine AllReadyH.cons (o := { dst := some 66, op := Op.call { callee := Callee.value (Operand.func 180), args := #[Operand.tmp 65], argTypes := #[164] }, type := 22, pos := "cipher.go:209", after := #[{ on := 12, ground := Ground.data }, { on := 12, ground := Ground.chain }], guard := none }) rfl (fun K' hK => ?_) AllReadyH.nil
      rw [if_pos (by rfl)]
      go_simp
      go_wp2_with (go_at_call 180; refine (bytes_any (adds (thr box 1 E) (rk W n)) ((SqB.thr box_lt _ _).adds (HWB.out.rk _)) _).mono ?_; rintro e w66 ⟨a66, rfl, ho, hb⟩)
      have hg : Below wr.heap.size wr w66 := bt hHeld hb
      have HB66 := Lib.hid hg
      have HO66 := Lib.hid ho
      clear ho
      clear hb hg
      refine hK.out _ _ HB66.out (fun hHeld1 => ?_)
      clear hK K' hHeld
      have hHeld := hHeld1
      clear hHeld1
      try simp only [Act.put, List.setIfInBounds_toArray, List.set_cons_zero, List.set_cons_succ]
      refine wpAnyH_take (i := 14) (oi := { dst := some 4, op := Op.assign (Operand.tmp 66), type := 22, pos := "cipher.go:209", after := #[{ on := 13, ground := Ground.data }, { on := 13, ground := Ground.chain }, { on := 0, ground := Ground.phase }, { on := 1, ground := Ground.phase }, { on := 2, ground := Ground.phase }, { on := 3, ground := Ground.phase }, { on := 4, ground := Ground.phase }, { on := 5, ground := Ground.phase }, { on := 6, ground := Ground.phase }, { on := 7, ground := Ground.phase }, { on := 8, ground := Ground.phase }, { on := 9, ground := Ground.phase }, { on := 10, ground := Ground.phase }, { on := 11, ground := Ground.phase }, { on := 12, ground := Ground.phase }, { on := 13, ground := Ground.phase }], guard := none }) (v := ?v14c12) rfl (by kernel_rfl) (by kernel_rfl) (by kernel_rfl) (fun _ _ _ h => h) (Or.inl ⟨by rfl, ?hy14c12⟩) hHeld ?rest14c12
      case hy14c12 =>
        intro W' hV
        try dsimp only at hV
        go_simp
        all_goals with_reducible rfl
      case' rest14c12 => try simp only [Act.put, List.setIfInBounds_toArray, List.set_cons_zero, List.set_cons_succ]
      refine wpAnyH_take (i := 15) (oi := { dst := some 5, op := Op.assign (Operand.const (Value.int IntKind.i64 0)), type := 29, pos := "cipher.go:209", after := #[{ on := 14, ground := Ground.chain }, { on := 0, ground := Ground.phase }, { on := 1, ground := Ground.phase }, { on := 2, ground := Ground.phase }, { on := 3, ground := Ground.phase }, { on := 4, ground := Ground.phase }, { on := 5, ground := Ground.phase }, { on := 6, ground := Ground.phase }, { on := 7, ground := Ground.phase }, { on := 8, ground := Ground.phase }, { on := 9, ground := Ground.phase }, { on := 10, ground := Ground.phase }, { on := 11, ground := Ground.phase }, { on := 12, ground := Ground.phase }, { on := 13, ground := Ground.phase }, { on := 14, ground := Ground.phase }], guard := none }) (v := ?v15c13) rfl (by kernel_rfl) (by kernel_rfl) (by kernel_rfl) (fun _ _ _ h => h) (Or.inl ⟨by rfl, ?hy15c13⟩) hHeld ?rest15c13
      case hy15c13 =>
        intro W' hV
        try dsimp only at hV
        go_simp
        all_goals with_reducible rfl
      case' rest15c13 => try simp only [Act.put, List.setIfInBounds_toArray, List.set_cons_zero, List.set_cons_succ]
      refine wpAnyH_done (by kernel_rfl) ?_ _
      clear hHeld
      go_wp2
      go_ret2
      exact ⟨_, rfl, by rw [HEN.out]; exact own_baseS HO66.out (Nat.le_trans HBW.out.size HB65.out.size), bt HBW.out HB66.out⟩
end Go.Proofs.YtappfdbmhgifcaaGreatDoor
/- slices.Backward over a slice of squares that nobody writes: the contract of its iterator. -/
namespace Go.Proofs.YtappfdbmhgifcaaGreatDoor
open Go.ChangeShapes Go.WideShapes Go.ChangeAt Go.RowKit Go.Shelf
set_option linter.unusedVariables false
set_option maxRecDepth 100000
attribute [local go_sem] Oper.semAt_some

/-- The box holds the slice, and the squares stand there. -/
def qRd (Bx g o len cap : Nat) (K : Nat → Nat → Nat → Nat) (W : World) : Prop :=
  W.cell? ⟨Bx, 0, none⟩ = some (.slice (some ⟨g, o, none⟩) len cap) ∧ ∀ j, j < len → W.rangeAt g (o + j * 4) (sqL4 (K j))
/-- What has come: the last ones, from the last on. -/
def qBk (len : Nat) (pre : List (Fin len)) : Prop := pre.length ≤ len ∧ ∀ k (h : k < pre.length), (pre[k]).1 = len - 1 - k
theorem qBk.nil (len : Nat) : qBk len [] := ⟨Nat.zero_le _, fun k h => by simp at h⟩
theorem qBk.snoc {len : Nat} {pre : List (Fin len)} (h : qBk len pre) (x : Fin len) (hl : pre.length < len) (hx : x.1 = len - 1 - pre.length) : qBk len (pre ++ [x]) := by
  refine ⟨by simp; omega, fun k hk => ?_⟩
  by_cases e : k < pre.length
  · rw [List.getElem_append_left e]; exact h.2 k e
  · have e2 : k = pre.length := by simp at hk; omega
    subst e2
    rw [List.getElem_append_right (Nat.le_refl _)]
    simp only [Nat.sub_self, List.getElem_cons_zero]
    exact hx
theorem qRd.on {W W' : World} {Bx g o len cap : Nat} {K : Nat → Nat → Nat → Nat} (h : qRd Bx g o len cap K W) {B : Nat} (hb : Below B W W') (h1 : Bx < B) (h2 : g < B) : qRd Bx g o len cap K W' :=
  ⟨(hb.cell (p := ⟨Bx, 0, none⟩) h1).trans h.1, fun j hj k v hv => (hb.cell (p := ⟨g, o + j * 4 + k, none⟩) h2).trans (h.2 j hj k v hv)⟩
end Go.Proofs.YtappfdbmhgifcaaGreatDoor
/- A region that draws its order, inside a round of a range over a function: told by any walk of the held kind. No program is named here. -/
namespace Go.Proofs.YtappfdbmhgifcaaGreatDoor
open Go.RowKit

section
variable {P : Program} {ops : Array Oper} {Q : Exit → Act → World → Prop} {md : Region.Mode} {l n : Nat}

theorem opIn_of_op {i : Nat} {K K' : Act → World → Prop} {a : Act} {w : World} (hnd : ∀ (i : Nat) (o : Oper), ops[i]? = some o → ∀ c, o.op ≠ .defer c) (hno : ¬ LetsOut Q) (hK : ∀ a w, K a w → K' a w)
    (h : wpOp P ops Q i K a w) : wpOpIn (Fence.wide.inRound l) n P ops Q i K' a w := by
  unfold wpOp at h
  unfold wpOpIn
  cases ho : ops[i]? with
  | none => simp only [ho] at h ⊢; exact hK _ _ h
  | some o =>
    simp only [ho] at h ⊢
    split
    · rename_i hw
      rw [if_pos hw] at h
      rcases h with h | ⟨_, h⟩
      · refine ⟨fun _ _ => trivial, ?_⟩
        rw [show (Fence.wide.inRound l).round = some l from rfl, Oper.semAt_some l _ _ (hnd i o ho)]
        unfold Oper.wp at h
        generalize (execOp a.eval o).run P w = r at *
        cases r with
        | ok x w' =>
          cases x with
          | value v => exact hK _ _ h
          | skip => exact hK _ _ h
          | defer d => exact hK _ _ h
          | enter f args =>
            refine ⟨(fun h0 => by cases h0), CallsIn.inRound l (callsIn_wide.2 (Calls.mono h fun e w'' he => ?_))⟩
            cases e with
            | returned v => exact hK _ _ he
            | panicked c => exact he
            | outgrown => exact he
          | row row args =>
            refine ⟨(fun h0 => by cases h0), fun c cs _ => ?_⟩
            obtain ⟨v, w'', r, s⟩ := h c cs
            exact ⟨v, w'', hK _ _ r, stepsIn_wide.2 s⟩
          | _ => exact h.elim
        | halt x w' =>
          cases x with
          | panic v => exact h
          | _ => exact h.elim
      · exact absurd h hno
    · rename_i hw
      rw [if_neg hw] at h
      exact ⟨fun _ _ => trivial, hK _ _ h⟩

theorem anyIn_of_any (hnd : ∀ (i : Nat) (o : Oper), ops[i]? = some o → ∀ c, o.op ≠ .defer c) (hno : ¬ LetsOut Q) : ∀ (fuel : Nat) (listed : Array Bool) (a : Act) (w : World),
    wpAny P md ops Q fuel listed a w → wpAnyIn (Fence.wide.inRound l) n P md ops Q fuel listed a w
  | 0, _, _, _, h => h
  | fuel + 1, _, _, _, h => ⟨h.1, fun i hi => opIn_of_op hnd hno (fun a' w' h' => anyIn_of_any hnd hno fuel _ a' w' h') (h.2 i hi)⟩

/-- No operation of these is a defer. -/
def noDefer (ops : Array Oper) : Bool := ops.all fun o => match o.op with | .defer _ => false | _ => true
theorem noDefer_spec (h : noDefer ops = true) : ∀ (i : Nat) (o : Oper), ops[i]? = some o → ∀ c, o.op ≠ .defer c := fun i o ho c e => by
  have := Array.all_eq_true'.1 h o (Array.mem_of_getElem? ho)
  rw [e] at this
  cases this

theorem round_held {id : Nat} {a : Act} {w : World} (S : World → Prop) (hm : P.follows .mixedOrders = true) (hnd : noDefer ops = true) (hno : ¬ LetsOut Q)
    (h : wpAnyH P .any ops Q S ops.size (Array.replicate ops.size false) a w.drew) : (Code.region id ops true).wpIn (Fence.wide.inRound l) n P Q a w :=
  wpIn_region_any hm (anyIn_of_any (noDefer_spec hnd) hno _ _ _ _ (wpAny_of_held _ _ _ _ h))
end
/-- Left by the end alone. -/
def onlyN (K : Act → World → Prop) : Exit → Act → World → Prop
  | .normal, a, w => K a w
  | _, _, _ => False
theorem wp_onlyN {P : Program} {c : Code} {Q : Exit → Act → World → Prop} {a : Act} {w : World} (h : c.wp P (onlyN (Q .normal)) a w) : c.wp P Q a w :=
  wp_mono h (fun e a w h => by cases e <;> first | exact h | exact h.elim)
end Go.Proofs.YtappfdbmhgifcaaGreatDoor
/- Contracts of the cipher's Decrypt (written by gen19.py). -/
namespace Go.Proofs.YtappfdbmhgifcaaGreatDoor
open Go.ChangeShapes Go.WideShapes Go.ChangeAt Go.RowKit Go.Shelf
set_option linter.unusedVariables false
set_option linter.unusedSimpArgs false
set_option maxRecDepth 100000
attribute [local go_sem] Oper.semAt_some
attribute [local go_sem ↓] Go.wp_at_zero Go.wp_at_succ

theorem Blk.noncell {w w' : World} {b : Nat} {T : TypeId} {n : Nat} {g : Nat → Value} {row : Option Nat} (h : Blk w b T n g) (hg : w.grownBy w' row) (hr : ∀ r, row = some r → ∃ o : Obj, w.heap[r]? = some o ∧ o.isCells = false) : Blk w' b T n g := by
  unfold Blk
  rw [hg.block b h.lt (fun e => by
    obtain ⟨o, ho, hc⟩ := hr b e.symm
    unfold Blk at h
    rw [h] at ho
    injection ho with ho
    rw [← ho] at hc
    cases hc)]
  exact h
theorem CipA.noncell {w w' : World} {b g cap n : Nat} {W : Nat → Nat → Nat} {row : Option Nat} (h : CipA w b g cap n W) (hg : w.grownBy w' row) (hr : ∀ r, row = some r → ∃ o : Obj, w.heap[r]? = some o ∧ o.isCells = false) : CipA w' b g cap n W := by
  have hlt := h.cip.lt
  obtain ⟨a1, a2, a3, a4, a5, a6, a7, a8, a9⟩ := h
  have hl2 := Nat.lt_of_lt_of_le hlt hg.size
  exact ⟨Nat.lt_of_lt_of_le a1 hg.size, a2, a3, cell_kept a4 hg hr, fun j hj k v hv => cell_kept (a5 j hj k v hv) hg hr, ⟨hl2, fun j hj => cell_kept (a6.2 j hj) hg hr⟩, ⟨hl2, fun j hj => cell_kept (a7.2 j hj) hg hr⟩, ⟨hl2, fun j hj => cell_kept (a8.2 j hj) hg hr⟩, ⟨hl2, fun j hj => cell_kept (a9.2 j hj) hg hr⟩⟩
theorem qRd.put {W : World} {Bx g o len cap l : Nat} {K : Nat → Nat → Nat → Nat} {x : Obj} (h : qRd Bx g o len cap K W) (x' : Obj) (hl : W.heap[l]? = some x) (hx : x.isCells = false) : qRd Bx g o len cap K (W.putObj l x') :=
  ⟨cell_kept h.1 (grownBy_putObj' W l x') (fun r e => by cases e; exact ⟨x, hl, hx⟩), fun j hj k v hv => cell_kept (h.2 j hj k v hv) (grownBy_putObj' W l x') (fun r e => by cases e; exact ⟨x, hl, hx⟩)⟩
theorem cell_but {w w' : World} {b o x : Nat} {v : Value} (h : w.cell? ⟨b, o, none⟩ = some v) (hg : w.grownBy w' (some x)) (hne : b ≠ x) : w'.cell? ⟨b, o, none⟩ = some v :=
  (World.cell?_of_block (w := w) (a := ⟨b, o, none⟩) (hg.block b (block_lt_of_cell h) (fun e => hne (by injection e)))).trans h

end Go.Proofs.YtappfdbmhgifcaaGreatDoor
