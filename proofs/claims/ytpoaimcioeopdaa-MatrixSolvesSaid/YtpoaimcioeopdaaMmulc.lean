/- Contracts of Mul. -/
import Derived.Test.YtpoaimcioeopdaaMtimes
import Derived.Deep.RegionHeld
namespace Go.Proofs.Ytpoaimcioeopdaa
open Go.ChangeShapes Go.WideShapes Go.ChangeAt Go.RowKit Go.Shelf GF
set_option linter.unusedVariables false
set_option maxRecDepth 100000
set_option linter.unusedSimpArgs false

theorem GR.make_row {w : World} {base B n : Nat} {M : List (List GF)} (h : GR w base B n M) {i m : Nat} (hi : i < n) (hm : m ≤ maxLen) : GR ((w.alloc (.cells (madeCells #[.int .u8 0] m) 5)).setCell ⟨B, i, none⟩ (.slice (some ⟨w.heap.size, 0, none⟩) m m)) base B n (M.set i (List.replicate m 0)) := by
  have h1 := h.on ((Below.refl w.heap.size w).alloc (Nat.le_refl _) (.cells (madeCells #[.int .u8 0] m) 5))
  have h2 := own_made (w := w) (e := 5) hm
  have e : (List.replicate m (0 : Int)).map (Value.int .u8) = (iL (List.replicate m 0)).map (Value.int .u8) := by simp [iL, toI_zero]
  rw [e] at h2
  have h3 := pa_own h2
  have h4 := h1.set hi (P := List.replicate m 0) (a := some ⟨w.heap.size, 0, none⟩) (c := m) (by rw [List.length_replicate]; exact h3) (fun b off e _ => by cases e; exact own_t8 h2)
  rw [List.length_replicate] at h4
  exact h4
/-- Sums of rows. -/
theorem sumL_G {P Q : List GF} {m : Nat} (x : GF) (hp : P.length = m) (hq : Q.length = m) : sumL (iL P) (toI x) (iL Q) = iL (fl m fun c => co P c + x * co Q c) := by
  apply list_ext_getD (by rw [length_sumL, length_iL, length_iL, length_fl, hp])
  intro i hi
  rw [length_sumL, length_iL, hp] at hi
  rw [sumL_getD _ _ (by rw [length_iL, hp]; exact hi), if_pos (by rw [length_iL, hq]; exact hi), getD_iL, getD_iL, getD_iL, co_fl, if_pos hi, gmI_G, xoI_G]
theorem sum_G (b : Nat) (x : GF) (m : Nat) (a1 : Option Addr) (cap1 : Nat) (P : List GF) (a2 : Option Addr) (cap2 : Nat) (Q : List GF) (w : World) (hf : Fld w b) (hp : Pa w a1 m cap1 P) (hq : Pa w a2 m cap2 Q) (hm : m ≤ 1000) :
    Calls Try.prog 87 #[.pointer (some ⟨b, 0, none⟩), .slice a1 m cap1, .int .u8 (toI x), .slice a2 m cap2] w fun e w' => ∃ g, e = .returned (.slice (some ⟨g, 0, none⟩) m m) ∧ (w.heap.size ≤ g ∧ T8 w' g) ∧ Pa w' (some ⟨g, 0, none⟩) m m (fl m fun c => co P c + x * co Q c) ∧ Below w.heap.size w w' :=
  (sum_any b (toI x) a1 m cap1 (iL P) a2 m cap2 (iL Q) w hf (toI_bd x) hp.1 hq.1 (by omega)).mono fun e w' ⟨g, h1, h2, h3⟩ => ⟨g, h1, ⟨(h2.lt g rfl).1, own_t8 h2⟩, by rw [sumL_G x hp.len hq.len] at h2; exact pa_own h2, h3⟩
/-- So many of the inner sums. -/
def mpart (r : List GF) (O : List (List GF)) (m k : Nat) : List GF := fl m fun c => dt k (co r) (fun j => ent O j c)
theorem length_mpart (r : List GF) (O : List (List GF)) (m k : Nat) : (mpart r O m k).length = m := length_fl _ _
theorem mpart_zero (r : List GF) (O : List (List GF)) (m : Nat) : mpart r O m 0 = List.replicate m 0 := by
  apply List.ext_getElem (by simp [length_mpart])
  intro k h1 h2
  simp [mpart, fl, dt, sm]
theorem mpart_all (r : List GF) (O : List (List GF)) (m : Nat) : mpart r O m r.length = mrow r O m := rfl
theorem mpart_next (r : List GF) (O : List (List GF)) (m k : Nat) : (fl m fun c => co (mpart r O m k) c + co r k * co (rw_ O k) c) = mpart r O m (k + 1) := by
  unfold mpart fl
  apply List.map_congr_left
  intro c hc
  have hc : c < m := by simpa using hc
  have := co_fl m (fun c => dt k (co r) (fun j => ent O j c)) c
  unfold fl at this
  rw [this, if_pos hc]
  rfl
/-- The first i rows of a product. -/
def mulx (M O : List (List GF)) (m n i : Nat) : List (List GF) := (List.range n).map fun k => if k < i then mrow (rw_ M k) O m else []
theorem length_mulx (M O : List (List GF)) (m n i : Nat) : (mulx M O m n i).length = n := by simp [mulx]
theorem mulx_zero (M O : List (List GF)) (m n : Nat) : mulx M O m n 0 = List.replicate n [] := by
  apply List.ext_getElem (by simp [mulx])
  intro k h1 h2
  simp [mulx]
theorem mulx_all (M O : List (List GF)) (m n : Nat) : mulx M O m n n = mulM M O m n := by
  apply List.ext_getElem (by simp [mulx, mulM])
  intro k h1 h2
  simp [mulx, mulM]
  intro h3; simp [mulx] at h1; omega
theorem mulx_set {M O : List (List GF)} {m n i : Nat} (h : i < n) : (mulx M O m n i).set i (mrow (rw_ M i) O m) = mulx M O m n (i + 1) := by
  apply List.ext_getElem (by simp [mulx])
  intro k h1 h2
  rw [List.getElem_set]
  simp only [mulx, List.getElem_map, List.getElem_range]
  by_cases e : i = k
  · subst e; rw [if_pos rfl, if_pos (by omega)]
  · rw [if_neg e]
    by_cases e2 : k < i
    · rw [if_pos e2, if_pos (by omega)]
    · rw [if_neg e2, if_neg (by omega)]
theorem wide_mulM (M O : List (List GF)) (m n : Nat) : Wide (mulM M O m n) m := fun i hi => by
  rw [length_mulM] at hi; rw [rw_mulM hi, length_mrow]

end Go.Proofs.Ytpoaimcioeopdaa
