/- Contracts of Times. -/
import Derived.Test.YtpoaimcioeopdaaMnew
namespace Go.Proofs.Ytpoaimcioeopdaa
open Go.ChangeShapes Go.WideShapes Go.ChangeAt Go.RowKit Go.Shelf GF
set_option linter.unusedVariables false
set_option maxRecDepth 100000
set_option linter.unusedSimpArgs false

theorem Mx.drewN {w : World} {a : Option Addr} {n m : Nat} {M : List (List GF)} (h : Mx w a n m M) (k : Nat) : Mx (w.drewN k) a n m M := h.on (below_drewN (Below.refl _ _) k)
theorem getD_iL_timesL {M : List (List GF)} {V : List GF} {i : Nat} (h : i < M.length) : (iL (timesL M V)).getD i 0 = toI (dt (rw_ M i).length (co (rw_ M i)) (co V)) := by
  rw [getD_iL]
  congr 1
  unfold timesL co rw_
  simp [List.getD_eq_getElem?_getD, h]
theorem part_at_zero {L : List Int} {i : Nat} (h : i < L.length) : (part L i).set i 0 = part L i := by
  apply List.ext_getElem (by simp)
  intro k h1 h2
  rw [List.getElem_set]
  split
  · rename_i e
    subst e
    simp only [part]
    rw [List.getElem_append_right (by simp; omega)]
    simp
  · rfl
theorem part_getD {L : List Int} {i : Nat} (x : Int) (h : i < L.length) : ((part L i).set i x).getD i 0 = x := by
  have hl : i < (part L i).length := by rw [length_part (by omega)]; exact h
  simp [List.getD_eq_getElem?_getD, hl]

end Go.Proofs.Ytpoaimcioeopdaa
