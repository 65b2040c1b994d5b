/- The contract of the document's Put. -/
import Derived.Test.YtbijakhdngbjmaaGet
import Derived.Deep.OwnRows
namespace Go.Proofs.Ytbijakhdngbjmaa
open Go.ChangeShapes Go.WideShapes Go.ChangeAt Go.RowKit
set_option linter.unusedVariables false

theorem allB_be (n : Nat) (x : Int) : AllB (be n x) := by
  intro v hv
  simp only [be, List.mem_map] at hv
  obtain ⟨i, _, rfl⟩ := hv
  exact ⟨Int.emod_nonneg _ (by omega), Int.emod_lt_of_pos _ (by omega)⟩
/-- A row that is filled from its end on. -/
def tailed (L : List Int) (j : Nat) : List Int := List.replicate j 0 ++ L.drop j
theorem length_tailed {L : List Int} {j : Nat} (h : j ≤ L.length) : (tailed L j).length = L.length := by simp [tailed]; omega
theorem tailed_set {L : List Int} {m : Nat} (h : m < L.length) : (tailed L (m + 1)).set m (L.getD m 0) = tailed L m := by
  have e : L.getD m 0 = L[m] := by simp [List.getD_eq_getElem?_getD, List.getElem?_eq_getElem h]
  unfold tailed
  rw [List.replicate_succ', List.append_assoc, List.set_append_right _ _ (by simp), e, List.drop_eq_getElem_cons h]
  simp
theorem div_step (X : Int) (n m : Nat) (h : m < n) : X / 2 ^ (8 * (n - (m + 1))) / 256 = X / 2 ^ (8 * (n - m)) := by
  rw [show (256 : Int) = 2 ^ 8 by rfl, Int.ediv_ediv_of_nonneg (Int.pow_nonneg (by omega)), ← Int.pow_add, show 8 * (n - (m + 1)) + 8 = 8 * (n - m) by omega]
end Go.Proofs.Ytbijakhdngbjmaa
