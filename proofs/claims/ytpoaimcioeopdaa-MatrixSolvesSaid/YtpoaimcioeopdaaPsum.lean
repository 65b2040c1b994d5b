/- Contract of poly's Add; the laws' lives. -/
import Derived.Test.YtpoaimcioeopdaaPmul
namespace Go.Proofs.Ytpoaimcioeopdaa
open Go.ChangeShapes Go.WideShapes Go.ChangeAt Go.RowKit Go.Shelf GF
set_option linter.unusedVariables false
set_option maxRecDepth 100000

/-- P, and noughts behind it. -/
def padL (P : List GF) (M : Nat) : List GF := P ++ List.replicate (M - P.length) 0
theorem length_padL {P : List GF} {M : Nat} (h : P.length ≤ M) : (padL P M).length = M := by simp [padL]; omega
theorem co_padL (P : List GF) (M k : Nat) : co (padL P M) k = co P k := by
  unfold padL
  by_cases h : k < P.length
  · simp [co, List.getD_eq_getElem?_getD, List.getElem?_append_left h]
  · rw [co_ge (l := P) (by omega)]
    have : co (P ++ List.replicate (M - P.length) 0) k = co (List.replicate (M - P.length) 0) (k - P.length) := by
      simp [co, List.getD_eq_getElem?_getD, List.getElem?_append_right (Nat.le_of_not_lt h)]
    rw [this, co_replicate]
theorem pad_row {w1 : World} {g M : Nat} {P : List GF} (hg : w1.heap[g]? = some (.cells (splice (madeCells #[Value.int .u8 0] M).toList 0 ((iL P).map (Value.int .u8))).toArray 5 (0, 0))) (hl : P.length ≤ M) (hm : M ≤ 140737488355328) :
    w1.ownsRow g 5 1 (.slice (some ⟨g, 0, none⟩) M M) M ((iL (padL P M)).map (Value.int .u8)) := by
  rw [splice_all, replicate_cells] at hg
  have e : ((iL P).map (Value.int .u8)) ++ ((List.replicate M (0 : Int)).map (Value.int .u8)).drop ((iL P).map (Value.int .u8)).length = (iL (padL P M)).map (Value.int .u8) := by
    simp [padL, iL, List.map_replicate, toI_zero]
  rw [e] at hg
  have hL : (iL (padL P M)).length = M := by rw [length_iL, length_padL hl]
  refine ⟨by simp [hL], .inr ⟨g, M, _, rfl, Nat.le_refl _, hg, Nat.le_refl _, by unfold maxLen; omega, by simp [hL], ?_⟩⟩
  rw [List.take_of_length_le (by simp [hL])]
theorem tr_sum {P Q : List GF} {M : Nat} (hP : P.length ≤ M) (hQ : Q.length ≤ M) : tr (axp (padL P M) 0 1 Q) = tr (addL P Q) := by
  apply tr_ext
  intro k
  rw [co_axp (by rw [length_padL hP]; omega), if_pos (Nat.zero_le _), Nat.sub_zero, co_padL, co_addL, GF.one_mul]

end Go.Proofs.Ytpoaimcioeopdaa
