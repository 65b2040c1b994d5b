/- Contract of poly's Mul. -/
import Derived.Test.YtpoaimcioeopdaaPthr
namespace Go.Proofs.Ytpoaimcioeopdaa
open Go.ChangeShapes Go.WideShapes Go.ChangeAt Go.RowKit Go.Shelf GF
set_option linter.unusedVariables false
set_option maxRecDepth 100000

theorem tr_pos {P : List GF} (h : tr P ≠ []) : 0 < (tr P).length := List.length_pos_iff.2 h
/-- The product of two without noughts at their ends has none either. -/
theorem tr_mul_tr {P Q : List GF} (hp : tr P ≠ []) (hq : tr Q ≠ []) : tr (mulL P Q) = mulL (tr P) (tr Q) := by
  have h1 : tr (mulL P Q) = tr (mulL (tr P) (tr Q)) := tr_mulL_congr (fun k => (co_tr P k).symm) (fun k => (co_tr Q k).symm)
  rw [h1]
  apply tr_self
  right
  have a1 := tr_pos hp
  have a2 := tr_pos hq
  rw [length_mulL _ _ a1 a2, show (tr P).length + (tr Q).length - 1 - 1 = ((tr P).length - 1) + ((tr Q).length - 1) by omega, co_mulL_top (fun i hi => co_ge (by omega)) (fun i hi => co_ge (by omega)), co_tr, co_tr]
  exact GF.mul_ne (tr_last P hp) (tr_last Q hq)
theorem tr_mul_nil {P Q : List GF} (h : tr P = [] ∨ tr Q = []) : tr (mulL P Q) = [] := by
  rw [tr_nil]
  intro k
  rw [co_mulL]
  apply sm_zero
  intro i _
  rcases h with h | h
  · rw [tr_nil.1 h i, GF.zero_mul]
  · rw [tr_nil.1 h (k - i), GF.mul_zero]
/-- The product, the first k numbers of P taken in. -/
def mulA (P Q : List GF) (N : Nat) : Nat → List GF
  | 0 => List.replicate N 0
  | k + 1 => axp (mulA P Q N k) k (co P k) Q
theorem length_mulA (P Q : List GF) (N k : Nat) : (mulA P Q N k).length = N := by
  induction k with
  | zero => simp [mulA]
  | succ k ih => simp only [mulA]; rw [length_axp, ih]
theorem co_mulA {P Q : List GF} {N : Nat} (j : Nat) : ∀ k, k + Q.length ≤ N + 1 → co (mulA P Q N k) j = sm k fun i => if i ≤ j then co P i * co Q (j - i) else 0 := by
  intro k
  induction k with
  | zero => intro _; simp only [mulA, sm]; exact co_replicate _ _
  | succ k ih =>
    intro hk
    simp only [mulA, sm]
    rw [co_axp (by rw [length_mulA]; omega), ih (by omega)]
theorem mulA_all {P Q : List GF} (hp : 0 < P.length) (hq : 0 < Q.length) : mulA P Q (P.length + Q.length - 1) P.length = mulL P Q := by
  apply ext_co (by rw [length_mulA, length_mulL _ _ hp hq])
  intro j _
  rw [co_mulA j _ (by omega), co_mulL]
  have h1 : sm (max P.length (j + 1)) (fun i => if i ≤ j then co P i * co Q (j - i) else 0) = sm P.length (fun i => if i ≤ j then co P i * co Q (j - i) else 0) :=
    sm_more (Nat.le_max_left ..) (fun i h _ => by split; rw [co_ge h, GF.zero_mul]; rfl)
  have h2 : sm (max P.length (j + 1)) (fun i => if i ≤ j then co P i * co Q (j - i) else 0) = sm (j + 1) (fun i => if i ≤ j then co P i * co Q (j - i) else 0) :=
    sm_more (Nat.le_max_right ..) (fun i h _ => by rw [if_neg (by omega)])
  rw [← h1, h2]
  exact sm_congr fun i hi => by rw [if_pos (by omega)]

end Go.Proofs.Ytpoaimcioeopdaa
