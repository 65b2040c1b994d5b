/- Contracts of poly's weight, Weights. -/
import Derived.Test.YtpoaimcioeopdaaPchk
namespace Go.Proofs.Ytpoaimcioeopdaa
open Go.ChangeShapes Go.WideShapes Go.ChangeAt Go.RowKit Go.Shelf GF
set_option linter.unusedVariables false
set_option maxRecDepth 100000

theorem GF.inv_prod {a b : GF} (ha : a ≠ 0) (hb : b ≠ 0) : GF.inv (a * b) = GF.inv a * GF.inv b := by
  have h : (a * b) * (GF.inv a * GF.inv b) = 1 := by
    rw [show (a * b) * (GF.inv a * GF.inv b) = (a * GF.inv a) * (b * GF.inv b) by
      rw [GF.mul_assoc, GF.mul_left_comm b, ← GF.mul_assoc]]
    rw [GF.mul_inv ha, GF.mul_inv hb, GF.mul_one]
  have h2 := GF.inv_mul (GF.mul_ne ha hb)
  rw [← GF.mul_one (GF.inv (a * b)), ← h, ← GF.mul_assoc, h2, GF.one_mul]
/-- The product of x less each of the first k places but the i-th. -/
def topA (X : List GF) (i : Nat) (x : GF) : Nat → GF
  | 0 => 1
  | k + 1 => if k = i then topA X i x k else topA X i x k * (x + co X k)
theorem bot_ne {X : List GF} (h : Apart X) {i : Nat} (hi : i < X.length) : ∀ k, k ≤ X.length → topA X i (co X i) k ≠ 0 := by
  intro k
  induction k with
  | zero => intro _; exact GF.one_ne
  | succ k ih =>
    intro hk
    simp only [topA]
    by_cases e : k = i
    · rw [if_pos e]; exact ih (by omega)
    · rw [if_neg e]
      exact GF.mul_ne (ih (by omega)) (fun z => h.ne hi (by omega) (Ne.symm e) (GF.add_eq_zero.1 z))
theorem wtA_top {X : List GF} (h : Apart X) {i : Nat} (hi : i < X.length) (x : GF) : ∀ k, k ≤ X.length → topA X i x k * GF.inv (topA X i (co X i) k) = wtA X i x k := by
  intro k
  induction k with
  | zero => intro _; simp only [topA, wtA]; rw [GF.inv_one, GF.one_mul]
  | succ k ih =>
    intro hk
    simp only [topA, wtA]
    by_cases e : k = i
    · rw [if_pos e, if_pos e, if_pos e]; exact ih (by omega)
    · rw [if_neg e, if_neg e, if_neg e, ← ih (by omega), GF.inv_prod (bot_ne h hi k (by omega)) (fun z => h.ne hi (by omega) (Ne.symm e) (GF.add_eq_zero.1 z)), GF.mul_assoc, GF.mul_left_comm (x + co X k), ← GF.mul_assoc]

theorem Pa.drewN {w : World} {a : Option Addr} {L cap : Nat} {P : List GF} (h : Pa w a L cap P) (n : Nat) : Pa (w.drewN n) a L cap P := h

/-- All weights. -/
def wts (X : List GF) (x : GF) : List GF := (List.range X.length).map fun i => wt X i x
theorem length_wts (X : List GF) (x : GF) : (wts X x).length = X.length := by simp [wts]
theorem co_wts {X : List GF} (x : GF) {i : Nat} (hi : i < X.length) : co (wts X x) i = wt X i x := by
  simp only [wts, co, List.getD_eq_getElem?_getD, List.getElem?_map, List.getElem?_range hi, Option.map_some, Option.getD_some]

end Go.Proofs.Ytpoaimcioeopdaa
