/- A row of bytes that is filled number by number. No program is named here. -/
import Derived.Test.YtfmjfdbbjggcpaaQ3
namespace Go.Proofs.Ytfmjfdbbjggcpaa
open Go.ChangeShapes Go.WideShapes Go.ChangeAt Go.RowKit Go.Shelf GF
set_option linter.unusedVariables false
set_option linter.unusedSimpArgs false
set_option maxRecDepth 100000

theorem set_nextY {vs : List Value} {n : Nat} (z v : Value) (h : vs.length < n) : (vs ++ List.replicate (n - vs.length) z).set vs.length v = (vs ++ [v]) ++ List.replicate (n - (vs.length + 1)) z := by
  rw [List.set_append_right _ _ (Nat.le_refl _), Nat.sub_self, show n - vs.length = (n - (vs.length + 1)) + 1 by omega, List.replicate_succ, List.set_cons_zero, List.append_assoc]
  rfl
/-- The first k of t places, and noughts. -/
def plV (P : List GF) (t k : Nat) : List Value := (iL (P.take k)).map (Value.int .u8) ++ List.replicate (t - k) (.int .u8 0)
theorem plV_zero (P : List GF) (t : Nat) : plV P t 0 = (List.replicate t (0 : Int)).map (Value.int .u8) := by simp [plV, iL]
theorem plV_all {P : List GF} {t : Nat} (h : P.length = t) : plV P t t = (iL P).map (Value.int .u8) := by unfold plV; rw [List.take_of_length_le (by omega), Nat.sub_self]; simp
theorem plV_len {P : List GF} {t k : Nat} (h : P.length = t) (hk : k ≤ t) : (plV P t k).length = t := by simp [plV, iL, h]; omega
theorem plV_set {P : List GF} {t k : Nat} (h : P.length = t) (hk : k < t) : (plV P t k).set k (.int .u8 (toI (co P k))) = plV P t (k + 1) := by
  have hl : ((iL (P.take k)).map (Value.int .u8)).length = k := by simp [iL]; omega
  have := set_nextY (vs := (iL (P.take k)).map (Value.int .u8)) (n := t) (.int .u8 0) (.int .u8 (toI (co P k))) (by omega)
  rw [hl] at this
  unfold plV
  rw [this]
  have e : P[k]? = some (co P k) := by rw [List.getElem?_eq_getElem (by omega), co_lt (by omega)]
  rw [List.take_add_one, e]
  simp [iL]
end Go.Proofs.Ytfmjfdbbjggcpaa
