/- Contract of poly's Eval. -/
import Derived.Test.YtmhknggjpggagaaPtrim
namespace Go.Proofs.Ytmhknggjpggagaa
open Go.ChangeShapes Go.WideShapes Go.ChangeAt Go.RowKit Go.Shelf GF
set_option linter.unusedVariables false
set_option maxRecDepth 100000
attribute [local go_sem] Oper.semAt_some

/-- What the rounds have reckoned. -/
def hor {L : Nat} (x : GF) (pre : List (It L)) : GF := pre.foldl (fun o p => o * x + p.2) 0
theorem hor_snoc {L : Nat} (x : GF) (pre : List (It L)) (y : It L) : hor x (pre ++ [y]) = hor x pre * x + y.2 := by simp [hor]
theorem hor_ev {L : Nat} (x : GF) (P : List GF) (hP : P.length = L) (ys : List (It L)) (h : Bk L (fun j c => c = co P j) ys) : hor x ys = ev (P.drop (L - ys.length)) x := by
  have key : ∀ k, k ≤ ys.length → hor x (ys.take k) = ev (P.drop (L - k)) x := by
    intro k
    induction k with
    | zero => intro _; rw [List.take_zero, Nat.sub_zero, ← hP, List.drop_length]; rfl
    | succ k ih =>
      intro hk
      have h1 := h.1
      rw [List.take_succ_eq_append_getElem (by omega), hor_snoc, ih (by omega), (h.2 k (by omega)).2, ev_drop P (L - (k + 1)), GF.mul_comm, GF.add_comm]
      rw [show L - 1 - k = L - (k + 1) by omega, show L - (k + 1) + 1 = L - k by omega]
  have := key ys.length (Nat.le_refl _)
  rwa [List.take_length] at this

end Go.Proofs.Ytmhknggjpggagaa

