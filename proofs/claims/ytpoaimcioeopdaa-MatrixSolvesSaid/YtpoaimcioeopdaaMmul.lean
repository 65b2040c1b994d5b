/- Contracts of the document's own Mul of rows by rows, and of the laws' same. -/
import Derived.Test.YtpoaimcioeopdaaMrk
namespace Go.Proofs.Ytpoaimcioeopdaa
open Go.ChangeShapes Go.WideShapes Go.ChangeAt Go.RowKit Go.Shelf GF
set_option linter.unusedVariables false
set_option maxRecDepth 100000

/-- A row times rows, the first q columns. -/
def mrow (r : List GF) (O : List (List GF)) (q : Nat) : List GF := (List.range q).map fun c => dt r.length (co r) (fun j => ent O j c)
def mulM (M O : List (List GF)) (m : Nat) (k : Nat) : List (List GF) := (List.range k).map fun i => mrow (rw_ M i) O m
theorem length_mrow (r : List GF) (O : List (List GF)) (q : Nat) : (mrow r O q).length = q := by simp [mrow]
theorem length_mulM (M O : List (List GF)) (m k : Nat) : (mulM M O m k).length = k := by simp [mulM]
theorem mrow_step (r : List GF) (O : List (List GF)) (q : Nat) : mrow r O (q + 1) = mrow r O q ++ [dt r.length (co r) (fun j => ent O j q)] := by simp [mrow, List.range_succ]
theorem mulM_step (M O : List (List GF)) (m k : Nat) : mulM M O m (k + 1) = mulM M O m k ++ [mrow (rw_ M k) O m] := by simp [mulM, List.range_succ]
theorem rw_mulM {M O : List (List GF)} {m k i : Nat} (h : i < k) : rw_ (mulM M O m k) i = mrow (rw_ M i) O m := by
  unfold rw_ mulM
  simp [List.getD_eq_getElem?_getD, h]
  rfl
theorem co_mrow {r : List GF} {O : List (List GF)} {q c : Nat} (h : c < q) : co (mrow r O q) c = dt r.length (co r) (fun j => ent O j c) := by
  unfold mrow
  simp [co, List.getD_eq_getElem?_getD, h]

end Go.Proofs.Ytpoaimcioeopdaa
