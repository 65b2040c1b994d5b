import Derived.Test.YtbijakhdngbjmaaBits
import Derived.Test.YtbijakhdngbjmaaQ1
namespace Go.Proofs.Ytbijakhdngbjmaa
open Go.ChangeShapes Go.WideShapes Go.ChangeAt Go.RowKit
set_option linter.unusedVariables false
set_option maxRecDepth 100000

/-- The last n bytes of x, the greatest first. -/
def be (n : Nat) (x : Int) : List Int := (List.range n).map fun i => x / 2 ^ (8 * (n - 1 - i)) % 256
theorem length_be (n : Nat) (x : Int) : (be n x).length = n := by simp [be]
theorem be_getD (n : Nat) (x : Int) (i : Nat) (h : i < n) : (be n x).getD i 0 = x / 2 ^ (8 * (n - 1 - i)) % 256 := by
  simp [be, List.getD_eq_getElem?_getD, List.getElem?_map, List.getElem?_range h]
theorem be_take_succ (n : Nat) (x : Int) (i : Nat) (h : i < n) : (be n x).take (i + 1) = (be n x).take i ++ [x / 2 ^ (8 * (n - 1 - i)) % 256] := by
  have hl : i < (be n x).length := by rw [length_be]; exact h
  rw [List.take_succ_eq_append_getElem hl]
  congr 2
  simp [be]
end Go.Proofs.Ytbijakhdngbjmaa
