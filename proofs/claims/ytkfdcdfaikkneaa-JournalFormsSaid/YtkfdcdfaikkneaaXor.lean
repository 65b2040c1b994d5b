/- Contracts of word.Xor and word.Zero. -/
import Derived.Test.YtkfdcdfaikkneaaQ1
import Derived.Test.YtkfdcdfaikkneaaLives
import Derived.StillTailTactics
import Derived.Deep.OwnRows
namespace Go.Proofs.Ytkfdcdfaikkneaa
open Go.ChangeShapes Go.WideShapes Go.ChangeAt Go.RowKit
set_option linter.unusedVariables false

/-- Byte by byte, as long as the shorter one. -/
def xorL (a b : List Int) : List Int := List.zipWith (fun x y => ((x.toNat ^^^ y.toNat : Nat) : Int)) a b
theorem length_xorL (a b : List Int) : (xorL a b).length = min a.length b.length := by simp [xorL]
theorem xorL_getD {a b : List Int} {k : Nat} (h : k < min a.length b.length) : (xorL a b).getD k 0 = (((a.getD k 0).toNat ^^^ (b.getD k 0).toNat : Nat) : Int) := by
  have h1 : k < a.length := by omega
  have h2 : k < b.length := by omega
  simp [xorL, List.getD_eq_getElem?_getD, List.getElem?_zipWith, List.getElem?_eq_getElem h1, List.getElem?_eq_getElem h2]
end Go.Proofs.Ytkfdcdfaikkneaa
