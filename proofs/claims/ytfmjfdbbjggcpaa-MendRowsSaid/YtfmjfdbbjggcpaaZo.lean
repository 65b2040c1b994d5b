/- The walk of MendRows, at the landed code. -/
import Derived.Test.YtfmjfdbbjggcpaaZl
import Derived.Test.YtfmjfdbbjggcpaaRp
namespace Go.Proofs.Ytfmjfdbbjggcpaa
open Go.ChangeShapes Go.WideShapes Go.ChangeAt Go.RowKit Go.Shelf GF
set_option linter.unusedVariables false
set_option linter.unusedSimpArgs false
theorem mendRows_walk (a0 : Int) (a1 : Option Addr) (len1 cap1 : Nat) (a2 : Option Addr) (len2 cap2 : Nat) (a3 a4 : Int) (w : World) (w0 : (Lit.int .i64 a0).wf = true) (w1 : ∃ l, Arg8c w a1 len1 cap1 l) (w2 : ∃ M, Mat w a2 len2 cap2 M) (w3 : (Lit.int .i64 a3).wf = true) (w4 : (Lit.int .u8 a4).wf = true) :
    Calls Try.prog 5 #[.int .i64 a0, .slice a1 len1 cap1, .slice a2 len2 cap2, .int .i64 a3, .int .u8 a4] w fun e w' => e = .returned (.bool true) ∧ Below w.heap.size w w' :=
  mendRows_walk0 colAll rowsAll a0 a1 len1 cap1 a2 len2 cap2 a3 a4 w w0 w1 w2 w3 w4
end Go.Proofs.Ytfmjfdbbjggcpaa
