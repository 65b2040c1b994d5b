/- The walks of MendColumns and MendCorrects, at the landed code. -/
import Derived.Test.YtfmjfdbbjggcpaaZk
import Derived.Test.YtfmjfdbbjggcpaaRp
namespace Go.Proofs.Ytfmjfdbbjggcpaa
open Go.ChangeShapes Go.WideShapes Go.ChangeAt Go.RowKit Go.Shelf GF
set_option linter.unusedVariables false
set_option linter.unusedSimpArgs false
theorem mendColumns_walk (a0 : Int) (a1 : Option Addr) (len1 cap1 : Nat) (a2 : Option Addr) (len2 cap2 : Nat) (a3 : Int) (w : World) (w0 : (Lit.int .i64 a0).wf = true) (w1 : ∃ l, Arg8c w a1 len1 cap1 l) (w2 : ∃ l, Arg8c w a2 len2 cap2 l) (w3 : (Lit.int .i64 a3).wf = true) :
    Calls Try.prog 3 #[.int .i64 a0, .slice a1 len1 cap1, .slice a2 len2 cap2, .int .i64 a3] w fun e w' => e = .returned (.bool true) ∧ Below w.heap.size w w' :=
  mendColumns_walk0 colAll a0 a1 len1 cap1 a2 len2 cap2 a3 w w0 w1 w2 w3
theorem mendCorrects_walk (a0 a1 : Int) (a2 : Option Addr) (len2 cap2 : Nat) (a3 : Option Addr) (len3 cap3 : Nat) (a4 : Option Addr) (len4 cap4 : Nat) (a5 : Option Addr) (len5 cap5 : Nat) (a6 : Int) (w : World) (w0 : (Lit.int .i64 a0).wf = true) (w1 : (Lit.int .i64 a1).wf = true) (w2 : ∃ l, Arg8c w a2 len2 cap2 l) (w3 : ∃ l, Arg8c w a3 len3 cap3 l) (w4 : ∃ l, Arg8c w a4 len4 cap4 l) (w5 : ∃ l, Arg8c w a5 len5 cap5 l) (w6 : (Lit.int .i64 a6).wf = true) :
    Calls Try.prog 4 #[.int .i64 a0, .int .i64 a1, .slice a2 len2 cap2, .slice a3 len3 cap3, .slice a4 len4 cap4, .slice a5 len5 cap5, .int .i64 a6] w fun e w' => e = .returned (.bool true) ∧ Below w.heap.size w w' :=
  mendCorrects_walk0 colAll a0 a1 a2 len2 cap2 a3 len3 cap3 a4 len4 cap4 a5 len5 cap5 a6 w w0 w1 w2 w3 w4 w5 w6
end Go.Proofs.Ytfmjfdbbjggcpaa
