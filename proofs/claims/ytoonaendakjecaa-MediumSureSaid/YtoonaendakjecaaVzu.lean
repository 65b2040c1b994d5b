/- The walk of MediumSure, at any arguments. -/
import Derived.Test.YtoonaendakjecaaOk
import Derived.Test.YtoonaendakjecaaUg
import Derived.Test.YtoonaendakjecaaUj
namespace Go.Proofs.Ytoonaendakjecaa
open Go.ChangeShapes Go.WideShapes Go.ChangeAt Go.RowKit Go.Shelf
set_option maxRecDepth 100000

theorem mediumSure_walk (a0 : Option Addr) (L0 c0 : Nat) (a1 : Option Addr) (L1 c1 : Nat) (w : World) (w0 : ∃ l, ActA w a0 L0 c0 l) (w1 : ∃ l, ArgB w a1 L1 c1 l) :
    Calls Try.prog 5 #[.slice a0 L0 c0, .slice a1 L1 c1] w fun e w' => e = .returned (.bool true) ∧ Below w.heap.size w w' := mediumSure_any mediumM a0 L0 c0 a1 L1 c1 w w0 w1
end Go.Proofs.Ytoonaendakjecaa
