/- The walk of MediumShows, at any arguments. -/
import Derived.Test.YtoonaendakjecaaOk
import Derived.Test.YtoonaendakjecaaUg
import Derived.Test.YtoonaendakjecaaUi
namespace Go.Proofs.Ytoonaendakjecaa
open Go.ChangeShapes Go.WideShapes Go.ChangeAt Go.RowKit Go.Shelf
set_option maxRecDepth 100000

theorem mediumShows_walk (a0 : Option Addr) (L0 c0 : Nat) (a1 : Option Addr) (L1 c1 : Nat) (all : Bool) (w : World) (w0 : ∃ l, ActA w a0 L0 c0 l) (w1 : ∃ l, ArgB w a1 L1 c1 l) :
    Calls Try.prog 3 #[.slice a0 L0 c0, .slice a1 L1 c1, .bool all] w fun e w' => e = .returned (.bool true) ∧ Below w.heap.size w w' := mediumShows_any mediumM a0 L0 c0 a1 L1 c1 all w w0 w1
end Go.Proofs.Ytoonaendakjecaa
