/- The walk of MediumApart, at any arguments. -/
import Derived.Test.YtoonaendakjecaaOk
import Derived.Test.YtoonaendakjecaaUg
import Derived.Test.YtoonaendakjecaaUo
namespace Go.Proofs.Ytoonaendakjecaa
open Go.ChangeShapes Go.WideShapes Go.ChangeAt Go.RowKit Go.Shelf
set_option maxRecDepth 100000

theorem mediumApart_walk (sz : Int) (a0 : Option Addr) (L0 c0 : Nat) (a1 : Option Addr) (L1 c1 : Nat) (w : World) (hz : (Lit.int .i64 sz).wf = true) (w0 : ∃ l, ActA w a0 L0 c0 l) (w1 : ∃ l, ActA w a1 L1 c1 l) :
    Calls Try.prog 6 #[.int .i64 sz, .slice a0 L0 c0, .slice a1 L1 c1] w fun e w' => e = .returned (.bool true) ∧ Below w.heap.size w w' := mediumApart_any mediumM sz a0 L0 c0 a1 L1 c1 w hz w0 w1

end Go.Proofs.Ytoonaendakjecaa
