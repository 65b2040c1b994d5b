/- The walk of MediumPlays, at any arguments. -/
import Derived.Test.YtoonaendakjecaaOk
import Derived.Test.YtoonaendakjecaaUg
import Derived.Test.YtoonaendakjecaaUz
namespace Go.Proofs.Ytoonaendakjecaa
open Go.ChangeShapes Go.WideShapes Go.ChangeAt Go.RowKit Go.Shelf
set_option maxRecDepth 100000

theorem mediumPlays_walk (sz left : Int) (a0 : Option Addr) (L0 c0 : Nat) (w : World) (hz : (Lit.int .i64 sz).wf = true) (hl : (Lit.int .i64 left).wf = true) (w0 : ∃ l, ActA w a0 L0 c0 l) :
    Calls Try.prog 4 #[.int .i64 sz, .int .i64 left, .slice a0 L0 c0] w fun e w' => e = .returned (.bool true) ∧ Below w.heap.size w w' := mediumPlays_all mediumM sz left a0 L0 c0 w hz hl w0
end Go.Proofs.Ytoonaendakjecaa
