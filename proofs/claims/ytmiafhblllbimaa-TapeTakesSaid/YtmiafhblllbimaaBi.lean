/- The walks of TapeTakes and TapeLong over the landed package. -/
import Derived.Test.YtmiafhblllbimaaBh
import Derived.Test.YtmiafhblllbimaaBd
namespace Go.Proofs.Ytmiafhblllbimaa
open Go.ChangeShapes Go.WideShapes Go.ChangeAt Go.RowKit Go.Shelf
set_option maxRecDepth 100000

theorem tapeTakes_walk (a0 : Option Addr) (L0 c0 : Nat) (a1 : Option Addr) (L1 c1 : Nat) (w : World) (w0 : ∃ l, Arg8c w a0 L0 c0 l) (w1 : ∃ l, IA w a1 L1 c1 l) :
    Calls Try.prog 3 #[.slice a0 L0 c0, .slice a1 L1 c1] w fun e w' => e = .returned (.bool true) ∧ Below w.heap.size w w' := tapeTakes_any tapeM a0 L0 c0 a1 L1 c1 w w0 w1
theorem tapeLong_walk (n : Int) (w : World) (_h : (Lit.int .i64 n).wf = true) :
    Calls Try.prog 4 #[.int .i64 n] w fun e w' => e = .returned (.bool true) ∧ Below w.heap.size w w' := tapeLong_any tapeM n w
end Go.Proofs.Ytmiafhblllbimaa
