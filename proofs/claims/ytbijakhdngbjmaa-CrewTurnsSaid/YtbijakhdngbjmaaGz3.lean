/- CrewTurns: the walk in the frame's form. -/
import Derived.Test.YtbijakhdngbjmaaGz2
namespace Go.Proofs.Ytbijakhdngbjmaa
open Go.ChangeShapes Go.WideShapes Go.ChangeAt Go.RowKit Go.Shelf
set_option linter.unusedVariables false

theorem crewTurns_walk (a0 : Option Addr) (len0 cap0 : Nat) (a1 : Int) (w : World) (w0 : ∃ l, ArgP w a0 len0 cap0 l) (w1 : (Lit.int .i64 a1).wf = true) :
    Calls Try.prog 3 #[.slice a0 len0 cap0, .int .i64 a1] w fun e w' => e = .returned (.bool true) ∧ Below w.heap.size w w' := by
  obtain ⟨l, hl⟩ := w0
  exact turns_core a0 len0 cap0 l a1 w hl w1
end Go.Proofs.Ytbijakhdngbjmaa
