/- The walk of SectorCommits, in the frame's form. -/
import Derived.Test.YtadcgngiofdhcaaIn
namespace Go.Proofs.Ytadcgngiofdhcaa
open Go.ChangeShapes Go.WideShapes Go.ChangeAt Go.RowKit Go.Shelf
set_option linter.unusedVariables false

theorem sectorCommits_walk (a0 a1 a2 : Int) (a3 : Option Addr) (len3 cap3 : Nat) (a4 : Bool) (w : World) (w0 : (Lit.int .u8 a0).wf = true) (w1 : (Lit.int .u8 a1).wf = true) (w2 : (Lit.int .u64 a2).wf = true) (w3 : ∃ l, Arg8c w a3 len3 cap3 l) :
    Calls Try.prog 5 #[.int .u8 a0, .int .u8 a1, .int .u64 a2, .slice a3 len3 cap3, .bool a4] w fun e w' => e = .returned (.bool true) ∧ Below w.heap.size w w' := by
  have h0 := wf_u8 w0
  have h1 := wf_u8 w1
  have h2 := wf_u64 w2
  exact sectorCommits_any commitBytes_any parseCommit_any a0 a1 a2 a3 len3 cap3 a4 w ⟨⟨h0.1, by have := h0.2; omega⟩, ⟨h1.1, by have := h1.2; omega⟩, h2.1, by have := h2.2; dsimp only; omega⟩ w3
end Go.Proofs.Ytadcgngiofdhcaa
