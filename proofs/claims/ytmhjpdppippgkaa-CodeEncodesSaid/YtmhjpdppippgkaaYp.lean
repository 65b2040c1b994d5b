/- The walk of CodeEncodes. -/
import Derived.Test.YtmhjpdppippgkaaDa
import Derived.Test.YtmhjpdppippgkaaEf
import Derived.Test.YtmhjpdppippgkaaYd
namespace Go.Proofs.Ytmhjpdppippgkaa
open Go.ChangeShapes Go.WideShapes Go.ChangeAt Go.RowKit Go.Shelf GF
set_option linter.unusedVariables false
set_option linter.unusedSimpArgs false
theorem encAll : EncAll := ⟨encodeC, encodeRangeC, encodeFormC, encodeArgC, pieceC, pieceRangeC, pieceFormC, pieceArgC⟩
theorem codeEncodes_walk (a0 : Int) (a1 : Option Addr) (len1 cap1 : Nat) (a2 : Int) (w : World) (w0 : (Lit.int .i64 a0).wf = true) (w1 : ∃ M, Mat w a1 len1 cap1 M) (w2 : (Lit.int .i64 a2).wf = true) :
    Calls Try.prog 4 #[.int .i64 a0, .slice a1 len1 cap1, .int .i64 a2] w fun e w' => e = .returned (.bool true) ∧ Below w.heap.size w w' := by
  obtain ⟨M, hM⟩ := w1
  exact codeEncodes_any encAll a0 a2 len1 a1 cap1 M w w0 w2 hM
end Go.Proofs.Ytmhjpdppippgkaa
