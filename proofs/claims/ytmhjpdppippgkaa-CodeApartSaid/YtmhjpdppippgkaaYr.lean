/- The walk of CodeApart. -/
import Derived.Test.YtmhjpdppippgkaaDc
import Derived.Test.YtmhjpdppippgkaaEf
import Derived.Test.YtmhjpdppippgkaaYd
namespace Go.Proofs.Ytmhjpdppippgkaa
open Go.ChangeShapes Go.WideShapes Go.ChangeAt Go.RowKit Go.Shelf GF
set_option linter.unusedVariables false
set_option linter.unusedSimpArgs false
theorem codeApart_walk (a0 : Option Addr) (len0 cap0 : Nat) (a1 : Option Addr) (len1 cap1 : Nat) (a2 : Option Addr) (len2 cap2 : Nat) (a3 : Int) (w : World) (w0 : ∃ M, Mat w a0 len0 cap0 M) (w1 : ∃ l, Arg8c w a1 len1 cap1 l) (w2 : ∃ l, Arg8c w a2 len2 cap2 l) (w3 : (Lit.int .i64 a3).wf = true) :
    Calls Try.prog 3 #[.slice a0 len0 cap0, .slice a1 len1 cap1, .slice a2 len2 cap2, .int .i64 a3] w fun e w' => e = .returned (.bool true) ∧ Below w.heap.size w w' := by
  obtain ⟨M, hM⟩ := w0
  obtain ⟨l, hl⟩ := w1
  obtain ⟨m, hm⟩ := w2
  exact codeApart_any encodeC a3 len0 a0 cap0 M a1 len1 cap1 _ a2 len2 cap2 _ w hM (Pa.of hl) (Pa.of hm)
end Go.Proofs.Ytmhjpdppippgkaa
