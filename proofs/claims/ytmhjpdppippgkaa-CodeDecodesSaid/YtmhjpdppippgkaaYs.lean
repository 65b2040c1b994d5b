/- The walk of CodeDecodes. -/
import Derived.Test.YtmhjpdppippgkaaEe
import Derived.Test.YtmhjpdppippgkaaEf
import Derived.Test.YtmhjpdppippgkaaYi
namespace Go.Proofs.Ytmhjpdppippgkaa
open Go.ChangeShapes Go.WideShapes Go.ChangeAt Go.RowKit Go.Shelf GF
set_option linter.unusedVariables false
set_option linter.unusedSimpArgs false
theorem codeDecodes_walk (a0 : Option Addr) (len0 cap0 : Nat) (a1 : Option Addr) (len1 cap1 : Nat) (a2 : Option Addr) (len2 cap2 : Nat) (w : World) (w0 : ∃ M, Mat w a0 len0 cap0 M) (w1 : ∃ l, Arg8c w a1 len1 cap1 l) (w2 : ∃ l, IA w a2 len2 cap2 l) :
    Calls Try.prog 5 #[.slice a0 len0 cap0, .slice a1 len1 cap1, .slice a2 len2 cap2] w fun e w' => e = .returned (.bool true) ∧ Below w.heap.size w w' := by
  obtain ⟨M, hM⟩ := w0
  obtain ⟨l, hl⟩ := w1
  obtain ⟨ps, hp⟩ := w2
  exact codeDecodes_any decAll len0 a0 cap0 M a1 len1 cap1 _ a2 len2 cap2 ps w hM (Pa.of hl) hp
end Go.Proofs.Ytmhjpdppippgkaa
