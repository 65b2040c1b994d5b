/- The walk of CodeCuts. -/
import Derived.Test.YtmhjpdppippgkaaDb
import Derived.Test.YtmhjpdppippgkaaEf
import Derived.Test.YtmhjpdppippgkaaYf
import Derived.Test.YtmhjpdppippgkaaYg
namespace Go.Proofs.Ytmhjpdppippgkaa
open Go.ChangeShapes Go.WideShapes Go.ChangeAt Go.RowKit Go.Shelf GF
set_option linter.unusedVariables false
set_option linter.unusedSimpArgs false
theorem cutAll : CutAll := ⟨encodeC, cutC, cutBadC, partC, partBadC, glueC, glueBadC⟩
theorem codeCuts_walk (a0 : Option Addr) (len0 cap0 : Nat) (a1 a2 : Int) (w : World) (w0 : ∃ l, Arg8c w a0 len0 cap0 l) (w1 : (Lit.int .i64 a1).wf = true) (w2 : (Lit.int .i64 a2).wf = true) :
    Calls Try.prog 6 #[.slice a0 len0 cap0, .int .i64 a1, .int .i64 a2] w fun e w' => e = .returned (.bool true) ∧ Below w.heap.size w w' := by
  obtain ⟨l, hl⟩ := w0
  exact codeCuts_any cutAll a1 a2 len0 a0 cap0 _ w w1 w2 (Pa.of hl)
end Go.Proofs.Ytmhjpdppippgkaa
