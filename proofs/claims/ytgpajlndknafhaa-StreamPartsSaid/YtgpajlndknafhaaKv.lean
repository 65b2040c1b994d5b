/- The walk of CipherBack (written by gen25.py). -/
import Derived.Test.YtgpajlndknafhaaKu
namespace Go.Proofs.Ytgpajlndknafhaa
open Go.ChangeShapes Go.WideShapes Go.ChangeAt Go.RowKit
set_option linter.unusedVariables false
set_option linter.unusedSimpArgs false
set_option maxRecDepth 100000

theorem Arg8.strK {w : World} {a : Option Addr} {n c : Nat} {l : List Int} (h : Arg8 w a n c l) : (convert 22 9 (.slice a n c)).run Try.prog w = .ok (.string (strOfNums l)) w := h.2.2.1.str h.1 Try.underlying22 Try.underlying5 Try.underlying9
theorem own16 {w : World} {base g N : Nat} {l : List Int} (hN : N ≤ 32) (h : w.ownsRow base 5 1 (.slice (some ⟨g, 0, none⟩) N N) N (l.map (Value.int .u8))) (hA : AllB l) : Arg8 w (some ⟨g, 0, none⟩) N N l := Arg8.own h hA ⟨Nat.le_refl _, by unfold maxLen; omega⟩
end Go.Proofs.Ytgpajlndknafhaa
