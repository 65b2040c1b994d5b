/- The laws' lives; small facts for the laws' walks. -/
import Derived.Test.YtpoaimcioeopdaaPsum
namespace Go.Proofs.Ytpoaimcioeopdaa
open Go.ChangeShapes Go.WideShapes Go.ChangeAt Go.RowKit Go.Shelf GF
set_option linter.unusedVariables false
set_option maxRecDepth 100000

theorem own_two (w : World) : (w.alloc (.cells #[.int .u8 1, .int .u8 2] 5)).ownsRow w.heap.size 5 1 (.slice (some ⟨w.heap.size, 0, none⟩) 2 2) 2 ((iL [toG 1, toG 2]).map (Value.int .u8)) :=
  World.ownsRow_lit (base := w.heap.size) (e := 5) (size := 1) w #[.int .u8 1, .int .u8 2] 2 (Nat.le_refl _) (by unfold maxLen; omega) rfl
/-- A polynomial made a string. -/
theorem Pa.str {w : World} {a : Option Addr} {n c : Nat} {P : List GF} (h : Pa w a n c P) : (convert 22 9 (.slice a n c)).run Try.prog w = .ok (.string (strOfNums (iL P))) w :=
  h.1.2.2.1.str h.1.1 Try.underlying22 Try.underlying5 Try.underlying9
theorem van12 : iL (vanA [toG 1, toG 2] 2) = [2, 3, 1] := by decide +kernel
theorem str231 : strOfNums [2, 3, 1] = { data := #[2, 3, 1] } := by decide +kernel
end Go.Proofs.Ytpoaimcioeopdaa
