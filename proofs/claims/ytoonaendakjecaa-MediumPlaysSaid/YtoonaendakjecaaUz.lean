/- MediumPlays in the frame's form, under the contracts. -/
import Derived.Test.YtoonaendakjecaaUy
namespace Go.Proofs.Ytoonaendakjecaa
open Go.ChangeShapes Go.WideShapes Go.ChangeAt Go.RowKit Go.Shelf
set_option linter.unusedVariables false

theorem i64_wfP {x : Int} (h : (Lit.int .i64 x).wf = true) : i64R x := by
  have : -9223372036854775808 ≤ x ∧ x ≤ 9223372036854775807 := by simpa [Lit.wf, IntKind.min, IntKind.max, IntKind.signed, IntKind.bits] using h
  exact this
theorem mediumPlays_all {R : World → Nat → (Nat → Prop) → MS → Option Nat → Prop} {P : World → Nat → (Nat → Prop) → Int → Nat → Prop} (hM : MediumM R P) (sz left : Int) (a0 : Option Addr) (L0 c0 : Nat) (w : World) (hz : (Lit.int .i64 sz).wf = true) (hl : (Lit.int .i64 left).wf = true) (w0 : ∃ l, ActA w a0 L0 c0 l) :
    Calls Try.prog 4 #[.int .i64 sz, .int .i64 left, .slice a0 L0 c0] w fun e w' => e = .returned (.bool true) ∧ Below w.heap.size w w' := by
  obtain ⟨l, h⟩ := w0
  exact mediumPlays_any hM sz left a0 L0 c0 l w (i64_wfP hz) (i64_wfP hl) h
end Go.Proofs.Ytoonaendakjecaa
