/- Texts of mine, one behind the other: Hy3. -/
import Derived.Test.YtappfdbmhgifcaaGreatDoorZF24
/- StripeForms: its walk in the frame's form. -/
namespace Go.Proofs.YtappfdbmhgifcaaGreatDoor
open Go.ChangeShapes Go.WideShapes Go.ChangeAt Go.RowKit Go.Shelf GF
theorem stripeForms_walk (mo t n c sz nd pl_ : Int) (fw : Bool) (w : World) (_w0 : (Lit.int .i64 mo).wf = true) (_w1 : (Lit.int .i64 t).wf = true) (_w2 : (Lit.int .i64 n).wf = true) (_w3 : (Lit.int .i64 c).wf = true) (_w4 : (Lit.int .i64 sz).wf = true) (_w5 : (Lit.int .i64 nd).wf = true) (w6 : (Lit.int .i64 pl_).wf = true) (hG : Gl w) :
    Calls Tryz.prog 6 #[.int .i64 mo, .int .i64 t, .int .i64 n, .int .i64 c, .int .i64 sz, .int .i64 nd, .int .i64 pl_, .bool fw] w fun e w' => e = .returned (.bool true) ∧ Below w.heap.size w w' := by
  cases hr : rightB mo t n c with
  | false => exact forms_no mo t n c sz nd pl_ fw w hr
  | true =>
    obtain ⟨t', n', c', rfl, rfl, rfl, h⟩ := right_sh hr
    by_cases h7 : 7 < n'
    · exact forms_many mo sz nd pl_ t' n' c' fw w h h7
    · exact forms_core mo sz nd pl_ t' n' c' fw w hG h (by omega) w6
end Go.Proofs.YtappfdbmhgifcaaGreatDoor
