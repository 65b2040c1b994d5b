/- The laws' lives; small facts for the laws' walks. -/
import Derived.Test.YtgbcdmognobieaaPsum
namespace Go.Proofs.Ytgbcdmognobieaa
open Go.ChangeShapes Go.WideShapes Go.ChangeAt Go.RowKit Go.Shelf GF
set_option linter.unusedVariables false

theorem own_two (w : World) : (w.alloc (.cells #[.int .u8 1, .int .u8 2] 5)).ownsRow w.heap.size 5 1 (.slice (some ⟨w.heap.size, 0, none⟩) 2 2) 2 ((iL [toG 1, toG 2]).map (Value.int .u8)) :=
  World.ownsRow_lit (base := w.heap.size) (e := 5) (size := 1) w #[.int .u8 1, .int .u8 2] 2 (Nat.le_refl _) (by unfold maxLen; omega) rfl
/-- A polynomial made a string. -/
theorem Pa.str {w : World} {a : Option Addr} {n c : Nat} {P : List GF} (h : Pa w a n c P) : (convert 22 9 (.slice a n c)).run Try.prog w = .ok (.string (strOfNums (iL P))) w :=
  h.1.2.2.1.str h.1.1 Try.underlying22 Try.underlying5 Try.underlying9
theorem van12 : iL (vanA [toG 1, toG 2] 2) = [2, 3, 1] := by decide +kernel
theorem str231 : strOfNums [2, 3, 1] = { data := #[2, 3, 1] } := by decide +kernel
theorem lives_any (w : World) : Calls Try.prog 9 #[] w fun e w' => e = .returned (.bool true) ∧ Below w.heap.size w w' := by
  go_enter Try.func9, Try.ntmps9
  go_wp2_with (first
    | (go_at_call 10; refine (new_any _).mono ?_; rintro e w1 ⟨b, rfl, hb0, hf, hbel⟩; have HF := Lib.hid hf; clear hf)
    | (go_at_call 27; go_loud (refine (vanish_any b _ 2 2 [toG 1, toG 2] _ (HF.out.below ((Below.refl _ _).alloc (Nat.le_refl _) _)) (Pa.own2 (own_two w1)) (by omega)).mono ?_); rintro e w2 ⟨g, rfl, hown, hb2⟩; have hcv := (Pa.own2 hown).str; rw [van12, str231] at hcv; clear hown))
  go_ret
  exact ⟨rfl, bt hbel (bt ((Below.refl _ _).alloc (Nat.le_refl _) _) hb2)⟩
end Go.Proofs.Ytgbcdmognobieaa
