/- Contract of the laws' lives. -/
import Derived.Test.YtaapdonmfiockaaFmul
namespace Go.Proofs.Ytaapdonmfiockaa
open Go.ChangeShapes Go.WideShapes Go.ChangeAt Go.RowKit
set_option linter.unusedVariables false

theorem lives_any (w : World) : Calls Try.prog 8 #[] w fun e w' => e = .returned (.bool true) ∧ Below w.heap.size w w' := by
  have h1 : ((inv 83 : Nat) : Int) = 202 := by have : inv 83 = 202 := by decide +kernel
                                               rw [this]; rfl
  have h2 : ((gm 87 131 : Nat) : Int) = 193 := by have : gm 87 131 = 193 := by decide +kernel
                                                  rw [this]; rfl
  go_enter Try.func8, Try.ntmps8
  go_wp2_with (first
    | (go_at_call 9; refine (new_any _).mono ?_; rintro e w1 ⟨b, rfl, hb0, hf, hbel⟩)
    | (go_at_call 16; refine (inv_ok _ 83 _ hf (by decide) (by decide)).mono ?_; rintro e w' ⟨rfl, rfl⟩)
    | (go_at_call 10; refine (mul_N _ 87 131 _ hf (by decide) (by decide)).mono ?_; rintro e w' ⟨rfl, rfl⟩))
  go_ret
  exact ⟨rfl, hbel⟩
theorem below_two {w w1 w2 : World} (h1 : Below w.heap.size w w1) (h2 : Below w1.heap.size w1 w2) : Below w.heap.size w w2 := h1.trans (h2.mono h1.size)
end Go.Proofs.Ytaapdonmfiockaa
