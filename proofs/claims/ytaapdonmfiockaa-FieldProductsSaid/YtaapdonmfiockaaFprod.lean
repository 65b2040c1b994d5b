/- The walk of FieldProducts. -/
import Derived.Test.YtaapdonmfiockaaFlives
namespace Go.Proofs.Ytaapdonmfiockaa
open Go.ChangeShapes Go.WideShapes Go.ChangeAt Go.RowKit
set_option linter.unusedVariables false

theorem fieldProducts_walk (a0 a1 : Int) (w : World) (w0 : (Lit.int .u8 a0).wf = true) (w1 : (Lit.int .u8 a1).wf = true) :
    Calls Try.prog 4 #[.int .u8 a0, .int .u8 a1] w fun e w' => e = .returned (.bool true) ∧ Below w.heap.size w w' := by
  have hx := wf_u8 w0
  have hy := wf_u8 w1
  clear w0 w1
  have hxo := u8_xor a0 a1 hx.1 hx.2 hy.1 hy.2
  change bits .xor .u8 a0 a1 = xoI a0 a1 at hxo
  obtain ⟨x, rfl⟩ := Int.eq_ofNat_of_zero_le hx.1
  by_cases h0 : a1 = 0
  · subst h0
    have hx' : x < 256 := by omega
    go_enter Try.func4, Try.ntmps4
    go_wp2_with (first
      | (go_at_call 8; refine (lives_any _).mono ?_; rintro e w1 ⟨rfl, hb1⟩)
      | (go_at_call 9; refine (new_any _).mono ?_; rintro e w2 ⟨b, rfl, hb0, hf, hb2⟩)
      | (go_at_call 14; refine (refMul_N x 0 hx' (by decide) _).mono ?_; rintro e w' ⟨rfl, rfl⟩)
      | (go_at_call 15; refine (slow_N x 0 hx' (by decide) _).mono ?_; rintro e w' ⟨rfl, rfl⟩)
      | (go_at_call 11; refine (add_I _ _ hx hy _).mono ?_; rintro e w' ⟨rfl, rfl⟩)
      | (go_at_call 10; refine (mul_N _ x 0 _ hf hx' (by decide)).mono ?_; rintro e w' ⟨rfl, rfl⟩)
      | (go_at_call 16; refine (inv_zero _ _).mono ?_; rintro e w' ⟨rfl, rfl⟩)
      | (go_at_call 17; refine (div_zero _ _ _).mono ?_; rintro e w' ⟨rfl, rfl⟩))
    go_ret
    exact ⟨rfl, below_two hb1 hb2⟩
  · obtain ⟨y, rfl⟩ := Int.eq_ofNat_of_zero_le hy.1
    have hx' : x < 256 := by omega
    have hy' : y < 256 := by omega
    have hy0 : y ≠ 0 := by omega
    have hq : ((y : Int) == 0) = false := by rw [beq_eq_false_iff_ne]; exact h0
    have hi := inv_lt y
    clear h0
    go_enter Try.func4, Try.ntmps4
    go_wp2_with (first
      | (go_at_call 8; refine (lives_any _).mono ?_; rintro e w1 ⟨rfl, hb1⟩)
      | (go_at_call 9; refine (new_any _).mono ?_; rintro e w2 ⟨b, rfl, hb0, hf, hb2⟩)
      | (go_at_call 14; refine (refMul_N _ _ (by assumption) (by assumption) _).mono ?_; rintro e w' ⟨rfl, rfl⟩)
      | (go_at_call 18; refine (refInv_N _ (by assumption) _).mono ?_; rintro e w' ⟨rfl, rfl⟩)
      | (go_at_call 15; refine (slow_N x y hx' hy' _).mono ?_; rintro e w' ⟨rfl, rfl⟩)
      | (go_at_call 11; refine (add_I _ _ hx hy _).mono ?_; rintro e w' ⟨rfl, rfl⟩)
      | (go_at_call 10; refine (mul_N _ x y _ hf hx' hy').mono ?_; rintro e w' ⟨rfl, rfl⟩)
      | (go_at_call 16; refine (inv_ok _ y _ hf hy' hy0).mono ?_; rintro e w' ⟨rfl, rfl⟩)
      | (go_at_call 17; refine (div_ok _ x y _ hf hx' hy' hy0).mono ?_; rintro e w' ⟨rfl, rfl⟩))
    go_ret
    exact ⟨rfl, below_two hb1 hb2⟩
end Go.Proofs.Ytaapdonmfiockaa
