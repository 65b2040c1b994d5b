/- The walk of FieldPowers. -/
import Derived.Test.YtaapdonmfiockaaFlives
namespace Go.Proofs.Ytaapdonmfiockaa
open Go.ChangeShapes Go.WideShapes Go.ChangeAt Go.RowKit
set_option linter.unusedVariables false

theorem powN_three {x : Nat} (hx : x < 256) (h0 : x ≠ 0) : powN 3 ((lg x : Nat) : Int) = x := by
  have h := pw_lg hx h0
  unfold powN
  by_cases hz : ((lg x : Nat) : Int) = 0
  · rw [if_pos hz]
    have : lg x = 0 := by omega
    rw [← h.1, this, pw_zero]
  · rw [if_neg hz, if_neg (by decide), pwr_three, show (((lg x : Nat) : Int) % 255).toNat = lg x by omega, h.1]
set_option maxRecDepth 10000 in
theorem fieldPowers_walk (a0 n : Int) (w : World) (w0 : (Lit.int .u8 a0).wf = true) (w1 : (Lit.int .i64 n).wf = true) :
    Calls Try.prog 5 #[.int .u8 a0, .int .i64 n] w fun e w' => e = .returned (.bool true) ∧ Below w.heap.size w w' := by
  have hx := wf_u8 w0
  have wn := wf_i64 w1
  clear w0 w1
  by_cases h0 : a0 = 0
  · subst h0
    go_enter Try.func5, Try.ntmps5
    go_wp2_with (first
      | (go_at_call 8; refine (lives_any _).mono ?_; rintro e w1 ⟨rfl, hb1⟩)
      | (go_at_call 9; refine (new_any _).mono ?_; rintro e w2 ⟨b, rfl, hb0, hf, hb2⟩)
      | (go_at_call 19; refine (refPow_N 0 n (by decide) wn _).mono ?_; rintro e w' ⟨rfl, rfl⟩)
      | (go_at_call 12; refine (pow_N _ 0 n _ hf (by decide) wn).mono ?_; rintro e w' ⟨rfl, rfl⟩)
      | (go_at_call 13; refine (log_zero _ _).mono ?_; rintro e w' ⟨rfl, rfl⟩))
    go_ret
    exact ⟨rfl, below_two hb1 hb2⟩
  · obtain ⟨x, rfl⟩ := Int.eq_ofNat_of_zero_le hx.1
    have hx' : x < 256 := by omega
    have hx0 : x ≠ 0 := by omega
    have hq : ((x : Int) == 0) = false := by rw [beq_eq_false_iff_ne]; exact h0
    have hl := (pw_lg hx' hx0).2
    have hp := powN_three hx' hx0
    clear h0
    go_enter Try.func5, Try.ntmps5
    go_wp2_with (first
      | (go_at_call 8; refine (lives_any _).mono ?_; rintro e w1 ⟨rfl, hb1⟩)
      | (go_at_call 9; refine (new_any _).mono ?_; rintro e w2 ⟨b, rfl, hb0, hf, hb2⟩)
      | (go_at_call 19; (with_reducible refine (refPow_N x n hx' wn _).mono ?_); rintro e w' ⟨rfl, rfl⟩)
      | (go_at_call 19; refine (refPow_N 3 _ (by decide) (by omega) _).mono ?_; rintro e w' ⟨rfl, rfl⟩)
      | (go_at_call 12; refine (pow_N _ x n _ hf hx' wn).mono ?_; rintro e w' ⟨rfl, rfl⟩)
      | (go_at_call 13; refine (log_ok _ x _ hf hx' hx0).mono ?_; rintro e w' ⟨rfl, rfl⟩))
    go_ret
    exact ⟨rfl, below_two hb1 hb2⟩
end Go.Proofs.Ytaapdonmfiockaa
