/- The walk of FieldOrders. -/
import Derived.Test.YtaapdonmfiockaaFlives
namespace Go.Proofs.Ytaapdonmfiockaa
open Go.ChangeShapes Go.WideShapes Go.ChangeAt Go.RowKit
set_option linter.unusedVariables false

theorem add_N (x y : Nat) (hx : x < 256) (hy : y < 256) (w : World) : Calls Try.prog 11 #[.int .u8 (x : Nat), .int .u8 (y : Nat)] w fun e w' => e = .returned (.int .u8 ((x ^^^ y : Nat) : Int)) ∧ w = w' :=
  add_I x y ⟨by omega, by omega⟩ ⟨by omega, by omega⟩ w
theorem powN_two {x : Nat} : powN x 2 = gm x x := by
  unfold powN
  rw [if_neg (by decide)]
  by_cases h0 : x = 0
  · rw [if_pos h0, h0]; exact (zero_gm 0).symm
  · rw [if_neg h0, gm_nz h0 h0]
    show pw (lg x * 2) = _
    congr 1; omega
theorem powN_255 {x : Nat} (h0 : x ≠ 0) : powN x 255 = 1 := by
  unfold powN
  rw [if_neg (by decide), if_neg h0]
  exact pwr_zero x
set_option maxRecDepth 10000 in
set_option maxHeartbeats 800000 in
theorem fieldOrders_walk (a0 a1 : Int) (w : World) (w0 : (Lit.int .u8 a0).wf = true) (w1 : (Lit.int .u8 a1).wf = true) :
    Calls Try.prog 3 #[.int .u8 a0, .int .u8 a1] w fun e w' => e = .returned (.bool true) ∧ Below w.heap.size w w' := by
  have hx := wf_u8 w0
  have hy := wf_u8 w1
  clear w0 w1
  obtain ⟨x, rfl⟩ := Int.eq_ofNat_of_zero_le hx.1
  obtain ⟨y, rfl⟩ := Int.eq_ofNat_of_zero_le hy.1
  have hx' : x < 256 := by omega
  have hy' : y < 256 := by omega
  clear hx hy
  have l1 := xor_lt hx' hy'
  have l2 := gm_lt x x
  have l3 := gm_lt y y
  have l4 := gm_lt x y
  have e1 : ((gm (x ^^^ y) (x ^^^ y) : Nat) : Int) = ((gm x x ^^^ gm y y : Nat) : Int) := by rw [gm_square hx' hy']
  have e2 : ((powN x 2 : Nat) : Int) = ((gm x x : Nat) : Int) := by rw [powN_two]
  have e3 : ((powN 0 255 : Nat) : Int) = 0 := rfl
  by_cases h0 : x = 0 ∨ y = 0
  · rcases h0 with h0 | h0
    · have hq : ((x : Int) == 0) = true := by rw [h0]; rfl
      have H0 := Lib.hid h0
      clear h0
      go_enter Try.func3, Try.ntmps3
      go_wp2_with (first
        | (go_at_call 8; refine (lives_any _).mono ?_; rintro e w1 ⟨rfl, hb1⟩)
        | (go_at_call 9; refine (new_any _).mono ?_; rintro e w2 ⟨b, rfl, hb0, hf, hb2⟩)
        | (go_at_call 11; (with_reducible refine (add_N _ _ (by assumption) (by assumption) _).mono ?_); rintro e w' ⟨rfl, rfl⟩)
        | (go_at_call 10; (with_reducible refine (mul_N _ _ _ _ hf (by assumption) (by assumption)).mono ?_); rintro e w' ⟨rfl, rfl⟩)
        | (go_at_call 12; (with_reducible refine (pow_N _ x 2 _ hf hx' (by decide)).mono ?_); rintro e w' ⟨rfl, rfl⟩)
        | (go_at_call 12; refine (pow_N _ 0 255 _ hf (by decide) (by decide)).mono ?_; rintro e w' ⟨rfl, rfl⟩))
      go_ret
      exact ⟨rfl, below_two hb1 hb2⟩
    · have hq2 : ((y : Int) == 0) = true := by rw [h0]; rfl
      have H0 := Lib.hid h0
      clear h0
      go_enter Try.func3, Try.ntmps3
      go_wp2_with (first
        | (go_at_call 8; refine (lives_any _).mono ?_; rintro e w1 ⟨rfl, hb1⟩)
        | (go_at_call 9; refine (new_any _).mono ?_; rintro e w2 ⟨b, rfl, hb0, hf, hb2⟩)
        | (go_at_call 11; (with_reducible refine (add_N _ _ (by assumption) (by assumption) _).mono ?_); rintro e w' ⟨rfl, rfl⟩)
        | (go_at_call 10; (with_reducible refine (mul_N _ _ _ _ hf (by assumption) (by assumption)).mono ?_); rintro e w' ⟨rfl, rfl⟩)
        | (go_at_call 12; (with_reducible refine (pow_N _ x 2 _ hf hx' (by decide)).mono ?_); rintro e w' ⟨rfl, rfl⟩)
        | (go_at_call 12; refine (pow_N _ 0 255 _ hf (by decide) (by decide)).mono ?_; rintro e w' ⟨rfl, rfl⟩))
      all_goals (go_ret; exact ⟨rfl, below_two hb1 hb2⟩)
  · have h1 : x ≠ 0 := fun h => h0 (.inl h)
    have h2 : y ≠ 0 := fun h => h0 (.inr h)
    have h3 := gm_ne h1 h2
    have hq : ((x : Int) == 0) = false := by rw [beq_eq_false_iff_ne]; omega
    have hq2 : ((y : Int) == 0) = false := by rw [beq_eq_false_iff_ne]; omega
    have e4 : ((powN x 255 : Nat) : Int) = 1 := by rw [powN_255 h1]; rfl
    have e5 : ((lg (gm x y) : Nat) : Int) = (((lg x : Nat) : Int) + ((lg y : Nat) : Int)) % 255 := by rw [lg_gm h1 h2]; simp
    have hl := lg_lt x
    have hl2 := lg_lt y
    clear h0
    go_enter Try.func3, Try.ntmps3
    go_wp2_with (first
      | (go_at_call 8; refine (lives_any _).mono ?_; rintro e w1 ⟨rfl, hb1⟩)
      | (go_at_call 9; refine (new_any _).mono ?_; rintro e w2 ⟨b, rfl, hb0, hf, hb2⟩)
      | (go_at_call 11; (with_reducible refine (add_N _ _ (by assumption) (by assumption) _).mono ?_); rintro e w' ⟨rfl, rfl⟩)
      | (go_at_call 10; (with_reducible refine (mul_N _ _ _ _ hf (by assumption) (by assumption)).mono ?_); rintro e w' ⟨rfl, rfl⟩)
      | (go_at_call 12; (with_reducible refine (pow_N _ x _ _ hf hx' (by decide)).mono ?_); rintro e w' ⟨rfl, rfl⟩)
      | (go_at_call 13; (with_reducible refine (log_ok _ _ _ hf (by assumption) (by assumption)).mono ?_); rintro e w' ⟨rfl, rfl⟩))
    go_ret
    exact ⟨rfl, below_two hb1 hb2⟩
end Go.Proofs.Ytaapdonmfiockaa
