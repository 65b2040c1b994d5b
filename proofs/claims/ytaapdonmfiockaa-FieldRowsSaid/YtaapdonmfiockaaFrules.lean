/- The walk of FieldRules. -/
import Derived.Test.YtaapdonmfiockaaFlives
namespace Go.Proofs.Ytaapdonmfiockaa
open Go.ChangeShapes Go.WideShapes Go.ChangeAt Go.RowKit
set_option linter.unusedVariables false

theorem mul_I (b : Nat) (x y : Int) (w : World) (hf : Fld w b) (hx : 0 ≤ x ∧ x < 256) (hy : 0 ≤ y ∧ y < 256) : Calls Try.prog 10 #[.pointer (some ⟨b, 0, none⟩), .int .u8 x, .int .u8 y] w fun e w' => e = .returned (.int .u8 (gmI x y)) ∧ w = w' := by
  obtain ⟨m, rfl⟩ := Int.eq_ofNat_of_zero_le hx.1
  obtain ⟨n, rfl⟩ := Int.eq_ofNat_of_zero_le hy.1
  exact mul_N b m n w hf (by omega) (by omega)
theorem gmI_comm (x y : Int) : gmI x y = gmI y x := by unfold gmI; rw [gm_comm]
theorem gmI_assoc (x y z : Int) : gmI x (gmI y z) = gmI (gmI x y) z := by unfold gmI; rw [Int.toNat_natCast, Int.toNat_natCast, gm_assoc]
theorem gmI_add {x y z : Int} (hx : 0 ≤ x ∧ x < 256) (hy : 0 ≤ y ∧ y < 256) (hz : 0 ≤ z ∧ z < 256) : gmI x (xoI y z) = xoI (gmI x y) (gmI x z) := by
  unfold gmI xoI; rw [Int.toNat_natCast, Int.toNat_natCast, Int.toNat_natCast, gm_add (by omega) (by omega) (by omega)]
theorem gmI_one {x : Int} (hx : 0 ≤ x ∧ x < 256) : gmI x 1 = x := by
  unfold gmI; rw [show (1 : Int).toNat = 1 from rfl, gm_one (by omega)]; omega
theorem gmI_zero (x : Int) : gmI x 0 = 0 := by unfold gmI; rw [show (0 : Int).toNat = 0 from rfl, gm_zero]; rfl
theorem xoI_self (x : Int) : xoI x x = 0 := by unfold xoI; rw [Nat.xor_self]; rfl
theorem gmI_square {x y : Int} (hx : 0 ≤ x ∧ x < 256) (hy : 0 ≤ y ∧ y < 256) : gmI (xoI x y) (xoI x y) = xoI (gmI x x) (gmI y y) := by
  unfold gmI xoI; rw [Int.toNat_natCast, Int.toNat_natCast, Int.toNat_natCast, gm_square (by omega) (by omega)]
theorem fieldRules_walk (x y z : Int) (w : World) (w0 : (Lit.int .u8 x).wf = true) (w1 : (Lit.int .u8 y).wf = true) (w2 : (Lit.int .u8 z).wf = true) :
    Calls Try.prog 6 #[.int .u8 x, .int .u8 y, .int .u8 z] w fun e w' => e = .returned (.bool true) ∧ Below w.heap.size w w' := by
  have hx := wf_u8 w0
  have hy := wf_u8 w1
  have hz := wf_u8 w2
  clear w0 w1 w2
  have e1 := gmI_comm y x
  have e2 := gmI_assoc x y z
  have e3 := gmI_add hx hy hz
  have e4 := gmI_one hx
  have e5 := gmI_zero x
  have e6 := xoI_self x
  have b1 := gmI_bd x y
  have b2 := gmI_bd y z
  have b3 := xoI_bd hy hz
  have b4 := gmI_bd x z
  by_cases h0 : x = 0
  · subst h0
    go_enter Try.func6, Try.ntmps6
    go_wp2_with (first
      | (go_at_call 8; refine (lives_any _).mono ?_; rintro e w1 ⟨rfl, hb1⟩)
      | (go_at_call 9; refine (new_any _).mono ?_; rintro e w2 ⟨b, rfl, hb0, hf, hb2⟩)
      | (go_at_call 11; refine (add_I _ _ (by assumption) (by assumption) _).mono ?_; rintro e w' ⟨rfl, rfl⟩)
      | (go_at_call 10; refine (mul_I _ _ _ _ hf (by omega) (by omega)).mono ?_; rintro e w' ⟨rfl, rfl⟩)
      | (go_at_call 16; refine (inv_zero _ _).mono ?_; rintro e w' ⟨rfl, rfl⟩))
    go_ret
    exact ⟨rfl, below_two hb1 hb2⟩
  · have hq : (x == 0) = false := by rw [beq_eq_false_iff_ne]; exact h0
    have hq2 : (x != 0) = true := by rw [bne_iff_ne]; exact h0
    have e7 : gmI x (ivI x) = 1 := by
      unfold gmI ivI; rw [Int.toNat_natCast, gm_inv (by omega) (by omega)]; rfl
    have b5 := ivI_bd x
    have HI : ∀ (b : Nat) (w : World), Fld w b → Calls Try.prog 16 #[.pointer (some ⟨b, 0, none⟩), .int .u8 x] w fun e w' => e = .returned (.tuple #[.int .u8 (ivI x), .int .i64 0]) ∧ w = w' := by
      intro b w hf
      obtain ⟨m, rfl⟩ := Int.eq_ofNat_of_zero_le hx.1
      exact inv_ok b m w hf (by omega) (by omega)
    clear h0
    go_enter Try.func6, Try.ntmps6
    go_wp2_with (first
      | (go_at_call 8; refine (lives_any _).mono ?_; rintro e w1 ⟨rfl, hb1⟩)
      | (go_at_call 9; refine (new_any _).mono ?_; rintro e w2 ⟨b, rfl, hb0, hf, hb2⟩)
      | (go_at_call 11; refine (add_I _ _ (by assumption) (by assumption) _).mono ?_; rintro e w' ⟨rfl, rfl⟩)
      | (go_at_call 10; refine (mul_I _ _ _ _ hf (by omega) (by omega)).mono ?_; rintro e w' ⟨rfl, rfl⟩)
      | (go_at_call 16; refine (HI _ _ hf).mono ?_; rintro e w' ⟨rfl, rfl⟩))
    go_ret
    exact ⟨rfl, below_two hb1 hb2⟩
end Go.Proofs.Ytaapdonmfiockaa
