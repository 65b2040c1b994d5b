/- Mul by whole numbers; the product's laws as equations on them. -/
import Derived.Test.YtmhknggjpggagaaFmul
namespace Go.Proofs.Ytmhknggjpggagaa
open Go.ChangeShapes Go.WideShapes Go.ChangeAt Go.RowKit
set_option linter.unusedVariables false

theorem mul_I (b : Nat) (x y : Int) (w : World) (hf : Fld w b) (hx : 0 ≤ x ∧ x < 256) (hy : 0 ≤ y ∧ y < 256) : Calls Try.prog 25 #[.pointer (some ⟨b, 0, none⟩), .int .u8 x, .int .u8 y] w fun e w' => e = .returned (.int .u8 (gmI x y)) ∧ w = w' := by
  obtain ⟨m, rfl⟩ := Int.eq_ofNat_of_zero_le hx.1
  obtain ⟨n, rfl⟩ := Int.eq_ofNat_of_zero_le hy.1
  exact mul_N b m n w hf (by omega) (by omega)
theorem gmI_comm (x y : Int) : gmI x y = gmI y x := by unfold gmI; rw [gm_comm]
theorem gmI_assoc (x y z : Int) : gmI x (gmI y z) = gmI (gmI x y) z := by unfold gmI; rw [Int.toNat_natCast, Int.toNat_natCast, gm_assoc]
theorem gmI_add {x y z : Int} (hx : 0 ≤ x ∧ x < 256) (hy : 0 ≤ y ∧ y < 256) (hz : 0 ≤ z ∧ z < 256) : gmI x (xoI y z) = xoI (gmI x y) (gmI x z) := by
  unfold gmI xoI; rw [Int.toNat_natCast, Int.toNat_natCast, Int.toNat_natCast, gm_add (by omega) (by omega) (by omega)]
theorem gmI_one {x : Int} (hx : 0 ≤ x ∧ x < 256) : gmI x 1 = x := by
  unfold gmI; rw [show (1 : Int).toNat = 1 from rfl, gm_one (by omega)]; omega
theorem gmI_zero (x : Int) : gmI x 0 = 0 := by unfold gmI; rw [show (0 : Int).toNat = 0 from rfl, gm_zero]; rfl
theorem xoI_self (x : Int) : xoI x x = 0 := by unfold xoI; rw [Nat.xor_self]; rfl
theorem gmI_square {x y : Int} (hx : 0 ≤ x ∧ x < 256) (hy : 0 ≤ y ∧ y < 256) : gmI (xoI x y) (xoI x y) = xoI (gmI x x) (gmI y y) := by
  unfold gmI xoI; rw [Int.toNat_natCast, Int.toNat_natCast, Int.toNat_natCast, gm_square (by omega) (by omega)]
end Go.Proofs.Ytmhknggjpggagaa
