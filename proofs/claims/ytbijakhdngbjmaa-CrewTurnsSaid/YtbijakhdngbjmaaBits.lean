/- Contracts of package word's Bits and Turn, at all four widths. -/
import Derived.Test.YtbijakhdngbjmaaQ1
import Derived.Test.YtbijakhdngbjmaaRows
import Derived.WalkKit
import Derived.ProofKit
import Derived.OpenShut
import Derived.ShutString
import Derived.Below
import Derived.BigQuiet
import Derived.Deep.QuietTactic
import Derived.Laws.BitsAllLaws
import Derived.Lib.Hide
import Derived.Test.YtbijakhdngbjmaaMath
namespace Go.Proofs.Ytbijakhdngbjmaa
open Go.ChangeShapes Go.WideShapes Go.ChangeAt Go.RowKit
set_option linter.unusedVariables false

theorem wf_u16 {x : Int} (h : (Lit.int .u16 x).wf = true) : 0 ≤ x ∧ x < 2 ^ 16 := by have : 0 ≤ x ∧ x ≤ 65535 := by simpa [Lit.wf, IntKind.min, IntKind.max, IntKind.signed, IntKind.bits] using h
                                                                                     omega
theorem wf_u32 {x : Int} (h : (Lit.int .u32 x).wf = true) : 0 ≤ x ∧ x < 2 ^ 32 := by have : 0 ≤ x ∧ x ≤ 4294967295 := by simpa [Lit.wf, IntKind.min, IntKind.max, IntKind.signed, IntKind.bits] using h
                                                                                     omega
theorem wf_u64 {x : Int} (h : (Lit.int .u64 x).wf = true) : 0 ≤ x ∧ x < 2 ^ 64 := by have : 0 ≤ x ∧ x ≤ 18446744073709551615 := by simpa [Lit.wf, IntKind.min, IntKind.max, IntKind.signed, IntKind.bits] using h
                                                                                     omega
theorem mk_u8 {x : Int} (h0 : 0 ≤ x) (h1 : x < 2 ^ 8) : (Lit.int .u8 x).wf = true := by simp [Lit.wf, IntKind.min, IntKind.max, IntKind.signed, IntKind.bits]; omega
theorem mk_u16 {x : Int} (h0 : 0 ≤ x) (h1 : x < 2 ^ 16) : (Lit.int .u16 x).wf = true := by simp [Lit.wf, IntKind.min, IntKind.max, IntKind.signed, IntKind.bits]; omega
theorem mk_u32 {x : Int} (h0 : 0 ≤ x) (h1 : x < 2 ^ 32) : (Lit.int .u32 x).wf = true := by simp [Lit.wf, IntKind.min, IntKind.max, IntKind.signed, IntKind.bits]; omega
theorem mk_u64 {x : Int} (h0 : 0 ≤ x) (h1 : x < 2 ^ 64) : (Lit.int .u64 x).wf = true := by simp [Lit.wf, IntKind.min, IntKind.max, IntKind.signed, IntKind.bits]; omega
theorem mk_i64 {x : Int} (h0 : -9223372036854775808 ≤ x) (h1 : x ≤ 9223372036854775807) : (Lit.int .i64 x).wf = true := by simp [Lit.wf, IntKind.min, IntKind.max, IntKind.signed, IntKind.bits]; omega
theorem tmod_facts (n : Int) (k : Int) (hk : 0 < k) (hn : n < 0) : -k < n.tmod k ∧ n.tmod k ≤ 0 ∧ (n.tmod k < 0 → n.tmod k + k = n % k) ∧ (0 ≤ n.tmod k → n.tmod k = n % k) := by
  have h1 : n.tmod k = -((-n) % k) := by
    rw [show n = -(-n) by omega, Int.neg_tmod, Int.tmod_eq_emod_of_nonneg (by omega)]; simp
  have h2 := Int.emod_nonneg (-n) (show k ≠ 0 by omega)
  have h3 := Int.emod_lt_of_pos (-n) hk
  have h4 : k * (-n / k) + -n % k = -n := Int.mul_ediv_add_emod (-n) k
  have h5 : n % k = (-((-n) % k)) % k := by
    conv => lhs; rw [show n = -((-n) % k) + k * (-(-n / k)) by rw [Int.mul_neg]; omega]
    rw [Int.add_mul_emod_self_left]
  refine ⟨by omega, by omega, fun h => ?_, fun h => ?_⟩
  · rw [h5, h1]
    have e : -(-n % k) % k = (-(-n % k) + k) % k := by rw [Int.add_emod_right]
    rw [e, Int.emod_eq_of_lt (a := -(-n % k) + k) (by omega) (by omega)]
  · have : (-n) % k = 0 := by omega
    rw [h5, h1, this]; simp

set_option maxRecDepth 100000 in
theorem len64_8 (w : World) : Calls Try.prog 46 #[.int .u64 255] w fun e w' => e = .returned (.int .i64 8) ∧ w = w' := by
  go_enter Try.func46, Try.ntmps46
  go_wp2
  go_ret
  exact ⟨by kernel_rfl, rfl⟩
theorem rot8_eq (x n R : Int) (h0 : 0 ≤ x) (h1 : x < 2 ^ 8) (hR : R = n % 8) : bits .or .u8 (x * 2 ^ R.toNat % 256) (x / 2 ^ (8 - R).toNat) = rotI 8 x n := by
  have r0 := Int.emod_nonneg n (show (8 : Int) ≠ 0 by omega)
  have r1 := Int.emod_lt_of_pos n (show (0 : Int) < 8 by omega)
  rw [← hR] at r0 r1
  obtain ⟨y, rfl⟩ := Int.eq_ofNat_of_zero_le h0
  obtain ⟨q, rfl⟩ := Int.eq_ofNat_of_zero_le r0
  have e2 : ((8 : Int) - (q : Int)).toNat = 8 - q := by omega
  have f1 : ((y : Int) * 2 ^ q % 256) = ((y * 2 ^ q % 256 : Nat) : Int) := by simp
  have f2 : ((y : Int) / 2 ^ (8 - q)) = ((y / 2 ^ (8 - q) : Nat) : Int) := by simp
  have g1 : y * 2 ^ q % 256 < 256 := Nat.mod_lt _ (by omega)
  have g2 : y / 2 ^ (8 - q) < 256 := Nat.lt_of_le_of_lt (Nat.div_le_self _ _) (by omega)
  rw [Int.toNat_natCast, e2, f1, f2, u8_or_nat _ _ g1 g2]
  unfold rotI rot
  have e3 : (n % ((8 : Nat) : Int)).toNat = q := by
    show (n % 8).toNat = q
    rw [← hR]; exact Int.toNat_natCast _
  rw [e3, Nat.mod_eq_of_lt (show q < 8 by omega), Int.toNat_natCast]
theorem i64_mask8 (n : Int) : bits .and .i64 n 7 = n % 8 := by
  have hm : (BitVec.ofInt 64 7).toNat = 2 ^ 3 - 1 := by decide
  have key : (BitVec.ofInt 64 n &&& BitVec.ofInt 64 7).toNat = (n % ((2 ^ 64 : Nat) : Int)).toNat % 2 ^ 3 := by
    rw [BitVec.toNat_and, BitVec.toNat_ofInt, hm, Nat.and_two_pow_sub_one_eq_mod]
  show IntKind.i64.wrap ((BitVec.ofInt 64 n &&& BitVec.ofInt 64 7).toNat : Nat) = n % 8
  rw [key, IntKind.wrap_i64]
  omega
set_option maxRecDepth 100000 in
theorem len64_16 (w : World) : Calls Try.prog 46 #[.int .u64 65535] w fun e w' => e = .returned (.int .i64 16) ∧ w = w' := by
  go_enter Try.func46, Try.ntmps46
  go_wp2
  go_ret
  exact ⟨by kernel_rfl, rfl⟩
theorem rot16_eq (x n R : Int) (h0 : 0 ≤ x) (h1 : x < 2 ^ 16) (hR : R = n % 16) : bits .or .u16 (x * 2 ^ R.toNat % 65536) (x / 2 ^ (16 - R).toNat) = rotI 16 x n := by
  have r0 := Int.emod_nonneg n (show (16 : Int) ≠ 0 by omega)
  have r1 := Int.emod_lt_of_pos n (show (0 : Int) < 16 by omega)
  rw [← hR] at r0 r1
  obtain ⟨y, rfl⟩ := Int.eq_ofNat_of_zero_le h0
  obtain ⟨q, rfl⟩ := Int.eq_ofNat_of_zero_le r0
  have e2 : ((16 : Int) - (q : Int)).toNat = 16 - q := by omega
  have f1 : ((y : Int) * 2 ^ q % 65536) = ((y * 2 ^ q % 65536 : Nat) : Int) := by simp
  have f2 : ((y : Int) / 2 ^ (16 - q)) = ((y / 2 ^ (16 - q) : Nat) : Int) := by simp
  have g1 : y * 2 ^ q % 65536 < 65536 := Nat.mod_lt _ (by omega)
  have g2 : y / 2 ^ (16 - q) < 65536 := Nat.lt_of_le_of_lt (Nat.div_le_self _ _) (by omega)
  rw [Int.toNat_natCast, e2, f1, f2, u16_or_nat _ _ g1 g2]
  unfold rotI rot
  have e3 : (n % ((16 : Nat) : Int)).toNat = q := by
    show (n % 16).toNat = q
    rw [← hR]; exact Int.toNat_natCast _
  rw [e3, Nat.mod_eq_of_lt (show q < 16 by omega), Int.toNat_natCast]
theorem i64_mask16 (n : Int) : bits .and .i64 n 15 = n % 16 := by
  have hm : (BitVec.ofInt 64 15).toNat = 2 ^ 4 - 1 := by decide
  have key : (BitVec.ofInt 64 n &&& BitVec.ofInt 64 15).toNat = (n % ((2 ^ 64 : Nat) : Int)).toNat % 2 ^ 4 := by
    rw [BitVec.toNat_and, BitVec.toNat_ofInt, hm, Nat.and_two_pow_sub_one_eq_mod]
  show IntKind.i64.wrap ((BitVec.ofInt 64 n &&& BitVec.ofInt 64 15).toNat : Nat) = n % 16
  rw [key, IntKind.wrap_i64]
  omega
set_option maxRecDepth 100000 in
theorem len64_32 (w : World) : Calls Try.prog 46 #[.int .u64 4294967295] w fun e w' => e = .returned (.int .i64 32) ∧ w = w' := by
  go_enter Try.func46, Try.ntmps46
  go_wp2
  go_ret
  exact ⟨by kernel_rfl, rfl⟩
theorem rot32_eq (x n R : Int) (h0 : 0 ≤ x) (h1 : x < 2 ^ 32) (hR : R = n % 32) : bits .or .u32 (x * 2 ^ R.toNat % 4294967296) (x / 2 ^ (32 - R).toNat) = rotI 32 x n := by
  have r0 := Int.emod_nonneg n (show (32 : Int) ≠ 0 by omega)
  have r1 := Int.emod_lt_of_pos n (show (0 : Int) < 32 by omega)
  rw [← hR] at r0 r1
  obtain ⟨y, rfl⟩ := Int.eq_ofNat_of_zero_le h0
  obtain ⟨q, rfl⟩ := Int.eq_ofNat_of_zero_le r0
  have e2 : ((32 : Int) - (q : Int)).toNat = 32 - q := by omega
  have f1 : ((y : Int) * 2 ^ q % 4294967296) = ((y * 2 ^ q % 4294967296 : Nat) : Int) := by simp
  have f2 : ((y : Int) / 2 ^ (32 - q)) = ((y / 2 ^ (32 - q) : Nat) : Int) := by simp
  have g1 : y * 2 ^ q % 4294967296 < 4294967296 := Nat.mod_lt _ (by omega)
  have g2 : y / 2 ^ (32 - q) < 4294967296 := Nat.lt_of_le_of_lt (Nat.div_le_self _ _) (by omega)
  rw [Int.toNat_natCast, e2, f1, f2, u32_or_nat _ _ g1 g2]
  unfold rotI rot
  have e3 : (n % ((32 : Nat) : Int)).toNat = q := by
    show (n % 32).toNat = q
    rw [← hR]; exact Int.toNat_natCast _
  rw [e3, Nat.mod_eq_of_lt (show q < 32 by omega), Int.toNat_natCast]
theorem i64_mask32 (n : Int) : bits .and .i64 n 31 = n % 32 := by
  have hm : (BitVec.ofInt 64 31).toNat = 2 ^ 5 - 1 := by decide
  have key : (BitVec.ofInt 64 n &&& BitVec.ofInt 64 31).toNat = (n % ((2 ^ 64 : Nat) : Int)).toNat % 2 ^ 5 := by
    rw [BitVec.toNat_and, BitVec.toNat_ofInt, hm, Nat.and_two_pow_sub_one_eq_mod]
  show IntKind.i64.wrap ((BitVec.ofInt 64 n &&& BitVec.ofInt 64 31).toNat : Nat) = n % 32
  rw [key, IntKind.wrap_i64]
  omega
set_option maxRecDepth 100000 in
theorem len64_64 (w : World) : Calls Try.prog 46 #[.int .u64 18446744073709551615] w fun e w' => e = .returned (.int .i64 64) ∧ w = w' := by
  go_enter Try.func46, Try.ntmps46
  go_wp2
  go_ret
  exact ⟨by kernel_rfl, rfl⟩
theorem rot64_eq (x n R : Int) (h0 : 0 ≤ x) (h1 : x < 2 ^ 64) (hR : R = n % 64) : bits .or .u64 (x * 2 ^ R.toNat % 18446744073709551616) (x / 2 ^ (64 - R).toNat) = rotI 64 x n := by
  have r0 := Int.emod_nonneg n (show (64 : Int) ≠ 0 by omega)
  have r1 := Int.emod_lt_of_pos n (show (0 : Int) < 64 by omega)
  rw [← hR] at r0 r1
  obtain ⟨y, rfl⟩ := Int.eq_ofNat_of_zero_le h0
  obtain ⟨q, rfl⟩ := Int.eq_ofNat_of_zero_le r0
  have e2 : ((64 : Int) - (q : Int)).toNat = 64 - q := by omega
  have f1 : ((y : Int) * 2 ^ q % 18446744073709551616) = ((y * 2 ^ q % 18446744073709551616 : Nat) : Int) := by simp
  have f2 : ((y : Int) / 2 ^ (64 - q)) = ((y / 2 ^ (64 - q) : Nat) : Int) := by simp
  have g1 : y * 2 ^ q % 18446744073709551616 < 18446744073709551616 := Nat.mod_lt _ (by omega)
  have g2 : y / 2 ^ (64 - q) < 18446744073709551616 := Nat.lt_of_le_of_lt (Nat.div_le_self _ _) (by omega)
  rw [Int.toNat_natCast, e2, f1, f2, u64_or_nat _ _ g1 g2]
  unfold rotI rot
  have e3 : (n % ((64 : Nat) : Int)).toNat = q := by
    show (n % 64).toNat = q
    rw [← hR]; exact Int.toNat_natCast _
  rw [e3, Nat.mod_eq_of_lt (show q < 64 by omega), Int.toNat_natCast]
theorem i64_mask64 (n : Int) : bits .and .i64 n 63 = n % 64 := by
  have hm : (BitVec.ofInt 64 63).toNat = 2 ^ 6 - 1 := by decide
  have key : (BitVec.ofInt 64 n &&& BitVec.ofInt 64 63).toNat = (n % ((2 ^ 64 : Nat) : Int)).toNat % 2 ^ 6 := by
    rw [BitVec.toNat_and, BitVec.toNat_ofInt, hm, Nat.and_two_pow_sub_one_eq_mod]
  show IntKind.i64.wrap ((BitVec.ofInt 64 n &&& BitVec.ofInt 64 63).toNat : Nat) = n % 64
  rw [key, IntKind.wrap_i64]
  omega
end Go.Proofs.Ytbijakhdngbjmaa
