/- Contracts: field.Add, double, Slow. -/
import Derived.Test.YtmhknggjpggagaaRows
import Derived.WalkKit
import Derived.ProofKit
import Derived.OpenShut
import Derived.ShutString
import Derived.Below
import Derived.BigQuiet
import Derived.Deep.QuietTactic
import Derived.Laws.BitsAllLaws
import Derived.Lib.Hide
import Derived.Test.YtmhknggjpggagaaFmath
namespace Go.Proofs.Ytmhknggjpggagaa
open Go.ChangeShapes Go.WideShapes Go.ChangeAt Go.RowKit
set_option linter.unusedVariables false
set_option maxRecDepth 100000

theorem ret_int {k : IntKind} {a b : Int} (h : a = b) : Ending.returned (.int k a) = .returned (.int k b) := by rw [h]
theorem wf_u8 {x : Int} (h : (Lit.int .u8 x).wf = true) : 0 ≤ x ∧ x < 256 := by
  have : 0 ≤ x ∧ x ≤ 255 := by simpa [Lit.wf, IntKind.min, IntKind.max, IntKind.signed, IntKind.bits] using h
  omega
theorem wf_i64 {n : Int} (h : (Lit.int .i64 n).wf = true) : -9223372036854775808 ≤ n ∧ n ≤ 9223372036854775807 := by simpa [Lit.wf, IntKind.min, IntKind.max, IntKind.signed, IntKind.bits] using h

/-- The sum of two numbers of the field. -/
def xoI (x y : Int) : Int := ((x.toNat ^^^ y.toNat : Nat) : Int)
/-- Their product. -/
def gmI (x y : Int) : Int := ((gm x.toNat y.toNat : Nat) : Int)
def dbI (x : Int) : Int := ((dbl x.toNat : Nat) : Int)
/-- The inverse, 0 of 0. -/
def ivI (x : Int) : Int := ((inv x.toNat : Nat) : Int)
/-- Which power of 3 it is. -/
def lgI (x : Int) : Int := ((lg x.toNat : Nat) : Int)
/-- That power of 3. -/
def pwI (n : Int) : Int := ((pw n.toNat : Nat) : Int)
theorem gmI_bd (x y : Int) : 0 ≤ gmI x y ∧ gmI x y < 256 := by have := gm_lt x.toNat y.toNat; unfold gmI; omega
theorem ivI_bd (x : Int) : 0 ≤ ivI x ∧ ivI x < 256 := by have := inv_lt x.toNat; unfold ivI; omega
theorem lgI_bd (x : Int) : 0 ≤ lgI x ∧ lgI x < 256 := by have := lg_lt x.toNat; unfold lgI; omega
theorem pwI_bd (x : Int) : 0 ≤ pwI x ∧ pwI x < 256 := by have := pw_lt x.toNat; unfold pwI; omega
theorem xoI_bd {x y : Int} (h0 : 0 ≤ x ∧ x < 256) (h1 : 0 ≤ y ∧ y < 256) : 0 ≤ xoI x y ∧ xoI x y < 256 := by
  have := xor_lt (a := x.toNat) (b := y.toNat) (by omega) (by omega)
  unfold xoI; omega
theorem dbI_bd {x : Int} (h0 : 0 ≤ x ∧ x < 256) : 0 ≤ dbI x ∧ dbI x < 256 := by
  have := dbl_lt (a := x.toNat) (by omega)
  unfold dbI; omega

theorem add_I (x y : Int) (hx : 0 ≤ x ∧ x < 256) (hy : 0 ≤ y ∧ y < 256) (w : World) : Calls Try.prog 43 #[.int .u8 x, .int .u8 y] w fun e w' => e = .returned (.int .u8 (xoI x y)) ∧ w = w' := by
  have h := Lib.hid (u8_xor x y hx.1 hx.2 hy.1 hy.2)
  go_enter Try.func43, Try.ntmps43
  go_wp2
  go_ret
  exact ⟨ret_int h.out, rfl⟩

theorem k_and : allLt 256 (fun a => (a &&& 128) == (if a < 128 then 0 else 128) && (a &&& 1) == a % 2) = true := by decide +kernel
theorem and_at {a : Nat} (h : a < 256) : bits .and .u8 (a : Int) 128 = ((if a < 128 then 0 else 128 : Nat) : Int) ∧ bits .and .u8 (a : Int) 1 = ((a % 2 : Nat) : Int) := by
  have hh := allLt_at k_and a h
  simp only [Bool.and_eq_true, beq_iff_eq] at hh
  have h1 := u8_and_nat a 128 h (by decide)
  have h2 := u8_and_nat a 1 h (by decide)
  rw [hh.1] at h1
  rw [hh.2] at h2
  exact ⟨h1, h2⟩
theorem double_N (a : Nat) (ha : a < 256) (w : World) : Calls Try.prog 44 #[.int .u8 (a : Nat)] w fun e w' => e = .returned (.int .u8 ((dbl a : Nat) : Int)) ∧ w = w' := by
  have h1 := (and_at ha).1
  by_cases h : a < 128
  · rw [if_pos h] at h1
    go_enter Try.func44, Try.ntmps44
    go_wp2
    go_ret
    refine ⟨ret_int ?_, rfl⟩
    unfold dbl; rw [if_pos h]; omega
  · rw [if_neg h] at h1
    go_enter Try.func44, Try.ntmps44
    go_wp2_with (go_at_call 43; refine (add_I _ _ (by omega) (by omega) _).mono ?_; rintro e w' ⟨rfl, rfl⟩)
    go_ret
    refine ⟨ret_int ?_, rfl⟩
    unfold dbl xoI; rw [if_neg h, show ((a : Int) * 2 % 256).toNat = 2 * a - 256 by omega]; rfl
theorem dbl_N {a : Nat} (ha : a < 256) : dbI (a : Int) = ((dbl a : Nat) : Int) := rfl
theorem double_I (x : Int) (hx : 0 ≤ x ∧ x < 256) (w : World) : Calls Try.prog 44 #[.int .u8 x] w fun e w' => e = .returned (.int .u8 (dbI x)) ∧ w = w' := by
  obtain ⟨a, rfl⟩ := Int.eq_ofNat_of_zero_le hx.1
  exact double_N a (by omega) w

theorem slowA_zero (f : Nat) : ∀ a o, slowA f a 0 o = o := by
  induction f with
  | zero => intro a o; rfl
  | succ f ih => intro a o; simp only [slowA]; rw [if_neg (by decide)]; exact ih _ _
theorem slow_N (x y : Nat) (hx : x < 256) (hy : y < 256) (w : World) : Calls Try.prog 26 #[.int .u8 (x : Nat), .int .u8 (y : Nat)] w fun e w' => e = .returned (.int .u8 ((gm x y : Nat) : Int)) ∧ w = w' := by
  have H0 := Lib.hid (slow_gm hx hy)
  go_enter Try.func26, Try.ntmps26
  go_wp2
  go_loop [0, 1, 5] (fun a b o => ∃ (f A B O : Nat), f ≤ 8 ∧ A < 256 ∧ B < 2 ^ f ∧ O < 256 ∧ a = .int .u8 (A : Nat) ∧ b = .int .u8 (B : Nat) ∧ o = .int .u8 (O : Nat) ∧ slowA f A B O = slow x y) (fun _ b _ => (intOf b).toNat)
  case atStart => exact ⟨8, x, y, 0, by omega, hx, by omega, by omega, rfl, rfl, rfl, rfl⟩
  case round =>
    obtain ⟨f, A, B, O, hf, hA, hB, hO, rfl, rfl, rfl, hs⟩ := hrel
    have HS := Lib.hid hs
    clear hs
    by_cases h0 : B = 0
    · subst h0
      go_wp2
      go_ret
      refine ⟨ret_int ?_, rfl⟩
      rw [← H0.out, ← HS.out, slowA_zero]
    · obtain ⟨g, rfl⟩ : ∃ g, f = g + 1 := by
        cases f with
        | zero => omega
        | succ g => exact ⟨g, rfl⟩
      have hB2 : B < 256 := Nat.lt_of_lt_of_le hB (Nat.pow_le_pow_right (by omega) (show g + 1 ≤ 8 by omega))
      have hB3 : B / 2 < 2 ^ g := by rw [Nat.pow_succ] at hB; omega
      have HB3 := Lib.hid hB3
      clear hB3 hB
      have h1 := (and_at hB2).2
      have hD := dbl_lt hA
      have h2 : ((B : Nat) : Int) ≠ 0 := by omega
      have h3 : B % 2 = 0 ∨ B % 2 = 1 := by omega
      rcases h3 with h3 | h3
      · rw [h3] at h1
        have H3 := Lib.hid h3
        clear h3
        go_wp2_with (first | (go_at_call 43; refine (add_I _ _ (by omega) (by omega) _).mono ?_; rintro e w' ⟨rfl, rfl⟩) | (go_at_call 44; refine (double_N _ hA _).mono ?_; rintro e w' ⟨rfl, rfl⟩))
        go_round
        case rel => exact ⟨g, dbl A, B / 2, O, by omega, hD, HB3.out, hO, rfl, by go_num, rfl, by rw [← HS.out]; simp only [slowA]; rw [H3.out]; rfl⟩
        case measure => simp [intOf]; omega
      · rw [h3] at h1
        have H3 := Lib.hid h3
        clear h3
        go_wp2_with (first | (go_at_call 43; refine (add_I _ _ (by omega) (by omega) _).mono ?_; rintro e w' ⟨rfl, rfl⟩) | (go_at_call 44; refine (double_N _ hA _).mono ?_; rintro e w' ⟨rfl, rfl⟩))
        go_round
        case rel => exact ⟨g, dbl A, B / 2, O ^^^ A, by omega, hD, HB3.out, xor_lt hO hA, rfl, by go_num, rfl, by rw [← HS.out]; simp only [slowA]; rw [H3.out]; rfl⟩
        case measure => simp [intOf]; omega
theorem slow_I (x y : Int) (hx : 0 ≤ x ∧ x < 256) (hy : 0 ≤ y ∧ y < 256) (w : World) : Calls Try.prog 26 #[.int .u8 x, .int .u8 y] w fun e w' => e = .returned (.int .u8 (gmI x y)) ∧ w = w' := by
  obtain ⟨a, rfl⟩ := Int.eq_ofNat_of_zero_le hx.1
  obtain ⟨b, rfl⟩ := Int.eq_ofNat_of_zero_le hy.1
  exact slow_N a b (by omega) (by omega) w
end Go.Proofs.Ytmhknggjpggagaa
