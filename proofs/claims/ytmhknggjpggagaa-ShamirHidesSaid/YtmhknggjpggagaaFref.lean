/- Contracts of the document's answers for layer 2: Mul, Inv, Pow. -/
import Derived.Test.YtmhknggjpggagaaFpure
namespace Go.Proofs.Ytmhknggjpggagaa
open Go.ChangeShapes Go.WideShapes Go.ChangeAt Go.RowKit
set_option linter.unusedVariables false
set_option maxRecDepth 100000

theorem i64_xor_nat (a b : Nat) (ha : a < 2 ^ 32) (hb : b < 2 ^ 32) : bits .xor .i64 (a : Int) (b : Int) = ((a ^^^ b : Nat) : Int) := by
  have h := Nat.xor_lt_two_pow (n := 32) ha hb
  show IntKind.i64.wrap ((BitVec.ofInt 64 (a : Int) ^^^ BitVec.ofInt 64 (b : Int)).toNat : Nat) = _
  rw [BitVec.toNat_xor, ofInt_u64 a (Nat.lt_of_lt_of_le ha (by decide)), ofInt_u64 b (Nat.lt_of_lt_of_le hb (by decide)), IntKind.wrap_i64]
  have : a ^^^ b < 4294967296 := h
  omega
theorem accA_lt {a : Nat} (b : Nat) (ha : a < 256) : ∀ i, i ≤ 8 → accA a b i < 2 ^ 16 := by
  intro i
  induction i with
  | zero => intro _; simp [accA]
  | succ i ih =>
    intro hi
    have h := ih (by omega)
    have hp : 2 ^ i ≤ 2 ^ 7 := Nat.pow_le_pow_right (by omega) (by omega)
    have hm : a * 2 ^ i ≤ 255 * 2 ^ 7 := Nat.mul_le_mul (by omega) hp
    simp only [accA]
    split
    · exact Nat.xor_lt_two_pow (n := 16) h (by omega)
    · exact h
theorem redA_lt {p : Nat} (hp : p < 2 ^ 16) : ∀ j, redA p j < 2 ^ 16 := by
  intro j
  induction j with
  | zero => simpa [redA] using hp
  | succ j ih =>
    have h2 : 2 ^ (6 - j) ≤ 2 ^ 6 := Nat.pow_le_pow_right (by omega) (by omega)
    have hm : 283 * 2 ^ (6 - j) ≤ 283 * 2 ^ 6 := Nat.mul_le_mul (Nat.le_refl _) h2
    simp only [redA]
    split
    · exact Nat.xor_lt_two_pow (n := 16) ih (by omega)
    · exact ih
theorem bit_cast (y k : Nat) : ((y : Int) / 2 ^ k).tmod 2 = ((y / 2 ^ k % 2 : Nat) : Int) := by
  rw [show ((y : Int) / 2 ^ k) = ((y / 2 ^ k : Nat) : Int) by simp]
  rfl
theorem shl_cast {x k : Nat} (hx : x < 2 ^ 10) (hk : k ≤ 16) : wrap64 ((x : Int) * 2 ^ k) = ((x * 2 ^ k : Nat) : Int) ∧ x * 2 ^ k < 2 ^ 32 := by
  have hp : 2 ^ k ≤ 2 ^ 16 := Nat.pow_le_pow_right (by omega) hk
  have hm : x * 2 ^ k ≤ 2 ^ 10 * 2 ^ 16 := Nat.mul_le_mul (by omega) hp
  rw [show ((x : Int) * 2 ^ k) = ((x * 2 ^ k : Nat) : Int) by simp]
  unfold wrap64
  omega

theorem refMul_N (x y : Nat) (hx : x < 256) (hy : y < 256) (w : World) : Calls Try.prog 35 #[.int .u8 (x : Nat), .int .u8 (y : Nat)] w fun e w' => e = .returned (.int .u8 ((gm x y : Nat) : Int)) ∧ w = w' := by
  have H0 := Lib.hid (ref_gm hx hy)
  go_enter Try.func35, Try.ntmps35
  go_wp2
  go_loop [5, 6] (fun p i => ∃ k : Nat, k ≤ 8 ∧ i = .int .i64 (k : Nat) ∧ p = .int .i64 ((accA x y k : Nat) : Int)) (fun _ i => 8 - (intOf i).toNat)
  case atStart => exact ⟨0, by omega, rfl, rfl⟩
  case round =>
    obtain ⟨k, hk, rfl, rfl⟩ := hrel
    by_cases hlt : k < 8
    · have hOl := accA_lt y hx k hk
      obtain ⟨O, hO⟩ : ∃ O, O = accA x y k := ⟨_, rfl⟩
      rw [← hO] at hOl ⊢
      have HO := Lib.hid hO
      clear hO
      have hs := shl_cast (x := x) (k := k) (by omega) (by omega)
      have HS := Lib.hid hs
      clear hs
      have HX := Lib.hid (i64_xor_nat O (x * 2 ^ k) (Nat.lt_of_lt_of_le hOl (by decide)) HS.out.2)
      by_cases hb : y / 2 ^ k % 2 = 1
      · have hq := bit_cast y k
        rw [hb] at hq
        have HB := Lib.hid hb
        clear hb
        go_wp2
        go_round
        case rel => exact ⟨k + 1, by omega, by go_num, by simp only [accA]; rw [if_pos HB.out, ← HO.out, HS.out.1, HX.out]⟩
        case measure => simp [intOf]; omega
      · have hq := bit_cast y k
        rw [show y / 2 ^ k % 2 = 0 by omega] at hq
        have HB := Lib.hid hb
        clear hb
        go_wp2
        go_round
        case rel => exact ⟨k + 1, by omega, by go_num, by simp only [accA]; rw [if_neg HB.out, ← HO.out]⟩
        case measure => simp [intOf]; omega
    · obtain rfl : k = 8 := by omega
      have hPl := accA_lt y hx 8 (by omega)
      obtain ⟨P, hP⟩ : ∃ P, P = accA x y 8 := ⟨_, rfl⟩
      rw [← hP] at hPl ⊢
      have HP := Lib.hid hP
      clear hP
      go_wp2
      go_loop [5, 7] (fun p i => ∃ m : Nat, 7 ≤ m ∧ m ≤ 14 ∧ i = .int .i64 (m : Nat) ∧ p = .int .i64 ((redA P (14 - m) : Nat) : Int)) (fun _ i => (intOf i).toNat)
      case atStart => exact ⟨14, by omega, by omega, rfl, rfl⟩
      case round =>
        obtain ⟨m, hm1, hm2, rfl, rfl⟩ := hrel
        have hQl := redA_lt hPl (14 - m)
        obtain ⟨Q, hQ⟩ : ∃ Q, Q = redA P (14 - m) := ⟨_, rfl⟩
        rw [← hQ] at hQl ⊢
        have HQ := Lib.hid hQ
        clear hQ
        by_cases hlt : 8 ≤ m
        · have HE := Lib.hid (show redA P (14 - (m - 1)) = if Q / 2 ^ m % 2 = 1 then Q ^^^ (283 * 2 ^ (m - 8)) else Q by
            rw [HQ.out, show 14 - (m - 1) = (14 - m) + 1 by omega]
            simp only [redA]
            rw [show 14 - (14 - m) = m by omega, show 6 - (14 - m) = m - 8 by omega])
          have hs := shl_cast (x := 283) (k := m - 8) (by omega) (by omega)
          have HS := Lib.hid hs
          clear hs
          have HX := Lib.hid (i64_xor_nat Q (283 * 2 ^ (m - 8)) (Nat.lt_of_lt_of_le hQl (by decide)) HS.out.2)
          have hm8 : ((m : Int) - 8).toNat = m - 8 := by omega
          have hm9 : (0 : Int) ≤ (m : Int) - 8 := by omega
          by_cases hb : Q / 2 ^ m % 2 = 1
          · have hq := bit_cast Q m
            rw [hb] at hq
            have HB := Lib.hid hb
            clear hb
            go_wp2
            go_round
            case rel =>
              have e := HS.out.1
              rw [show ((283 : Nat) : Int) = 283 from rfl] at e
              exact ⟨m - 1, by omega, by omega, by go_num, by rw [HE.out, if_pos HB.out, e, HX.out]⟩
            case measure => simp [intOf]; omega
          · have hq := bit_cast Q m
            rw [show Q / 2 ^ m % 2 = 0 by omega] at hq
            have HB := Lib.hid hb
            clear hb
            go_wp2
            go_round
            case rel => exact ⟨m - 1, by omega, by omega, by go_num, by rw [HE.out, if_neg HB.out]⟩
            case measure => simp [intOf]; omega
        · obtain rfl : m = 7 := by omega
          go_wp2
          go_ret
          refine ⟨ret_int ?_, rfl⟩
          have h7 := HQ.out
          have h8 := H0.out
          unfold refM at h8
          rw [← HP.out] at h8
          rw [← h8, show redA P 7 = Q from h7.symm]
          simp
set_option maxRecDepth 10000 in
theorem refInv_N (x : Nat) (hx : x < 256) (w : World) : Calls Try.prog 49 #[.int .u8 (x : Nat)] w fun e w' => e = .returned (.int .u8 ((inv x : Nat) : Int)) ∧ w = w' := by
  have HI := Lib.hid (show ∀ k : Nat, k < 256 → gm x k = 1 → k = inv x from fun k hk h => inv_uniq hx hk h)
  have HE := Lib.hid (show (∀ j : Nat, 1 ≤ j → j < 256 → gm x j ≠ 1) → inv x = 0 from fun h => by
    by_cases h0 : x = 0
    · rw [h0]; rfl
    · exact absurd (gm_inv hx h0) (h _ (by have := inv_ne h0; omega) (inv_lt x)))
  go_enter Try.func49, Try.ntmps49
  go_wp2
  go_loop [3] (fun i => ∃ k : Nat, 1 ≤ k ∧ k ≤ 256 ∧ i = .int .i64 (k : Nat) ∧ Hid (∀ j : Nat, 1 ≤ j → j < k → gm x j ≠ 1)) (fun i => 256 - (intOf i).toNat)
  case atStart => exact ⟨1, by omega, by omega, rfl, Lib.hid (fun j h1 h2 => absurd h2 (by omega))⟩
  case round =>
    obtain ⟨k, hk1, hk2, rfl, hH⟩ := hrel
    by_cases hlt : k < 256
    · have hk5 : (k : Int) % 256 = (k : Int) := by omega
      by_cases hq : gm x k = 1
      · have hq' : ((gm x k : Nat) : Int) = 1 := by omega
        have HQ := Lib.hid hq
        clear hq
        go_wp2_with (go_at_call 35; refine (refMul_N _ _ hx (by omega) _).mono ?_; rintro e w' ⟨rfl, rfl⟩)
        go_ret
        exact ⟨ret_int (by rw [← HI.out k hlt HQ.out]), rfl⟩
      · have hq' : (((gm x k : Nat) : Int) == 1) = false := by
          rw [beq_eq_false_iff_ne]; omega
        have HQ := Lib.hid hq
        clear hq
        go_wp2_with (go_at_call 35; refine (refMul_N _ _ hx (by omega) _).mono ?_; rintro e w' ⟨rfl, rfl⟩)
        go_round
        case rel =>
          refine ⟨k + 1, by omega, by omega, by go_num, Lib.hid ?_⟩
          intro j h1 h2
          by_cases e : j = k
          · rw [e]; exact HQ.out
          · exact hH.out j h1 (by omega)
        case measure => simp [intOf]; omega
    · obtain rfl : k = 256 := by omega
      go_wp2
      go_ret
      exact ⟨ret_int (by rw [HE.out hH.out]; rfl), rfl⟩

/-- A number, n times multiplied with itself; below 0 the inverse's. -/
def powN (x : Nat) (n : Int) : Nat := if n = 0 then 1 else if x = 0 then 0 else pwr x (n % 255).toNat
theorem powN_lt (x : Nat) (n : Int) : powN x n < 256 := by
  unfold powN
  split
  · decide
  · split
    · decide
    · exact pw_lt _
theorem tmod_bd (n : Int) : -255 < n.tmod 255 ∧ n.tmod 255 < 255 ∧ (n.tmod 255 + 255) % 255 = n % 255 ∧ (n < 0 → n.tmod 255 ≤ 0) ∧ (0 ≤ n → n.tmod 255 = n % 255) := by
  have h1 := Int.lt_tmod_of_pos n (show (0 : Int) < 255 by omega)
  have h2 := Int.tmod_lt_of_pos n (show (0 : Int) < 255 by omega)
  have h3 := Int.tmod_add_mul_tdiv n 255
  have h4 : 0 ≤ n → n.tmod 255 = n % 255 := fun h => Int.tmod_eq_emod_of_nonneg h
  refine ⟨h1, h2, by omega, fun h => ?_, h4⟩
  have h5 := Int.tmod_eq_emod_of_nonneg (a := -n) (b := 255) (by omega)
  rw [Int.neg_tmod] at h5
  omega
end Go.Proofs.Ytmhknggjpggagaa
