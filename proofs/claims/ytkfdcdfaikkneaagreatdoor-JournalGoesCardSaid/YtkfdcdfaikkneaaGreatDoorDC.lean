/- Texts of mine, one behind the other: Lives Pop Swar Ones Xor Zero. -/
import Derived.Test.YtkfdcdfaikkneaaGreatDoorQ1
import Derived.Test.YtkfdcdfaikkneaaGreatDoorDB
import Derived.Test.YtkfdcdfaikkneaaGreatDoorDA
import Derived.Laws.BitsAllLaws
import Derived.Laws.Bits128
import Derived.StillTailTactics
import Derived.Deep.OwnRows
namespace Go.Proofs.YtkfdcdfaikkneaaGreatDoor
open Go.ChangeShapes Go.WideShapes Go.ChangeAt Go.RowKit
set_option linter.unusedVariables false

theorem rotI_129 : rotI 8 129 1 = 3 := by decide
theorem str_258 : (strOfNums (be 2 258)).toList = [1, 2] := by decide +kernel
end Go.Proofs.YtkfdcdfaikkneaaGreatDoor
/- Plain facts on numbers: bits, sums of bits, turned words, the count of ones by halves. No program is named here. -/
namespace Go.Proofs.YtkfdcdfaikkneaaGreatDoor

def sumB (f : Nat → Nat) : Nat → Nat
  | 0 => 0
  | n + 1 => sumB f n + f n
theorem sumB_congr {f g : Nat → Nat} {n : Nat} (h : ∀ i, i < n → f i = g i) : sumB f n = sumB g n := by
  induction n with
  | zero => rfl
  | succ n ih => simp only [sumB]; rw [ih (fun i hi => h i (by omega)), h n (by omega)]
theorem sumB_add (f : Nat → Nat) (m n : Nat) : sumB f (m + n) = sumB f m + sumB (fun i => f (m + i)) n := by
  induction n with
  | zero => rfl
  | succ n ih => rw [← Nat.add_assoc]; simp only [sumB]; rw [ih]; omega
theorem sumB_zero {f : Nat → Nat} {n : Nat} (h : ∀ i, i < n → f i = 0) : sumB f n = 0 := by
  induction n with
  | zero => rfl
  | succ n ih => simp only [sumB]; rw [ih (fun i hi => h i (by omega)), h n (by omega)]
theorem sumB_le {f : Nat → Nat} {n : Nat} (h : ∀ i, i < n → f i ≤ 1) : sumB f n ≤ n := by
  induction n with
  | zero => simp [sumB]
  | succ n ih => simp only [sumB]; have := ih (fun i hi => h i (by omega)); have := h n (by omega); omega
/-- Turned about, a sum is the same. -/
theorem sumB_turn (f : Nat → Nat) {k u : Nat} (hu : u < k) : sumB (fun i => f ((i + k - u) % k)) k = sumB f k := by
  have h1 : sumB (fun i => f ((i + k - u) % k)) (u + (k - u)) = sumB (fun i => f (k - u + i)) u + sumB f (k - u) := by
    rw [sumB_add]
    congr 1
    · apply sumB_congr; intro i hi
      rw [mod_sub_lt (by omega) hu, if_neg (by omega)]; congr 1; omega
    · apply sumB_congr; intro i hi
      rw [mod_sub_lt (by omega) hu, if_pos (by omega)]; congr 1; omega
  have h2 : sumB f ((k - u) + u) = sumB f (k - u) + sumB (fun i => f (k - u + i)) u := sumB_add f (k - u) u
  rw [show u + (k - u) = k by omega] at h1
  rw [show (k - u) + u = k by omega] at h2
  omega

def bitAt (x i : Nat) : Nat := x / 2 ^ i % 2
theorem bitAt_le (x i : Nat) : bitAt x i ≤ 1 := by unfold bitAt; omega
theorem bitAt_testBit (x i : Nat) : bitAt x i = (x.testBit i).toNat := by
  unfold bitAt
  rw [Nat.testBit_eq_decide_div_mod_eq]
  by_cases h : x / 2 ^ i % 2 = 1
  · simp [h]
  · simp [h]; omega
theorem bitAt_big {x k i : Nat} (hx : x < 2 ^ k) (hi : k ≤ i) : bitAt x i = 0 := by
  rw [bitAt_testBit, Nat.testBit_lt_two_pow (Nat.lt_of_lt_of_le hx (Nat.pow_le_pow_right (by omega) hi))]; rfl
def pop (k x : Nat) : Nat := sumB (bitAt x) k
theorem pop_le (k x : Nat) : pop k x ≤ k := sumB_le fun i _ => bitAt_le x i
theorem pop_more {x k m : Nat} (hx : x < 2 ^ k) (hm : k ≤ m) : pop m x = pop k x := by
  obtain ⟨d, rfl⟩ := Nat.le.dest hm
  unfold pop
  rw [sumB_add, sumB_zero (f := fun i => bitAt x (k + i)) fun i _ => bitAt_big hx (by omega), Nat.add_zero]
theorem rot_bitAt {k x s i : Nat} (hx : x < 2 ^ k) (hk : 0 < k) (hi : i < k) : bitAt (rot k x s) i = bitAt x ((i + k - s % k) % k) := by
  rw [bitAt_testBit, bitAt_testBit, rot_testBit hx hk]; simp [hi]
theorem pop_rot {k x s : Nat} (hx : x < 2 ^ k) (hk : 0 < k) : pop k (rot k x s) = pop k x := by
  unfold pop
  rw [← sumB_turn (bitAt x) (Nat.mod_lt s hk)]
  exact sumB_congr fun i hi => rot_bitAt hx hk hi
/-- The low m bits of the turned word are a sum. -/
theorem mod_pow_succ' (y m : Nat) : y % 2 ^ (m + 1) = y % 2 ^ m + bitAt y m * 2 ^ m := by
  unfold bitAt
  rw [Nat.pow_succ, Nat.mod_mul, Nat.mul_comm (2 ^ m)]
/-- The fields of n times k bits, summed. -/
def fsum (k n x : Nat) : Nat := sumB (fun i => x / 2 ^ (k * i) % 2 ^ k) n
theorem fsum_one (x n : Nat) : fsum 1 n x = pop n x := by
  unfold fsum pop; apply sumB_congr; intro i _; unfold bitAt; rw [Nat.one_mul]
theorem sumB_first (f : Nat → Nat) (n : Nat) : sumB f (n + 1) = f 0 + sumB (fun i => f (i + 1)) n := by
  have := sumB_add f 1 n
  rw [Nat.add_comm 1 n] at this
  rw [this]; simp only [sumB, Nat.zero_add]
  congr 1
  exact sumB_congr fun i _ => by rw [Nat.add_comm]
theorem fsum_succ (k n x : Nat) : fsum k (n + 1) x = x % 2 ^ k + fsum k n (x / 2 ^ k) := by
  unfold fsum
  rw [sumB_first]
  simp only [Nat.mul_zero, Nat.pow_zero, Nat.div_one]
  congr 1
  apply sumB_congr; intro i _
  rw [Nat.div_div_eq_div_mul, ← Nat.pow_add, show k + k * i = k * (i + 1) by rw [Nat.mul_succ]; omega]
/-- Two neighbouring fields of k bits, put together into one of twice as many. -/
def pairs (k : Nat) : Nat → Nat → Nat
  | 0, _ => 0
  | n + 1, x => (x % 2 ^ k + x / 2 ^ k % 2 ^ k) + 2 ^ (2 * k) * pairs k n (x / 2 ^ (2 * k))
theorem two_fields_lt {k : Nat} (hk : 0 < k) (x : Nat) : x % 2 ^ k + x / 2 ^ k % 2 ^ k < 2 ^ (2 * k) := by
  have h1 : x % 2 ^ k < 2 ^ k := Nat.mod_lt _ (Nat.two_pow_pos k)
  have h2 : x / 2 ^ k % 2 ^ k < 2 ^ k := Nat.mod_lt _ (Nat.two_pow_pos k)
  have h3 : 2 ≤ 2 ^ k := by
    calc 2 = 2 ^ 1 := rfl
      _ ≤ 2 ^ k := Nat.pow_le_pow_right (by omega) hk
  have h4 : 2 ^ (2 * k) = 2 ^ k * 2 ^ k := by rw [← Nat.pow_add]; congr 1; omega
  have h5 : 2 * 2 ^ k ≤ 2 ^ k * 2 ^ k := Nat.mul_le_mul_right _ h3
  omega
theorem fsum_pairs {k : Nat} (hk : 0 < k) : ∀ n x, fsum (2 * k) n (pairs k n x) = fsum k (2 * n) x := by
  intro n
  induction n with
  | zero => intro x; rfl
  | succ n ih =>
    intro x
    have hlt := two_fields_lt hk x
    rw [fsum_succ, pairs, Nat.add_mul_mod_self_left, Nat.mod_eq_of_lt hlt, Nat.add_mul_div_left _ _ (Nat.two_pow_pos _), Nat.div_eq_of_lt hlt, Nat.zero_add, ih]
    rw [show 2 * (n + 1) = 2 * n + 1 + 1 by omega, fsum_succ, fsum_succ, Nat.div_div_eq_div_mul, ← Nat.pow_add, show k + k = 2 * k by omega]
    omega
theorem pairs_lt {k : Nat} (hk : 0 < k) : ∀ n x, pairs k n x < 2 ^ (2 * k * n) := by
  intro n
  induction n with
  | zero => intro x; simp [pairs]
  | succ n ih =>
    intro x
    have h1 := two_fields_lt hk x
    have h2 := ih (x / 2 ^ (2 * k))
    rw [pairs, Nat.mul_succ, Nat.pow_add, Nat.mul_comm (2 ^ (2 * k * n))]
    have h3 : 2 ^ (2 * k) * (pairs k n (x / 2 ^ (2 * k)) + 1) ≤ 2 ^ (2 * k) * 2 ^ (2 * k * n) := Nat.mul_le_mul_left _ h2
    rw [Nat.mul_add, Nat.mul_one] at h3
    omega
end Go.Proofs.YtkfdcdfaikkneaaGreatDoor
/- The count of ones by halves is the sum of the bits. No program is named here. -/
namespace Go.Proofs.YtkfdcdfaikkneaaGreatDoor

def mask (k : Nat) : Nat → Nat
  | 0 => 0
  | n + 1 => (2 ^ k - 1) + 2 ^ (2 * k) * mask k n
theorem and_mask (k n x : Nat) : x &&& mask k (n + 1) = x % 2 ^ k + 2 ^ (2 * k) * (x / 2 ^ (2 * k) &&& mask k n) := by
  have hp := Nat.two_pow_pos k
  have hlt : 2 ^ k - 1 < 2 ^ (2 * k) := Nat.lt_of_lt_of_le (by omega) (Nat.pow_le_pow_right (by omega) (show k ≤ 2 * k by omega))
  have e1 : mask k (n + 1) / 2 ^ (2 * k) = mask k n := by
    rw [mask, Nat.add_mul_div_left _ _ (Nat.two_pow_pos _), Nat.div_eq_of_lt hlt, Nat.zero_add]
  have e2 : mask k (n + 1) % 2 ^ (2 * k) = 2 ^ k - 1 := by
    rw [mask, Nat.add_mul_mod_self_left, Nat.mod_eq_of_lt hlt]
  have h1 : (x &&& mask k (n + 1)) / 2 ^ (2 * k) = x / 2 ^ (2 * k) &&& mask k n := by rw [Nat.and_div_two_pow, e1]
  have h2 : (x &&& mask k (n + 1)) % 2 ^ (2 * k) = x % 2 ^ k := by
    rw [Nat.and_mod_two_pow, e2, Nat.and_two_pow_sub_one_eq_mod, Nat.mod_mod_of_dvd _ (Nat.pow_dvd_pow 2 (show k ≤ 2 * k by omega))]
  have := Nat.mod_add_div (x &&& mask k (n + 1)) (2 ^ (2 * k))
  rw [h1, h2] at this
  exact this.symm
theorem halves_pairs (k : Nat) : ∀ n x, (x / 2 ^ k &&& mask k n) + (x &&& mask k n) = pairs k n x := by
  intro n
  induction n with
  | zero => intro x; simp [mask, pairs]
  | succ n ih =>
    intro x
    rw [and_mask, and_mask, pairs, ← ih (x / 2 ^ (2 * k)), Nat.mul_add]
    have e : x / 2 ^ k / 2 ^ (2 * k) = x / 2 ^ (2 * k) / 2 ^ k := by
      rw [Nat.div_div_eq_div_mul, Nat.div_div_eq_div_mul, Nat.mul_comm]
    rw [e]; omega
/-- All fields of four bits are small. -/
def Small (x : Nat) : Prop := ∀ i, x / 2 ^ (4 * i) % 16 ≤ 7
theorem Small.next {x : Nat} (h : Small x) : Small (x / 256) := fun i => by
  have := h (i + 2)
  rw [show 4 * (i + 2) = 8 + 4 * i by omega, Nat.pow_add, ← Nat.div_div_eq_div_mul] at this
  exact this
theorem pairs_fields : ∀ n x i, pairs 2 n x / 2 ^ (4 * i) % 16 ≤ 6 := by
  intro n
  induction n with
  | zero => intro x i; simp [pairs]
  | succ n ih =>
    intro x i
    have hlt : x % 4 + x / 4 % 4 < 16 := by omega
    match i with
    | 0 =>
      rw [pairs]
      show ((x % 4 + x / 4 % 4) + 16 * _) / 2 ^ 0 % 16 ≤ 6
      omega
    | i + 1 =>
      have e : pairs 2 (n + 1) x / 2 ^ (4 * (i + 1)) = pairs 2 n (x / 16) / 2 ^ (4 * i) := by
        rw [show 4 * (i + 1) = 4 + 4 * i by omega, Nat.pow_add, ← Nat.div_div_eq_div_mul, pairs]
        show ((x % 4 + x / 4 % 4) + 16 * pairs 2 n (x / 16)) / 16 / _ = _
        congr 1; omega
      rw [e]; exact ih _ i
theorem sum_pairs : ∀ n x, Small x → (x / 16 + x) &&& mask 4 n = pairs 4 n x := by
  intro n
  induction n with
  | zero => intro x _; simp [mask, pairs]
  | succ n ih =>
    intro x h
    have h0 : x % 16 ≤ 7 := by simpa using h 0
    have h1 : x / 16 % 16 ≤ 7 := h 1
    have h2 : x / 256 % 16 ≤ 7 := h 2
    rw [and_mask, pairs]
    show (x / 16 + x) % 16 + 256 * ((x / 16 + x) / 256 &&& mask 4 n) = (x % 16 + x / 16 % 16) + 256 * pairs 4 n (x / 256)
    have d1 : x / 256 = x / 16 / 16 := by rw [Nat.div_div_eq_div_mul]
    have e : (x / 16 + x) / 256 = x / 256 / 16 + x / 256 := by rw [d1] at h2 ⊢; omega
    rw [e, ih _ h.next]
    omega
theorem fsum_eight (x : Nat) : fsum 8 8 x = x % 256 + (x / 256 % 256 + (x / 65536 % 256 + (x / 16777216 % 256 + (x / 4294967296 % 256 + (x / 1099511627776 % 256 + (x / 281474976710656 % 256 + x / 72057594037927936 % 256)))))) := by
  simp [fsum, sumB]; omega
theorem fold_bytes {x a b c : Nat} (hx : x < 2 ^ 64) (h : fsum 8 8 x ≤ 64) (ha : a = x + x / 256) (hb : b = a + a / 65536) (hc : c = b + b / 4294967296) :
    c % 128 = fsum 8 8 x ∧ c < 2 ^ 63 ∧ b < 2 ^ 63 ∧ a < 2 ^ 63 := by
  rw [fsum_eight] at h ⊢
  have d2 : x / 65536 = x / 256 / 256 := by rw [Nat.div_div_eq_div_mul]
  have d3 : x / 16777216 = x / 256 / 256 / 256 := by simp only [Nat.div_div_eq_div_mul]
  have d4 : x / 4294967296 = x / 256 / 256 / 256 / 256 := by simp only [Nat.div_div_eq_div_mul]
  have d5 : x / 1099511627776 = x / 256 / 256 / 256 / 256 / 256 := by simp only [Nat.div_div_eq_div_mul]
  have d6 : x / 281474976710656 = x / 256 / 256 / 256 / 256 / 256 / 256 := by simp only [Nat.div_div_eq_div_mul]
  have d7 : x / 72057594037927936 = x / 256 / 256 / 256 / 256 / 256 / 256 / 256 := by simp only [Nat.div_div_eq_div_mul]
  have hx7 : x / 256 / 256 / 256 / 256 / 256 / 256 / 256 < 256 := by rw [← d7]; omega
  have E : x / 256 = x / 256 := rfl
  rw [d2, d3, d4, d5, d6, d7] at h ⊢
  clear d2 d3 d4 d5 d6 d7 E
  generalize e0 : x % 256 = b0 at h ⊢
  have f1 := Nat.mod_add_div x 256
  generalize x / 256 = y1 at *
  generalize e1 : y1 % 256 = b1 at h ⊢
  have f2 := Nat.mod_add_div y1 256
  generalize y1 / 256 = y2 at *
  generalize e2 : y2 % 256 = b2 at h ⊢
  have f3 := Nat.mod_add_div y2 256
  generalize y2 / 256 = y3 at *
  generalize e3 : y3 % 256 = b3 at h ⊢
  have f4 := Nat.mod_add_div y3 256
  generalize y3 / 256 = y4 at *
  generalize e4 : y4 % 256 = b4 at h ⊢
  have f5 := Nat.mod_add_div y4 256
  generalize y4 / 256 = y5 at *
  generalize e5 : y5 % 256 = b5 at h ⊢
  have f6 := Nat.mod_add_div y5 256
  generalize y5 / 256 = y6 at *
  generalize e6 : y6 % 256 = b6 at h ⊢
  have f7 := Nat.mod_add_div y6 256
  generalize y6 / 256 = y7 at *
  have e7 : y7 % 256 = y7 := Nat.mod_eq_of_lt hx7
  rw [e7] at h ⊢
  clear e7
  rw [e0] at f1; rw [e1] at f2; rw [e2] at f3; rw [e3] at f4; rw [e4] at f5; rw [e5] at f6; rw [e6] at f7
  clear e0 e1 e2 e3 e4 e5 e6
  subst f7 f6 f5 f4 f3 f2 f1
  rw [ha] at hb
  have e9 : (b0 + 256 * (b1 + 256 * (b2 + 256 * (b3 + 256 * (b4 + 256 * (b5 + 256 * (b6 + 256 * y7)))))) + (b1 + 256 * (b2 + 256 * (b3 + 256 * (b4 + 256 * (b5 + 256 * (b6 + 256 * y7))))))) / 65536 = (b2 + b3) + 256 * (b3 + b4) + 65536 * (b4 + b5) + 16777216 * (b5 + b6) + 4294967296 * (b6 + y7) + 1099511627776 * y7 := by omega
  rw [e9] at hb
  clear e9
  have e10 : b / 4294967296 = (b4 + b5 + b6 + y7) + 256 * (b5 + b6 + y7) + 65536 * (b6 + y7) + 16777216 * y7 := by omega
  rw [e10] at hc
  clear e10
  refine ⟨by omega, by omega, by omega, by omega⟩
theorem swar {X a b c d e f : Nat} (ha : a = (X / 2 &&& 6148914691236517205) + (X &&& 6148914691236517205)) (hb : b = (a / 4 &&& 3689348814741910323) + (a &&& 3689348814741910323))
    (hc : c = (b / 16 + b) &&& 1085102592571150095) (hd : d = c + c / 256) (he : e = d + d / 65536) (hf : f = e + e / 4294967296) :
    a < 2 ^ 64 ∧ b < 2 ^ 63 ∧ b / 16 + b < 2 ^ 64 ∧ c < 2 ^ 64 ∧ d < 2 ^ 63 ∧ e < 2 ^ 63 ∧ f < 2 ^ 63 ∧ f % 128 = pop 64 X := by
  have m1 : mask 1 32 = 6148914691236517205 := by decide
  have m2 : mask 2 16 = 3689348814741910323 := by decide
  have m4 : mask 4 8 = 1085102592571150095 := by decide
  have h1 : a = pairs 1 32 X := by rw [ha, ← m1]; exact halves_pairs 1 32 X
  have h2 : b = pairs 2 16 a := by rw [hb, ← m2]; exact halves_pairs 2 16 a
  have hs : Small b := fun i => by rw [h2]; exact Nat.le_succ_of_le (pairs_fields 16 a i)
  have h3 : c = pairs 4 8 b := by rw [hc, ← m4]; exact sum_pairs 8 b hs
  have l1 : a < 2 ^ 64 := by rw [h1]; exact pairs_lt (by omega) 32 X
  have l2 : b < 2 ^ 64 := by rw [h2]; exact pairs_lt (by omega) 16 a
  have l3 : c < 2 ^ 64 := by rw [h3]; exact pairs_lt (by omega) 8 b
  have l4 : b < 2 ^ 63 := by
    have := hs 15
    have e : b / 2 ^ (4 * 15) % 16 = b / 1152921504606846976 % 16 := rfl
    omega
  have p1 : fsum 2 32 a = pop 64 X := by rw [h1]; exact (fsum_pairs (k := 1) (by omega) 32 X).trans (fsum_one X 64)
  have p2 : fsum 4 16 b = pop 64 X := by rw [h2]; exact (fsum_pairs (k := 2) (by omega) 16 a).trans p1
  have p3 : fsum 8 8 c = pop 64 X := by rw [h3]; exact (fsum_pairs (k := 4) (by omega) 8 b).trans p2
  have p4 := pop_le 64 X
  obtain ⟨q1, q2, q3, q4⟩ := fold_bytes l3 (by omega) hd he hf
  exact ⟨l1, l4, by omega, l3, q4, q3, q2, q1.trans p3⟩
end Go.Proofs.YtkfdcdfaikkneaaGreatDoor
/- Contracts: math/bits.OnesCount64 is the sum of the bits; Count at four widths. -/
namespace Go.Proofs.YtkfdcdfaikkneaaGreatDoor
open Go.ChangeShapes Go.WideShapes Go.ChangeAt Go.RowKit
set_option linter.unusedVariables false

theorem cast_and64 (a m : Nat) (ha : a < 2 ^ 64) (hm : m < 2 ^ 64) : bits .and .u64 (a : Int) (m : Int) = ((a &&& m : Nat) : Int) := u64_and_nat a m ha hm
theorem wrap_u64_nat (a : Nat) (ha : a < 2 ^ 64) : IntKind.u64.wrap (a : Int) = (a : Int) := by rw [IntKind.wrap_u64]; omega
theorem and_m1 (a : Nat) (ha : a < 2 ^ 64) : bits .and .u64 (a : Int) 6148914691236517205 = ((a &&& 6148914691236517205 : Nat) : Int) := cast_and64 a 6148914691236517205 ha (by decide)
theorem and_m2 (a : Nat) (ha : a < 2 ^ 64) : bits .and .u64 (a : Int) 3689348814741910323 = ((a &&& 3689348814741910323 : Nat) : Int) := cast_and64 a 3689348814741910323 ha (by decide)
theorem and_m4 (a : Nat) (ha : a < 2 ^ 64) : bits .and .u64 (a : Int) 1085102592571150095 = ((a &&& 1085102592571150095 : Nat) : Int) := cast_and64 a 1085102592571150095 ha (by decide)
theorem step1 (X a : Nat) (y : Int) (hX : X < 2 ^ 64) (ea : a = (X / 2 &&& 6148914691236517205) + (X &&& 6148914691236517205)) (l1 : a < 2 ^ 64)
    (h1 : IntKind.u64.wrap (bits .and .u64 ((X : Int) / 2) 6148914691236517205 + bits .and .u64 (X : Int) 6148914691236517205) = y) : y = (a : Int) := by
  rw [← h1, show ((X : Int) / 2) = ((X / 2 : Nat) : Int) by simp, and_m1 _ (Nat.lt_of_le_of_lt (Nat.div_le_self X 2) hX), and_m1 _ hX, ← Int.natCast_add, ← ea]
  exact wrap_u64_nat a l1
theorem step2 (X a : Nat) (y : Int) (hX : X < 2 ^ 64) (ea : a = (X / 4 &&& 3689348814741910323) + (X &&& 3689348814741910323)) (l1 : a < 2 ^ 64)
    (h1 : IntKind.u64.wrap (bits .and .u64 ((X : Int) / 4) 3689348814741910323 + bits .and .u64 (X : Int) 3689348814741910323) = y) : y = (a : Int) := by
  rw [← h1, show ((X : Int) / 4) = ((X / 4 : Nat) : Int) by simp, and_m2 _ (Nat.lt_of_le_of_lt (Nat.div_le_self X 4) hX), and_m2 _ hX, ← Int.natCast_add, ← ea]
  exact wrap_u64_nat a l1
theorem step3 (X a : Nat) (y : Int) (hX : X / 16 + X < 2 ^ 64) (ea : a = (X / 16 + X) &&& 1085102592571150095)
    (h1 : bits .and .u64 (IntKind.u64.wrap ((X : Int) / 16 + X)) 1085102592571150095 = y) : y = (a : Int) := by
  rw [← h1, show ((X : Int) / 16 + X) = ((X / 16 + X : Nat) : Int) by simp, wrap_u64_nat _ hX, and_m4 _ hX, ← ea]
theorem step4 (X a k : Nat) (y : Int) (ea : a = X + X / k) (l : a < 2 ^ 64) (h1 : IntKind.u64.wrap ((X : Int) + (X : Int) / (k : Int)) = y) : y = (a : Int) := by
  rw [← h1, show ((X : Int) + (X : Int) / (k : Int)) = ((X + X / k : Nat) : Int) by simp, ← ea]
  exact wrap_u64_nat a l
theorem swarI {x y1 y2 y3 y4 y5 y6 : Int} (x0 : 0 ≤ x) (x1 : x < 2 ^ 64)
    (h1 : IntKind.u64.wrap (bits .and .u64 (x / 2) 6148914691236517205 + bits .and .u64 x 6148914691236517205) = y1)
    (h2 : IntKind.u64.wrap (bits .and .u64 (y1 / 4) 3689348814741910323 + bits .and .u64 y1 3689348814741910323) = y2)
    (h3 : bits .and .u64 (IntKind.u64.wrap (y2 / 16 + y2)) 1085102592571150095 = y3)
    (h4 : IntKind.u64.wrap (y3 + y3 / 256) = y4) (h5 : IntKind.u64.wrap (y4 + y4 / 65536) = y5) (h6 : IntKind.u64.wrap (y5 + y5 / 4294967296) = y6) :
    bits .and .i64 (wrap64 y6) 127 = ((pop 64 x.toNat : Nat) : Int) := by
  obtain ⟨X, rfl⟩ := Int.eq_ofNat_of_zero_le x0
  have hX : X < 2 ^ 64 := toNat_lt_pow x0 x1
  obtain ⟨a, ea⟩ : ∃ a, a = (X / 2 &&& 6148914691236517205) + (X &&& 6148914691236517205) := ⟨_, rfl⟩
  obtain ⟨b, eb⟩ : ∃ b, b = (a / 4 &&& 3689348814741910323) + (a &&& 3689348814741910323) := ⟨_, rfl⟩
  obtain ⟨c, ec⟩ : ∃ c, c = (b / 16 + b) &&& 1085102592571150095 := ⟨_, rfl⟩
  obtain ⟨d, ed⟩ : ∃ d, d = c + c / 256 := ⟨_, rfl⟩
  obtain ⟨e, ee⟩ : ∃ e, e = d + d / 65536 := ⟨_, rfl⟩
  obtain ⟨f, ef⟩ : ∃ f, f = e + e / 4294967296 := ⟨_, rfl⟩
  obtain ⟨l1, l2, l3, l4, l5, l6, l7, l8⟩ := swar ea eb ec ed ee ef
  have up : ∀ n : Nat, n < 2 ^ 63 → n < 2 ^ 64 := fun n h => Nat.lt_of_lt_of_le h (by decide)
  obtain rfl := step1 X a y1 hX ea l1 h1
  obtain rfl := step2 a b y2 l1 eb (up _ l2) h2
  obtain rfl := step3 b c y3 l3 ec h3
  obtain rfl := step4 c d 256 y4 ed (up _ l5) h4
  obtain rfl := step4 d e 65536 y5 ee (up _ l6) h5
  obtain rfl := step4 e f 4294967296 y6 ef (up _ l7) h6
  have hw : wrap64 (f : Int) = (f : Int) := by
    clear ea eb ec ed ee ef h1 h2 h3 h4 h5 h6 l8 x1
    unfold wrap64; omega
  rw [i64_and127, hw, Int.toNat_natCast, ← l8]
  simp

end Go.Proofs.YtkfdcdfaikkneaaGreatDoor
/- Contracts of word.Xor and word.Zero. -/
namespace Go.Proofs.YtkfdcdfaikkneaaGreatDoor
open Go.ChangeShapes Go.WideShapes Go.ChangeAt Go.RowKit
set_option linter.unusedVariables false

/-- Byte by byte, as long as the shorter one. -/
def xorL (a b : List Int) : List Int := List.zipWith (fun x y => ((x.toNat ^^^ y.toNat : Nat) : Int)) a b
theorem length_xorL (a b : List Int) : (xorL a b).length = min a.length b.length := by simp [xorL]
theorem xorL_getD {a b : List Int} {k : Nat} (h : k < min a.length b.length) : (xorL a b).getD k 0 = (((a.getD k 0).toNat ^^^ (b.getD k 0).toNat : Nat) : Int) := by
  have h1 : k < a.length := by omega
  have h2 : k < b.length := by omega
  simp [xorL, List.getD_eq_getElem?_getD, List.getElem?_zipWith, List.getElem?_eq_getElem h1, List.getElem?_eq_getElem h2]
end Go.Proofs.YtkfdcdfaikkneaaGreatDoor
/- The contract of word.Zero. -/
namespace Go.Proofs.YtkfdcdfaikkneaaGreatDoor
open Go.ChangeShapes Go.WideShapes Go.ChangeAt Go.RowKit
set_option linter.unusedVariables false

def zeroL (l : List Int) : Bool := l.all (· == 0)
theorem zeroL_false {l : List Int} {k : Nat} (hk : k < l.length) (h : l.getD k 0 ≠ 0) : zeroL l = false := by
  unfold zeroL
  rw [List.all_eq_false]
  refine ⟨l[k], List.getElem_mem hk, ?_⟩
  have : l.getD k 0 = l[k] := by simp [List.getD_eq_getElem?_getD, List.getElem?_eq_getElem hk]
  rw [this] at h
  simpa using h
theorem zeroL_true {l : List Int} (h : ∀ i, i < l.length → l.getD i 0 = 0) : zeroL l = true := by
  unfold zeroL
  rw [List.all_eq_true]
  intro x hx
  obtain ⟨i, hi, rfl⟩ := List.getElem_of_mem hx
  have := h i hi
  have e : l.getD i 0 = l[i] := by simp [List.getD_eq_getElem?_getD, List.getElem?_eq_getElem hi]
  rw [e] at this
  simpa using this
theorem ret_bool {a b : Bool} (h : a = b) : Ending.returned (.bool a) = .returned (.bool b) := by rw [h]

theorem zero_any (a : Option Addr) (n c : Nat) (l : List Int) (w : World) (hl : l.length = n) (hb : Bs w w.heap.size a l) (hn : n ≤ 9223372036854775807) :
    Calls Tryz.prog 55 #[.slice a n c] w fun e w' => e = .returned (.bool (zeroL l)) ∧ w = w' := by
  go_enter Tryz.func55, Tryz.ntmps55
  go_wp2
  go_loop [7] (fun i => ∃ k : Nat, k ≤ n ∧ i = .int .i64 k ∧ Hid (∀ i, i < k → l.getD i 0 = 0)) (fun i => n - (intOf i).toNat)
  case atStart => exact ⟨0, Nat.zero_le _, rfl, fun i hi => absurd hi (by omega)⟩
  case round =>
    obtain ⟨k, hk, rfl, hz⟩ := hrel
    by_cases hlt : k < n
    · obtain ⟨b, off, rfl, hB, hc⟩ := hb.at_ (k := k) (by omega)
      obtain ⟨X, hX⟩ : ∃ X, X = l.getD k 0 := ⟨_, rfl⟩
      rw [← hX] at hc
      have HX := Lib.hid hX
      clear hX
      by_cases h0 : X = 0
      · subst h0
        go_wp2
        go_round
        case rel =>
          refine ⟨k + 1, by omega, by go_num, fun i hi => ?_⟩
          by_cases e : i = k
          · subst e; exact HX.out.symm
          · exact hz.out i (by omega)
        case measure => simp [intOf]; omega
      · have HF := Lib.hid (zeroL_false (l := l) (k := k) (by omega) (by rw [← HX.out]; exact h0))
        have h1 : (X != 0) = true := by simpa using h0
        go_wp2
        go_ret
        exact ⟨ret_bool HF.out.symm, rfl⟩
    · obtain rfl : k = n := by omega
      have HT := Lib.hid (zeroL_true (l := l) (fun i hi => hz.out i (by omega)))
      go_wp2
      go_ret
      exact ⟨ret_bool HT.out.symm, rfl⟩
end Go.Proofs.YtkfdcdfaikkneaaGreatDoor
