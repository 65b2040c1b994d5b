/- Plain facts on numbers: bits, sums of bits, turned words, the count of ones by halves. No program is named here. -/
import Derived.Test.YtdapcnffiapgpaaMath
namespace Go.Proofs.Ytdapcnffiapgpaa

def sumB (f : Nat → Nat) : Nat → Nat
  | 0 => 0
  | n + 1 => sumB f n + f n
theorem sumB_congr {f g : Nat → Nat} {n : Nat} (h : ∀ i, i < n → f i = g i) : sumB f n = sumB g n := by
  induction n with
  | zero => rfl
  | succ n ih => simp only [sumB]; rw [ih (fun i hi => h i (by omega)), h n (by omega)]
theorem sumB_add (f : Nat → Nat) (m n : Nat) : sumB f (m + n) = sumB f m + sumB (fun i => f (m + i)) n := by
  induction n with
  | zero => rfl
  | succ n ih => rw [← Nat.add_assoc]; simp only [sumB]; rw [ih]; omega
theorem sumB_zero {f : Nat → Nat} {n : Nat} (h : ∀ i, i < n → f i = 0) : sumB f n = 0 := by
  induction n with
  | zero => rfl
  | succ n ih => simp only [sumB]; rw [ih (fun i hi => h i (by omega)), h n (by omega)]
theorem sumB_le {f : Nat → Nat} {n : Nat} (h : ∀ i, i < n → f i ≤ 1) : sumB f n ≤ n := by
  induction n with
  | zero => simp [sumB]
  | succ n ih => simp only [sumB]; have := ih (fun i hi => h i (by omega)); have := h n (by omega); omega
/-- Turned about, a sum is the same. -/
theorem sumB_turn (f : Nat → Nat) {k u : Nat} (hu : u < k) : sumB (fun i => f ((i + k - u) % k)) k = sumB f k := by
  have h1 : sumB (fun i => f ((i + k - u) % k)) (u + (k - u)) = sumB (fun i => f (k - u + i)) u + sumB f (k - u) := by
    rw [sumB_add]
    congr 1
    · apply sumB_congr; intro i hi
      rw [mod_sub_lt (by omega) hu, if_neg (by omega)]; congr 1; omega
    · apply sumB_congr; intro i hi
      rw [mod_sub_lt (by omega) hu, if_pos (by omega)]; congr 1; omega
  have h2 : sumB f ((k - u) + u) = sumB f (k - u) + sumB (fun i => f (k - u + i)) u := sumB_add f (k - u) u
  rw [show u + (k - u) = k by omega] at h1
  rw [show (k - u) + u = k by omega] at h2
  omega

def bitAt (x i : Nat) : Nat := x / 2 ^ i % 2
theorem bitAt_le (x i : Nat) : bitAt x i ≤ 1 := by unfold bitAt; omega
theorem bitAt_testBit (x i : Nat) : bitAt x i = (x.testBit i).toNat := by
  unfold bitAt
  rw [Nat.testBit_eq_decide_div_mod_eq]
  by_cases h : x / 2 ^ i % 2 = 1
  · simp [h]
  · simp [h]; omega
theorem bitAt_big {x k i : Nat} (hx : x < 2 ^ k) (hi : k ≤ i) : bitAt x i = 0 := by
  rw [bitAt_testBit, Nat.testBit_lt_two_pow (Nat.lt_of_lt_of_le hx (Nat.pow_le_pow_right (by omega) hi))]; rfl
def pop (k x : Nat) : Nat := sumB (bitAt x) k
theorem pop_le (k x : Nat) : pop k x ≤ k := sumB_le fun i _ => bitAt_le x i
theorem pop_more {x k m : Nat} (hx : x < 2 ^ k) (hm : k ≤ m) : pop m x = pop k x := by
  obtain ⟨d, rfl⟩ := Nat.le.dest hm
  unfold pop
  rw [sumB_add, sumB_zero (f := fun i => bitAt x (k + i)) fun i _ => bitAt_big hx (by omega), Nat.add_zero]
theorem rot_bitAt {k x s i : Nat} (hx : x < 2 ^ k) (hk : 0 < k) (hi : i < k) : bitAt (rot k x s) i = bitAt x ((i + k - s % k) % k) := by
  rw [bitAt_testBit, bitAt_testBit, rot_testBit hx hk]; simp [hi]
theorem pop_rot {k x s : Nat} (hx : x < 2 ^ k) (hk : 0 < k) : pop k (rot k x s) = pop k x := by
  unfold pop
  rw [← sumB_turn (bitAt x) (Nat.mod_lt s hk)]
  exact sumB_congr fun i hi => rot_bitAt hx hk hi
/-- The low m bits of the turned word are a sum. -/
theorem mod_pow_succ' (y m : Nat) : y % 2 ^ (m + 1) = y % 2 ^ m + bitAt y m * 2 ^ m := by
  unfold bitAt
  rw [Nat.pow_succ, Nat.mod_mul, Nat.mul_comm (2 ^ m)]
/-- The fields of n times k bits, summed. -/
def fsum (k n x : Nat) : Nat := sumB (fun i => x / 2 ^ (k * i) % 2 ^ k) n
theorem fsum_one (x n : Nat) : fsum 1 n x = pop n x := by
  unfold fsum pop; apply sumB_congr; intro i _; unfold bitAt; rw [Nat.one_mul]
theorem sumB_first (f : Nat → Nat) (n : Nat) : sumB f (n + 1) = f 0 + sumB (fun i => f (i + 1)) n := by
  have := sumB_add f 1 n
  rw [Nat.add_comm 1 n] at this
  rw [this]; simp only [sumB, Nat.zero_add]
  congr 1
  exact sumB_congr fun i _ => by rw [Nat.add_comm]
theorem fsum_succ (k n x : Nat) : fsum k (n + 1) x = x % 2 ^ k + fsum k n (x / 2 ^ k) := by
  unfold fsum
  rw [sumB_first]
  simp only [Nat.mul_zero, Nat.pow_zero, Nat.div_one]
  congr 1
  apply sumB_congr; intro i _
  rw [Nat.div_div_eq_div_mul, ← Nat.pow_add, show k + k * i = k * (i + 1) by rw [Nat.mul_succ]; omega]
/-- Two neighbouring fields of k bits, put together into one of twice as many. -/
def pairs (k : Nat) : Nat → Nat → Nat
  | 0, _ => 0
  | n + 1, x => (x % 2 ^ k + x / 2 ^ k % 2 ^ k) + 2 ^ (2 * k) * pairs k n (x / 2 ^ (2 * k))
theorem two_fields_lt {k : Nat} (hk : 0 < k) (x : Nat) : x % 2 ^ k + x / 2 ^ k % 2 ^ k < 2 ^ (2 * k) := by
  have h1 : x % 2 ^ k < 2 ^ k := Nat.mod_lt _ (Nat.two_pow_pos k)
  have h2 : x / 2 ^ k % 2 ^ k < 2 ^ k := Nat.mod_lt _ (Nat.two_pow_pos k)
  have h3 : 2 ≤ 2 ^ k := by
    calc 2 = 2 ^ 1 := rfl
      _ ≤ 2 ^ k := Nat.pow_le_pow_right (by omega) hk
  have h4 : 2 ^ (2 * k) = 2 ^ k * 2 ^ k := by rw [← Nat.pow_add]; congr 1; omega
  have h5 : 2 * 2 ^ k ≤ 2 ^ k * 2 ^ k := Nat.mul_le_mul_right _ h3
  omega
theorem fsum_pairs {k : Nat} (hk : 0 < k) : ∀ n x, fsum (2 * k) n (pairs k n x) = fsum k (2 * n) x := by
  intro n
  induction n with
  | zero => intro x; rfl
  | succ n ih =>
    intro x
    have hlt := two_fields_lt hk x
    rw [fsum_succ, pairs, Nat.add_mul_mod_self_left, Nat.mod_eq_of_lt hlt, Nat.add_mul_div_left _ _ (Nat.two_pow_pos _), Nat.div_eq_of_lt hlt, Nat.zero_add, ih]
    rw [show 2 * (n + 1) = 2 * n + 1 + 1 by omega, fsum_succ, fsum_succ, Nat.div_div_eq_div_mul, ← Nat.pow_add, show k + k = 2 * k by omega]
    omega
theorem pairs_lt {k : Nat} (hk : 0 < k) : ∀ n x, pairs k n x < 2 ^ (2 * k * n) := by
  intro n
  induction n with
  | zero => intro x; simp [pairs]
  | succ n ih =>
    intro x
    have h1 := two_fields_lt hk x
    have h2 := ih (x / 2 ^ (2 * k))
    rw [pairs, Nat.mul_succ, Nat.pow_add, Nat.mul_comm (2 ^ (2 * k * n))]
    have h3 : 2 ^ (2 * k) * (pairs k n (x / 2 ^ (2 * k)) + 1) ≤ 2 ^ (2 * k) * 2 ^ (2 * k * n) := Nat.mul_le_mul_left _ h2
    rw [Nat.mul_add, Nat.mul_one] at h3
    omega
end Go.Proofs.Ytdapcnffiapgpaa
