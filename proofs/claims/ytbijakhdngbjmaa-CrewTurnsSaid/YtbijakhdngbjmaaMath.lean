/- Plain facts on numbers that the walks of package word's functions use: turned words, bits. No program is named here. -/

namespace Go.Proofs.Ytbijakhdngbjmaa

/-- x, a word of k bits, turned by s. -/
def rot (k x s : Nat) : Nat := (x * 2 ^ (s % k) % 2 ^ k) ||| (x / 2 ^ (k - s % k))

theorem rot_lt {k x s : Nat} (hx : x < 2 ^ k) : rot k x s < 2 ^ k := by
  unfold rot
  exact Nat.or_lt_two_pow (Nat.mod_lt _ (Nat.two_pow_pos k)) (Nat.lt_of_le_of_lt (Nat.div_le_self _ _) hx)

theorem mod_sub_lt {i k u : Nat} (hi : i < k) (hu : u < k) : (i + k - u) % k = if u ≤ i then i - u else i + k - u := by
  by_cases h : u ≤ i
  · rw [if_pos h, show i + k - u = (i - u) + k by omega, Nat.add_mod_right, Nat.mod_eq_of_lt (by omega)]
  · rw [if_neg h, Nat.mod_eq_of_lt (by omega)]

theorem rot_testBit {k x s : Nat} (hx : x < 2 ^ k) (hk : 0 < k) (i : Nat) :
    (rot k x s).testBit i = (decide (i < k) && x.testBit ((i + k - s % k) % k)) := by
  have hu : s % k < k := Nat.mod_lt _ hk
  unfold rot
  rw [Nat.testBit_or, Nat.testBit_mod_two_pow, Nat.mul_comm, Nat.testBit_two_pow_mul, ← Nat.shiftRight_eq_div_pow, Nat.testBit_shiftRight]
  by_cases hi : i < k
  · rw [mod_sub_lt hi hu]
    by_cases h : s % k ≤ i
    · have : x.testBit (k - s % k + i) = false := by
        apply Nat.testBit_lt_two_pow
        exact Nat.lt_of_lt_of_le hx (Nat.pow_le_pow_right (by omega) (by omega))
      simp [hi, h, this]
    · have e : k - s % k + i = i + k - s % k := by omega
      simp [hi, h, e]
  · have : x.testBit (k - s % k + i) = false := by
      apply Nat.testBit_lt_two_pow
      exact Nat.lt_of_lt_of_le hx (Nat.pow_le_pow_right (by omega) (by omega))
    simp [hi, this]

theorem rot_rot {k x s t : Nat} (hx : x < 2 ^ k) (hk : 0 < k) : rot k (rot k x s) t = rot k x (s + t) := by
  apply Nat.eq_of_testBit_eq
  intro i
  rw [rot_testBit (rot_lt hx) hk, rot_testBit hx hk, rot_testBit hx hk]
  by_cases hi : i < k
  · have h1 : (i + k - t % k) % k < k := Nat.mod_lt _ hk
    have e : ((i + k - t % k) % k + k - s % k) % k = (i + k - (s + t) % k) % k := by
      have hs : s % k < k := Nat.mod_lt _ hk
      have ht : t % k < k := Nat.mod_lt _ hk
      have hst : (s + t) % k = if s % k + t % k < k then s % k + t % k else s % k + t % k - k := by
        rw [Nat.add_mod]
        by_cases h : s % k + t % k < k
        · rw [if_pos h, Nat.mod_eq_of_lt h]
        · rw [if_neg h, Nat.mod_eq_sub_mod (by omega), Nat.mod_eq_of_lt (by omega)]
      have hst' : (s + t) % k < k := Nat.mod_lt _ hk
      rw [mod_sub_lt h1 hs, mod_sub_lt hi hst', mod_sub_lt hi ht, hst]
      by_cases a : t % k ≤ i <;> by_cases b : s % k + t % k < k <;> simp only [a, b, if_true, if_false] <;> split <;> split <;> omega
    rw [e]; simp [hi, h1]
  · simp [hi]

theorem rot_mod {k x s : Nat} : rot k x (s % k) = rot k x s := by unfold rot; rw [Nat.mod_mod]

/-- The same over Int, for any number of turns. -/
def rotI (k : Nat) (x n : Int) : Int := ((rot k x.toNat (n % (k : Int)).toNat : Nat) : Int)

theorem toNat_lt_pow {x : Int} {k : Nat} (h0 : 0 ≤ x) (hx : x < 2 ^ k) : x.toNat < 2 ^ k := by
  have : ((2 : Int) ^ k) = ((2 ^ k : Nat) : Int) := by simp
  rw [this] at hx; omega
theorem rotI_nonneg (k : Nat) (x n : Int) : 0 ≤ rotI k x n := Int.natCast_nonneg _
theorem rotI_lt {k : Nat} {x : Int} (n : Int) (h0 : 0 ≤ x) (hx : x < 2 ^ k) : rotI k x n < 2 ^ k := by
  have : rot k x.toNat (n % (k : Int)).toNat < 2 ^ k := rot_lt (toNat_lt_pow h0 hx)
  unfold rotI
  exact_mod_cast this
theorem rotI_rotI {k : Nat} {x n m : Int} (h0 : 0 ≤ x) (hx : x < 2 ^ k) (hk : 0 < k) : rotI k (rotI k x n) m = rotI k x (n + m) := by
  have hx' := toNat_lt_pow h0 hx
  unfold rotI
  rw [Int.toNat_natCast, rot_rot hx' hk]
  have e : ((n % (k : Int)).toNat + (m % (k : Int)).toNat) % k = ((n + m) % (k : Int)).toNat := by
    have hk' : (0 : Int) < (k : Int) := by omega
    have a := Int.emod_nonneg n (show (k : Int) ≠ 0 by omega)
    have b := Int.emod_nonneg m (show (k : Int) ≠ 0 by omega)
    have c := Int.emod_nonneg (n + m) (show (k : Int) ≠ 0 by omega)
    apply Int.ofNat.inj
    show ((((n % (k : Int)).toNat + (m % (k : Int)).toNat) % k : Nat) : Int) = (((n + m) % (k : Int)).toNat : Int)
    rw [Int.natCast_emod, Int.natCast_add, Int.toNat_of_nonneg a, Int.toNat_of_nonneg b, Int.toNat_of_nonneg c, ← Int.add_emod]
  rw [← rot_mod, e]
end Go.Proofs.Ytbijakhdngbjmaa
