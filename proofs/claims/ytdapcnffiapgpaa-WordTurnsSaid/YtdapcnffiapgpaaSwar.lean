/- The count of ones by halves is the sum of the bits. No program is named here. -/
import Derived.Test.YtdapcnffiapgpaaPop
import Derived.Laws.BitsAllLaws
namespace Go.Proofs.Ytdapcnffiapgpaa

def mask (k : Nat) : Nat → Nat
  | 0 => 0
  | n + 1 => (2 ^ k - 1) + 2 ^ (2 * k) * mask k n
theorem and_mask (k n x : Nat) : x &&& mask k (n + 1) = x % 2 ^ k + 2 ^ (2 * k) * (x / 2 ^ (2 * k) &&& mask k n) := by
  have hp := Nat.two_pow_pos k
  have hlt : 2 ^ k - 1 < 2 ^ (2 * k) := Nat.lt_of_lt_of_le (by omega) (Nat.pow_le_pow_right (by omega) (show k ≤ 2 * k by omega))
  have e1 : mask k (n + 1) / 2 ^ (2 * k) = mask k n := by
    rw [mask, Nat.add_mul_div_left _ _ (Nat.two_pow_pos _), Nat.div_eq_of_lt hlt, Nat.zero_add]
  have e2 : mask k (n + 1) % 2 ^ (2 * k) = 2 ^ k - 1 := by
    rw [mask, Nat.add_mul_mod_self_left, Nat.mod_eq_of_lt hlt]
  have h1 : (x &&& mask k (n + 1)) / 2 ^ (2 * k) = x / 2 ^ (2 * k) &&& mask k n := by rw [Nat.and_div_two_pow, e1]
  have h2 : (x &&& mask k (n + 1)) % 2 ^ (2 * k) = x % 2 ^ k := by
    rw [Nat.and_mod_two_pow, e2, Nat.and_two_pow_sub_one_eq_mod, Nat.mod_mod_of_dvd _ (Nat.pow_dvd_pow 2 (show k ≤ 2 * k by omega))]
  have := Nat.mod_add_div (x &&& mask k (n + 1)) (2 ^ (2 * k))
  rw [h1, h2] at this
  exact this.symm
theorem halves_pairs (k : Nat) : ∀ n x, (x / 2 ^ k &&& mask k n) + (x &&& mask k n) = pairs k n x := by
  intro n
  induction n with
  | zero => intro x; simp [mask, pairs]
  | succ n ih =>
    intro x
    rw [and_mask, and_mask, pairs, ← ih (x / 2 ^ (2 * k)), Nat.mul_add]
    have e : x / 2 ^ k / 2 ^ (2 * k) = x / 2 ^ (2 * k) / 2 ^ k := by
      rw [Nat.div_div_eq_div_mul, Nat.div_div_eq_div_mul, Nat.mul_comm]
    rw [e]; omega
/-- All fields of four bits are small. -/
def Small (x : Nat) : Prop := ∀ i, x / 2 ^ (4 * i) % 16 ≤ 7
theorem Small.next {x : Nat} (h : Small x) : Small (x / 256) := fun i => by
  have := h (i + 2)
  rw [show 4 * (i + 2) = 8 + 4 * i by omega, Nat.pow_add, ← Nat.div_div_eq_div_mul] at this
  exact this
theorem pairs_fields : ∀ n x i, pairs 2 n x / 2 ^ (4 * i) % 16 ≤ 6 := by
  intro n
  induction n with
  | zero => intro x i; simp [pairs]
  | succ n ih =>
    intro x i
    have hlt : x % 4 + x / 4 % 4 < 16 := by omega
    match i with
    | 0 =>
      rw [pairs]
      show ((x % 4 + x / 4 % 4) + 16 * _) / 2 ^ 0 % 16 ≤ 6
      omega
    | i + 1 =>
      have e : pairs 2 (n + 1) x / 2 ^ (4 * (i + 1)) = pairs 2 n (x / 16) / 2 ^ (4 * i) := by
        rw [show 4 * (i + 1) = 4 + 4 * i by omega, Nat.pow_add, ← Nat.div_div_eq_div_mul, pairs]
        show ((x % 4 + x / 4 % 4) + 16 * pairs 2 n (x / 16)) / 16 / _ = _
        congr 1; omega
      rw [e]; exact ih _ i
theorem sum_pairs : ∀ n x, Small x → (x / 16 + x) &&& mask 4 n = pairs 4 n x := by
  intro n
  induction n with
  | zero => intro x _; simp [mask, pairs]
  | succ n ih =>
    intro x h
    have h0 : x % 16 ≤ 7 := by simpa using h 0
    have h1 : x / 16 % 16 ≤ 7 := h 1
    have h2 : x / 256 % 16 ≤ 7 := h 2
    rw [and_mask, pairs]
    show (x / 16 + x) % 16 + 256 * ((x / 16 + x) / 256 &&& mask 4 n) = (x % 16 + x / 16 % 16) + 256 * pairs 4 n (x / 256)
    have d1 : x / 256 = x / 16 / 16 := by rw [Nat.div_div_eq_div_mul]
    have e : (x / 16 + x) / 256 = x / 256 / 16 + x / 256 := by rw [d1] at h2 ⊢; omega
    rw [e, ih _ h.next]
    omega
theorem fsum_eight (x : Nat) : fsum 8 8 x = x % 256 + (x / 256 % 256 + (x / 65536 % 256 + (x / 16777216 % 256 + (x / 4294967296 % 256 + (x / 1099511627776 % 256 + (x / 281474976710656 % 256 + x / 72057594037927936 % 256)))))) := by
  simp [fsum, sumB]; omega
theorem fold_bytes {x a b c : Nat} (hx : x < 2 ^ 64) (h : fsum 8 8 x ≤ 64) (ha : a = x + x / 256) (hb : b = a + a / 65536) (hc : c = b + b / 4294967296) :
    c % 128 = fsum 8 8 x ∧ c < 2 ^ 63 ∧ b < 2 ^ 63 ∧ a < 2 ^ 63 := by
  rw [fsum_eight] at h ⊢
  have d2 : x / 65536 = x / 256 / 256 := by rw [Nat.div_div_eq_div_mul]
  have d3 : x / 16777216 = x / 256 / 256 / 256 := by simp only [Nat.div_div_eq_div_mul]
  have d4 : x / 4294967296 = x / 256 / 256 / 256 / 256 := by simp only [Nat.div_div_eq_div_mul]
  have d5 : x / 1099511627776 = x / 256 / 256 / 256 / 256 / 256 := by simp only [Nat.div_div_eq_div_mul]
  have d6 : x / 281474976710656 = x / 256 / 256 / 256 / 256 / 256 / 256 := by simp only [Nat.div_div_eq_div_mul]
  have d7 : x / 72057594037927936 = x / 256 / 256 / 256 / 256 / 256 / 256 / 256 := by simp only [Nat.div_div_eq_div_mul]
  have hx7 : x / 256 / 256 / 256 / 256 / 256 / 256 / 256 < 256 := by rw [← d7]; omega
  have E : x / 256 = x / 256 := rfl
  rw [d2, d3, d4, d5, d6, d7] at h ⊢
  clear d2 d3 d4 d5 d6 d7 E
  generalize e0 : x % 256 = b0 at h ⊢
  have f1 := Nat.mod_add_div x 256
  generalize x / 256 = y1 at *
  generalize e1 : y1 % 256 = b1 at h ⊢
  have f2 := Nat.mod_add_div y1 256
  generalize y1 / 256 = y2 at *
  generalize e2 : y2 % 256 = b2 at h ⊢
  have f3 := Nat.mod_add_div y2 256
  generalize y2 / 256 = y3 at *
  generalize e3 : y3 % 256 = b3 at h ⊢
  have f4 := Nat.mod_add_div y3 256
  generalize y3 / 256 = y4 at *
  generalize e4 : y4 % 256 = b4 at h ⊢
  have f5 := Nat.mod_add_div y4 256
  generalize y4 / 256 = y5 at *
  generalize e5 : y5 % 256 = b5 at h ⊢
  have f6 := Nat.mod_add_div y5 256
  generalize y5 / 256 = y6 at *
  generalize e6 : y6 % 256 = b6 at h ⊢
  have f7 := Nat.mod_add_div y6 256
  generalize y6 / 256 = y7 at *
  have e7 : y7 % 256 = y7 := Nat.mod_eq_of_lt hx7
  rw [e7] at h ⊢
  clear e7
  rw [e0] at f1; rw [e1] at f2; rw [e2] at f3; rw [e3] at f4; rw [e4] at f5; rw [e5] at f6; rw [e6] at f7
  clear e0 e1 e2 e3 e4 e5 e6
  subst f7 f6 f5 f4 f3 f2 f1
  rw [ha] at hb
  have e9 : (b0 + 256 * (b1 + 256 * (b2 + 256 * (b3 + 256 * (b4 + 256 * (b5 + 256 * (b6 + 256 * y7)))))) + (b1 + 256 * (b2 + 256 * (b3 + 256 * (b4 + 256 * (b5 + 256 * (b6 + 256 * y7))))))) / 65536 = (b2 + b3) + 256 * (b3 + b4) + 65536 * (b4 + b5) + 16777216 * (b5 + b6) + 4294967296 * (b6 + y7) + 1099511627776 * y7 := by omega
  rw [e9] at hb
  clear e9
  have e10 : b / 4294967296 = (b4 + b5 + b6 + y7) + 256 * (b5 + b6 + y7) + 65536 * (b6 + y7) + 16777216 * y7 := by omega
  rw [e10] at hc
  clear e10
  refine ⟨by omega, by omega, by omega, by omega⟩
theorem swar {X a b c d e f : Nat} (ha : a = (X / 2 &&& 6148914691236517205) + (X &&& 6148914691236517205)) (hb : b = (a / 4 &&& 3689348814741910323) + (a &&& 3689348814741910323))
    (hc : c = (b / 16 + b) &&& 1085102592571150095) (hd : d = c + c / 256) (he : e = d + d / 65536) (hf : f = e + e / 4294967296) :
    a < 2 ^ 64 ∧ b < 2 ^ 63 ∧ b / 16 + b < 2 ^ 64 ∧ c < 2 ^ 64 ∧ d < 2 ^ 63 ∧ e < 2 ^ 63 ∧ f < 2 ^ 63 ∧ f % 128 = pop 64 X := by
  have m1 : mask 1 32 = 6148914691236517205 := by decide
  have m2 : mask 2 16 = 3689348814741910323 := by decide
  have m4 : mask 4 8 = 1085102592571150095 := by decide
  have h1 : a = pairs 1 32 X := by rw [ha, ← m1]; exact halves_pairs 1 32 X
  have h2 : b = pairs 2 16 a := by rw [hb, ← m2]; exact halves_pairs 2 16 a
  have hs : Small b := fun i => by rw [h2]; exact Nat.le_succ_of_le (pairs_fields 16 a i)
  have h3 : c = pairs 4 8 b := by rw [hc, ← m4]; exact sum_pairs 8 b hs
  have l1 : a < 2 ^ 64 := by rw [h1]; exact pairs_lt (by omega) 32 X
  have l2 : b < 2 ^ 64 := by rw [h2]; exact pairs_lt (by omega) 16 a
  have l3 : c < 2 ^ 64 := by rw [h3]; exact pairs_lt (by omega) 8 b
  have l4 : b < 2 ^ 63 := by
    have := hs 15
    have e : b / 2 ^ (4 * 15) % 16 = b / 1152921504606846976 % 16 := rfl
    omega
  have p1 : fsum 2 32 a = pop 64 X := by rw [h1]; exact (fsum_pairs (k := 1) (by omega) 32 X).trans (fsum_one X 64)
  have p2 : fsum 4 16 b = pop 64 X := by rw [h2]; exact (fsum_pairs (k := 2) (by omega) 16 a).trans p1
  have p3 : fsum 8 8 c = pop 64 X := by rw [h3]; exact (fsum_pairs (k := 4) (by omega) 8 b).trans p2
  have p4 := pop_le 64 X
  obtain ⟨q1, q2, q3, q4⟩ := fold_bytes l3 (by omega) hd he hf
  exact ⟨l1, l4, by omega, l3, q4, q3, q2, q1.trans p3⟩
end Go.Proofs.Ytdapcnffiapgpaa
