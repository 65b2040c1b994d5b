/- Plain facts on bits packed in bytes. No program is named here. -/
import Derived.Test.YtbijakhdngbjmaaMath
import Derived.Laws.BitsAllLaws
namespace Go.Proofs.Ytbijakhdngbjmaa

/-- The number below 2^n whose bits f tells. -/
def ofB (f : Nat → Bool) : Nat → Nat
  | 0 => 0
  | n + 1 => ofB f n ||| (if f n then 2 ^ n else 0)
theorem testBit_ofB (f : Nat → Bool) : ∀ n i, (ofB f n).testBit i = (decide (i < n) && f i) := by
  intro n
  induction n with
  | zero => intro i; simp [ofB]
  | succ n ih =>
    intro i
    rw [ofB, Nat.testBit_or, ih]
    by_cases hf : f n
    · rw [if_pos hf, Nat.testBit_two_pow]
      by_cases h1 : n = i
      · subst h1; simp [hf]
      · by_cases h2 : i < n
        · have : i < n + 1 := by omega
          simp [h1, h2, this]
        · have : ¬ i < n + 1 := by omega
          simp [h1, h2, this]
    · rw [if_neg hf]
      by_cases h1 : n = i
      · subst h1; simp [hf]
      · by_cases h2 : i < n
        · have : i < n + 1 := by omega
          simp [h2, this]
        · have : ¬ i < n + 1 := by omega
          simp [h2, this]
theorem ofB_lt (f : Nat → Bool) (n : Nat) : ofB f n < 2 ^ n := by
  apply Nat.lt_pow_two_of_testBit
  intro i hi
  rw [testBit_ofB]; simp; omega

/-- The j-th byte of bits of which the first k are told. -/
def byteK (l : List Bool) (k j : Nat) : Nat := ofB (fun t => decide (8 * j + (7 - t) < k) && l.getD (8 * j + (7 - t)) false) 8
theorem byteK_lt (l : List Bool) (k j : Nat) : byteK l k j < 256 := ofB_lt _ 8
theorem byteK_bit (l : List Bool) (k j t : Nat) (ht : t < 8) : (byteK l k j).testBit t = (decide (8 * j + (7 - t) < k) && l.getD (8 * j + (7 - t)) false) := by
  unfold byteK; rw [testBit_ofB]; simp [ht]
theorem byteK_zero (l : List Bool) (j : Nat) : byteK l 0 j = 0 := by
  apply Nat.eq_of_testBit_eq
  intro i
  unfold byteK; rw [testBit_ofB]; simp
theorem byteK_no {l : List Bool} {k : Nat} (h : l.getD k false = false) (j : Nat) : byteK l (k + 1) j = byteK l k j := by
  apply Nat.eq_of_testBit_eq
  intro t
  unfold byteK; rw [testBit_ofB, testBit_ofB]
  by_cases e : 8 * j + (7 - t) = k
  · rw [e]; simp only [h]; simp
  · have : (8 * j + (7 - t) < k + 1) ↔ (8 * j + (7 - t) < k) := by omega
    simp [this]
theorem byteK_other {l : List Bool} {k j : Nat} (h : j ≠ k / 8) : byteK l (k + 1) j = byteK l k j := by
  apply Nat.eq_of_testBit_eq
  intro t
  unfold byteK; rw [testBit_ofB, testBit_ofB]
  by_cases ht : t < 8
  · have : (8 * j + (7 - t) < k + 1) ↔ (8 * j + (7 - t) < k) := by omega
    simp [this]
  · simp [ht]
theorem byteK_yes {l : List Bool} {k : Nat} (h : l.getD k false = true) : byteK l k (k / 8) ||| 2 ^ (7 - k % 8) = byteK l (k + 1) (k / 8) := by
  apply Nat.eq_of_testBit_eq
  intro t
  rw [Nat.testBit_or, Nat.testBit_two_pow]
  unfold byteK; rw [testBit_ofB, testBit_ofB]
  by_cases ht : t < 8
  · by_cases e : 7 - k % 8 = t
    · have e2 : 8 * (k / 8) + (7 - t) = k := by omega
      rw [e2]; simp only [h]; simp [ht, e]
    · have : (8 * (k / 8) + (7 - t) < k + 1) ↔ (8 * (k / 8) + (7 - t) < k) := by omega
      simp [this, e]
  · have : ¬ 7 - k % 8 = t := by omega
    simp [ht, this]
def rowK (l : List Bool) (k : Nat) : List Int := (List.range ((l.length + 7) / 8)).map fun j => (byteK l k j : Int)
theorem length_rowK (l : List Bool) (k : Nat) : (rowK l k).length = (l.length + 7) / 8 := by simp [rowK]
theorem rowK_getD {l : List Bool} {k j : Nat} (h : j < (l.length + 7) / 8) : (rowK l k).getD j 0 = (byteK l k j : Int) := by
  simp [rowK, List.getD_eq_getElem?_getD, List.getElem?_map, List.getElem?_range h]
theorem rowK_zero (l : List Bool) : rowK l 0 = List.replicate ((l.length + 7) / 8) 0 := by
  apply List.ext_getElem
  · simp [rowK]
  · intro i h1 h2; simp [rowK, byteK_zero]
theorem rowK_no {l : List Bool} {k : Nat} (h : l.getD k false = false) : rowK l (k + 1) = rowK l k := by
  unfold rowK; simp only [byteK_no h]
theorem rowK_yes {l : List Bool} {k : Nat} (h : l.getD k false = true) : (rowK l k).set (k / 8) ((byteK l k (k / 8) ||| 2 ^ (7 - k % 8) : Nat) : Int) = rowK l (k + 1) := by
  apply List.ext_getElem
  · simp [rowK]
  · intro i h1 h2
    rw [List.getElem_set]
    by_cases e : k / 8 = i
    · rw [if_pos e]; subst e
      simp [rowK, byteK_yes h]
    · rw [if_neg e]
      simp [rowK, byteK_other (l := l) (k := k) (j := i) (by omega)]
/-- Bits as bytes. -/
def packL (l : List Bool) : List Int := rowK l l.length
theorem length_packL (l : List Bool) : (packL l).length = (l.length + 7) / 8 := length_rowK l _
/-- The bit that stands at a place of bytes. -/
def bitOf (b : List Int) (i : Nat) : Bool := (b.getD (i / 8) 0).toNat.testBit (7 - i % 8)
theorem bitOf_packL {l : List Bool} {i : Nat} (h : i / 8 < (l.length + 7) / 8) : bitOf (packL l) i = l.getD i false := by
  unfold bitOf packL
  rw [rowK_getD h, Int.toNat_natCast, byteK_bit _ _ _ _ (by omega), show 8 * (i / 8) + (7 - (7 - i % 8)) = i by omega]
  by_cases hi : i < l.length
  · simp [hi]
  · simp [hi, List.getD_eq_getElem?_getD]
/-- A bit that is masked out. -/
theorem and_place {X : Int} (h : 0 ≤ X ∧ X < 256) {p : Nat} (hp : p < 8) : bits .and .u8 X (2 ^ p) = (if X.toNat.testBit p then 2 ^ p else 0) := by
  obtain ⟨n, rfl⟩ := Int.eq_ofNat_of_zero_le h.1
  have hn : n < 256 := by omega
  have h2 : (2 : Nat) ^ p < 256 := by
    calc 2 ^ p < 2 ^ 8 := Nat.pow_lt_pow_right (by omega) hp
      _ = 256 := rfl
  rw [show ((2 : Int) ^ p) = ((2 ^ p : Nat) : Int) by simp, u8_and_nat _ _ hn h2, Int.toNat_natCast, nat_bit, Nat.testBit_eq_decide_div_mod_eq]
  rcases (by omega : n / 2 ^ p % 2 = 0 ∨ n / 2 ^ p % 2 = 1) with e | e <;> simp [e]
theorem and_place_ne {X : Int} (h : 0 ≤ X ∧ X < 256) {p : Nat} (hp : p < 8) : (bits .and .u8 X (2 ^ p) != 0) = X.toNat.testBit p := by
  rw [and_place h hp]
  have : (0 : Int) < 2 ^ p := Int.pow_pos (by omega)
  cases X.toNat.testBit p
  · rfl
  · simp; omega
theorem or_place {X p : Nat} (h : X < 256) (hp : p < 8) : bits .or .u8 (X : Int) (2 ^ p) = ((X ||| 2 ^ p : Nat) : Int) := by
  have h2 : (2 : Nat) ^ p < 256 := by
    calc 2 ^ p < 2 ^ 8 := Nat.pow_lt_pow_right (by omega) hp
      _ = 256 := rfl
  rw [show ((2 : Int) ^ p) = ((2 ^ p : Nat) : Int) by simp, u8_or_nat _ _ h h2]
/-- Are there no bits behind the first n? -/
def tight (b : List Int) (n : Nat) : Prop := ∀ i, n ≤ i → i < 8 * b.length → bitOf b i = false
/-- So many bits of bytes. -/
def unpackL (b : List Int) (n : Nat) : List Bool := (List.range n).map (bitOf b)
theorem length_unpackL (b : List Int) (n : Nat) : (unpackL b n).length = n := by simp [unpackL]
theorem unpackL_getD {b : List Int} {n i : Nat} (h : i < n) : (unpackL b n).getD i false = bitOf b i := by
  simp [unpackL, List.getD_eq_getElem?_getD, List.getElem?_map, List.getElem?_range h]
theorem unpack_pack (l : List Bool) : unpackL (packL l) l.length = l := by
  apply List.ext_getElem
  · simp [unpackL]
  · intro i h1 h2
    simp only [unpackL, List.getElem_map, List.getElem_range]
    rw [bitOf_packL (by omega)]
    simp [List.getD_eq_getElem?_getD, List.getElem?_eq_getElem h2]
theorem tight_pack (l : List Bool) : tight (packL l) l.length := by
  intro i h1 h2
  rw [length_packL] at h2
  rw [bitOf_packL (by omega)]
  simp [List.getD_eq_getElem?_getD, List.getElem?_eq_none h1]
theorem pack_unpack {b : List Int} {n : Nat} (hb : ∀ x ∈ b, 0 ≤ x ∧ x < 256) (hn : (n + 7) / 8 = b.length) (ht : tight b n) : packL (unpackL b n) = b := by
  apply List.ext_getElem
  · rw [length_packL, length_unpackL, hn]
  · intro j h1 h2
    have hj : j < ((unpackL b n).length + 7) / 8 := by rw [length_unpackL, hn]; exact h2
    have hx := hb _ (List.getElem_mem h2)
    have e0 : (packL (unpackL b n))[j] = (byteK (unpackL b n) n j : Int) := by
      have := rowK_getD (l := unpackL b n) (k := n) hj
      have e : (rowK (unpackL b n) n).getD j 0 = (packL (unpackL b n))[j] := by
        simp [packL, length_unpackL, List.getD_eq_getElem?_getD, List.getElem?_eq_getElem (show j < (rowK (unpackL b n) n).length by rw [length_rowK]; exact hj)]
      rw [← e, this]
    rw [e0]
    have key : byteK (unpackL b n) n j = b[j].toNat := by
      apply Nat.eq_of_testBit_eq
      intro t
      by_cases ht8 : t < 8
      · rw [byteK_bit _ _ _ _ ht8]
        have eb : b.getD j 0 = b[j] := by simp [List.getD_eq_getElem?_getD, List.getElem?_eq_getElem h2]
        have e2 : bitOf b (8 * j + (7 - t)) = b[j].toNat.testBit t := by
          unfold bitOf
          rw [show (8 * j + (7 - t)) / 8 = j by omega, show 7 - (8 * j + (7 - t)) % 8 = t by omega, eb]
        by_cases hi : 8 * j + (7 - t) < n
        · rw [unpackL_getD hi, e2]; simp [hi]
        · have := ht (8 * j + (7 - t)) (by omega) (by omega)
          rw [e2] at this
          simp [hi, this]
      · have h3 : (b[j]).toNat < 2 ^ 8 := by have : (2 : Nat) ^ 8 = 256 := rfl; omega
        rw [Nat.testBit_lt_two_pow (Nat.lt_of_lt_of_le h3 (Nat.pow_le_pow_right (by omega) (by omega)))]
        exact Nat.testBit_lt_two_pow (Nat.lt_of_lt_of_le (ofB_lt _ 8) (Nat.pow_le_pow_right (by omega) (by omega)))
    rw [key]; omega
end Go.Proofs.Ytbijakhdngbjmaa
