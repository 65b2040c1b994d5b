/- The document's constants of SHA-256: digits, roots, primes. Plain maths; no program is named here. -/
import Derived.WalkKit
namespace Go.Proofs.YtmcoakjbfgfgpaaDoor
set_option linter.unusedVariables false

/-- The number that digits of 16 bits make, the lowest first. -/
def dv : List Nat → Nat
  | [] => 0
  | d :: l => d + 65536 * dv l
theorem dv_append : ∀ (l : List Nat) (d : Nat), dv (l ++ [d]) = dv l + d * 65536 ^ l.length
  | [], d => by simp [dv]
  | a :: l, d => by
    simp only [List.cons_append, dv, dv_append l d, List.length_cons, Nat.pow_succ]
    rw [Nat.mul_add, ← Nat.add_assoc, Nat.mul_left_comm, Nat.mul_comm 65536 (65536 ^ l.length)]
/-- All digits are such. -/
def Dig (l : List Nat) : Prop := ∀ x ∈ l, x < 65536
theorem Dig.snoc {l : List Nat} (h : Dig l) {d : Nat} (hd : d < 65536) : Dig (l ++ [d]) := fun x hx => by
  rcases List.mem_append.1 hx with h1 | h1
  · exact h x h1
  · rw [List.mem_singleton.1 h1]; exact hd
theorem Dig.getD {l : List Nat} (h : Dig l) (i : Nat) : l.getD i 0 < 65536 := by
  by_cases hi : i < l.length
  · have : l.getD i 0 = l[i] := by simp [List.getD_eq_getElem?_getD, List.getElem?_eq_getElem hi]
    rw [this]; exact h _ (List.getElem_mem hi)
  · have : l.getD i 0 = 0 := by simp [List.getD_eq_getElem?_getD, List.getElem?_eq_none (Nat.le_of_not_lt hi)]
    rw [this]; omega
/-- So many of the digits. -/
def dvF (f : Nat → Nat) : Nat → Nat
  | 0 => 0
  | k + 1 => dvF f k + f k * 65536 ^ k
theorem dvF_lt {f : Nat → Nat} (h : ∀ t, f t < 65536) : ∀ k, dvF f k < 65536 ^ k
  | 0 => by simp [dvF]
  | k + 1 => by
    have h1 := dvF_lt h k
    have h2 := Nat.mul_le_mul_right (65536 ^ k) (show f k ≤ 65535 by have := h k; omega)
    rw [dvF, Nat.pow_succ, Nat.mul_comm (65536 ^ k) 65536]
    omega
theorem dvF_congr {f g : Nat → Nat} : ∀ {k}, (∀ t, t < k → f t = g t) → dvF f k = dvF g k
  | 0, _ => rfl
  | k + 1, h => by rw [dvF, dvF, dvF_congr (fun t ht => h t (by omega)), h k (by omega)]
theorem dv_dvF : ∀ l : List Nat, dv l = dvF (fun t => l.getD t 0) l.length := by
  intro l
  obtain ⟨m, hm⟩ : ∃ m, m = l.length := ⟨_, rfl⟩
  induction m generalizing l with
  | zero => obtain rfl : l = [] := List.eq_nil_of_length_eq_zero hm.symm; rfl
  | succ m ih =>
    obtain ⟨l', d, rfl⟩ : ∃ l' d, l = l' ++ [d] := ⟨l.dropLast, l.getLast (by intro h; simp [h] at hm), (List.dropLast_concat_getLast _).symm⟩
    have hl : m = l'.length := by simp at hm; exact hm
    rw [dv_append, ih l' hl, List.length_append, List.length_singleton, dvF]
    congr 1
    · exact dvF_congr fun t ht => by simp [List.getD_eq_getElem?_getD, List.getElem?_append_left ht]
    · simp [List.getD_eq_getElem?_getD]
theorem dvF_more {l : List Nat} : ∀ k, l.length ≤ k → dvF (fun t => l.getD t 0) k = dv l
  | 0, h => by rw [List.eq_nil_of_length_eq_zero (Nat.le_zero.1 h)]; rfl
  | k + 1, h => by
    by_cases e : l.length = k + 1
    · rw [dv_dvF, e]
    · rw [dvF, dvF_more k (by omega)]
      simp [List.getD_eq_getElem?_getD, List.getElem?_eq_none (show l.length ≤ k by omega)]
/-- Digits, compared from the highest on. -/
theorem dvF_cmp {f g : Nat → Nat} (hf : ∀ t, f t < 65536) (hg : ∀ t, g t < 65536) {i : Nat} (hgt : g i < f i) : ∀ k, i < k → (∀ t, i < t → t < k → f t = g t) → dvF g k < dvF f k
  | 0, h, _ => by omega
  | k + 1, h, he => by
    by_cases e : i = k
    · subst e
      have h1 := dvF_lt hg i
      have h2 := Nat.mul_le_mul_right (65536 ^ i) (show g i + 1 ≤ f i from hgt)
      rw [Nat.add_mul, Nat.one_mul] at h2
      rw [dvF, dvF]
      omega
    · have := dvF_cmp hf hg hgt k (by omega) (fun t h1 h2 => he t h1 (by omega))
      rw [dvF, dvF, he k (by omega) (by omega)]
      omega
theorem dv_zeros (n p : Nat) : dv (List.replicate n 0 ++ [p]) = p * 65536 ^ n := by
  rw [dv_append, List.length_replicate]
  have : dv (List.replicate n 0) = 0 := by
    induction n with
    | zero => rfl
    | succ n ih => rw [List.replicate_succ, dv, ih]
  omega
/-- A digit of a product. -/
theorem dv_step {N O : List Nat} {c x i : Nat} (hN : N.length = i) (h : dv N + c * 65536 ^ i = x * dv (O.take i)) {c1 : Nat} (h1 : c1 = c + O.getD i 0 * x) :
    dv (N ++ [c1 % 65536]) + c1 / 65536 * 65536 ^ (i + 1) = x * dv (O.take (i + 1)) := by
  rw [dv_append, hN, Nat.pow_succ, Nat.mul_comm (65536 ^ i) 65536, ← Nat.mul_assoc, Nat.add_assoc, ← Nat.add_mul, show c1 % 65536 + c1 / 65536 * 65536 = c1 by omega, h1, Nat.add_mul, ← Nat.add_assoc, h]
  by_cases hi : i < O.length
  · have e : O.getD i 0 = O[i] := by simp [List.getD_eq_getElem?_getD, List.getElem?_eq_getElem hi]
    rw [List.take_succ_eq_append_getElem hi, dv_append, List.length_take, Nat.min_eq_left (by omega), e, Nat.mul_add, Nat.mul_comm O[i] x, Nat.mul_assoc]
  · have e : O.getD i 0 = 0 := by simp [List.getD_eq_getElem?_getD, List.getElem?_eq_none (Nat.le_of_not_lt hi)]
    rw [e, List.take_of_length_le (by omega), List.take_of_length_le (by omega)]
    omega
theorem carry_le {c x d : Nat} (hc : c ≤ x) (hd : d < 65536) : (c + d * x) / 65536 ≤ x := by
  have h : d * x ≤ 65535 * x := Nat.mul_le_mul_right x (by omega)
  omega
theorem pow_root {n a b : Nat} (hn : 0 < n) (h : a ^ n < b ^ n) : a < b := by
  rcases Nat.lt_or_ge a b with h1 | h1
  · exact h1
  · exact absurd (Nat.pow_le_pow_left h1 n) (by omega)
theorem root_uniq {n P x r : Nat} (hn : 0 < n) (h1 : x ^ n ≤ P) (h2 : P < (x + 1) ^ n) (h3 : r ^ n ≤ P) (h4 : P < (r + 1) ^ n) : x = r := by
  have a := pow_root hn (Nat.lt_of_le_of_lt h1 h4)
  have b := pow_root hn (Nat.lt_of_le_of_lt h3 h2)
  omega
/-- The primes that have come when p is looked at, k behind 2. -/
def pq (out : List Nat) (p : Nat) : List Nat := if out.all (fun q => p % q != 0) then out ++ [p] else out
def ps : Nat → List Nat
  | 0 => []
  | k + 1 => pq (ps k) (k + 2)
theorem ps_le (k : Nat) : (ps k).length ≤ (ps (k + 1)).length := by
  rw [ps]; unfold pq; split <;> simp
theorem ps_mono {j k : Nat} (h : j ≤ k) : (ps j).length ≤ (ps k).length := by
  induction k with
  | zero => rw [Nat.le_zero.1 h]; exact Nat.le_refl _
  | succ k ih =>
    by_cases e : j = k + 1
    · rw [e]; exact Nat.le_refl _
    · exact Nat.le_trans (ih (by omega)) (ps_le k)
theorem ps_mem : ∀ k, ∀ q ∈ ps k, 2 ≤ q ∧ q ≤ k + 1
  | 0, q, h => by cases h
  | k + 1, q, h => by
    rw [ps] at h; unfold pq at h
    split at h
    · rcases List.mem_append.1 h with h1 | h1
      · have := ps_mem k q h1; omega
      · rw [List.mem_singleton.1 h1]; omega
    · have := ps_mem k q h; omega
/-- The first 64 primes. -/
def p64 : List Nat := [2, 3, 5, 7, 11, 13, 17, 19, 23, 29, 31, 37, 41, 43, 47, 53, 59, 61, 67, 71, 73, 79, 83, 89, 97, 101, 103, 107, 109, 113, 127, 131, 137, 139, 149, 151, 157, 163, 167, 173, 179, 181, 191, 193, 197, 199, 211, 223, 227, 229, 233, 239, 241, 251, 257, 263, 269, 271, 277, 281, 283, 293, 307, 311]
theorem ps_309 : (ps 309).length = 63 := by decide +kernel
theorem ps_310 : ps 310 = p64 := by decide +kernel
theorem ps_few {k : Nat} (h : k ≤ 309) : (ps k).length < 64 := by have := ps_mono h; rw [ps_309] at this; omega
end Go.Proofs.YtmcoakjbfgfgpaaDoor
