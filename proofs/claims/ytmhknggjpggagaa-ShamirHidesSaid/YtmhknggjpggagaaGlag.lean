/- The polynomial through given places and values (Lagrange's), the weights of places, the one that vanishes at places. No program is named here. -/
import Derived.Test.YtmhknggjpggagaaGmath
namespace Go.Proofs.Ytmhknggjpggagaa
open GF

/-- No two of these places are the same. -/
def Apart (xs : List GF) : Prop := ∀ i j, i < xs.length → j < i → co xs i ≠ co xs j
theorem Apart.ne {xs : List GF} (h : Apart xs) {i j : Nat} (hi : i < xs.length) (hj : j < xs.length) (hne : i ≠ j) : co xs i ≠ co xs j := by
  rcases Nat.lt_or_gt_of_ne hne with h1 | h1
  · exact fun e => h j i hj h1 e.symm
  · exact h i j hi h1
theorem Apart.nodup {xs : List GF} (h : Apart xs) : xs.Nodup := by
  unfold List.Nodup
  rw [List.pairwise_iff_getElem]
  intro i j hi hj hij e
  have := h j i hj hij
  rw [co_lt hi, co_lt hj] at this
  exact this e.symm
theorem mem_co {xs : List GF} {x : GF} : x ∈ xs ↔ ∃ i, i < xs.length ∧ co xs i = x := by
  constructor
  · intro h
    obtain ⟨i, hi, rfl⟩ := List.getElem_of_mem h
    exact ⟨i, hi, co_lt hi⟩
  · rintro ⟨i, hi, rfl⟩
    rw [co_lt hi]
    exact List.getElem_mem hi

/-- What the value at the i-th place counts for that at x, the first k places taken in. -/
def wtA (xs : List GF) (i : Nat) (x : GF) : Nat → GF
  | 0 => 1
  | k + 1 => if k = i then wtA xs i x k else wtA xs i x k * ((x + co xs k) * GF.inv (co xs i + co xs k))
def wt (xs : List GF) (i : Nat) (x : GF) : GF := wtA xs i x xs.length
theorem wtA_self {xs : List GF} (h : Apart xs) {i : Nat} (hi : i < xs.length) : ∀ k, k ≤ xs.length → wtA xs i (co xs i) k = 1 := by
  intro k
  induction k with
  | zero => intro _; rfl
  | succ k ih =>
    intro hk
    simp only [wtA]
    by_cases e : k = i
    · rw [if_pos e]; exact ih (by omega)
    · rw [if_neg e, ih (by omega), GF.mul_inv (fun z => h.ne hi (by omega) (Ne.symm e) (GF.add_eq_zero.1 z)), GF.one_mul]
theorem wtA_other {xs : List GF} {i j : Nat} (hne : j ≠ i) : ∀ k, j < k → wtA xs i (co xs j) k = 0 := by
  intro k
  induction k with
  | zero => intro h; omega
  | succ k ih =>
    intro hk
    simp only [wtA]
    by_cases e : k = i
    · rw [if_pos e]; exact ih (by omega)
    · rw [if_neg e]
      by_cases ej : j = k
      · subst ej; rw [GF.add_self, GF.zero_mul, GF.mul_zero]
      · rw [ih (by omega), GF.zero_mul]
theorem wt_at {xs : List GF} (h : Apart xs) {i j : Nat} (hi : i < xs.length) (hj : j < xs.length) : wt xs i (co xs j) = if j = i then 1 else 0 := by
  unfold wt
  by_cases e : j = i
  · rw [if_pos e, e]; exact wtA_self h hi _ (Nat.le_refl _)
  · rw [if_neg e]; exact wtA_other e _ hj

/-- A line with the value c * (x + a) at x. -/
def lin (a c : GF) : List GF := [c * a, c]
theorem ev_lin (a c x : GF) : ev (lin a c) x = c * (x + a) := by
  simp only [lin, ev]
  rw [GF.mul_zero, GF.add_zero, GF.mul_add, GF.add_comm, GF.mul_comm x c]
theorem co_lin_ge (a c : GF) {k : Nat} (hk : 2 ≤ k) : co (lin a c) k = 0 := co_ge (by simpa [lin] using hk)
/-- Lagrange's term of the i-th place, the first k places taken in. -/
def tmA (xs : List GF) (i : Nat) (y : GF) : Nat → List GF
  | 0 => [y]
  | k + 1 => if k = i then tmA xs i y k else tr (mulL (tmA xs i y k) (lin (co xs k) (GF.inv (co xs i + co xs k))))
theorem ev_tmA (xs : List GF) (i : Nat) (y x : GF) : ∀ k, ev (tmA xs i y k) x = y * wtA xs i x k := by
  intro k
  induction k with
  | zero => simp only [tmA, wtA, ev]; rw [GF.mul_zero, GF.add_zero, GF.mul_one]
  | succ k ih =>
    simp only [tmA, wtA]
    by_cases e : k = i
    · rw [if_pos e, if_pos e]; exact ih
    · rw [if_neg e, if_neg e, ev_tr, ev_mulL, ih, ev_lin, GF.mul_assoc, GF.mul_comm (GF.inv _)]
theorem co_tmA (xs : List GF) (i : Nat) (y : GF) : ∀ k j, (if i < k then k else k + 1) ≤ j → co (tmA xs i y k) j = 0 := by
  intro k
  induction k with
  | zero => intro j hj; rw [if_neg (by omega)] at hj; exact co_ge (by simpa [tmA] using hj)
  | succ k ih =>
    intro j hj
    simp only [tmA]
    by_cases e : k = i
    · rw [if_pos e]
      apply ih
      rw [if_pos (by omega)] at hj
      rw [if_neg (by omega)]
      exact hj
    · rw [if_neg e, co_tr]
      apply co_mulL_ge (n := if i < k then k else k + 1) (m := 2) (ih) (fun j hj => co_lin_ge _ _ hj)
      by_cases hi : i < k
      · rw [if_pos hi]; rw [if_pos (by omega)] at hj; omega
      · rw [if_neg hi]; rw [if_neg (by omega)] at hj; omega
theorem length_tmA (xs : List GF) (i : Nat) (y : GF) : ∀ k, (tmA xs i y k).length ≤ (if i < k then k else k + 1) := by
  intro k
  induction k with
  | zero => simp [tmA]
  | succ k ih =>
    simp only [tmA]
    by_cases e : k = i
    · rw [if_pos e, if_pos (by omega)]
      rw [if_neg (by omega)] at ih
      exact ih
    · rw [if_neg e]
      apply tr_len.2
      intro j hj
      rw [← co_tr]
      have := co_tmA xs i y (k + 1) j hj
      simp only [tmA] at this
      rw [if_neg e] at this
      rw [co_tr]
      rw [co_tr] at this
      exact this
/-- The sum of the first i terms. -/
def lagA (xs ys : List GF) : Nat → List GF
  | 0 => []
  | i + 1 => addL (lagA xs ys i) (tmA xs i (co ys i) xs.length)
/-- The polynomial through places and values. -/
def lag (xs ys : List GF) : List GF := tr (lagA xs ys xs.length)
theorem ev_lagA (xs ys : List GF) (x : GF) : ∀ i, ev (lagA xs ys i) x = sm i fun j => co ys j * wt xs j x := by
  intro i
  induction i with
  | zero => rfl
  | succ i ih => simp only [lagA, sm]; rw [ev_addL, ih, ev_tmA]; rfl
theorem co_lagA (xs ys : List GF) : ∀ i, i ≤ xs.length → ∀ k, xs.length ≤ k → co (lagA xs ys i) k = 0 := by
  intro i
  induction i with
  | zero => intro _ k _; exact co_nil k
  | succ i ih =>
    intro hi k hk
    simp only [lagA]
    rw [co_addL, ih (by omega) k hk, co_tmA xs i _ xs.length k (by rw [if_pos (by omega)]; exact hk), GF.add_zero]
theorem ev_lag (xs ys : List GF) (x : GF) : ev (lag xs ys) x = sm xs.length fun j => co ys j * wt xs j x := by unfold lag; rw [ev_tr, ev_lagA]
theorem ev_lag_at {xs ys : List GF} (h : Apart xs) {j : Nat} (hj : j < xs.length) : ev (lag xs ys) (co xs j) = co ys j := by
  rw [ev_lag, sm_one hj (fun i hi hne => by rw [wt_at h hi hj, if_neg (Ne.symm hne), GF.mul_zero]), wt_at h hj hj, if_pos rfl, GF.mul_one]
theorem co_lag (xs ys : List GF) {k : Nat} (hk : xs.length ≤ k) : co (lag xs ys) k = 0 := by unfold lag; rw [co_tr]; exact co_lagA xs ys _ (Nat.le_refl _) k hk
/-- It is the only one. -/
theorem lag_uniq {xs ys p : List GF} (h : Apart xs) (hp : ∀ k, xs.length ≤ k → co p k = 0) (hv : ∀ j, j < xs.length → ev p (co xs j) = co ys j) : tr p = lag xs ys := by
  have := same_poly (q := lag xs ys) hp (fun k hk => co_lag xs ys hk) h.nodup (Nat.le_refl _) (fun x hx => by
    obtain ⟨j, hj, rfl⟩ := mem_co.1 hx
    rw [hv j hj, ev_lag_at h hj])
  rw [show lag xs ys = tr (lag xs ys) from (tr_tr _).symm]
  exact tr_ext this
/-- The weights give each value of a polynomial of a lesser degree. -/
theorem wt_sum {xs p : List GF} (h : Apart xs) (hp : ∀ k, xs.length ≤ k → co p k = 0) (x : GF) : (sm xs.length fun j => ev p (co xs j) * wt xs j x) = ev p x := by
  have hc : ∀ j, j < xs.length → co (xs.map (ev p)) j = ev p (co xs j) := fun j hj => by
    rw [co_lt (by simpa using hj), co_lt hj]; simp
  have := lag_uniq (ys := xs.map (ev p)) h hp (fun j hj => (hc j hj).symm)
  rw [← ev_tr p, this, ev_lag]
  exact sm_congr fun j hj => by rw [hc j hj]
/-- Weights are told by what they do. -/
theorem wt_uniq {xs : List GF} (h : Apart xs) {x : GF} {f : Nat → GF} (hf : ∀ p : List GF, (∀ k, xs.length ≤ k → co p k = 0) → (sm xs.length fun j => ev p (co xs j) * f j) = ev p x) {i : Nat} (hi : i < xs.length) : f i = wt xs i x := by
  have ht : ∀ k, xs.length ≤ k → co (tmA xs i 1 xs.length) k = 0 := fun k hk => co_tmA xs i 1 xs.length k (by rw [if_pos hi]; exact hk)
  have h1 := hf _ ht
  have he : ∀ j, j < xs.length → ev (tmA xs i 1 xs.length) (co xs j) = if j = i then 1 else 0 := fun j hj => by
    rw [ev_tmA, GF.one_mul]; exact wt_at h hi hj
  rw [sm_one hi (fun j hj hne => by rw [he j hj, if_neg hne, GF.zero_mul]), he i hi, if_pos rfl, GF.one_mul, ev_tmA, GF.one_mul] at h1
  exact h1

/-- The product of all x less each of the first i places. -/
def vanA (xs : List GF) : Nat → List GF
  | 0 => [1]
  | i + 1 => mulL (vanA xs i) (lin (co xs i) 1)
theorem ev_vanA {xs : List GF} {x : GF} : ∀ i, i ≤ xs.length → (ev (vanA xs i) x = 0 ↔ ∃ j, j < i ∧ co xs j = x) := by
  intro i
  induction i with
  | zero =>
    intro _
    simp only [vanA, ev]
    rw [GF.mul_zero, GF.add_zero]
    exact ⟨fun h => absurd h GF.one_ne, fun ⟨j, hj, _⟩ => by omega⟩
  | succ i ih =>
    intro hi
    simp only [vanA]
    rw [ev_mulL, ev_lin, GF.one_mul]
    constructor
    · intro h
      rcases GF.mul_eq_zero h with h | h
      · obtain ⟨j, hj, e⟩ := (ih (by omega)).1 h
        exact ⟨j, by omega, e⟩
      · exact ⟨i, by omega, (GF.add_eq_zero.1 h).symm⟩
    · rintro ⟨j, hj, e⟩
      by_cases hji : j = i
      · subst hji; rw [e, GF.add_self, GF.mul_zero]
      · rw [(ih (by omega)).2 ⟨j, by omega, e⟩, GF.zero_mul]
theorem co_vanA (xs : List GF) : ∀ i, co (vanA xs i) i = 1 ∧ ∀ k, i < k → co (vanA xs i) k = 0 := by
  intro i
  induction i with
  | zero => exact ⟨rfl, fun k hk => co_ge (by simp [vanA]; omega)⟩
  | succ i ih =>
    have hl : ∀ k, 1 < k → co (lin (co xs i) 1) k = 0 := fun k hk => co_lin_ge _ _ hk
    constructor
    · simp only [vanA]
      rw [co_mulL_top ih.2 hl, ih.1, GF.one_mul]
      rfl
    · intro k hk
      simp only [vanA]
      exact co_mulL_ge (n := i + 1) (m := 2) (fun j hj => ih.2 j (by omega)) (fun j hj => hl j (by omega)) (by omega)
theorem length_vanA (xs : List GF) (i : Nat) : (vanA xs i).length = i + 1 := by
  induction i with
  | zero => rfl
  | succ i ih =>
    simp only [vanA]
    rw [length_mulL _ _ (by omega) (by simp [lin]), ih]
    simp [lin]
theorem tr_vanA (xs : List GF) (i : Nat) : tr (vanA xs i) = vanA xs i := by
  apply tr_self
  right
  rw [length_vanA, Nat.add_sub_cancel, (co_vanA xs i).1]
  exact GF.one_ne
end Go.Proofs.Ytmhknggjpggagaa
