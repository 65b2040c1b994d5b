/- Texts of mine, one behind the other: Q2. -/
import Derived.Test.YtappfdbmhgifcaaGreatDoorZS01
import Derived.RangeFuncNested
import Derived.RangeFuncBox
import Derived.RangeFuncCalls
import Derived.RangeFuncLeaves
import Derived.Shelf.Abstract
import Derived.Shelf.RegionOpen
import Derived.OwnWalkIn
import Derived.TacticsInMore
import Derived.LoopNIn
import Derived.LoopIn
import Derived.Maps.OwnOps
import Derived.Maps.OwnSet
import Derived.Deep.RegionHeld
import Derived.Deep.Cut
/- Texts of mine, one behind the other: Gmath Glag Gconv Pit Pdeg Ptrim Peval Padd Pvan Pchk Pwt Pthr Px. -/
/- Plain facts on polynomials over the field of 256 numbers: lists of coefficients, the constant first; values, sums, products, roots, the one through given places. No program is named here. -/
namespace Go.Proofs.YtappfdbmhgifcaaGreatDoor

/-- A number of the field. -/
def GF : Type := { n : Nat // n < 256 }
namespace GF
instance : Add GF := ⟨fun a b => ⟨a.1 ^^^ b.1, xor_lt a.2 b.2⟩⟩
instance : Mul GF := ⟨fun a b => ⟨gm a.1 b.1, gm_lt _ _⟩⟩
instance : OfNat GF 0 := ⟨⟨0, by decide⟩⟩
instance : OfNat GF 1 := ⟨⟨1, by decide⟩⟩
instance : DecidableEq GF := fun a b => decidable_of_iff (a.1 = b.1) ⟨Subtype.ext, fun h => by rw [h]⟩
instance : Inhabited GF := ⟨0⟩
def inv (a : GF) : GF := ⟨Go.Proofs.YtappfdbmhgifcaaGreatDoor.inv a.1, inv_lt a.1⟩
theorem ext {a b : GF} (h : a.1 = b.1) : a = b := Subtype.ext h
theorem add_comm (a b : GF) : a + b = b + a := ext (Nat.xor_comm _ _)
theorem add_assoc (a b c : GF) : a + b + c = a + (b + c) := ext (Nat.xor_assoc _ _ _)
theorem add_left_comm (a b c : GF) : a + (b + c) = b + (a + c) := by rw [← add_assoc, add_comm a b, add_assoc]
theorem add_zero (a : GF) : a + 0 = a := ext (Nat.xor_zero _)
theorem zero_add (a : GF) : 0 + a = a := ext (Nat.zero_xor _)
theorem add_self (a : GF) : a + a = 0 := ext (Nat.xor_self _)
theorem add_self_left (a b : GF) : a + (a + b) = b := by rw [← add_assoc, add_self, zero_add]
theorem mul_comm (a b : GF) : a * b = b * a := ext (gm_comm _ _)
theorem mul_assoc (a b c : GF) : a * b * c = a * (b * c) := ext (gm_assoc _ _ _).symm
theorem mul_left_comm (a b c : GF) : a * (b * c) = b * (a * c) := by rw [← mul_assoc, mul_comm a b, mul_assoc]
theorem mul_one (a : GF) : a * 1 = a := ext (gm_one a.2)
theorem one_mul (a : GF) : 1 * a = a := by rw [mul_comm, mul_one]
theorem mul_zero (a : GF) : a * 0 = 0 := ext (gm_zero a.1)
theorem zero_mul (a : GF) : 0 * a = 0 := ext (zero_gm a.1)
theorem mul_add (a b c : GF) : a * (b + c) = a * b + a * c := ext (gm_add a.2 b.2 c.2)
theorem add_mul (a b c : GF) : (a + b) * c = a * c + b * c := by rw [mul_comm, mul_add, mul_comm c a, mul_comm c b]
theorem val_ne {a : GF} (h : a ≠ 0) : a.1 ≠ 0 := fun e => h (ext e)
theorem mul_inv {a : GF} (h : a ≠ 0) : a * inv a = 1 := ext (gm_inv a.2 (val_ne h))
theorem inv_mul {a : GF} (h : a ≠ 0) : inv a * a = 1 := by rw [mul_comm, mul_inv h]
theorem mul_eq_zero {a b : GF} (h : a * b = 0) : a = 0 ∨ b = 0 := by
  by_cases h0 : a = 0
  · exact .inl h0
  · right
    have : inv a * (a * b) = 0 := by rw [h, mul_zero]
    rw [← mul_assoc, inv_mul h0, one_mul] at this
    exact this
theorem mul_ne {a b : GF} (h0 : a ≠ 0) (h1 : b ≠ 0) : a * b ≠ 0 := fun h => (mul_eq_zero h).elim h0 h1
theorem add_eq_zero {a b : GF} : a + b = 0 ↔ a = b := by
  constructor
  · intro h
    have : b + (a + b) = b := by rw [h, add_zero]
    rw [add_comm a b, add_self_left] at this
    exact this
  · intro h; rw [h, add_self]
theorem one_ne : (1 : GF) ≠ 0 := fun h => absurd (congrArg Subtype.val h) (by decide)
theorem inv_one : inv 1 = 1 := by have := mul_inv one_ne; rw [one_mul] at this; exact this
theorem inv_ne {a : GF} (h : a ≠ 0) : inv a ≠ 0 := fun e => by
  have := mul_inv h
  rw [e, mul_zero] at this
  exact one_ne this.symm
theorem add_add_add (a b c d : GF) : (a + b) + (c + d) = (a + c) + (b + d) := by
  rw [add_assoc, add_assoc, add_left_comm b c d]
end GF
open GF

/-! Sums of so many. -/
def sm : Nat → (Nat → GF) → GF
  | 0, _ => 0
  | n + 1, f => sm n f + f n
theorem sm_congr {n : Nat} {f g : Nat → GF} (h : ∀ i, i < n → f i = g i) : sm n f = sm n g := by
  induction n with
  | zero => rfl
  | succ n ih => simp only [sm]; rw [ih (fun i hi => h i (by omega)), h n (by omega)]
theorem sm_zero {n : Nat} {f : Nat → GF} (h : ∀ i, i < n → f i = 0) : sm n f = 0 := by
  induction n with
  | zero => rfl
  | succ n ih => simp only [sm]; rw [ih (fun i hi => h i (by omega)), h n (by omega), GF.add_zero]
theorem sm_one {n j : Nat} {f : Nat → GF} (hj : j < n) (h : ∀ i, i < n → i ≠ j → f i = 0) : sm n f = f j := by
  induction n with
  | zero => omega
  | succ n ih =>
    simp only [sm]
    by_cases e : j = n
    · subst e
      rw [sm_zero (fun i hi => h i (by omega) (by omega)), GF.zero_add]
    · rw [ih (by omega) (fun i hi hne => h i (by omega) hne), h n (by omega) (by omega), GF.add_zero]
theorem sm_head (n : Nat) (f : Nat → GF) : sm (n + 1) f = f 0 + sm n (fun i => f (i + 1)) := by
  induction n with
  | zero => simp only [sm]; rw [GF.zero_add, GF.add_zero]
  | succ n ih =>
    rw [show sm (n + 1 + 1) f = sm (n + 1) f + f (n + 1) from rfl, ih]
    simp only [sm]
    rw [GF.add_assoc]
/-! Polynomials: lists of coefficients, the constant first. -/
/-- The coefficient at a place, 0 beyond the list. -/
def co (l : List GF) (k : Nat) : GF := l.getD k 0
theorem co_nil (k : Nat) : co [] k = 0 := by simp [co]
theorem co_cons_zero (c : GF) (l : List GF) : co (c :: l) 0 = c := by simp [co]
theorem co_cons_succ (c : GF) (l : List GF) (k : Nat) : co (c :: l) (k + 1) = co l k := by simp [co]
theorem co_ge {l : List GF} {k : Nat} (h : l.length ≤ k) : co l k = 0 := by simp [co, List.getD_eq_getElem?_getD, List.getElem?_eq_none h]
theorem co_lt {l : List GF} {k : Nat} (h : k < l.length) : co l k = l[k] := by simp [co, List.getD_eq_getElem?_getD, List.getElem?_eq_getElem h]
theorem co_drop (l : List GF) (n k : Nat) : co (l.drop n) k = co l (n + k) := by simp [co, List.getD_eq_getElem?_getD]
theorem ext_co {l m : List GF} (h : l.length = m.length) (hk : ∀ k, k < l.length → co l k = co m k) : l = m := by
  apply List.ext_getElem h
  intro i h1 h2
  have := hk i h1
  rwa [co_lt h1, co_lt h2] at this
/-- The value at x. -/
def ev : List GF → GF → GF
  | [], _ => 0
  | c :: l, x => c + x * ev l x
theorem ev_zero {l : List GF} (h : ∀ k, co l k = 0) (x : GF) : ev l x = 0 := by
  induction l with
  | nil => rfl
  | cons c l ih =>
    have h0 := h 0
    rw [co_cons_zero] at h0
    simp only [ev]
    rw [h0, ih (fun k => by have := h (k + 1); rwa [co_cons_succ] at this), GF.mul_zero, GF.add_zero]
theorem ev_congr {l m : List GF} (h : ∀ k, co l k = co m k) (x : GF) : ev l x = ev m x := by
  induction l generalizing m with
  | nil => exact (ev_zero (fun k => by rw [← h k, co_nil]) x).symm
  | cons c l ih =>
    cases m with
    | nil => exact ev_zero (fun k => by rw [h k, co_nil]) x
    | cons d m =>
      have h0 := h 0
      rw [co_cons_zero, co_cons_zero] at h0
      simp only [ev]
      rw [h0, ih (m := m) (fun k => by have := h (k + 1); rwa [co_cons_succ, co_cons_succ] at this)]
theorem ev_drop (l : List GF) (n : Nat) (x : GF) : ev (l.drop n) x = co l n + x * ev (l.drop (n + 1)) x := by
  induction n generalizing l with
  | zero =>
    cases l with
    | nil => simp only [List.drop_nil, ev]; rw [co_nil, GF.mul_zero, GF.add_zero]
    | cons c l => rfl
  | succ n ih =>
    cases l with
    | nil => simp only [List.drop_nil, ev]; rw [co_nil, GF.mul_zero, GF.add_zero]
    | cons c l => rw [List.drop_succ_cons, List.drop_succ_cons, co_cons_succ]; exact ih l
/-- The sum. -/
def addL : List GF → List GF → List GF
  | [], q => q
  | a :: p, [] => a :: p
  | a :: p, b :: q => (a + b) :: addL p q
theorem co_addL : ∀ (p q : List GF) (k : Nat), co (addL p q) k = co p k + co q k
  | [], q, k => by rw [show addL [] q = q by cases q <;> rfl, co_nil, GF.zero_add]
  | a :: p, [], k => by rw [co_nil, GF.add_zero]; rfl
  | a :: p, b :: q, 0 => by simp only [addL, co_cons_zero]
  | a :: p, b :: q, k + 1 => by simp only [addL, co_cons_succ]; exact co_addL p q k
theorem ev_addL : ∀ (p q : List GF) (x : GF), ev (addL p q) x = ev p x + ev q x
  | [], q, x => by rw [show addL [] q = q by cases q <;> rfl]; exact (GF.zero_add _).symm
  | a :: p, [], x => (GF.add_zero _).symm
  | a :: p, b :: q, x => by simp only [addL, ev]; rw [ev_addL p q x, GF.mul_add, add_add_add]
/-- So many times. -/
def smulL (c : GF) (l : List GF) : List GF := l.map (c * ·)
theorem co_smulL (c : GF) (l : List GF) (k : Nat) : co (smulL c l) k = c * co l k := by
  by_cases h : k < l.length
  · rw [co_lt (by simpa [smulL] using h), co_lt h]; simp [smulL]
  · rw [co_ge (by simp [smulL]; omega), co_ge (by omega), GF.mul_zero]
theorem ev_smulL (c : GF) (l : List GF) (x : GF) : ev (smulL c l) x = c * ev l x := by
  induction l with
  | nil => exact (GF.mul_zero c).symm
  | cons d l ih =>
    rw [show smulL c (d :: l) = (c * d) :: smulL c l from rfl]
    simp only [ev]
    rw [ih, GF.mul_add, GF.mul_left_comm x c]
/-- The product. -/
def mulL : List GF → List GF → List GF
  | [], _ => []
  | a :: p, q => addL (smulL a q) (0 :: mulL p q)
theorem ev_mulL (p q : List GF) (x : GF) : ev (mulL p q) x = ev p x * ev q x := by
  induction p with
  | nil => exact (GF.zero_mul _).symm
  | cons a p ih =>
    simp only [mulL, ev]
    rw [ev_addL, ev_smulL]
    simp only [ev]
    rw [ih, GF.add_mul, GF.zero_add, GF.mul_assoc]
theorem co_mulL (p q : List GF) (k : Nat) : co (mulL p q) k = sm (k + 1) fun i => co p i * co q (k - i) := by
  induction p generalizing k with
  | nil => rw [show mulL [] q = [] from rfl, co_nil, sm_zero (fun i _ => by rw [co_nil, GF.zero_mul])]
  | cons a p ih =>
    simp only [mulL]
    rw [co_addL, co_smulL, sm_head]
    rw [co_cons_zero, Nat.sub_zero]
    congr 1
    cases k with
    | zero => rw [co_cons_zero]; rfl
    | succ k =>
      rw [co_cons_succ, ih]
      apply sm_congr
      intro i _
      rw [co_cons_succ, Nat.add_sub_add_right]
theorem co_mulL_ge {p q : List GF} {n m k : Nat} (hp : ∀ i, n ≤ i → co p i = 0) (hq : ∀ i, m ≤ i → co q i = 0) (hk : n + m ≤ k + 1) : co (mulL p q) k = 0 := by
  rw [co_mulL]
  apply sm_zero
  intro i hi
  by_cases h : n ≤ i
  · rw [hp i h, GF.zero_mul]
  · rw [hq (k - i) (by omega), GF.mul_zero]

/-! Without noughts at the end. -/
def tr : List GF → List GF
  | [] => []
  | c :: l => if tr l = [] then (if c = 0 then [] else [c]) else c :: tr l
theorem co_tr : ∀ (l : List GF) (k : Nat), co (tr l) k = co l k
  | [], _ => rfl
  | c :: l, k => by
    have ih := co_tr l
    simp only [tr]
    by_cases h : tr l = []
    · rw [if_pos h]
      rw [h] at ih
      by_cases hc : c = 0
      · rw [if_pos hc]
        cases k with
        | zero => rw [co_cons_zero, hc, co_nil]
        | succ k => rw [co_cons_succ, ← ih k, co_nil, co_nil]
      · rw [if_neg hc]
        cases k with
        | zero => rw [co_cons_zero, co_cons_zero]
        | succ k => rw [co_cons_succ, co_cons_succ, ← ih k]
    · rw [if_neg h]
      cases k with
      | zero => rw [co_cons_zero, co_cons_zero]
      | succ k => rw [co_cons_succ, co_cons_succ, ih k]
theorem tr_last : ∀ (l : List GF), tr l ≠ [] → co l ((tr l).length - 1) ≠ 0
  | [], h => absurd rfl h
  | c :: l, h => by
    have ih := tr_last l
    simp only [tr] at h ⊢
    by_cases h0 : tr l = []
    · rw [if_pos h0] at h ⊢
      by_cases hc : c = 0
      · rw [if_pos hc] at h; exact absurd rfl h
      · rw [if_neg hc]; simpa [co] using hc
    · rw [if_neg h0]
      have h1 : 0 < (tr l).length := List.length_pos_iff.2 h0
      have := ih h0
      rw [show (c :: tr l).length - 1 = ((tr l).length - 1) + 1 by simp; omega, co_cons_succ]
      exact this
theorem tr_len {l : List GF} {n : Nat} : (tr l).length ≤ n ↔ ∀ k, n ≤ k → co l k = 0 := by
  constructor
  · intro h k hk
    rw [← co_tr, co_ge (by omega)]
  · intro h
    rcases Nat.lt_or_ge n (tr l).length with hlt | hge
    · exfalso
      have h0 : tr l ≠ [] := fun e => by rw [e] at hlt; simp at hlt
      exact tr_last l h0 (h _ (by omega))
    · exact hge
theorem tr_ext {l m : List GF} (h : ∀ k, co l k = co m k) : tr l = tr m := by
  have h1 : (tr l).length ≤ (tr m).length := tr_len.2 fun k hk => by rw [h k]; exact tr_len.1 (Nat.le_refl _) k hk
  have h2 : (tr m).length ≤ (tr l).length := tr_len.2 fun k hk => by rw [← h k]; exact tr_len.1 (Nat.le_refl _) k hk
  exact ext_co (Nat.le_antisymm h1 h2) fun k _ => by rw [co_tr, co_tr, h k]
theorem tr_tr (l : List GF) : tr (tr l) = tr l := tr_ext (co_tr l)
theorem ev_tr (l : List GF) (x : GF) : ev (tr l) x = ev l x := ev_congr (co_tr l) x
/-! Roots. -/
end Go.Proofs.YtappfdbmhgifcaaGreatDoor
/- The polynomial through given places and values (Lagrange's), the weights of places, the one that vanishes at places. No program is named here. -/
namespace Go.Proofs.YtappfdbmhgifcaaGreatDoor
open GF

/-- No two of these places are the same. -/
def Apart (xs : List GF) : Prop := ∀ i j, i < xs.length → j < i → co xs i ≠ co xs j
theorem Apart.ne {xs : List GF} (h : Apart xs) {i j : Nat} (hi : i < xs.length) (hj : j < xs.length) (hne : i ≠ j) : co xs i ≠ co xs j := by
  rcases Nat.lt_or_gt_of_ne hne with h1 | h1
  · exact fun e => h j i hj h1 e.symm
  · exact h i j hi h1
/-- What the value at the i-th place counts for that at x, the first k places taken in. -/
def wtA (xs : List GF) (i : Nat) (x : GF) : Nat → GF
  | 0 => 1
  | k + 1 => if k = i then wtA xs i x k else wtA xs i x k * ((x + co xs k) * GF.inv (co xs i + co xs k))
def wt (xs : List GF) (i : Nat) (x : GF) : GF := wtA xs i x xs.length
theorem wtA_self {xs : List GF} (h : Apart xs) {i : Nat} (hi : i < xs.length) : ∀ k, k ≤ xs.length → wtA xs i (co xs i) k = 1 := by
  intro k
  induction k with
  | zero => intro _; rfl
  | succ k ih =>
    intro hk
    simp only [wtA]
    by_cases e : k = i
    · rw [if_pos e]; exact ih (by omega)
    · rw [if_neg e, ih (by omega), GF.mul_inv (fun z => h.ne hi (by omega) (Ne.symm e) (GF.add_eq_zero.1 z)), GF.one_mul]
theorem wtA_other {xs : List GF} {i j : Nat} (hne : j ≠ i) : ∀ k, j < k → wtA xs i (co xs j) k = 0 := by
  intro k
  induction k with
  | zero => intro h; omega
  | succ k ih =>
    intro hk
    simp only [wtA]
    by_cases e : k = i
    · rw [if_pos e]; exact ih (by omega)
    · rw [if_neg e]
      by_cases ej : j = k
      · subst ej; rw [GF.add_self, GF.zero_mul, GF.mul_zero]
      · rw [ih (by omega), GF.zero_mul]
theorem wt_at {xs : List GF} (h : Apart xs) {i j : Nat} (hi : i < xs.length) (hj : j < xs.length) : wt xs i (co xs j) = if j = i then 1 else 0 := by
  unfold wt
  by_cases e : j = i
  · rw [if_pos e, e]; exact wtA_self h hi _ (Nat.le_refl _)
  · rw [if_neg e]; exact wtA_other e _ hj

/-- A line with the value c * (x + a) at x. -/
def lin (a c : GF) : List GF := [c * a, c]
theorem ev_lin (a c x : GF) : ev (lin a c) x = c * (x + a) := by
  simp only [lin, ev]
  rw [GF.mul_zero, GF.add_zero, GF.mul_add, GF.add_comm, GF.mul_comm x c]
theorem co_lin_ge (a c : GF) {k : Nat} (hk : 2 ≤ k) : co (lin a c) k = 0 := co_ge (by simpa [lin] using hk)
/-- Lagrange's term of the i-th place, the first k places taken in. -/
def tmA (xs : List GF) (i : Nat) (y : GF) : Nat → List GF
  | 0 => [y]
  | k + 1 => if k = i then tmA xs i y k else tr (mulL (tmA xs i y k) (lin (co xs k) (GF.inv (co xs i + co xs k))))
theorem ev_tmA (xs : List GF) (i : Nat) (y x : GF) : ∀ k, ev (tmA xs i y k) x = y * wtA xs i x k := by
  intro k
  induction k with
  | zero => simp only [tmA, wtA, ev]; rw [GF.mul_zero, GF.add_zero, GF.mul_one]
  | succ k ih =>
    simp only [tmA, wtA]
    by_cases e : k = i
    · rw [if_pos e, if_pos e]; exact ih
    · rw [if_neg e, if_neg e, ev_tr, ev_mulL, ih, ev_lin, GF.mul_assoc, GF.mul_comm (GF.inv _)]
theorem co_tmA (xs : List GF) (i : Nat) (y : GF) : ∀ k j, (if i < k then k else k + 1) ≤ j → co (tmA xs i y k) j = 0 := by
  intro k
  induction k with
  | zero => intro j hj; rw [if_neg (by omega)] at hj; exact co_ge (by simpa [tmA] using hj)
  | succ k ih =>
    intro j hj
    simp only [tmA]
    by_cases e : k = i
    · rw [if_pos e]
      apply ih
      rw [if_pos (by omega)] at hj
      rw [if_neg (by omega)]
      exact hj
    · rw [if_neg e, co_tr]
      apply co_mulL_ge (n := if i < k then k else k + 1) (m := 2) (ih) (fun j hj => co_lin_ge _ _ hj)
      by_cases hi : i < k
      · rw [if_pos hi]; rw [if_pos (by omega)] at hj; omega
      · rw [if_neg hi]; rw [if_neg (by omega)] at hj; omega
/-- The sum of the first i terms. -/
def lagA (xs ys : List GF) : Nat → List GF
  | 0 => []
  | i + 1 => addL (lagA xs ys i) (tmA xs i (co ys i) xs.length)
/-- The polynomial through places and values. -/
def lag (xs ys : List GF) : List GF := tr (lagA xs ys xs.length)
theorem ev_lagA (xs ys : List GF) (x : GF) : ∀ i, ev (lagA xs ys i) x = sm i fun j => co ys j * wt xs j x := by
  intro i
  induction i with
  | zero => rfl
  | succ i ih => simp only [lagA, sm]; rw [ev_addL, ih, ev_tmA]; rfl
theorem co_lagA (xs ys : List GF) : ∀ i, i ≤ xs.length → ∀ k, xs.length ≤ k → co (lagA xs ys i) k = 0 := by
  intro i
  induction i with
  | zero => intro _ k _; exact co_nil k
  | succ i ih =>
    intro hi k hk
    simp only [lagA]
    rw [co_addL, ih (by omega) k hk, co_tmA xs i _ xs.length k (by rw [if_pos (by omega)]; exact hk), GF.add_zero]
theorem ev_lag (xs ys : List GF) (x : GF) : ev (lag xs ys) x = sm xs.length fun j => co ys j * wt xs j x := by unfold lag; rw [ev_tr, ev_lagA]
theorem ev_lag_at {xs ys : List GF} (h : Apart xs) {j : Nat} (hj : j < xs.length) : ev (lag xs ys) (co xs j) = co ys j := by
  rw [ev_lag, sm_one hj (fun i hi hne => by rw [wt_at h hi hj, if_neg (Ne.symm hne), GF.mul_zero]), wt_at h hj hj, if_pos rfl, GF.mul_one]
theorem co_lag (xs ys : List GF) {k : Nat} (hk : xs.length ≤ k) : co (lag xs ys) k = 0 := by unfold lag; rw [co_tr]; exact co_lagA xs ys _ (Nat.le_refl _) k hk
end Go.Proofs.YtappfdbmhgifcaaGreatDoor
/- Rows of bytes as polynomials, and back. No program is named here. -/
namespace Go.Proofs.YtappfdbmhgifcaaGreatDoor
open GF

/-- A byte as a number of the field. -/
def toG (x : Int) : GF := ⟨x.toNat % 256, Nat.mod_lt _ (by decide)⟩
/-- .. and back. -/
def toI (a : GF) : Int := ((a.1 : Nat) : Int)
theorem toI_bd (a : GF) : 0 ≤ toI a ∧ toI a < 256 := by have := a.2; unfold toI; omega
theorem toI_toG {x : Int} (h : 0 ≤ x ∧ x < 256) : toI (toG x) = x := by
  show (((x.toNat % 256 : Nat)) : Int) = x
  omega
theorem toG_toI (a : GF) : toG (toI a) = a := by
  apply GF.ext
  show ((a.1 : Nat) : Int).toNat % 256 = a.1
  have := a.2
  omega
theorem toG_zero : toG 0 = 0 := rfl
theorem toI_zero : toI 0 = 0 := rfl
theorem toI_one : toI 1 = 1 := rfl
theorem toI_inj {a b : GF} (h : toI a = toI b) : a = b := by rw [← toG_toI a, h, toG_toI]
theorem toI_eq_zero {a : GF} : toI a = 0 ↔ a = 0 := ⟨fun h => toI_inj (by rw [h]; rfl), fun h => by rw [h]; rfl⟩
/-- A row of bytes as a polynomial. -/
def gL (l : List Int) : List GF := l.map toG
/-- .. and back. -/
def iL (l : List GF) : List Int := l.map toI
theorem length_iL (l : List GF) : (iL l).length = l.length := by simp [iL]
theorem iL_gL {l : List Int} (h : AllB l) : iL (gL l) = l := by
  unfold gL iL
  rw [List.map_map]
  conv => rhs; rw [← List.map_id l]
  apply List.map_congr_left
  intro x hx
  exact toI_toG (h x hx)
theorem allB_iL (l : List GF) : AllB (iL l) := by
  intro x hx
  obtain ⟨a, _, rfl⟩ := List.mem_map.1 hx
  exact toI_bd a
theorem co_gL (l : List Int) (k : Nat) : co (gL l) k = toG (l.getD k 0) := by
  by_cases h : k < l.length
  · rw [co_lt (by simpa [gL] using h)]
    simp [gL, List.getD_eq_getElem?_getD, List.getElem?_eq_getElem h]
  · rw [co_ge (by simp [gL]; omega)]
    simp [List.getD_eq_getElem?_getD, List.getElem?_eq_none (Nat.le_of_not_lt h)]
    exact toG_zero.symm
theorem getD_iL (l : List GF) (k : Nat) : (iL l).getD k 0 = toI (co l k) := by
  by_cases h : k < l.length
  · rw [co_lt h]
    simp [iL, List.getD_eq_getElem?_getD, List.getElem?_eq_getElem h]
  · rw [co_ge (by omega)]
    simp [iL, List.getD_eq_getElem?_getD, List.getElem?_eq_none (Nat.le_of_not_lt h)]
    exact toI_zero.symm
theorem co_replicate (n k : Nat) : co (List.replicate n 0) k = 0 := by
  by_cases h : k < n
  · rw [co_lt (by simpa using h)]; simp
  · rw [co_ge (by simpa using Nat.le_of_not_lt h)]
end Go.Proofs.YtappfdbmhgifcaaGreatDoor
/- slices.Backward over a slice of bytes: the contract of its iterator, for bodies that may write what lies at the places still to come, if only numbers stay there. -/
namespace Go.Proofs.YtappfdbmhgifcaaGreatDoor
open Go.ChangeShapes Go.WideShapes Go.ChangeAt Go.RowKit Go.Shelf GF
set_option linter.unusedVariables false
set_option maxRecDepth 100000
attribute [local go_sem] Oper.semAt_some

/-- What a round is handed: a place, and the number there. -/
abbrev It (len : Nat) := Fin len × GF
/-- The box holds the slice, and at each place stands a number that V speaks of. -/
def Rd (Bx len : Nat) (a : Option Addr) (cap : Nat) (V : Nat → GF → Prop) (W : World) : Prop :=
  W.cell? ⟨Bx, 0, none⟩ = some (.slice a len cap) ∧ ∀ j, j < len → ∃ b off c, a = some ⟨b, off, none⟩ ∧ V j c ∧ W.cell? ⟨b, off + j, none⟩ = some (.int .u8 (toI c))
/-- What has come: the last ones, from the last on. -/
def Bk (len : Nat) (V : Nat → GF → Prop) (pre : List (It len)) : Prop :=
  pre.length ≤ len ∧ ∀ k (h : k < pre.length), (pre[k]).1.1 = len - 1 - k ∧ V (len - 1 - k) (pre[k]).2
theorem Bk.nil (len : Nat) (V : Nat → GF → Prop) : Bk len V [] := ⟨Nat.zero_le _, fun k h => by simp at h⟩
theorem Bk.snoc {len : Nat} {V : Nat → GF → Prop} {pre : List (It len)} (h : Bk len V pre) (x : It len) (hl : pre.length < len) (hx : x.1.1 = len - 1 - pre.length) (hV : V x.1.1 x.2) : Bk len V (pre ++ [x]) := by
  refine ⟨by simp; omega, fun k hk => ?_⟩
  by_cases e : k < pre.length
  · rw [List.getElem_append_left e]; exact h.2 k e
  · have e2 : k = pre.length := by simp at hk; omega
    subst e2
    rw [List.getElem_append_right (Nat.le_refl _)]
    simp only [Nat.sub_self, List.getElem_cons_zero]
    exact ⟨hx, hx ▸ hV⟩

end Go.Proofs.YtappfdbmhgifcaaGreatDoor
/- The field's operations on numbers of GF; contracts of poly's Degree, trimmed, Trim, Eval. -/
namespace Go.Proofs.YtappfdbmhgifcaaGreatDoor
open Go.ChangeShapes Go.WideShapes Go.ChangeAt Go.RowKit Go.Shelf GF
set_option linter.unusedVariables false
attribute [local go_sem] Oper.semAt_some

theorem mul_G (b : Nat) (x y : GF) (w : World) (hf : Fld w b) : Calls Tryz.prog 104 #[.pointer (some ⟨b, 0, none⟩), .int .u8 (toI x), .int .u8 (toI y)] w fun e w' => e = .returned (.int .u8 (toI (x * y))) ∧ w = w' :=
  mul_I b _ _ w hf (toI_bd x) (toI_bd y)
theorem add_G (x y : GF) (w : World) : Calls Tryz.prog 56 #[.int .u8 (toI x), .int .u8 (toI y)] w fun e w' => e = .returned (.int .u8 (toI (x + y))) ∧ w = w' :=
  add_I _ _ (toI_bd x) (toI_bd y) w
theorem div_G (b : Nat) (x y : GF) (w : World) (hf : Fld w b) (hy : y ≠ 0) : Calls Tryz.prog 134 #[.pointer (some ⟨b, 0, none⟩), .int .u8 (toI x), .int .u8 (toI y)] w fun e w' => e = .returned (.tuple #[.int .u8 (toI (x * GF.inv y)), .int .i64 0]) ∧ w = w' :=
  div_ok b x.1 y.1 w hf x.2 y.2 (GF.val_ne hy)
theorem rmul_G (x y : GF) (w : World) : Calls Tryz.prog 88 #[.int .u8 (toI x), .int .u8 (toI y)] w fun e w' => e = .returned (.int .u8 (toI (x * y))) ∧ w = w' :=
  refMul_N x.1 y.1 x.2 y.2 w
theorem rinv_G (x : GF) (w : World) : Calls Tryz.prog 110 #[.int .u8 (toI x)] w fun e w' => e = .returned (.int .u8 (toI (GF.inv x))) ∧ w = w' :=
  refInv_N x.1 x.2 w

theorem cell_of_heap {W W' : World} {p : Addr} {v : Value} (h : W.cell? p = some v) (e : W'.heap[p.block]? = W.heap[p.block]?) : W'.cell? p = some v := by
  unfold World.cell? at h ⊢; rw [e]; exact h
theorem Rd.other {Bx len cap : Nat} {a : Option Addr} {V : Nat → GF → Prop} {W W' : World} (h : Rd Bx len a cap V W) (blk : Nat) (hh : ∀ k, k ≠ blk → k < W.heap.size → W'.heap[k]? = W.heap[k]?) (h1 : Bx ≠ blk) (h2 : ∀ b off, a = some ⟨b, off, none⟩ → b ≠ blk) : Rd Bx len a cap V W' := by
  have lt : ∀ {p : Addr} {v : Value}, W.cell? p = some v → p.block < W.heap.size := fun {p v} hc => by
    rcases Nat.lt_or_ge p.block W.heap.size with hlt | hge
    · exact hlt
    · unfold World.cell? at hc; rw [Array.getElem?_eq_none hge] at hc; cases hc
  refine ⟨cell_of_heap h.1 (hh _ h1 (lt h.1)), fun j hj => ?_⟩
  obtain ⟨b, off, c, e, hV, hc⟩ := h.2 j hj
  exact ⟨b, off, c, e, hV, cell_of_heap hc (hh _ (h2 b off e) (lt hc))⟩
theorem Rd.put {Bx len cap : Nat} {a : Option Addr} {V : Nat → GF → Prop} {W : World} {l : Nat} {o : Obj} (o' : Obj) (hl : W.heap[l]? = some o) (ho : o.isCells = false) (h : Rd Bx len a cap V W) : Rd Bx len a cap V (W.putObj l o') := by
  have key : ∀ {p : Addr} {v : Value}, W.cell? p = some v → (W.putObj l o').cell? p = some v := fun {p v} hc => cell_kept hc (grownBy_putObj' W l o') (fun r e => by cases e; exact ⟨_, hl, ho⟩)
  refine ⟨key h.1, fun j hj => ?_⟩
  obtain ⟨b, off, c, e, hV, hc⟩ := h.2 j hj
  exact ⟨b, off, c, e, hV, key hc⟩
theorem Bs.low {w : World} {B : Nat} {a : Option Addr} {l : List Int} (h : Bs w B a l) (hl : 0 < l.length) : ∀ b off, a = some ⟨b, off, none⟩ → b < B := fun b off e => by
  obtain ⟨b', off', e', hB, _⟩ := h hl
  rw [e] at e'; cases e'; exact hB

end Go.Proofs.YtappfdbmhgifcaaGreatDoor
/- Contracts of poly's trimmed, Trim, Eval, and of slices.Clone. -/
namespace Go.Proofs.YtappfdbmhgifcaaGreatDoor
open Go.ChangeShapes Go.WideShapes Go.ChangeAt Go.RowKit Go.Shelf GF
set_option linter.unusedVariables false
set_option maxRecDepth 100000
attribute [local go_sem] Oper.semAt_some

theorem Arg8.len {w : World} {a : Option Addr} {L cap : Nat} {P : List GF} (h : Arg8 w a L cap (iL P)) : P.length = L := by have := h.1; rwa [length_iL] at this
theorem own_base {w : World} {base base' : Nat} {e : TypeId} {v : Value} {n : Nat} {xs : List Value} (h : w.ownsRow base e 1 v n xs) (hb : base' ≤ base) : w.ownsRow base' e 1 v n xs := by
  refine ⟨h.1, ?_⟩
  rcases h.2 with h2 | ⟨g, cap, cur, h1, h2, h3⟩
  · exact .inl h2
  · exact .inr ⟨g, cap, cur, h1, Nat.le_trans hb h2, h3⟩
/-- An argument that is a polynomial. -/
def Pa (w : World) (a : Option Addr) (len cap : Nat) (P : List GF) : Prop := Arg8c w a len cap (iL P)
theorem Pa.len {w : World} {a : Option Addr} {L cap : Nat} {P : List GF} (h : Pa w a L cap P) : P.length = L := h.1.len
theorem Pa.on {W w : World} {a : Option Addr} {n c : Nat} {P : List GF} (h : Pa W a n c P) (hb : Below W.heap.size W w) : Pa w a n c P := ⟨h.1.on hb, h.2⟩
theorem Pa.of {w : World} {a : Option Addr} {L cap : Nat} {l : List Int} (h : Arg8c w a L cap l) : Pa w a L cap (gL l) := by unfold Pa; rw [iL_gL h.1.2.1]; exact h
/-- A row of one's own, as an argument. -/
theorem Pa.own {w : World} {base : Nat} {e : TypeId} {v : Value} {n : Nat} {P : List GF} (h : w.ownsRow base e 1 v n ((iL P).map (Value.int .u8))) : ∃ a c, v = .slice a n c ∧ Pa w a n c P ∧ (∀ b off, a = some ⟨b, off, none⟩ → base ≤ b ∧ off = 0) := by
  obtain ⟨a, c, rfl, hb, hl, h1, h2, h3⟩ := own_form h
  refine ⟨a, c, rfl, ⟨⟨hl, allB_iL P, hb, h1, h2⟩, h3⟩, fun b off e => ?_⟩
  rcases h.2 with ⟨h4, _⟩ | ⟨g, cap, cur, hv, hg, _⟩
  · cases h4; cases e
  · cases hv; cases e; exact ⟨hg, rfl⟩

set_option maxRecDepth 100000 in
theorem eql_nil (w : World) : (binOp .eql 22 (.slice none 0 0) (.slice none 0 0)).run Tryz.prog w = .ok (.bool true) w := rfl
set_option maxRecDepth 100000 in
theorem eql_some (w : World) (ad : Addr) (n c : Nat) : (binOp .eql 22 (.slice (some ad) n c) (.slice none 0 0)).run Tryz.prog w = .ok (.bool false) w := rfl
theorem clone_any (a : Option Addr) (L cap : Nat) (P : List GF) (w : World) (hx : Pa w a L cap P) (hL : L ≤ 140737488355328) :
    Calls Tryz.prog 154 #[.slice a L cap] w fun e w' => ∃ v, e = .returned v ∧ w'.ownsRow w.heap.size 5 1 v L ((iL P).map (Value.int .u8)) ∧ Below w.heap.size w w' := by
  have HX := Lib.hid hx
  have hcap := hx.1.2.2.2
  clear hx
  rcases a with _ | ad
  · obtain rfl : cap = 0 := HX.out.2 rfl
    obtain rfl : L = 0 := by omega
    have h0 : P = [] := List.eq_nil_of_length_eq_zero HX.out.len
    have H0 := Lib.hid h0
    have he := eql_nil
    clear h0
    go_enter Tryz.func154, Tryz.ntmps154
    go_wp2
    go_ret
    rw [H0.out]
    exact ⟨_, rfl, World.ownsRow_nil _ _ _ _, Below.refl _ _⟩
  · obtain ⟨i5, hi, hz0, hz1, hz2⟩ := info_parts info5
    have HI := Lib.hid (And.intro hi (And.intro hz0 (And.intro hz1 hz2)))
    clear hi hz0 hz1 hz2
    have he := fun w => eql_some w ad L cap
    go_enter Tryz.func154, Tryz.ntmps154
    go_wp2_with ((with_reducible show wpList _ _ _ (⟨some 7, _, _, _, _, _⟩ :: _) _ _); refine wpList_append_bs _ rfl (.tmp 5) (.tmp 6) 22 rfl w.heap.size 5 i5 Tryz.underlying22 HI.out.1 HI.out.2.1 HI.out.2.2.1 HI.out.2.2.2 _ 0 [] rfl (own_empty w _) (some ad) L cap w.heap.size (iL P) rfl (HX.out.1.2.2.1.below ((Below.refl _ _).alloc (Nat.le_refl _) _)) HX.out.1.1 (by simp) (by omega) (by simp) ?_; intro v1 wc hown1 hg1; rw [Nat.zero_add, List.nil_append] at hown1; have hBc := ((Below.refl _ w).alloc (Nat.le_refl _) _).grown hg1 (by simp) (own_block_le _ _ _); have HO := Lib.hid hown1; have HB := Lib.hid hBc; obtain ⟨ac, cc, hv, _, _, _, _, _⟩ := own_form hown1; subst hv; clear hown1 hBc hg1)
    go_ret
    exact ⟨_, rfl, HO.out, HB.out⟩

end Go.Proofs.YtappfdbmhgifcaaGreatDoor
/- Contract of poly's Eval. -/
namespace Go.Proofs.YtappfdbmhgifcaaGreatDoor
open Go.ChangeShapes Go.WideShapes Go.ChangeAt Go.RowKit Go.Shelf GF
set_option linter.unusedVariables false
set_option maxRecDepth 100000
attribute [local go_sem] Oper.semAt_some

/-- What the rounds have reckoned. -/
def hor {L : Nat} (x : GF) (pre : List (It L)) : GF := pre.foldl (fun o p => o * x + p.2) 0
end Go.Proofs.YtappfdbmhgifcaaGreatDoor
/- Contract of poly's addTimes: so many times one row added to another from a place on. -/
namespace Go.Proofs.YtappfdbmhgifcaaGreatDoor
open Go.ChangeShapes Go.WideShapes Go.ChangeAt Go.RowKit Go.Shelf GF
set_option linter.unusedVariables false
set_option maxRecDepth 100000

/-- A row of numbers outside the block g. -/
def Pn (w : World) (g : Nat) (a : Option Addr) (P : List GF) : Prop :=
  0 < P.length → ∃ b off, a = some ⟨b, off, none⟩ ∧ b ≠ g ∧ ∀ i, i < P.length → w.cell? ⟨b, off + i, none⟩ = some (.int .u8 (toI (co P i)))
theorem Pn.grown {w w' : World} {g : Nat} {a : Option Addr} {P : List GF} (h : Pn w g a P) (hg : w.grownBy w' (some g)) : Pn w' g a P := fun h0 => by
  obtain ⟨b, off, e, hne, hc⟩ := h h0
  exact ⟨b, off, e, hne, fun i hi => hg.cell (hc i hi) (fun e => by injection e with e; exact hne e)⟩
theorem Pn.of {w : World} {B g : Nat} {a : Option Addr} {P : List GF} (h : Bs w B a (iL P)) (hB : B ≤ g) : Pn w g a P := fun h0 => by
  obtain ⟨b, off, e, hb, hc⟩ := h (by rwa [length_iL])
  exact ⟨b, off, e, by omega, fun i hi => by rw [hc i (by rwa [length_iL]), getD_iL]⟩
theorem Pn.at_ {w : World} {g : Nat} {a : Option Addr} {P : List GF} {k : Nat} (h : Pn w g a P) (hk : k < P.length) : ∃ b off, a = some ⟨b, off, none⟩ ∧ b ≠ g ∧ w.cell? ⟨b, off + k, none⟩ = some (.int .u8 (toI (co P k))) := by
  obtain ⟨b, off, e, hne, hc⟩ := h (by omega)
  exact ⟨b, off, e, hne, hc k hk⟩
/-- The field outside the block g. -/
theorem Fld.grown {w w' : World} {b g : Nat} (h : Fld w b) (hg : w.grownBy w' (some g)) (hne : b ≠ g) : Fld w' b := by
  exact ⟨Nat.lt_of_lt_of_le h.1 hg.size, fun j hj => hg.cell (h.2.1 j hj) (fun e => by injection e with e; exact hne e), fun j hj => hg.cell (h.2.2 j hj) (fun e => by injection e with e; exact hne e)⟩

end Go.Proofs.YtappfdbmhgifcaaGreatDoor
/- Contracts of poly's withRoot, Vanish. -/
namespace Go.Proofs.YtappfdbmhgifcaaGreatDoor
open Go.ChangeShapes Go.WideShapes Go.ChangeAt Go.RowKit Go.Shelf GF
set_option linter.unusedVariables false
set_option maxRecDepth 100000

theorem Pn.below {w w' : World} {B g : Nat} {a : Option Addr} {P : List GF} (h : Bs w B a (iL P)) (hb : Below B w w') (hB : B ≤ g) : Pn w' g a P := Pn.of (h.below hb) hB
theorem Pa.own2 {w : World} {base : Nat} {e : TypeId} {g n c : Nat} {P : List GF} (h : w.ownsRow base e 1 (.slice (some ⟨g, 0, none⟩) n c) n ((iL P).map (Value.int .u8))) : Pa w (some ⟨g, 0, none⟩) n c P := by
  obtain ⟨a', c', e, hp, _⟩ := Pa.own h
  cases e
  exact hp
theorem Pa.at_ {w : World} {a : Option Addr} {L cap : Nat} {P : List GF} {k : Nat} (h : Pa w a L cap P) (hk : k < L) : ∃ b off, a = some ⟨b, off, none⟩ ∧ b < w.heap.size ∧ w.cell? ⟨b, off + k, none⟩ = some (.int .u8 (toI (co P k))) := by
  have hl := h.len
  obtain ⟨b, off, e, hb, hc⟩ := h.1.2.2.1 (by rw [length_iL]; omega)
  exact ⟨b, off, e, hb, by rw [hc k (by rw [length_iL]; omega), getD_iL]⟩
end Go.Proofs.YtappfdbmhgifcaaGreatDoor
/- Contract of poly's checked: the places that are the same are seen by a map. -/
namespace Go.Proofs.YtappfdbmhgifcaaGreatDoor
open Go.ChangeShapes Go.WideShapes Go.ChangeAt Go.RowKit Go.Shelf GF Go.Maps
set_option linter.unusedVariables false
set_option maxRecDepth 100000

/-- The first k are no two the same. -/
def ApTo (X : List GF) (k : Nat) : Prop := ∀ i j, i < k → j < i → co X i ≠ co X j
theorem apTo_all (X : List GF) : ApTo X X.length ↔ Apart X := Iff.rfl
open Classical in
/-- What is wrong with places. -/
noncomputable def plErr (X : List GF) : Int := if X.length = 0 then 5 else if 255 < X.length then 4 else if Apart X then 0 else 6
theorem plErr_zero {X : List GF} : plErr X = 0 ↔ 0 < X.length ∧ X.length ≤ 255 ∧ Apart X := by
  unfold plErr
  by_cases h0 : X.length = 0
  · rw [if_pos h0]; exact ⟨fun h => absurd h (by decide), fun h => absurd h0 (by omega)⟩
  · rw [if_neg h0]
    by_cases h1 : 255 < X.length
    · rw [if_pos h1]; exact ⟨fun h => absurd h (by decide), fun h => absurd h1 (by omega)⟩
    · rw [if_neg h1]
      by_cases h2 : Apart X
      · rw [if_pos h2]; exact ⟨fun _ => ⟨by omega, by omega, h2⟩, fun _ => rfl⟩
      · rw [if_neg h2]; exact ⟨fun h => absurd h (by decide), fun h => absurd h.2.2 h2⟩
abbrev keyG (y : GF) : Lit := .int .u8 (toI y)
theorem keyG_wf (y : GF) : (keyG y).wf = true := by
  have := toI_bd y
  simp only [Lit.wf, IntKind.min, IntKind.max, IntKind.signed, IntKind.bits, Bool.and_eq_true]
  simp
  omega
theorem keyG_ne {x y : GF} (h : x ≠ y) : keyG x ≠ keyG y := fun e => by injection e with _ e; exact h (toI_inj e)
def SeenTo (X : List GF) (k : Nat) (D : DataW Unit) : Prop :=
  (∀ y, has D (keyG y) = true ↔ ∃ j, j < k ∧ co X j = y) ∧ size D ≤ k ∧ (size D = k ↔ ApTo X k)
theorem SeenTo.zero (X : List GF) : SeenTo X 0 (.map []) :=
  ⟨fun y => ⟨fun h => by simp [has_eq] at h, fun ⟨j, hj, _⟩ => by omega⟩, Nat.le_refl _, ⟨fun _ i j hi _ => by omega, fun _ => rfl⟩⟩
theorem SeenTo.next {X : List GF} {k : Nat} {D : DataW Unit} (h : SeenTo X k D) (hT : Tidy D) (d : DataW Unit) : SeenTo X (k + 1) (D.put (keyG (co X k)) d) := by
  obtain ⟨h1, h2, h3⟩ := h
  refine ⟨fun y => ?_, ?_, ?_⟩
  · by_cases e : y = co X k
    · subst e
      rw [has_put_same hT.isMap (by trivial) d]
      exact ⟨fun _ => ⟨k, by omega, rfl⟩, fun _ => rfl⟩
    · rw [has_put_other (keyG_ne e) d, h1]
      exact ⟨fun ⟨j, hj, he⟩ => ⟨j, by omega, he⟩, fun ⟨j, hj, he⟩ => ⟨j, by rcases Nat.lt_succ_iff_lt_or_eq.1 hj with h | h; exact h; subst h; exact absurd he.symm e, he⟩⟩
  · rw [size_put hT d]; split <;> omega
  · rw [size_put hT d]
    by_cases hh : has D (keyG (co X k)) = true
    · rw [if_pos hh]
      obtain ⟨j, hj, he⟩ := (h1 _).1 hh
      exact ⟨fun e => by omega, fun ha => absurd he.symm (ha k j (by omega) hj)⟩
    · rw [if_neg hh]
      constructor
      · intro e i j hi hj
        rcases Nat.lt_succ_iff_lt_or_eq.1 hi with hi | hi
        · exact (h3.1 (by omega)) i j hi hj
        · subst hi
          exact fun he => hh ((h1 _).2 ⟨j, hj, he.symm⟩)
      · intro ha
        have := h3.2 (fun i j hi hj => ha i j (by omega) hj)
        omega

theorem lawU : Keyed Tryz.prog 5 := int_keyed Tryz.underlying5
theorem zeroI (w : World) : (zeroValue 3).run Tryz.prog w = .ok (.int .i64 0) w := by kernel_rfl

set_option maxRecDepth 100000 in
set_option maxHeartbeats 1000000 in
theorem checked_any (p : Addr) (a : Option Addr) (L cap : Nat) (X : List GF) (w : World) (hx : Pa w a L cap X) :
    Calls Tryz.prog 112 #[.pointer (some p), .slice a L cap] w fun e w' => e = .returned (.int .i64 (plErr X)) ∧ Below w.heap.size w w' := by
  have hl := hx.len
  have hm : L ≤ 9223372036854775807 := by have := hx.1.2.2.2; unfold maxLen at this; omega
  rcases Nat.eq_zero_or_pos L with h0 | h0
  · have hp : plErr X = 5 := by unfold plErr; rw [if_pos (by omega)]
    rw [hp]
    clear hp hx
    subst h0
    go_enter Tryz.func112, Tryz.ntmps112
    go_wp2
    go_ret
    exact ⟨rfl, Below.refl _ _⟩
  have q0 : ((L : Int) == 0) = false := by rw [beq_eq_false_iff_ne]; omega
  by_cases h255 : 255 < L
  · have hp : plErr X = 4 := by unfold plErr; rw [if_neg (by omega), if_pos (by omega)]
    rw [hp]
    clear hp hx
    have q1 : (255 : Int) < (L : Int) := by omega
    go_enter Tryz.func112, Tryz.ntmps112
    go_wp2
    go_ret
    exact ⟨rfl, Below.refl _ _⟩
  have q1 : ¬ (255 : Int) < (L : Int) := by omega
  have HX := Lib.hid hx
  have HL := Lib.hid hl
  clear hx hl
  have hmm := @run_makeMap Tryz.prog
  go_enter Tryz.func112, Tryz.ntmps112
  go_wp2
  go_loopw [19] (fun i wr => ∃ (k : Nat) (D : DataW Unit), k ≤ L ∧ i = .int .i64 (k : Nat) ∧ wr.ownsMap Tryz.prog 5 (plainElem Tryz.prog 3) w.heap.size k D ∧ Hid (SeenTo X k D) ∧ Below w.heap.size w wr)
    (fun i _ => L - (intOf i).toNat)
  case atStart => exact ⟨0, .map [], Nat.zero_le _, rfl, World.ownsMap_made _ _ _ _, Lib.hid (SeenTo.zero X), (Below.refl _ _).alloc (Nat.le_refl _) _⟩
  case round =>
    obtain ⟨k, D, hk, rfl, hown, hS, hnx⟩ := hrel
    by_cases hlt : k < L
    · obtain ⟨bx, ox, rfl, hbx, hcx⟩ := (HX.out.on hnx).at_ hlt
      have q2 : (k : Int) < (L : Int) := by omega
      have q3 : (0 : Int) ≤ (k : Int) := by omega
      have hkey : keyOf Tryz.prog 5 (.int .u8 (toI (co X k))) = some (keyG (co X k)) := keyOf_int_mk Tryz.underlying5 (keyG_wf _)
      have HT := Lib.hid (hown.tidy lawU)
      go_wp2_with (first
        | (at_lookup; refine wpList_lookup_own_int _ rfl _ _ 173 rfl 5 3 .i64 lawU Tryz.underlying173 Tryz.underlying3 (zeroI _) w.heap.size k _ rfl hown _ _ rfl hkey ?_; intro c hat hwc)
        | (at_mapUpdate; refine wpList_mapUpdate_own _ rfl _ _ _ 173 rfl 5 3 lawU Tryz.underlying173 _ w.heap.size k _ rfl hown (by unfold maxLen; omega) _ _ _ rfl rfl hkey _ [] (plainElem_int Tryz.underlying3 (wrap64_wf _)) ?_; intro w1 hown1 hgrow1))
      go_roundw
      case rel => exact ⟨k + 1, _, by omega, by go_num, hown1, Lib.hid (hS.out.next HT.out _), hnx.grown hgrow1 hnx.size (fun j hj => by cases hj; exact Nat.le_refl _)⟩
      case measure => simp [intOf]; omega
    · obtain rfl : k = L := by omega
      have hsz := hS.out.2
      have HS := Lib.hid hS.out.2.2
      by_cases hap : Apart X
      · have hp : plErr X = 0 := plErr_zero.2 ⟨by rw [HL.out]; omega, by rw [HL.out]; omega, hap⟩
        have he : size D = k := HS.out.2 (by rw [← HL.out]; exact hap)
        have HP := Lib.hid hp
        clear hp hsz
        have q5 : ¬ ((size D : Nat) : Int) < (k : Int) := by omega
        go_wp2_with (at_len; refine wpList_len_own _ rfl _ 173 rfl 5 3 Tryz.underlying173 _ w.heap.size k _ rfl hown ?_)
        go_ret
        exact ⟨ret_int HP.out.symm, hnx⟩
      · have hp : plErr X = 6 := by unfold plErr; rw [if_neg (by rw [HL.out]; omega), if_neg (by rw [HL.out]; omega), if_neg hap]
        have he : ((size D : Nat) : Int) < (k : Int) := by
          have h1 := hS.out.2.1
          rcases Nat.lt_or_ge (size D) k with h | h
          · omega
          · exact absurd (by rw [← apTo_all, HL.out]; exact HS.out.1 (by omega)) hap
        have HP := Lib.hid hp
        clear hp hsz
        go_wp2_with (at_len; refine wpList_len_own _ rfl _ 173 rfl 5 3 Tryz.underlying173 _ w.heap.size k _ rfl hown ?_)
        go_ret
        exact ⟨ret_int HP.out.symm, hnx⟩
end Go.Proofs.YtappfdbmhgifcaaGreatDoor
/- Contracts of poly's weight, Weights. -/
namespace Go.Proofs.YtappfdbmhgifcaaGreatDoor
open Go.ChangeShapes Go.WideShapes Go.ChangeAt Go.RowKit Go.Shelf GF
set_option linter.unusedVariables false
set_option maxRecDepth 100000

theorem GF.inv_prod {a b : GF} (ha : a ≠ 0) (hb : b ≠ 0) : GF.inv (a * b) = GF.inv a * GF.inv b := by
  have h : (a * b) * (GF.inv a * GF.inv b) = 1 := by
    rw [show (a * b) * (GF.inv a * GF.inv b) = (a * GF.inv a) * (b * GF.inv b) by
      rw [GF.mul_assoc, GF.mul_left_comm b, ← GF.mul_assoc]]
    rw [GF.mul_inv ha, GF.mul_inv hb, GF.mul_one]
  have h2 := GF.inv_mul (GF.mul_ne ha hb)
  rw [← GF.mul_one (GF.inv (a * b)), ← h, ← GF.mul_assoc, h2, GF.one_mul]
/-- The product of x less each of the first k places but the i-th. -/
def topA (X : List GF) (i : Nat) (x : GF) : Nat → GF
  | 0 => 1
  | k + 1 => if k = i then topA X i x k else topA X i x k * (x + co X k)
theorem bot_ne {X : List GF} (h : Apart X) {i : Nat} (hi : i < X.length) : ∀ k, k ≤ X.length → topA X i (co X i) k ≠ 0 := by
  intro k
  induction k with
  | zero => intro _; exact GF.one_ne
  | succ k ih =>
    intro hk
    simp only [topA]
    by_cases e : k = i
    · rw [if_pos e]; exact ih (by omega)
    · rw [if_neg e]
      exact GF.mul_ne (ih (by omega)) (fun z => h.ne hi (by omega) (Ne.symm e) (GF.add_eq_zero.1 z))
theorem wtA_top {X : List GF} (h : Apart X) {i : Nat} (hi : i < X.length) (x : GF) : ∀ k, k ≤ X.length → topA X i x k * GF.inv (topA X i (co X i) k) = wtA X i x k := by
  intro k
  induction k with
  | zero => intro _; simp only [topA, wtA]; rw [GF.inv_one, GF.one_mul]
  | succ k ih =>
    intro hk
    simp only [topA, wtA]
    by_cases e : k = i
    · rw [if_pos e, if_pos e, if_pos e]; exact ih (by omega)
    · rw [if_neg e, if_neg e, if_neg e, ← ih (by omega), GF.inv_prod (bot_ne h hi k (by omega)) (fun z => h.ne hi (by omega) (Ne.symm e) (GF.add_eq_zero.1 z)), GF.mul_assoc, GF.mul_left_comm (x + co X k), ← GF.mul_assoc]

theorem Pa.drewN {w : World} {a : Option Addr} {L cap : Nat} {P : List GF} (h : Pa w a L cap P) (n : Nat) : Pa (w.drewN n) a L cap P := h

set_option maxHeartbeats 1000000 in
theorem weight_any (b : Nat) (a : Option Addr) (L cap i : Nat) (X : List GF) (x : GF) (w : World) (hf : Fld w b) (hx : Pa w a L cap X) (hi : i < L) (hA : Apart X) (hL : L ≤ 255) :
    Calls Tryz.prog 113 #[.pointer (some ⟨b, 0, none⟩), .slice a L cap, .int .i64 (i : Nat), .int .u8 (toI x)] w fun e w' => e = .returned (.int .u8 (toI (wt X i x))) ∧ w = w' := by
  have hl := hx.len
  obtain ⟨bi, oi, rfl, hbi, hci⟩ := hx.at_ hi
  have hcell : ∀ k, k < L → w.cell? ⟨bi, oi + k, none⟩ = some (.int .u8 (toI (co X k))) := fun k hk => by
    obtain ⟨b', o', e, _, hc⟩ := hx.at_ hk
    cases e
    exact hc
  have HCell := Lib.hid hcell
  have hne := bot_ne hA (i := i) (by omega) L (by omega)
  have hres := wtA_top hA (i := i) (by omega) x L (by omega)
  have HNE := Lib.hid hne
  have HRES := Lib.hid hres
  have HL := Lib.hid hl
  have hqi : (i : Int) < (L : Int) := by omega
  have hqi0 : (0 : Int) ≤ (i : Int) := by omega
  clear hx hl hcell hA hne hres
  go_enter Tryz.func113, Tryz.ntmps113
  go_wp2
  go_loopw [17, 9, 10] (fun j t o wr => ∃ k : Nat, k ≤ L ∧ j = .int .i64 (k : Nat) ∧ t = .int .u8 (toI (topA X i x k)) ∧ o = .int .u8 (toI (topA X i (co X i) k)) ∧ wr = w)
    (fun j _ _ _ => L - (intOf j).toNat)
  case atStart => exact ⟨0, Nat.zero_le _, rfl, rfl, rfl, rfl⟩
  case round =>
    obtain ⟨k, hk, rfl, rfl, rfl, rfl⟩ := hrel
    by_cases hlt : k < L
    · have hck := HCell.out k hlt
      have q2 : (k : Int) < (L : Int) := by omega
      have q3 : (0 : Int) ≤ (k : Int) := by omega
      by_cases e : k = i
      · have q4 : ((k : Int) != (i : Int)) = false := by rw [e]; simp
        have ht : topA X i x (k + 1) = topA X i x k := by simp only [topA]; rw [if_pos e]
        have hb : topA X i (co X i) (k + 1) = topA X i (co X i) k := by simp only [topA]; rw [if_pos e]
        have HT := Lib.hid ht; have HB := Lib.hid hb
        clear ht hb e
        go_wp2
        go_roundw
        case rel => exact ⟨k + 1, by omega, by go_num, by rw [HT.out], by rw [HB.out], by trivial⟩
        case measure => simp [intOf]; omega
      · have q4 : ((k : Int) != (i : Int)) = true := by rw [bne_iff_ne]; omega
        have ht : topA X i x (k + 1) = topA X i x k * (x + co X k) := by simp only [topA]; rw [if_neg e]
        have hb : topA X i (co X i) (k + 1) = topA X i (co X i) k * (co X i + co X k) := by simp only [topA]; rw [if_neg e]
        have HT := Lib.hid ht; have HB := Lib.hid hb
        clear ht hb e
        go_wp2_with (first
          | (go_at_call 104; refine (mul_G _ _ _ _ hf).mono ?_; rintro e w' ⟨rfl, rfl⟩)
          | (go_at_call 56; refine (add_G _ _ _).mono ?_; rintro e w' ⟨rfl, rfl⟩))
        go_roundw
        case rel => exact ⟨k + 1, by omega, by go_num, by rw [HT.out], by rw [HB.out], by trivial⟩
        case measure => simp [intOf]; omega
    · obtain rfl : L = k := by omega
      go_wp2_with (go_at_call 134; refine (div_G _ _ _ _ hf HNE.out).mono ?_; rintro e w' ⟨rfl, rfl⟩)
      go_ret
      refine ⟨?_, rfl⟩
      rw [HRES.out]; unfold wt; rw [HL.out]; rfl

/-- All weights. -/
def wts (X : List GF) (x : GF) : List GF := (List.range X.length).map fun i => wt X i x
theorem length_wts (X : List GF) (x : GF) : (wts X x).length = X.length := by simp [wts]
theorem co_wts {X : List GF} (x : GF) {i : Nat} (hi : i < X.length) : co (wts X x) i = wt X i x := by
  simp only [wts, co, List.getD_eq_getElem?_getD, List.getElem?_map, List.getElem?_range hi, Option.map_some, Option.getD_some]

set_option maxHeartbeats 1000000 in
theorem weights_any (b : Nat) (a : Option Addr) (L cap : Nat) (X : List GF) (x : GF) (w : World) (hf : Fld w b) (hx : Pa w a L cap X) (hE : plErr X = 0) :
    Calls Tryz.prog 94 #[.pointer (some ⟨b, 0, none⟩), .slice a L cap, .int .u8 (toI x)] w fun e w' => ∃ g, e = .returned (.tuple #[.slice (some ⟨g, 0, none⟩) L L, .int .i64 0]) ∧
      w'.ownsRow w.heap.size 5 1 (.slice (some ⟨g, 0, none⟩) L L) L ((iL (wts X x)).map (Value.int .u8)) ∧ Below w.heap.size w w' := by
  have hl := hx.len
  obtain ⟨h0, h255, hA⟩ := plErr_zero.1 hE
  rw [hl] at h0 h255
  have HX := Lib.hid hx
  have HF := Lib.hid hf
  have HL := Lib.hid hl
  have HE := Lib.hid hE
  have HA := Lib.hid hA
  have hcap := hx.1.2.2.2
  have hW : (iL (wts X x)).length = L := by rw [length_iL, length_wts, hl]
  have HW := Lib.hid hW
  have hmk := run_make_row' (P := Tryz.prog) 22 5 (.int .u8 0) 1 Tryz.underlying22 info5 rfl .i64 .i64 L (by omega) (by omega)
  clear hx hf hl hE hA hW
  go_enter Tryz.func94, Tryz.ntmps94
  go_wp2_with (go_at_call 112; refine (checked_any _ _ _ _ X _ HX.out).mono ?_; rintro e w1 ⟨rfl, hb1⟩; have q5 : (plErr X != 0) = false := (by rw [HE.out]; rfl))
  have ho1 := own_made (w := w1) (e := 5) (n := L) (by unfold maxLen; omega)
  rw [show List.replicate L (0 : Int) = part (iL (wts X x)) 0 by rw [part_zero, HW.out]] at ho1
  have HO1 := Lib.hid (own_base ho1 hb1.size)
  clear ho1
  have hb2 := hb1.alloc hb1.size (.cells (madeCells #[Value.int .u8 0] L) 5)
  go_loopw [22] (fun j wr => ∃ k : Nat, k ≤ L ∧ j = .int .i64 (k : Nat) ∧ Hid (wr.ownsRow w.heap.size 5 1 (.slice (some ⟨w1.heap.size, 0, none⟩) L L) L ((part (iL (wts X x)) k).map (Value.int .u8))) ∧ Hid (Below w.heap.size w wr))
    (fun j _ => L - (intOf j).toNat)
  case atStart => exact ⟨0, Nat.zero_le _, rfl, HO1, Lib.hid hb2⟩
  case round =>
    obtain ⟨k, hk, rfl, hR, hB⟩ := hrel
    by_cases hlt : k < L
    · have q2 : (k : Int) < (L : Int) := by omega
      have q3 : (0 : Int) ≤ (k : Int) := by omega
      have hst := part_set_own HW.out hlt hR.out
      have hcg := own_cells hR.out k hlt
      rw [Nat.zero_add] at hcg
      have hfz := hR.out.frozenAt k
      rw [getD_iL, co_wts x (by rw [HL.out]; exact hlt)] at hst
      have HS := Lib.hid hst
      have HB2 := Lib.hid (hB.out.setCell (p := ⟨w1.heap.size, k, none⟩) hb1.size (.int .u8 (toI (wt X k x))))
      clear hst
      obtain ⟨Z, hZ⟩ : ∃ Z, Z = (part (iL (wts X x)) k).getD k 0 := ⟨_, rfl⟩
      rw [← hZ] at hcg
      clear hZ
      go_wp2_with (go_at_call 113; refine (weight_any b _ L cap k X x _ (HF.out.below hB.out) (HX.out.on hB.out) hlt HA.out h255).mono ?_; rintro e w' ⟨rfl, rfl⟩)
      go_roundw
      case rel => exact ⟨k + 1, by omega, by go_num, Lib.hid HS.out, Lib.hid HB2.out⟩
      case measure => simp [intOf]; omega
    · obtain rfl : k = L := by omega
      have he : part (iL (wts X x)) k = iL (wts X x) := by have := part_all (iL (wts X x)); rwa [HW.out] at this
      rw [he] at hR
      go_wp2
      go_ret2
      exact ⟨_, rfl, hR.out, hB.out⟩
end Go.Proofs.YtappfdbmhgifcaaGreatDoor
/- Contract of poly's Through (Newton's way). -/
namespace Go.Proofs.YtappfdbmhgifcaaGreatDoor
open Go.ChangeShapes Go.WideShapes Go.ChangeAt Go.RowKit Go.Shelf GF
set_option linter.unusedVariables false
set_option maxRecDepth 100000

theorem own_on {w w' : World} {base B : Nat} {e : TypeId} {g n c : Nat} {xs : List Value} (h : w.ownsRow base e 1 (.slice (some ⟨g, 0, none⟩) n c) n xs) (hb : Below B w w') (hg : g < B) : w'.ownsRow base e 1 (.slice (some ⟨g, 0, none⟩) n c) n xs := by
  refine ⟨h.1, ?_⟩
  rcases h.2 with h2 | ⟨g', cap, cur, h1, h2, h3, h4⟩
  · exact .inl h2
  · cases h1
    exact .inr ⟨g, _, cur, rfl, h2, (hb.block g hg).trans h3, h4⟩
end Go.Proofs.YtappfdbmhgifcaaGreatDoor
/- Poly's products, sums, the document's own, the laws' lives: five texts in one. -/
/- Contract of poly's Mul. -/
namespace Go.Proofs.YtappfdbmhgifcaaGreatDoor
open Go.ChangeShapes Go.WideShapes Go.ChangeAt Go.RowKit Go.Shelf GF
set_option linter.unusedVariables false
set_option maxRecDepth 100000

end Go.Proofs.YtappfdbmhgifcaaGreatDoor
/- Contract of poly's Add; the laws' lives. -/
namespace Go.Proofs.YtappfdbmhgifcaaGreatDoor
open Go.ChangeShapes Go.WideShapes Go.ChangeAt Go.RowKit Go.Shelf GF
set_option linter.unusedVariables false
set_option maxRecDepth 100000

/-- P, and noughts behind it. -/
def padL (P : List GF) (M : Nat) : List GF := P ++ List.replicate (M - P.length) 0
theorem length_padL {P : List GF} {M : Nat} (h : P.length ≤ M) : (padL P M).length = M := by simp [padL]; omega
theorem co_padL (P : List GF) (M k : Nat) : co (padL P M) k = co P k := by
  unfold padL
  by_cases h : k < P.length
  · simp [co, List.getD_eq_getElem?_getD, List.getElem?_append_left h]
  · rw [co_ge (l := P) (by omega)]
    have : co (P ++ List.replicate (M - P.length) 0) k = co (List.replicate (M - P.length) 0) (k - P.length) := by
      simp [co, List.getD_eq_getElem?_getD, List.getElem?_append_right (Nat.le_of_not_lt h)]
    rw [this, co_replicate]
theorem pad_row {w1 : World} {g M : Nat} {P : List GF} (hg : w1.heap[g]? = some (.cells (splice (madeCells #[Value.int .u8 0] M).toList 0 ((iL P).map (Value.int .u8))).toArray 5 (0, 0))) (hl : P.length ≤ M) (hm : M ≤ 140737488355328) :
    w1.ownsRow g 5 1 (.slice (some ⟨g, 0, none⟩) M M) M ((iL (padL P M)).map (Value.int .u8)) := by
  rw [splice_all, replicate_cells] at hg
  have e : ((iL P).map (Value.int .u8)) ++ ((List.replicate M (0 : Int)).map (Value.int .u8)).drop ((iL P).map (Value.int .u8)).length = (iL (padL P M)).map (Value.int .u8) := by
    simp [padL, iL, List.map_replicate, toI_zero]
  rw [e] at hg
  have hL : (iL (padL P M)).length = M := by rw [length_iL, length_padL hl]
  refine ⟨by simp [hL], .inr ⟨g, M, _, rfl, Nat.le_refl _, hg, Nat.le_refl _, by unfold maxLen; omega, by simp [hL], ?_⟩⟩
  rw [List.take_of_length_le (by simp [hL])]
end Go.Proofs.YtappfdbmhgifcaaGreatDoor
/- Contracts of the document's own Trim, Eval, Mul. -/
namespace Go.Proofs.YtappfdbmhgifcaaGreatDoor
open Go.ChangeShapes Go.WideShapes Go.ChangeAt Go.RowKit Go.Shelf GF
set_option linter.unusedVariables false
set_option maxRecDepth 100000

/-- x to the k-th; the first k terms of the value. -/
def pwA (x : GF) : Nat → GF
  | 0 => 1
  | k + 1 => pwA x k * x
def evA (P : List GF) (x : GF) : Nat → GF
  | 0 => 0
  | k + 1 => evA P x k + co P k * pwA x k
theorem evA_drop (P : List GF) (x : GF) : ∀ k, evA P x k + pwA x k * ev (P.drop k) x = ev P x := by
  intro k
  induction k with
  | zero => simp only [evA, pwA, List.drop_zero]; rw [GF.zero_add, GF.one_mul]
  | succ k ih =>
    rw [← ih, ev_drop P k x]
    simp only [evA, pwA]
    rw [GF.mul_add, GF.add_assoc, GF.mul_comm (co P k), GF.mul_assoc]
theorem evA_all (P : List GF) (x : GF) : evA P x P.length = ev P x := by
  have := evA_drop P x P.length
  rw [List.drop_length] at this
  rw [← this]
  simp only [ev]
  rw [GF.mul_zero, GF.add_zero]
theorem bits_xor_G (x y : GF) : bits .xor .u8 (toI x) (toI y) = toI (x + y) :=
  u8_xor _ _ (toI_bd x).1 (toI_bd x).2 (toI_bd y).1 (toI_bd y).2

set_option maxHeartbeats 1000000 in
theorem reval_any (a : Option Addr) (L cap : Nat) (P : List GF) (x : GF) (w : World) (hx : Pa w a L cap P) (hL : L ≤ 140737488355328) :
    Calls Tryz.prog 61 #[.slice a L cap, .int .u8 (toI x)] w fun e w' => e = .returned (.int .u8 (toI (ev P x))) ∧ w = w' := by
  have hl := hx.len
  have HX := Lib.hid hx
  have hcap := hx.1.2.2.2
  have HE := Lib.hid (show evA P x L = ev P x by rw [← hl]; exact evA_all P x)
  clear hx hl
  go_enter Tryz.func61, Tryz.ntmps61
  go_wp2
  go_loopw [11, 5, 6] (fun j o p wr => ∃ k : Nat, k ≤ L ∧ j = .int .i64 (k : Nat) ∧ o = .int .u8 (toI (evA P x k)) ∧ p = .int .u8 (toI (pwA x k)) ∧ wr = w)
    (fun j _ _ _ => L - (intOf j).toNat)
  case atStart => exact ⟨0, Nat.zero_le _, rfl, rfl, rfl, rfl⟩
  case round =>
    obtain ⟨k, hk, rfl, rfl, rfl, rfl⟩ := hrel
    by_cases hlt : k < L
    · obtain ⟨bx, ox, rfl, hbx, hcx⟩ := HX.out.at_ hlt
      have q2 : (k : Int) < (L : Int) := by omega
      have q3 : (0 : Int) ≤ (k : Int) := by omega
      have ho : evA P x (k + 1) = evA P x k + co P k * pwA x k := rfl
      have hp : pwA x (k + 1) = pwA x k * x := rfl
      have HO := Lib.hid ho; have HP := Lib.hid hp
      clear ho hp
      have hbt := fun (p q : GF) => bits_xor_G p q
      go_wp2_with (go_at_call 88; refine (rmul_G _ _ _).mono ?_; rintro e w' ⟨rfl, rfl⟩)
      go_roundw
      case rel => exact ⟨k + 1, by omega, by go_num, by rw [HO.out], by rw [HP.out], by trivial⟩
      case measure => simp [intOf]; omega
    · obtain rfl : L = k := by omega
      go_wp2
      go_ret
      exact ⟨by rw [← HE.out]; rfl, rfl⟩

end Go.Proofs.YtappfdbmhgifcaaGreatDoor
/- The laws' lives; small facts for the laws' walks. -/
namespace Go.Proofs.YtappfdbmhgifcaaGreatDoor
open Go.ChangeShapes Go.WideShapes Go.ChangeAt Go.RowKit Go.Shelf GF
set_option linter.unusedVariables false
set_option maxRecDepth 100000

/-- A polynomial made a string. -/
theorem Pa.str {w : World} {a : Option Addr} {n c : Nat} {P : List GF} (h : Pa w a n c P) : (convert 22 9 (.slice a n c)).run Tryz.prog w = .ok (.string (strOfNums (iL P))) w :=
  h.1.2.2.1.str h.1.1 Tryz.underlying22 Tryz.underlying5 Tryz.underlying9
end Go.Proofs.YtappfdbmhgifcaaGreatDoor
/- The walk of PolyRules. -/
namespace Go.Proofs.YtappfdbmhgifcaaGreatDoor
open Go.ChangeShapes Go.WideShapes Go.ChangeAt Go.RowKit Go.Shelf GF
set_option linter.unusedVariables false
set_option maxRecDepth 100000

theorem Pa.bd {w : World} {a : Option Addr} {L cap : Nat} {P : List GF} (h : Pa w a L cap P) : L ≤ cap ∧ cap ≤ 9223372036854775807 := ⟨h.1.2.2.2.1, by have := h.1.2.2.2.2; unfold maxLen at this; omega⟩
/-- What a row reads as, as a string, in whatever world comes after. -/
theorem Pa.str_on {w0 : World} {a : Option Addr} {n c : Nat} {P Q : List GF} (h : Pa w0 a n c P) (e : P = Q) : ∀ W, Below w0.heap.size w0 W → (convert 22 9 (.slice a n c)).run Tryz.prog W = .ok (.string (strOfNums (iL Q))) W := fun W hW => by
  subst e
  exact (h.on hW).str
end Go.Proofs.YtappfdbmhgifcaaGreatDoor
