/- Plain facts on polynomials over the field of 256 numbers: lists of coefficients, the constant first; values, sums, products, roots, the one through given places. No program is named here. -/
import Derived.Test.YtmhknggjpggagaaFmath
namespace Go.Proofs.Ytmhknggjpggagaa

/-- A number of the field. -/
def GF : Type := { n : Nat // n < 256 }
namespace GF
instance : Add GF := ⟨fun a b => ⟨a.1 ^^^ b.1, xor_lt a.2 b.2⟩⟩
instance : Mul GF := ⟨fun a b => ⟨gm a.1 b.1, gm_lt _ _⟩⟩
instance : OfNat GF 0 := ⟨⟨0, by decide⟩⟩
instance : OfNat GF 1 := ⟨⟨1, by decide⟩⟩
instance : DecidableEq GF := fun a b => decidable_of_iff (a.1 = b.1) ⟨Subtype.ext, fun h => by rw [h]⟩
instance : Inhabited GF := ⟨0⟩
def inv (a : GF) : GF := ⟨Go.Proofs.Ytmhknggjpggagaa.inv a.1, inv_lt a.1⟩
theorem ext {a b : GF} (h : a.1 = b.1) : a = b := Subtype.ext h
theorem val_add (a b : GF) : (a + b).1 = a.1 ^^^ b.1 := rfl
theorem val_mul (a b : GF) : (a * b).1 = gm a.1 b.1 := rfl
theorem val_zero : (0 : GF).1 = 0 := rfl
theorem val_one : (1 : GF).1 = 1 := rfl
theorem add_comm (a b : GF) : a + b = b + a := ext (Nat.xor_comm _ _)
theorem add_assoc (a b c : GF) : a + b + c = a + (b + c) := ext (Nat.xor_assoc _ _ _)
theorem add_left_comm (a b c : GF) : a + (b + c) = b + (a + c) := by rw [← add_assoc, add_comm a b, add_assoc]
theorem add_zero (a : GF) : a + 0 = a := ext (Nat.xor_zero _)
theorem zero_add (a : GF) : 0 + a = a := ext (Nat.zero_xor _)
theorem add_self (a : GF) : a + a = 0 := ext (Nat.xor_self _)
theorem add_self_left (a b : GF) : a + (a + b) = b := by rw [← add_assoc, add_self, zero_add]
theorem mul_comm (a b : GF) : a * b = b * a := ext (gm_comm _ _)
theorem mul_assoc (a b c : GF) : a * b * c = a * (b * c) := ext (gm_assoc _ _ _).symm
theorem mul_left_comm (a b c : GF) : a * (b * c) = b * (a * c) := by rw [← mul_assoc, mul_comm a b, mul_assoc]
theorem mul_one (a : GF) : a * 1 = a := ext (gm_one a.2)
theorem one_mul (a : GF) : 1 * a = a := by rw [mul_comm, mul_one]
theorem mul_zero (a : GF) : a * 0 = 0 := ext (gm_zero a.1)
theorem zero_mul (a : GF) : 0 * a = 0 := ext (zero_gm a.1)
theorem mul_add (a b c : GF) : a * (b + c) = a * b + a * c := ext (gm_add a.2 b.2 c.2)
theorem add_mul (a b c : GF) : (a + b) * c = a * c + b * c := by rw [mul_comm, mul_add, mul_comm c a, mul_comm c b]
theorem val_ne {a : GF} (h : a ≠ 0) : a.1 ≠ 0 := fun e => h (ext e)
theorem mul_inv {a : GF} (h : a ≠ 0) : a * inv a = 1 := ext (gm_inv a.2 (val_ne h))
theorem inv_mul {a : GF} (h : a ≠ 0) : inv a * a = 1 := by rw [mul_comm, mul_inv h]
theorem mul_eq_zero {a b : GF} (h : a * b = 0) : a = 0 ∨ b = 0 := by
  by_cases h0 : a = 0
  · exact .inl h0
  · right
    have : inv a * (a * b) = 0 := by rw [h, mul_zero]
    rw [← mul_assoc, inv_mul h0, one_mul] at this
    exact this
theorem mul_ne {a b : GF} (h0 : a ≠ 0) (h1 : b ≠ 0) : a * b ≠ 0 := fun h => (mul_eq_zero h).elim h0 h1
theorem add_eq_zero {a b : GF} : a + b = 0 ↔ a = b := by
  constructor
  · intro h
    have : b + (a + b) = b := by rw [h, add_zero]
    rw [add_comm a b, add_self_left] at this
    exact this
  · intro h; rw [h, add_self]
theorem one_ne : (1 : GF) ≠ 0 := fun h => absurd (congrArg Subtype.val h) (by decide)
theorem inv_one : inv 1 = 1 := by have := mul_inv one_ne; rw [one_mul] at this; exact this
theorem inv_ne {a : GF} (h : a ≠ 0) : inv a ≠ 0 := fun e => by
  have := mul_inv h
  rw [e, mul_zero] at this
  exact one_ne this.symm
theorem add_add_add (a b c d : GF) : (a + b) + (c + d) = (a + c) + (b + d) := by
  rw [add_assoc, add_assoc, add_left_comm b c d]
end GF
open GF

/-! Sums of so many. -/
def sm : Nat → (Nat → GF) → GF
  | 0, _ => 0
  | n + 1, f => sm n f + f n
theorem sm_congr {n : Nat} {f g : Nat → GF} (h : ∀ i, i < n → f i = g i) : sm n f = sm n g := by
  induction n with
  | zero => rfl
  | succ n ih => simp only [sm]; rw [ih (fun i hi => h i (by omega)), h n (by omega)]
theorem sm_zero {n : Nat} {f : Nat → GF} (h : ∀ i, i < n → f i = 0) : sm n f = 0 := by
  induction n with
  | zero => rfl
  | succ n ih => simp only [sm]; rw [ih (fun i hi => h i (by omega)), h n (by omega), GF.add_zero]
theorem sm_add (n : Nat) (f g : Nat → GF) : sm n (fun i => f i + g i) = sm n f + sm n g := by
  induction n with
  | zero => exact (GF.add_zero 0).symm
  | succ n ih => simp only [sm]; rw [ih, add_add_add]
theorem sm_mul (n : Nat) (c : GF) (f : Nat → GF) : sm n (fun i => c * f i) = c * sm n f := by
  induction n with
  | zero => exact (GF.mul_zero c).symm
  | succ n ih => simp only [sm]; rw [ih, GF.mul_add]
theorem sm_one {n j : Nat} {f : Nat → GF} (hj : j < n) (h : ∀ i, i < n → i ≠ j → f i = 0) : sm n f = f j := by
  induction n with
  | zero => omega
  | succ n ih =>
    simp only [sm]
    by_cases e : j = n
    · subst e
      rw [sm_zero (fun i hi => h i (by omega) (by omega)), GF.zero_add]
    · rw [ih (by omega) (fun i hi hne => h i (by omega) hne), h n (by omega) (by omega), GF.add_zero]
theorem sm_head (n : Nat) (f : Nat → GF) : sm (n + 1) f = f 0 + sm n (fun i => f (i + 1)) := by
  induction n with
  | zero => simp only [sm]; rw [GF.zero_add, GF.add_zero]
  | succ n ih =>
    rw [show sm (n + 1 + 1) f = sm (n + 1) f + f (n + 1) from rfl, ih]
    simp only [sm]
    rw [GF.add_assoc]
theorem sm_more {n m : Nat} {f : Nat → GF} (hnm : n ≤ m) (h : ∀ i, n ≤ i → i < m → f i = 0) : sm m f = sm n f := by
  induction m with
  | zero => have : n = 0 := by omega
            rw [this]
  | succ m ih =>
    by_cases e : n = m + 1
    · rw [e]
    · simp only [sm]
      rw [ih (by omega) (fun i h1 h2 => h i h1 (by omega)), h m (by omega) (by omega), GF.add_zero]

/-! Polynomials: lists of coefficients, the constant first. -/
/-- The coefficient at a place, 0 beyond the list. -/
def co (l : List GF) (k : Nat) : GF := l.getD k 0
theorem co_nil (k : Nat) : co [] k = 0 := by simp [co]
theorem co_cons_zero (c : GF) (l : List GF) : co (c :: l) 0 = c := by simp [co]
theorem co_cons_succ (c : GF) (l : List GF) (k : Nat) : co (c :: l) (k + 1) = co l k := by simp [co]
theorem co_ge {l : List GF} {k : Nat} (h : l.length ≤ k) : co l k = 0 := by simp [co, List.getD_eq_getElem?_getD, List.getElem?_eq_none h]
theorem co_lt {l : List GF} {k : Nat} (h : k < l.length) : co l k = l[k] := by simp [co, List.getD_eq_getElem?_getD, List.getElem?_eq_getElem h]
theorem co_drop (l : List GF) (n k : Nat) : co (l.drop n) k = co l (n + k) := by simp [co, List.getD_eq_getElem?_getD]
theorem ext_co {l m : List GF} (h : l.length = m.length) (hk : ∀ k, k < l.length → co l k = co m k) : l = m := by
  apply List.ext_getElem h
  intro i h1 h2
  have := hk i h1
  rwa [co_lt h1, co_lt h2] at this
/-- The value at x. -/
def ev : List GF → GF → GF
  | [], _ => 0
  | c :: l, x => c + x * ev l x
theorem ev_zero {l : List GF} (h : ∀ k, co l k = 0) (x : GF) : ev l x = 0 := by
  induction l with
  | nil => rfl
  | cons c l ih =>
    have h0 := h 0
    rw [co_cons_zero] at h0
    simp only [ev]
    rw [h0, ih (fun k => by have := h (k + 1); rwa [co_cons_succ] at this), GF.mul_zero, GF.add_zero]
theorem ev_congr {l m : List GF} (h : ∀ k, co l k = co m k) (x : GF) : ev l x = ev m x := by
  induction l generalizing m with
  | nil => exact (ev_zero (fun k => by rw [← h k, co_nil]) x).symm
  | cons c l ih =>
    cases m with
    | nil => exact ev_zero (fun k => by rw [h k, co_nil]) x
    | cons d m =>
      have h0 := h 0
      rw [co_cons_zero, co_cons_zero] at h0
      simp only [ev]
      rw [h0, ih (m := m) (fun k => by have := h (k + 1); rwa [co_cons_succ, co_cons_succ] at this)]
theorem ev_drop (l : List GF) (n : Nat) (x : GF) : ev (l.drop n) x = co l n + x * ev (l.drop (n + 1)) x := by
  induction n generalizing l with
  | zero =>
    cases l with
    | nil => simp only [List.drop_nil, ev]; rw [co_nil, GF.mul_zero, GF.add_zero]
    | cons c l => rfl
  | succ n ih =>
    cases l with
    | nil => simp only [List.drop_nil, ev]; rw [co_nil, GF.mul_zero, GF.add_zero]
    | cons c l => rw [List.drop_succ_cons, List.drop_succ_cons, co_cons_succ]; exact ih l
/-- The sum. -/
def addL : List GF → List GF → List GF
  | [], q => q
  | a :: p, [] => a :: p
  | a :: p, b :: q => (a + b) :: addL p q
theorem co_addL : ∀ (p q : List GF) (k : Nat), co (addL p q) k = co p k + co q k
  | [], q, k => by rw [show addL [] q = q by cases q <;> rfl, co_nil, GF.zero_add]
  | a :: p, [], k => by rw [co_nil, GF.add_zero]; rfl
  | a :: p, b :: q, 0 => by simp only [addL, co_cons_zero]
  | a :: p, b :: q, k + 1 => by simp only [addL, co_cons_succ]; exact co_addL p q k
theorem length_addL : ∀ p q : List GF, (addL p q).length = max p.length q.length
  | [], q => by rw [show addL [] q = q by cases q <;> rfl]; simp
  | a :: p, [] => by simp [addL]
  | a :: p, b :: q => by simp only [addL, List.length_cons, length_addL p q]; omega
theorem ev_addL : ∀ (p q : List GF) (x : GF), ev (addL p q) x = ev p x + ev q x
  | [], q, x => by rw [show addL [] q = q by cases q <;> rfl]; exact (GF.zero_add _).symm
  | a :: p, [], x => (GF.add_zero _).symm
  | a :: p, b :: q, x => by simp only [addL, ev]; rw [ev_addL p q x, GF.mul_add, add_add_add]
/-- So many times. -/
def smulL (c : GF) (l : List GF) : List GF := l.map (c * ·)
theorem co_smulL (c : GF) (l : List GF) (k : Nat) : co (smulL c l) k = c * co l k := by
  by_cases h : k < l.length
  · rw [co_lt (by simpa [smulL] using h), co_lt h]; simp [smulL]
  · rw [co_ge (by simp [smulL]; omega), co_ge (by omega), GF.mul_zero]
theorem ev_smulL (c : GF) (l : List GF) (x : GF) : ev (smulL c l) x = c * ev l x := by
  induction l with
  | nil => exact (GF.mul_zero c).symm
  | cons d l ih =>
    rw [show smulL c (d :: l) = (c * d) :: smulL c l from rfl]
    simp only [ev]
    rw [ih, GF.mul_add, GF.mul_left_comm x c]
/-- The product. -/
def mulL : List GF → List GF → List GF
  | [], _ => []
  | a :: p, q => addL (smulL a q) (0 :: mulL p q)
theorem ev_mulL (p q : List GF) (x : GF) : ev (mulL p q) x = ev p x * ev q x := by
  induction p with
  | nil => exact (GF.zero_mul _).symm
  | cons a p ih =>
    simp only [mulL, ev]
    rw [ev_addL, ev_smulL]
    simp only [ev]
    rw [ih, GF.add_mul, GF.zero_add, GF.mul_assoc]
theorem co_mulL (p q : List GF) (k : Nat) : co (mulL p q) k = sm (k + 1) fun i => co p i * co q (k - i) := by
  induction p generalizing k with
  | nil => rw [show mulL [] q = [] from rfl, co_nil, sm_zero (fun i _ => by rw [co_nil, GF.zero_mul])]
  | cons a p ih =>
    simp only [mulL]
    rw [co_addL, co_smulL, sm_head]
    rw [co_cons_zero, Nat.sub_zero]
    congr 1
    cases k with
    | zero => rw [co_cons_zero]; rfl
    | succ k =>
      rw [co_cons_succ, ih]
      apply sm_congr
      intro i _
      rw [co_cons_succ, Nat.add_sub_add_right]
theorem length_mulL (p q : List GF) (hp : 0 < p.length) (hq : 0 < q.length) : (mulL p q).length = p.length + q.length - 1 := by
  induction p with
  | nil => simp at hp
  | cons a p ih =>
    simp only [mulL]
    rw [length_addL]
    cases p with
    | nil => simp [smulL, mulL]; omega
    | cons b p =>
      have := ih (by simp)
      simp only [List.length_cons] at this ⊢
      rw [this, show (smulL a q).length = q.length by simp [smulL]]
      omega
theorem co_mulL_ge {p q : List GF} {n m k : Nat} (hp : ∀ i, n ≤ i → co p i = 0) (hq : ∀ i, m ≤ i → co q i = 0) (hk : n + m ≤ k + 1) : co (mulL p q) k = 0 := by
  rw [co_mulL]
  apply sm_zero
  intro i hi
  by_cases h : n ≤ i
  · rw [hp i h, GF.zero_mul]
  · rw [hq (k - i) (by omega), GF.mul_zero]

/-! Without noughts at the end. -/
def tr : List GF → List GF
  | [] => []
  | c :: l => if tr l = [] then (if c = 0 then [] else [c]) else c :: tr l
theorem co_tr : ∀ (l : List GF) (k : Nat), co (tr l) k = co l k
  | [], _ => rfl
  | c :: l, k => by
    have ih := co_tr l
    simp only [tr]
    by_cases h : tr l = []
    · rw [if_pos h]
      rw [h] at ih
      by_cases hc : c = 0
      · rw [if_pos hc]
        cases k with
        | zero => rw [co_cons_zero, hc, co_nil]
        | succ k => rw [co_cons_succ, ← ih k, co_nil, co_nil]
      · rw [if_neg hc]
        cases k with
        | zero => rw [co_cons_zero, co_cons_zero]
        | succ k => rw [co_cons_succ, co_cons_succ, ← ih k]
    · rw [if_neg h]
      cases k with
      | zero => rw [co_cons_zero, co_cons_zero]
      | succ k => rw [co_cons_succ, co_cons_succ, ih k]
theorem tr_last : ∀ (l : List GF), tr l ≠ [] → co l ((tr l).length - 1) ≠ 0
  | [], h => absurd rfl h
  | c :: l, h => by
    have ih := tr_last l
    simp only [tr] at h ⊢
    by_cases h0 : tr l = []
    · rw [if_pos h0] at h ⊢
      by_cases hc : c = 0
      · rw [if_pos hc] at h; exact absurd rfl h
      · rw [if_neg hc]; simpa [co] using hc
    · rw [if_neg h0]
      have h1 : 0 < (tr l).length := List.length_pos_iff.2 h0
      have := ih h0
      rw [show (c :: tr l).length - 1 = ((tr l).length - 1) + 1 by simp; omega, co_cons_succ]
      exact this
theorem tr_len {l : List GF} {n : Nat} : (tr l).length ≤ n ↔ ∀ k, n ≤ k → co l k = 0 := by
  constructor
  · intro h k hk
    rw [← co_tr, co_ge (by omega)]
  · intro h
    rcases Nat.lt_or_ge n (tr l).length with hlt | hge
    · exfalso
      have h0 : tr l ≠ [] := fun e => by rw [e] at hlt; simp at hlt
      exact tr_last l h0 (h _ (by omega))
    · exact hge
theorem tr_len_le (l : List GF) : (tr l).length ≤ l.length := tr_len.2 fun _ hk => co_ge hk
theorem tr_ext {l m : List GF} (h : ∀ k, co l k = co m k) : tr l = tr m := by
  have h1 : (tr l).length ≤ (tr m).length := tr_len.2 fun k hk => by rw [h k]; exact tr_len.1 (Nat.le_refl _) k hk
  have h2 : (tr m).length ≤ (tr l).length := tr_len.2 fun k hk => by rw [← h k]; exact tr_len.1 (Nat.le_refl _) k hk
  exact ext_co (Nat.le_antisymm h1 h2) fun k _ => by rw [co_tr, co_tr, h k]
theorem tr_iff {l m : List GF} : tr l = tr m ↔ ∀ k, co l k = co m k :=
  ⟨fun h k => by rw [← co_tr l, h, co_tr], tr_ext⟩
theorem tr_tr (l : List GF) : tr (tr l) = tr l := tr_ext (co_tr l)
theorem tr_self {l : List GF} (h : l = [] ∨ co l (l.length - 1) ≠ 0) : tr l = l := by
  apply ext_co ?_ fun k _ => co_tr l k
  apply Nat.le_antisymm (tr_len_le l)
  rcases Nat.lt_or_ge (tr l).length l.length with hlt | hge
  · exfalso
    rcases h with h | h
    · rw [h] at hlt; simp at hlt
    · exact h ((tr_len (l := l) (n := (tr l).length)).1 (Nat.le_refl _) _ (by omega))
  · exact hge
theorem tr_nil {l : List GF} : tr l = [] ↔ ∀ k, co l k = 0 := by
  rw [show ([] : List GF) = tr [] from rfl, tr_iff]
  exact ⟨fun h k => by rw [h k, co_nil], fun h k => by rw [h k, co_nil]⟩
theorem ev_tr (l : List GF) (x : GF) : ev (tr l) x = ev l x := ev_congr (co_tr l) x
theorem tr_addL_comm (p q : List GF) : tr (addL p q) = tr (addL q p) := tr_ext fun k => by rw [co_addL, co_addL, GF.add_comm]
theorem tr_mulL_congr {p p' q q' : List GF} (hp : ∀ k, co p k = co p' k) (hq : ∀ k, co q k = co q' k) : tr (mulL p q) = tr (mulL p' q') :=
  tr_ext fun k => by rw [co_mulL, co_mulL]; exact sm_congr fun i _ => by rw [hp, hq]
theorem tr_mulL_add (p q o : List GF) : tr (mulL (addL p q) o) = tr (addL (mulL p o) (mulL q o)) := by
  apply tr_ext
  intro k
  rw [co_addL, co_mulL, co_mulL, co_mulL, ← sm_add]
  exact sm_congr fun i _ => by rw [co_addL, GF.add_mul]
/-- The degree of a product is the sum. -/
theorem co_mulL_top {p q : List GF} {n m : Nat} (hp : ∀ i, n < i → co p i = 0) (hq : ∀ i, m < i → co q i = 0) : co (mulL p q) (n + m) = co p n * co q m := by
  rw [co_mulL, sm_one (j := n) (by omega) ?_]
  · rw [Nat.add_sub_cancel_left]
  · intro i hi hne
    by_cases h : n < i
    · rw [hp i h, GF.zero_mul]
    · rw [hq (n + m - i) (by omega), GF.mul_zero]

/-! Roots. -/
/-- What is left of a polynomial, divided by x less a. -/
def qu (a : GF) : List GF → List GF
  | [] => []
  | _ :: l => ev l a :: qu a l
theorem co_qu (a : GF) : ∀ (l : List GF) (k : Nat), co (qu a l) k = ev (l.drop (k + 1)) a
  | [], k => by simp only [qu, List.drop_nil, ev]; exact co_nil k
  | c :: l, 0 => by simp only [qu, co_cons_zero, List.drop_succ_cons, List.drop_zero]
  | c :: l, k + 1 => by simp only [qu, co_cons_succ, List.drop_succ_cons]; exact co_qu a l k
theorem ev_qu (a x : GF) : ∀ l : List GF, ev l x = ev l a + (x + a) * ev (qu a l) x
  | [] => by simp only [qu, ev]; rw [GF.mul_zero, GF.add_zero]
  | c :: l => by
    simp only [qu, ev]
    have ih := ev_qu a x l
    rw [GF.mul_add, GF.mul_left_comm (x + a) x, GF.add_assoc]
    congr 1
    conv => lhs; rw [ih, GF.mul_add]
    rw [← GF.add_assoc]
    congr 1
    rw [GF.add_mul, GF.add_comm (x * ev l a), ← GF.add_assoc, GF.add_self, GF.zero_add]
/-- No more roots than the degree. -/
theorem roots : ∀ (n : Nat) (p xs : List GF), (∀ k, n ≤ k → co p k = 0) → xs.Nodup → n ≤ xs.length → (∀ x ∈ xs, ev p x = 0) → ∀ k, co p k = 0 := by
  intro n
  induction n with
  | zero => intro p xs h _ _ _ k; exact h k (Nat.zero_le _)
  | succ n ih =>
    intro p xs h hn hl hr
    cases xs with
    | nil => simp at hl
    | cons a xs =>
      have hn' := List.nodup_cons.1 hn
      have hq : ∀ k, co (qu a p) k = 0 := by
        apply ih (qu a p) xs ?_ hn'.2 (by simp at hl; omega) ?_
        · intro k hk
          rw [co_qu]
          exact ev_zero (fun j => by rw [co_drop]; exact h _ (by omega)) a
        · intro x hx
          have h1 := ev_qu a x p
          rw [hr x (List.mem_cons_of_mem _ hx), hr a (List.mem_cons_self ..), GF.zero_add] at h1
          rcases GF.mul_eq_zero h1.symm with h2 | h2
          · exact absurd (GF.add_eq_zero.1 h2) (fun e => hn'.1 (e ▸ hx))
          · exact h2
      have ha := hr a (List.mem_cons_self ..)
      have hd : ∀ k, ev (p.drop k) a = 0 := by
        intro k
        cases k with
        | zero => exact ha
        | succ k => rw [← co_qu]; exact hq k
      intro k
      have := ev_drop p k a
      rw [hd, hd, GF.mul_zero, GF.add_zero] at this
      exact this.symm
/-- Two polynomials with the same values at so many places are the same. -/
theorem same_poly {n : Nat} {p q xs : List GF} (hp : ∀ k, n ≤ k → co p k = 0) (hq : ∀ k, n ≤ k → co q k = 0) (hn : xs.Nodup) (hl : n ≤ xs.length) (hv : ∀ x ∈ xs, ev p x = ev q x) : ∀ k, co p k = co q k := by
  intro k
  have := roots n (addL p q) xs (fun k hk => by rw [co_addL, hp k hk, hq k hk, GF.add_zero]) hn hl (fun x hx => by rw [ev_addL, hv x hx, GF.add_self]) k
  rw [co_addL] at this
  exact GF.add_eq_zero.1 this
end Go.Proofs.Ytmhknggjpggagaa
