/- Texts of mine, one behind the other: Q2. -/
import Derived.Test.YtappfdbmhgifcaaGreatDoorZS01
import Derived.RangeFuncNested
import Derived.RangeFuncBox
import Derived.RangeFuncCalls
import Derived.RangeFuncLeaves
import Derived.Shelf.Abstract
import Derived.Shelf.RegionOpen
import Derived.OwnWalkIn
import Derived.TacticsInMore
import Derived.LoopNIn
import Derived.LoopIn
import Derived.Maps.OwnOps
import Derived.Maps.OwnSet
import Derived.Deep.RegionHeld
import Derived.Deep.Cut
/- Texts of mine, one behind the other: Gmath Glag Gconv Pit Pdeg Ptrim Peval Padd Pvan Pchk Pwt Pthr Px. -/
/- Plain facts on polynomials over the field of 256 numbers: lists of coefficients, the constant first; values, sums, products, roots, the one through given places. No program is named here. -/
namespace Go.Proofs.YtappfdbmhgifcaaGreatDoor

/-- A number of the field. -/
def GF : Type := { n : Nat // n < 256 }
namespace GF
instance : Add GF := ⟨fun a b => ⟨a.1 ^^^ b.1, xor_lt a.2 b.2⟩⟩
instance : Mul GF := ⟨fun a b => ⟨gm a.1 b.1, gm_lt _ _⟩⟩
instance : OfNat GF 0 := ⟨⟨0, by decide⟩⟩
instance : OfNat GF 1 := ⟨⟨1, by decide⟩⟩
instance : DecidableEq GF := fun a b => decidable_of_iff (a.1 = b.1) ⟨Subtype.ext, fun h => by rw [h]⟩
instance : Inhabited GF := ⟨0⟩
def inv (a : GF) : GF := ⟨Go.Proofs.YtappfdbmhgifcaaGreatDoor.inv a.1, inv_lt a.1⟩
theorem ext {a b : GF} (h : a.1 = b.1) : a = b := Subtype.ext h
theorem add_comm (a b : GF) : a + b = b + a := ext (Nat.xor_comm _ _)
theorem add_assoc (a b c : GF) : a + b + c = a + (b + c) := ext (Nat.xor_assoc _ _ _)
theorem add_left_comm (a b c : GF) : a + (b + c) = b + (a + c) := by rw [← add_assoc, add_comm a b, add_assoc]
theorem add_zero (a : GF) : a + 0 = a := ext (Nat.xor_zero _)
theorem zero_add (a : GF) : 0 + a = a := ext (Nat.zero_xor _)
theorem add_self (a : GF) : a + a = 0 := ext (Nat.xor_self _)
theorem add_self_left (a b : GF) : a + (a + b) = b := by rw [← add_assoc, add_self, zero_add]
theorem mul_comm (a b : GF) : a * b = b * a := ext (gm_comm _ _)
theorem mul_assoc (a b c : GF) : a * b * c = a * (b * c) := ext (gm_assoc _ _ _).symm
theorem mul_left_comm (a b c : GF) : a * (b * c) = b * (a * c) := by rw [← mul_assoc, mul_comm a b, mul_assoc]
theorem mul_one (a : GF) : a * 1 = a := ext (gm_one a.2)
theorem one_mul (a : GF) : 1 * a = a := by rw [mul_comm, mul_one]
theorem mul_zero (a : GF) : a * 0 = 0 := ext (gm_zero a.1)
theorem zero_mul (a : GF) : 0 * a = 0 := ext (zero_gm a.1)
theorem mul_add (a b c : GF) : a * (b + c) = a * b + a * c := ext (gm_add a.2 b.2 c.2)
theorem add_mul (a b c : GF) : (a + b) * c = a * c + b * c := by rw [mul_comm, mul_add, mul_comm c a, mul_comm c b]
theorem val_ne {a : GF} (h : a ≠ 0) : a.1 ≠ 0 := fun e => h (ext e)
theorem mul_inv {a : GF} (h : a ≠ 0) : a * inv a = 1 := ext (gm_inv a.2 (val_ne h))
theorem inv_mul {a : GF} (h : a ≠ 0) : inv a * a = 1 := by rw [mul_comm, mul_inv h]
theorem mul_eq_zero {a b : GF} (h : a * b = 0) : a = 0 ∨ b = 0 := by
  by_cases h0 : a = 0
  · exact .inl h0
  · right
    have : inv a * (a * b) = 0 := by rw [h, mul_zero]
    rw [← mul_assoc, inv_mul h0, one_mul] at this
    exact this
theorem mul_ne {a b : GF} (h0 : a ≠ 0) (h1 : b ≠ 0) : a * b ≠ 0 := fun h => (mul_eq_zero h).elim h0 h1
theorem add_eq_zero {a b : GF} : a + b = 0 ↔ a = b := by
  constructor
  · intro h
    have : b + (a + b) = b := by rw [h, add_zero]
    rw [add_comm a b, add_self_left] at this
    exact this
  · intro h; rw [h, add_self]
theorem one_ne : (1 : GF) ≠ 0 := fun h => absurd (congrArg Subtype.val h) (by decide)
theorem inv_one : inv 1 = 1 := by have := mul_inv one_ne; rw [one_mul] at this; exact this
theorem inv_ne {a : GF} (h : a ≠ 0) : inv a ≠ 0 := fun e => by
  have := mul_inv h
  rw [e, mul_zero] at this
  exact one_ne this.symm
theorem add_add_add (a b c d : GF) : (a + b) + (c + d) = (a + c) + (b + d) := by
  rw [add_assoc, add_assoc, add_left_comm b c d]
end GF
open GF

/-! Sums of so many. -/
def sm : Nat → (Nat → GF) → GF
  | 0, _ => 0
  | n + 1, f => sm n f + f n
theorem sm_congr {n : Nat} {f g : Nat → GF} (h : ∀ i, i < n → f i = g i) : sm n f = sm n g := by
  induction n with
  | zero => rfl
  | succ n ih => simp only [sm]; rw [ih (fun i hi => h i (by omega)), h n (by omega)]
theorem sm_zero {n : Nat} {f : Nat → GF} (h : ∀ i, i < n → f i = 0) : sm n f = 0 := by
  induction n with
  | zero => rfl
  | succ n ih => simp only [sm]; rw [ih (fun i hi => h i (by omega)), h n (by omega), GF.add_zero]
theorem sm_add (n : Nat) (f g : Nat → GF) : sm n (fun i => f i + g i) = sm n f + sm n g := by
  induction n with
  | zero => exact (GF.add_zero 0).symm
  | succ n ih => simp only [sm]; rw [ih, add_add_add]
theorem sm_one {n j : Nat} {f : Nat → GF} (hj : j < n) (h : ∀ i, i < n → i ≠ j → f i = 0) : sm n f = f j := by
  induction n with
  | zero => omega
  | succ n ih =>
    simp only [sm]
    by_cases e : j = n
    · subst e
      rw [sm_zero (fun i hi => h i (by omega) (by omega)), GF.zero_add]
    · rw [ih (by omega) (fun i hi hne => h i (by omega) hne), h n (by omega) (by omega), GF.add_zero]
theorem sm_head (n : Nat) (f : Nat → GF) : sm (n + 1) f = f 0 + sm n (fun i => f (i + 1)) := by
  induction n with
  | zero => simp only [sm]; rw [GF.zero_add, GF.add_zero]
  | succ n ih =>
    rw [show sm (n + 1 + 1) f = sm (n + 1) f + f (n + 1) from rfl, ih]
    simp only [sm]
    rw [GF.add_assoc]
theorem sm_more {n m : Nat} {f : Nat → GF} (hnm : n ≤ m) (h : ∀ i, n ≤ i → i < m → f i = 0) : sm m f = sm n f := by
  induction m with
  | zero => have : n = 0 := by omega
            rw [this]
  | succ m ih =>
    by_cases e : n = m + 1
    · rw [e]
    · simp only [sm]
      rw [ih (by omega) (fun i h1 h2 => h i h1 (by omega)), h m (by omega) (by omega), GF.add_zero]

/-! Polynomials: lists of coefficients, the constant first. -/
/-- The coefficient at a place, 0 beyond the list. -/
def co (l : List GF) (k : Nat) : GF := l.getD k 0
theorem co_nil (k : Nat) : co [] k = 0 := by simp [co]
theorem co_cons_zero (c : GF) (l : List GF) : co (c :: l) 0 = c := by simp [co]
theorem co_cons_succ (c : GF) (l : List GF) (k : Nat) : co (c :: l) (k + 1) = co l k := by simp [co]
theorem co_ge {l : List GF} {k : Nat} (h : l.length ≤ k) : co l k = 0 := by simp [co, List.getD_eq_getElem?_getD, List.getElem?_eq_none h]
theorem co_lt {l : List GF} {k : Nat} (h : k < l.length) : co l k = l[k] := by simp [co, List.getD_eq_getElem?_getD, List.getElem?_eq_getElem h]
theorem co_drop (l : List GF) (n k : Nat) : co (l.drop n) k = co l (n + k) := by simp [co, List.getD_eq_getElem?_getD]
theorem ext_co {l m : List GF} (h : l.length = m.length) (hk : ∀ k, k < l.length → co l k = co m k) : l = m := by
  apply List.ext_getElem h
  intro i h1 h2
  have := hk i h1
  rwa [co_lt h1, co_lt h2] at this
/-- The value at x. -/
def ev : List GF → GF → GF
  | [], _ => 0
  | c :: l, x => c + x * ev l x
theorem ev_zero {l : List GF} (h : ∀ k, co l k = 0) (x : GF) : ev l x = 0 := by
  induction l with
  | nil => rfl
  | cons c l ih =>
    have h0 := h 0
    rw [co_cons_zero] at h0
    simp only [ev]
    rw [h0, ih (fun k => by have := h (k + 1); rwa [co_cons_succ] at this), GF.mul_zero, GF.add_zero]
theorem ev_congr {l m : List GF} (h : ∀ k, co l k = co m k) (x : GF) : ev l x = ev m x := by
  induction l generalizing m with
  | nil => exact (ev_zero (fun k => by rw [← h k, co_nil]) x).symm
  | cons c l ih =>
    cases m with
    | nil => exact ev_zero (fun k => by rw [h k, co_nil]) x
    | cons d m =>
      have h0 := h 0
      rw [co_cons_zero, co_cons_zero] at h0
      simp only [ev]
      rw [h0, ih (m := m) (fun k => by have := h (k + 1); rwa [co_cons_succ, co_cons_succ] at this)]
theorem ev_drop (l : List GF) (n : Nat) (x : GF) : ev (l.drop n) x = co l n + x * ev (l.drop (n + 1)) x := by
  induction n generalizing l with
  | zero =>
    cases l with
    | nil => simp only [List.drop_nil, ev]; rw [co_nil, GF.mul_zero, GF.add_zero]
    | cons c l => rfl
  | succ n ih =>
    cases l with
    | nil => simp only [List.drop_nil, ev]; rw [co_nil, GF.mul_zero, GF.add_zero]
    | cons c l => rw [List.drop_succ_cons, List.drop_succ_cons, co_cons_succ]; exact ih l
/-- The sum. -/
def addL : List GF → List GF → List GF
  | [], q => q
  | a :: p, [] => a :: p
  | a :: p, b :: q => (a + b) :: addL p q
theorem co_addL : ∀ (p q : List GF) (k : Nat), co (addL p q) k = co p k + co q k
  | [], q, k => by rw [show addL [] q = q by cases q <;> rfl, co_nil, GF.zero_add]
  | a :: p, [], k => by rw [co_nil, GF.add_zero]; rfl
  | a :: p, b :: q, 0 => by simp only [addL, co_cons_zero]
  | a :: p, b :: q, k + 1 => by simp only [addL, co_cons_succ]; exact co_addL p q k
theorem length_addL : ∀ p q : List GF, (addL p q).length = max p.length q.length
  | [], q => by rw [show addL [] q = q by cases q <;> rfl]; simp
  | a :: p, [] => by simp [addL]
  | a :: p, b :: q => by simp only [addL, List.length_cons, length_addL p q]; omega
theorem ev_addL : ∀ (p q : List GF) (x : GF), ev (addL p q) x = ev p x + ev q x
  | [], q, x => by rw [show addL [] q = q by cases q <;> rfl]; exact (GF.zero_add _).symm
  | a :: p, [], x => (GF.add_zero _).symm
  | a :: p, b :: q, x => by simp only [addL, ev]; rw [ev_addL p q x, GF.mul_add, add_add_add]
/-- So many times. -/
def smulL (c : GF) (l : List GF) : List GF := l.map (c * ·)
theorem co_smulL (c : GF) (l : List GF) (k : Nat) : co (smulL c l) k = c * co l k := by
  by_cases h : k < l.length
  · rw [co_lt (by simpa [smulL] using h), co_lt h]; simp [smulL]
  · rw [co_ge (by simp [smulL]; omega), co_ge (by omega), GF.mul_zero]
theorem ev_smulL (c : GF) (l : List GF) (x : GF) : ev (smulL c l) x = c * ev l x := by
  induction l with
  | nil => exact (GF.mul_zero c).symm
  | cons d l ih =>
    rw [show smulL c (d :: l) = (c * d) :: smulL c l from rfl]
    simp only [ev]
    rw [ih, GF.mul_add, GF.mul_left_comm x c]
/-- The product. -/
def mulL : List GF → List GF → List GF
  | [], _ => []
  | a :: p, q => addL (smulL a q) (0 :: mulL p q)
theorem ev_mulL (p q : List GF) (x : GF) : ev (mulL p q) x = ev p x * ev q x := by
  induction p with
  | nil => exact (GF.zero_mul _).symm
  | cons a p ih =>
    simp only [mulL, ev]
    rw [ev_addL, ev_smulL]
    simp only [ev]
    rw [ih, GF.add_mul, GF.zero_add, GF.mul_assoc]
theorem co_mulL (p q : List GF) (k : Nat) : co (mulL p q) k = sm (k + 1) fun i => co p i * co q (k - i) := by
  induction p generalizing k with
  | nil => rw [show mulL [] q = [] from rfl, co_nil, sm_zero (fun i _ => by rw [co_nil, GF.zero_mul])]
  | cons a p ih =>
    simp only [mulL]
    rw [co_addL, co_smulL, sm_head]
    rw [co_cons_zero, Nat.sub_zero]
    congr 1
    cases k with
    | zero => rw [co_cons_zero]; rfl
    | succ k =>
      rw [co_cons_succ, ih]
      apply sm_congr
      intro i _
      rw [co_cons_succ, Nat.add_sub_add_right]
theorem length_mulL (p q : List GF) (hp : 0 < p.length) (hq : 0 < q.length) : (mulL p q).length = p.length + q.length - 1 := by
  induction p with
  | nil => simp at hp
  | cons a p ih =>
    simp only [mulL]
    rw [length_addL]
    cases p with
    | nil => simp [smulL, mulL]; omega
    | cons b p =>
      have := ih (by simp)
      simp only [List.length_cons] at this ⊢
      rw [this, show (smulL a q).length = q.length by simp [smulL]]
      omega
theorem co_mulL_ge {p q : List GF} {n m k : Nat} (hp : ∀ i, n ≤ i → co p i = 0) (hq : ∀ i, m ≤ i → co q i = 0) (hk : n + m ≤ k + 1) : co (mulL p q) k = 0 := by
  rw [co_mulL]
  apply sm_zero
  intro i hi
  by_cases h : n ≤ i
  · rw [hp i h, GF.zero_mul]
  · rw [hq (k - i) (by omega), GF.mul_zero]

/-! Without noughts at the end. -/
def tr : List GF → List GF
  | [] => []
  | c :: l => if tr l = [] then (if c = 0 then [] else [c]) else c :: tr l
theorem co_tr : ∀ (l : List GF) (k : Nat), co (tr l) k = co l k
  | [], _ => rfl
  | c :: l, k => by
    have ih := co_tr l
    simp only [tr]
    by_cases h : tr l = []
    · rw [if_pos h]
      rw [h] at ih
      by_cases hc : c = 0
      · rw [if_pos hc]
        cases k with
        | zero => rw [co_cons_zero, hc, co_nil]
        | succ k => rw [co_cons_succ, ← ih k, co_nil, co_nil]
      · rw [if_neg hc]
        cases k with
        | zero => rw [co_cons_zero, co_cons_zero]
        | succ k => rw [co_cons_succ, co_cons_succ, ← ih k]
    · rw [if_neg h]
      cases k with
      | zero => rw [co_cons_zero, co_cons_zero]
      | succ k => rw [co_cons_succ, co_cons_succ, ih k]
theorem tr_last : ∀ (l : List GF), tr l ≠ [] → co l ((tr l).length - 1) ≠ 0
  | [], h => absurd rfl h
  | c :: l, h => by
    have ih := tr_last l
    simp only [tr] at h ⊢
    by_cases h0 : tr l = []
    · rw [if_pos h0] at h ⊢
      by_cases hc : c = 0
      · rw [if_pos hc] at h; exact absurd rfl h
      · rw [if_neg hc]; simpa [co] using hc
    · rw [if_neg h0]
      have h1 : 0 < (tr l).length := List.length_pos_iff.2 h0
      have := ih h0
      rw [show (c :: tr l).length - 1 = ((tr l).length - 1) + 1 by simp; omega, co_cons_succ]
      exact this
theorem tr_len {l : List GF} {n : Nat} : (tr l).length ≤ n ↔ ∀ k, n ≤ k → co l k = 0 := by
  constructor
  · intro h k hk
    rw [← co_tr, co_ge (by omega)]
  · intro h
    rcases Nat.lt_or_ge n (tr l).length with hlt | hge
    · exfalso
      have h0 : tr l ≠ [] := fun e => by rw [e] at hlt; simp at hlt
      exact tr_last l h0 (h _ (by omega))
    · exact hge
theorem tr_len_le (l : List GF) : (tr l).length ≤ l.length := tr_len.2 fun _ hk => co_ge hk
theorem tr_ext {l m : List GF} (h : ∀ k, co l k = co m k) : tr l = tr m := by
  have h1 : (tr l).length ≤ (tr m).length := tr_len.2 fun k hk => by rw [h k]; exact tr_len.1 (Nat.le_refl _) k hk
  have h2 : (tr m).length ≤ (tr l).length := tr_len.2 fun k hk => by rw [← h k]; exact tr_len.1 (Nat.le_refl _) k hk
  exact ext_co (Nat.le_antisymm h1 h2) fun k _ => by rw [co_tr, co_tr, h k]
theorem tr_iff {l m : List GF} : tr l = tr m ↔ ∀ k, co l k = co m k :=
  ⟨fun h k => by rw [← co_tr l, h, co_tr], tr_ext⟩
theorem tr_tr (l : List GF) : tr (tr l) = tr l := tr_ext (co_tr l)
theorem tr_self {l : List GF} (h : l = [] ∨ co l (l.length - 1) ≠ 0) : tr l = l := by
  apply ext_co ?_ fun k _ => co_tr l k
  apply Nat.le_antisymm (tr_len_le l)
  rcases Nat.lt_or_ge (tr l).length l.length with hlt | hge
  · exfalso
    rcases h with h | h
    · rw [h] at hlt; simp at hlt
    · exact h ((tr_len (l := l) (n := (tr l).length)).1 (Nat.le_refl _) _ (by omega))
  · exact hge
theorem tr_nil {l : List GF} : tr l = [] ↔ ∀ k, co l k = 0 := by
  rw [show ([] : List GF) = tr [] from rfl, tr_iff]
  exact ⟨fun h k => by rw [h k, co_nil], fun h k => by rw [h k, co_nil]⟩
theorem ev_tr (l : List GF) (x : GF) : ev (tr l) x = ev l x := ev_congr (co_tr l) x
theorem tr_mulL_congr {p p' q q' : List GF} (hp : ∀ k, co p k = co p' k) (hq : ∀ k, co q k = co q' k) : tr (mulL p q) = tr (mulL p' q') :=
  tr_ext fun k => by rw [co_mulL, co_mulL]; exact sm_congr fun i _ => by rw [hp, hq]
/-- The degree of a product is the sum. -/
theorem co_mulL_top {p q : List GF} {n m : Nat} (hp : ∀ i, n < i → co p i = 0) (hq : ∀ i, m < i → co q i = 0) : co (mulL p q) (n + m) = co p n * co q m := by
  rw [co_mulL, sm_one (j := n) (by omega) ?_]
  · rw [Nat.add_sub_cancel_left]
  · intro i hi hne
    by_cases h : n < i
    · rw [hp i h, GF.zero_mul]
    · rw [hq (n + m - i) (by omega), GF.mul_zero]

/-! Roots. -/
/-- What is left of a polynomial, divided by x less a. -/
def qu (a : GF) : List GF → List GF
  | [] => []
  | _ :: l => ev l a :: qu a l
theorem co_qu (a : GF) : ∀ (l : List GF) (k : Nat), co (qu a l) k = ev (l.drop (k + 1)) a
  | [], k => by simp only [qu, List.drop_nil, ev]; exact co_nil k
  | c :: l, 0 => by simp only [qu, co_cons_zero, List.drop_succ_cons, List.drop_zero]
  | c :: l, k + 1 => by simp only [qu, co_cons_succ, List.drop_succ_cons]; exact co_qu a l k
theorem ev_qu (a x : GF) : ∀ l : List GF, ev l x = ev l a + (x + a) * ev (qu a l) x
  | [] => by simp only [qu, ev]; rw [GF.mul_zero, GF.add_zero]
  | c :: l => by
    simp only [qu, ev]
    have ih := ev_qu a x l
    rw [GF.mul_add, GF.mul_left_comm (x + a) x, GF.add_assoc]
    congr 1
    conv => lhs; rw [ih, GF.mul_add]
    rw [← GF.add_assoc]
    congr 1
    rw [GF.add_mul, GF.add_comm (x * ev l a), ← GF.add_assoc, GF.add_self, GF.zero_add]
/-- No more roots than the degree. -/
theorem roots : ∀ (n : Nat) (p xs : List GF), (∀ k, n ≤ k → co p k = 0) → xs.Nodup → n ≤ xs.length → (∀ x ∈ xs, ev p x = 0) → ∀ k, co p k = 0 := by
  intro n
  induction n with
  | zero => intro p xs h _ _ _ k; exact h k (Nat.zero_le _)
  | succ n ih =>
    intro p xs h hn hl hr
    cases xs with
    | nil => simp at hl
    | cons a xs =>
      have hn' := List.nodup_cons.1 hn
      have hq : ∀ k, co (qu a p) k = 0 := by
        apply ih (qu a p) xs ?_ hn'.2 (by simp at hl; omega) ?_
        · intro k hk
          rw [co_qu]
          exact ev_zero (fun j => by rw [co_drop]; exact h _ (by omega)) a
        · intro x hx
          have h1 := ev_qu a x p
          rw [hr x (List.mem_cons_of_mem _ hx), hr a (List.mem_cons_self ..), GF.zero_add] at h1
          rcases GF.mul_eq_zero h1.symm with h2 | h2
          · exact absurd (GF.add_eq_zero.1 h2) (fun e => hn'.1 (e ▸ hx))
          · exact h2
      have ha := hr a (List.mem_cons_self ..)
      have hd : ∀ k, ev (p.drop k) a = 0 := by
        intro k
        cases k with
        | zero => exact ha
        | succ k => rw [← co_qu]; exact hq k
      intro k
      have := ev_drop p k a
      rw [hd, hd, GF.mul_zero, GF.add_zero] at this
      exact this.symm
/-- Two polynomials with the same values at so many places are the same. -/
theorem same_poly {n : Nat} {p q xs : List GF} (hp : ∀ k, n ≤ k → co p k = 0) (hq : ∀ k, n ≤ k → co q k = 0) (hn : xs.Nodup) (hl : n ≤ xs.length) (hv : ∀ x ∈ xs, ev p x = ev q x) : ∀ k, co p k = co q k := by
  intro k
  have := roots n (addL p q) xs (fun k hk => by rw [co_addL, hp k hk, hq k hk, GF.add_zero]) hn hl (fun x hx => by rw [ev_addL, hv x hx, GF.add_self]) k
  rw [co_addL] at this
  exact GF.add_eq_zero.1 this
end Go.Proofs.YtappfdbmhgifcaaGreatDoor
/- The polynomial through given places and values (Lagrange's), the weights of places, the one that vanishes at places. No program is named here. -/
namespace Go.Proofs.YtappfdbmhgifcaaGreatDoor
open GF

/-- No two of these places are the same. -/
def Apart (xs : List GF) : Prop := ∀ i j, i < xs.length → j < i → co xs i ≠ co xs j
theorem Apart.ne {xs : List GF} (h : Apart xs) {i j : Nat} (hi : i < xs.length) (hj : j < xs.length) (hne : i ≠ j) : co xs i ≠ co xs j := by
  rcases Nat.lt_or_gt_of_ne hne with h1 | h1
  · exact fun e => h j i hj h1 e.symm
  · exact h i j hi h1
theorem Apart.nodup {xs : List GF} (h : Apart xs) : xs.Nodup := by
  unfold List.Nodup
  rw [List.pairwise_iff_getElem]
  intro i j hi hj hij e
  have := h j i hj hij
  rw [co_lt hi, co_lt hj] at this
  exact this e.symm
theorem mem_co {xs : List GF} {x : GF} : x ∈ xs ↔ ∃ i, i < xs.length ∧ co xs i = x := by
  constructor
  · intro h
    obtain ⟨i, hi, rfl⟩ := List.getElem_of_mem h
    exact ⟨i, hi, co_lt hi⟩
  · rintro ⟨i, hi, rfl⟩
    rw [co_lt hi]
    exact List.getElem_mem hi

/-- What the value at the i-th place counts for that at x, the first k places taken in. -/
def wtA (xs : List GF) (i : Nat) (x : GF) : Nat → GF
  | 0 => 1
  | k + 1 => if k = i then wtA xs i x k else wtA xs i x k * ((x + co xs k) * GF.inv (co xs i + co xs k))
def wt (xs : List GF) (i : Nat) (x : GF) : GF := wtA xs i x xs.length
theorem wtA_self {xs : List GF} (h : Apart xs) {i : Nat} (hi : i < xs.length) : ∀ k, k ≤ xs.length → wtA xs i (co xs i) k = 1 := by
  intro k
  induction k with
  | zero => intro _; rfl
  | succ k ih =>
    intro hk
    simp only [wtA]
    by_cases e : k = i
    · rw [if_pos e]; exact ih (by omega)
    · rw [if_neg e, ih (by omega), GF.mul_inv (fun z => h.ne hi (by omega) (Ne.symm e) (GF.add_eq_zero.1 z)), GF.one_mul]
theorem wtA_other {xs : List GF} {i j : Nat} (hne : j ≠ i) : ∀ k, j < k → wtA xs i (co xs j) k = 0 := by
  intro k
  induction k with
  | zero => intro h; omega
  | succ k ih =>
    intro hk
    simp only [wtA]
    by_cases e : k = i
    · rw [if_pos e]; exact ih (by omega)
    · rw [if_neg e]
      by_cases ej : j = k
      · subst ej; rw [GF.add_self, GF.zero_mul, GF.mul_zero]
      · rw [ih (by omega), GF.zero_mul]
theorem wt_at {xs : List GF} (h : Apart xs) {i j : Nat} (hi : i < xs.length) (hj : j < xs.length) : wt xs i (co xs j) = if j = i then 1 else 0 := by
  unfold wt
  by_cases e : j = i
  · rw [if_pos e, e]; exact wtA_self h hi _ (Nat.le_refl _)
  · rw [if_neg e]; exact wtA_other e _ hj

/-- A line with the value c * (x + a) at x. -/
def lin (a c : GF) : List GF := [c * a, c]
theorem ev_lin (a c x : GF) : ev (lin a c) x = c * (x + a) := by
  simp only [lin, ev]
  rw [GF.mul_zero, GF.add_zero, GF.mul_add, GF.add_comm, GF.mul_comm x c]
theorem co_lin_ge (a c : GF) {k : Nat} (hk : 2 ≤ k) : co (lin a c) k = 0 := co_ge (by simpa [lin] using hk)
/-- Lagrange's term of the i-th place, the first k places taken in. -/
def tmA (xs : List GF) (i : Nat) (y : GF) : Nat → List GF
  | 0 => [y]
  | k + 1 => if k = i then tmA xs i y k else tr (mulL (tmA xs i y k) (lin (co xs k) (GF.inv (co xs i + co xs k))))
theorem ev_tmA (xs : List GF) (i : Nat) (y x : GF) : ∀ k, ev (tmA xs i y k) x = y * wtA xs i x k := by
  intro k
  induction k with
  | zero => simp only [tmA, wtA, ev]; rw [GF.mul_zero, GF.add_zero, GF.mul_one]
  | succ k ih =>
    simp only [tmA, wtA]
    by_cases e : k = i
    · rw [if_pos e, if_pos e]; exact ih
    · rw [if_neg e, if_neg e, ev_tr, ev_mulL, ih, ev_lin, GF.mul_assoc, GF.mul_comm (GF.inv _)]
theorem co_tmA (xs : List GF) (i : Nat) (y : GF) : ∀ k j, (if i < k then k else k + 1) ≤ j → co (tmA xs i y k) j = 0 := by
  intro k
  induction k with
  | zero => intro j hj; rw [if_neg (by omega)] at hj; exact co_ge (by simpa [tmA] using hj)
  | succ k ih =>
    intro j hj
    simp only [tmA]
    by_cases e : k = i
    · rw [if_pos e]
      apply ih
      rw [if_pos (by omega)] at hj
      rw [if_neg (by omega)]
      exact hj
    · rw [if_neg e, co_tr]
      apply co_mulL_ge (n := if i < k then k else k + 1) (m := 2) (ih) (fun j hj => co_lin_ge _ _ hj)
      by_cases hi : i < k
      · rw [if_pos hi]; rw [if_pos (by omega)] at hj; omega
      · rw [if_neg hi]; rw [if_neg (by omega)] at hj; omega
/-- The sum of the first i terms. -/
def lagA (xs ys : List GF) : Nat → List GF
  | 0 => []
  | i + 1 => addL (lagA xs ys i) (tmA xs i (co ys i) xs.length)
/-- The polynomial through places and values. -/
def lag (xs ys : List GF) : List GF := tr (lagA xs ys xs.length)
theorem ev_lagA (xs ys : List GF) (x : GF) : ∀ i, ev (lagA xs ys i) x = sm i fun j => co ys j * wt xs j x := by
  intro i
  induction i with
  | zero => rfl
  | succ i ih => simp only [lagA, sm]; rw [ev_addL, ih, ev_tmA]; rfl
theorem co_lagA (xs ys : List GF) : ∀ i, i ≤ xs.length → ∀ k, xs.length ≤ k → co (lagA xs ys i) k = 0 := by
  intro i
  induction i with
  | zero => intro _ k _; exact co_nil k
  | succ i ih =>
    intro hi k hk
    simp only [lagA]
    rw [co_addL, ih (by omega) k hk, co_tmA xs i _ xs.length k (by rw [if_pos (by omega)]; exact hk), GF.add_zero]
theorem ev_lag (xs ys : List GF) (x : GF) : ev (lag xs ys) x = sm xs.length fun j => co ys j * wt xs j x := by unfold lag; rw [ev_tr, ev_lagA]
theorem ev_lag_at {xs ys : List GF} (h : Apart xs) {j : Nat} (hj : j < xs.length) : ev (lag xs ys) (co xs j) = co ys j := by
  rw [ev_lag, sm_one hj (fun i hi hne => by rw [wt_at h hi hj, if_neg (Ne.symm hne), GF.mul_zero]), wt_at h hj hj, if_pos rfl, GF.mul_one]
theorem co_lag (xs ys : List GF) {k : Nat} (hk : xs.length ≤ k) : co (lag xs ys) k = 0 := by unfold lag; rw [co_tr]; exact co_lagA xs ys _ (Nat.le_refl _) k hk
/-- The product of all x less each of the first i places. -/
def vanA (xs : List GF) : Nat → List GF
  | 0 => [1]
  | i + 1 => mulL (vanA xs i) (lin (co xs i) 1)
theorem ev_vanA {xs : List GF} {x : GF} : ∀ i, i ≤ xs.length → (ev (vanA xs i) x = 0 ↔ ∃ j, j < i ∧ co xs j = x) := by
  intro i
  induction i with
  | zero =>
    intro _
    simp only [vanA, ev]
    rw [GF.mul_zero, GF.add_zero]
    exact ⟨fun h => absurd h GF.one_ne, fun ⟨j, hj, _⟩ => by omega⟩
  | succ i ih =>
    intro hi
    simp only [vanA]
    rw [ev_mulL, ev_lin, GF.one_mul]
    constructor
    · intro h
      rcases GF.mul_eq_zero h with h | h
      · obtain ⟨j, hj, e⟩ := (ih (by omega)).1 h
        exact ⟨j, by omega, e⟩
      · exact ⟨i, by omega, (GF.add_eq_zero.1 h).symm⟩
    · rintro ⟨j, hj, e⟩
      by_cases hji : j = i
      · subst hji; rw [e, GF.add_self, GF.mul_zero]
      · rw [(ih (by omega)).2 ⟨j, by omega, e⟩, GF.zero_mul]
theorem co_vanA (xs : List GF) : ∀ i, co (vanA xs i) i = 1 ∧ ∀ k, i < k → co (vanA xs i) k = 0 := by
  intro i
  induction i with
  | zero => exact ⟨rfl, fun k hk => co_ge (by simp [vanA]; omega)⟩
  | succ i ih =>
    have hl : ∀ k, 1 < k → co (lin (co xs i) 1) k = 0 := fun k hk => co_lin_ge _ _ hk
    constructor
    · simp only [vanA]
      rw [co_mulL_top ih.2 hl, ih.1, GF.one_mul]
      rfl
    · intro k hk
      simp only [vanA]
      exact co_mulL_ge (n := i + 1) (m := 2) (fun j hj => ih.2 j (by omega)) (fun j hj => hl j (by omega)) (by omega)
theorem length_vanA (xs : List GF) (i : Nat) : (vanA xs i).length = i + 1 := by
  induction i with
  | zero => rfl
  | succ i ih =>
    simp only [vanA]
    rw [length_mulL _ _ (by omega) (by simp [lin]), ih]
    simp [lin]
theorem tr_vanA (xs : List GF) (i : Nat) : tr (vanA xs i) = vanA xs i := by
  apply tr_self
  right
  rw [length_vanA, Nat.add_sub_cancel, (co_vanA xs i).1]
  exact GF.one_ne
end Go.Proofs.YtappfdbmhgifcaaGreatDoor
/- Rows of bytes as polynomials, and back. No program is named here. -/
namespace Go.Proofs.YtappfdbmhgifcaaGreatDoor
open GF

/-- A byte as a number of the field. -/
def toG (x : Int) : GF := ⟨x.toNat % 256, Nat.mod_lt _ (by decide)⟩
/-- .. and back. -/
def toI (a : GF) : Int := ((a.1 : Nat) : Int)
theorem toI_bd (a : GF) : 0 ≤ toI a ∧ toI a < 256 := by have := a.2; unfold toI; omega
theorem toI_toG {x : Int} (h : 0 ≤ x ∧ x < 256) : toI (toG x) = x := by
  show (((x.toNat % 256 : Nat)) : Int) = x
  omega
theorem toG_toI (a : GF) : toG (toI a) = a := by
  apply GF.ext
  show ((a.1 : Nat) : Int).toNat % 256 = a.1
  have := a.2
  omega
theorem toG_zero : toG 0 = 0 := rfl
theorem toI_zero : toI 0 = 0 := rfl
theorem toI_one : toI 1 = 1 := rfl
theorem toI_inj {a b : GF} (h : toI a = toI b) : a = b := by rw [← toG_toI a, h, toG_toI]
theorem toI_eq_zero {a : GF} : toI a = 0 ↔ a = 0 := ⟨fun h => toI_inj (by rw [h]; rfl), fun h => by rw [h]; rfl⟩
/-- A row of bytes as a polynomial. -/
def gL (l : List Int) : List GF := l.map toG
/-- .. and back. -/
def iL (l : List GF) : List Int := l.map toI
theorem length_gL (l : List Int) : (gL l).length = l.length := by simp [gL]
theorem length_iL (l : List GF) : (iL l).length = l.length := by simp [iL]
theorem iL_gL {l : List Int} (h : AllB l) : iL (gL l) = l := by
  unfold gL iL
  rw [List.map_map]
  conv => rhs; rw [← List.map_id l]
  apply List.map_congr_left
  intro x hx
  exact toI_toG (h x hx)
theorem allB_iL (l : List GF) : AllB (iL l) := by
  intro x hx
  obtain ⟨a, _, rfl⟩ := List.mem_map.1 hx
  exact toI_bd a
theorem co_gL (l : List Int) (k : Nat) : co (gL l) k = toG (l.getD k 0) := by
  by_cases h : k < l.length
  · rw [co_lt (by simpa [gL] using h)]
    simp [gL, List.getD_eq_getElem?_getD, List.getElem?_eq_getElem h]
  · rw [co_ge (by simp [gL]; omega)]
    simp [List.getD_eq_getElem?_getD, List.getElem?_eq_none (Nat.le_of_not_lt h)]
    exact toG_zero.symm
theorem getD_iL (l : List GF) (k : Nat) : (iL l).getD k 0 = toI (co l k) := by
  by_cases h : k < l.length
  · rw [co_lt h]
    simp [iL, List.getD_eq_getElem?_getD, List.getElem?_eq_getElem h]
  · rw [co_ge (by omega)]
    simp [iL, List.getD_eq_getElem?_getD, List.getElem?_eq_none (Nat.le_of_not_lt h)]
    exact toI_zero.symm
theorem co_set {l : List GF} {k j : Nat} {c : GF} (hk : k < l.length) : co (l.set k c) j = if j = k then c else co l j := by
  by_cases e : j = k
  · subst e; rw [if_pos rfl]; simp [co, List.getD_eq_getElem?_getD, hk]
  · rw [if_neg e]; simp [co, List.getD_eq_getElem?_getD, Ne.symm e]
theorem co_take {l : List GF} {n k : Nat} (h : k < n) : co (l.take n) k = co l k := by simp [co, List.getD_eq_getElem?_getD, h]
theorem co_replicate (n k : Nat) : co (List.replicate n 0) k = 0 := by
  by_cases h : k < n
  · rw [co_lt (by simpa using h)]; simp
  · rw [co_ge (by simpa using Nat.le_of_not_lt h)]
end Go.Proofs.YtappfdbmhgifcaaGreatDoor
/- slices.Backward over a slice of bytes: the contract of its iterator, for bodies that may write what lies at the places still to come, if only numbers stay there. -/
namespace Go.Proofs.YtappfdbmhgifcaaGreatDoor
open Go.ChangeShapes Go.WideShapes Go.ChangeAt Go.RowKit Go.Shelf GF
set_option linter.unusedVariables false
set_option maxRecDepth 100000
attribute [local go_sem] Oper.semAt_some

/-- What a round is handed: a place, and the number there. -/
abbrev It (len : Nat) := Fin len × GF
def itv {len : Nat} (x : It len) : Array Value := #[.int .i64 ((x.1.1 : Nat) : Int), .int .u8 (toI x.2)]
/-- The box holds the slice, and at each place stands a number that V speaks of. -/
def Rd (Bx len : Nat) (a : Option Addr) (cap : Nat) (V : Nat → GF → Prop) (W : World) : Prop :=
  W.cell? ⟨Bx, 0, none⟩ = some (.slice a len cap) ∧ ∀ j, j < len → ∃ b off c, a = some ⟨b, off, none⟩ ∧ V j c ∧ W.cell? ⟨b, off + j, none⟩ = some (.int .u8 (toI c))
/-- What has come: the last ones, from the last on. -/
def Bk (len : Nat) (V : Nat → GF → Prop) (pre : List (It len)) : Prop :=
  pre.length ≤ len ∧ ∀ k (h : k < pre.length), (pre[k]).1.1 = len - 1 - k ∧ V (len - 1 - k) (pre[k]).2
theorem Bk.nil (len : Nat) (V : Nat → GF → Prop) : Bk len V [] := ⟨Nat.zero_le _, fun k h => by simp at h⟩
theorem Bk.snoc {len : Nat} {V : Nat → GF → Prop} {pre : List (It len)} (h : Bk len V pre) (x : It len) (hl : pre.length < len) (hx : x.1.1 = len - 1 - pre.length) (hV : V x.1.1 x.2) : Bk len V (pre ++ [x]) := by
  refine ⟨by simp; omega, fun k hk => ?_⟩
  by_cases e : k < pre.length
  · rw [List.getElem_append_left e]; exact h.2 k e
  · have e2 : k = pre.length := by simp at hk; omega
    subst e2
    rw [List.getElem_append_right (Nat.le_refl _)]
    simp only [Nat.sub_self, List.getElem_cons_zero]
    exact ⟨hx, hx ▸ hV⟩

set_option maxRecDepth 100000 in
set_option maxHeartbeats 2000000 in
theorem back1_in (F : Fence) (n : Nat) (hF : F.fn 174) (hro : F.round = none) (hn : 1 ≤ n) (l Bx len cap : Nat) (a : Option Addr) (V : Nat → GF → Prop) (hlen : len ≤ 140737488355328) (J Jx : List (It len) → World → Prop)
    (hY : ∀ pre x W, J pre W → pre.length < len → YieldAt F (n - 1) Tryz.prog l (itv x) W fun e W' =>
      (e = .returned (.bool true) ∧ J (pre ++ [x]) W' ∧ (Rd Bx len a cap V W → Rd Bx len a cap V W')) ∨ (e = .returned (.bool false) ∧ Jx (pre ++ [x]) W'))
    (W : World) (hR0 : Rd Bx len a cap V W) (h0 : J [] W) :
    CallsIn F n Tryz.prog 174 #[.func (.yield l) #[] #[], .pointer (some ⟨Bx, 0, none⟩)] W fun e W' => (∃ v, e = .returned v) ∧
      ((∃ ys, (ys.length = len ∧ Bk len V ys) ∧ J ys W') ∨ (∃ pre, Bk len V pre ∧ Jx pre W')) := by
  refine callsIn_of_wp Tryz.func174 rfl hF ?_ hro
  simp only [Tryz.ntmps174, List.size_toArray, List.length_cons, List.length_nil, Nat.reduceAdd, Nat.reduceSub, Array.replicate_succ, Array.replicate_zero, List.push_toArray, List.append_toArray, List.nil_append, List.cons_append]
  have hb := hR0.1
  gi_wp2
  gi_loopw [3] (fun i wr => ∃ (r : Nat) (pre : List (It len)), pre.length + r = len ∧ Bk len V pre ∧ ((r = 0 ∧ i = .int .i64 (-1)) ∨ ∃ j : Nat, r = j + 1 ∧ i = .int .i64 (j : Int)) ∧ J pre wr ∧ Rd Bx len a cap V wr)
    (fun i _ => (intOf i + 1).toNat)
  case atStart =>
    refine ⟨len, [], by simp, Bk.nil _ _, ?_, h0, hR0⟩
    rcases Nat.eq_zero_or_pos len with e | e
    · subst e; exact .inl ⟨rfl, by go_num⟩
    · obtain ⟨j, rfl⟩ : ∃ j, len = j + 1 := ⟨len - 1, by omega⟩
      exact .inr ⟨j, rfl, by go_num⟩
  case round =>
    obtain ⟨r, pre, hpl, hbk, hi, hJs, hRd⟩ := hrel
    rcases hi with ⟨rfl, rfl⟩ | ⟨j, rfl, rfl⟩
    · gi_wp2
      go_end0
      exact ⟨⟨_, rfl⟩, .inl ⟨pre, ⟨by omega, hbk⟩, hJs⟩⟩
    · obtain ⟨b, off, c, rfl, hV, hc⟩ := hRd.2 j (by omega)
      have hbx := hRd.1
      obtain ⟨fn, tmps, assign, body, hy, hR⟩ := hY pre (⟨j, by omega⟩, c) wr hJs (by omega)
      dsimp only [itv] at hy
      have q1 : (j : Int) < (len : Int) := by omega
      have q2 : (0 : Int) ≤ (j : Int) := by omega
      have hk := hbk.snoc (⟨j, by omega⟩, c) (by omega) (by show j = _; omega) hV
      gi_wp2
      refine hR.mono ?_
      rintro e W3 (⟨rfl, hJ3, hk3⟩ | ⟨rfl, hJx3⟩)
      · gi_wp2
        go_roundw
        case rel =>
          refine ⟨j, _, by simp; omega, hk, ?_, hJ3, hk3 hRd⟩
          rcases Nat.eq_zero_or_pos j with e | e
          · subst e; exact .inl ⟨rfl, by go_num⟩
          · obtain ⟨m, rfl⟩ : ∃ m, j = m + 1 := ⟨j - 1, by omega⟩
            exact .inr ⟨m, rfl, by go_num⟩
        case measure => simp [intOf]
      · gi_wp2
        refine bodyPost_ret (results_none rfl _ _ _) rfl ?_
        exact ⟨⟨_, rfl⟩, .inr ⟨_, hk, hJx3⟩⟩

set_option maxHeartbeats 1000000 in
theorem back_any (a : Option Addr) (len cap : Nat) (w : World) :
    Calls Tryz.prog 160 #[.slice a len cap] w fun e w' => e = .returned (.func (.func 174) #[] #[.pointer (some ⟨w.heap.size, 0, none⟩)]) ∧ w' = w.alloc (.cells #[.slice a len cap] 22) := by
  go_enter Tryz.func160, Tryz.ntmps160
  go_wp2
  go_ret
  exact ⟨rfl, rfl⟩

/-- The iterator's contract, for whatever keeps what it reads. -/
theorem back_stops (F : Fence) (n : Nat) (hF : F.fn 174) (hro : F.round = none) (hn : 1 ≤ n) (Bx len cap : Nat) (a : Option Addr) (V : Nat → GF → Prop) (hlen : len ≤ 140737488355328) (w : World)
    (hBx : Bx < w.heap.size) (hR : Rd Bx len a cap V w) (hlow : 0 < len → ∀ b off, a = some ⟨b, off, none⟩ → b < w.heap.size) :
    SeqStopsK F n Tryz.prog 174 #[.pointer (some ⟨Bx, 0, none⟩)] (itv (len := len)) (fun W W' => Rd Bx len a cap V W → Rd Bx len a cap V W') (fun ys => ys.length = len ∧ Bk len V ys) (Bk len V) len w := fun l J Jx W hW _ _ hY h0 => by
  refine back1_in F n hF hro hn l Bx len cap a V hlen J Jx hY W ⟨(hW.cell (p := ⟨Bx, 0, none⟩) hBx).trans hR.1, fun j hj => ?_⟩ h0
  obtain ⟨b, off, c, e, hV, hc⟩ := hR.2 j hj
  exact ⟨b, off, c, e, hV, (hW.cell (p := ⟨b, off + j, none⟩) (hlow (by omega) b off e)).trans hc⟩
end Go.Proofs.YtappfdbmhgifcaaGreatDoor
/- The field's operations on numbers of GF; contracts of poly's Degree, trimmed, Trim, Eval. -/
namespace Go.Proofs.YtappfdbmhgifcaaGreatDoor
open Go.ChangeShapes Go.WideShapes Go.ChangeAt Go.RowKit Go.Shelf GF
set_option linter.unusedVariables false
attribute [local go_sem] Oper.semAt_some

theorem gmI_G (x y : GF) : gmI (toI x) (toI y) = toI (x * y) := rfl
theorem mul_G (b : Nat) (x y : GF) (w : World) (hf : Fld w b) : Calls Tryz.prog 104 #[.pointer (some ⟨b, 0, none⟩), .int .u8 (toI x), .int .u8 (toI y)] w fun e w' => e = .returned (.int .u8 (toI (x * y))) ∧ w = w' :=
  mul_I b _ _ w hf (toI_bd x) (toI_bd y)
theorem add_G (x y : GF) (w : World) : Calls Tryz.prog 56 #[.int .u8 (toI x), .int .u8 (toI y)] w fun e w' => e = .returned (.int .u8 (toI (x + y))) ∧ w = w' :=
  add_I _ _ (toI_bd x) (toI_bd y) w
theorem div_G (b : Nat) (x y : GF) (w : World) (hf : Fld w b) (hy : y ≠ 0) : Calls Tryz.prog 134 #[.pointer (some ⟨b, 0, none⟩), .int .u8 (toI x), .int .u8 (toI y)] w fun e w' => e = .returned (.tuple #[.int .u8 (toI (x * GF.inv y)), .int .i64 0]) ∧ w = w' :=
  div_ok b x.1 y.1 w hf x.2 y.2 (GF.val_ne hy)
theorem cell_of_heap {W W' : World} {p : Addr} {v : Value} (h : W.cell? p = some v) (e : W'.heap[p.block]? = W.heap[p.block]?) : W'.cell? p = some v := by
  unfold World.cell? at h ⊢; rw [e]; exact h
theorem Rd.other {Bx len cap : Nat} {a : Option Addr} {V : Nat → GF → Prop} {W W' : World} (h : Rd Bx len a cap V W) (blk : Nat) (hh : ∀ k, k ≠ blk → k < W.heap.size → W'.heap[k]? = W.heap[k]?) (h1 : Bx ≠ blk) (h2 : ∀ b off, a = some ⟨b, off, none⟩ → b ≠ blk) : Rd Bx len a cap V W' := by
  have lt : ∀ {p : Addr} {v : Value}, W.cell? p = some v → p.block < W.heap.size := fun {p v} hc => by
    rcases Nat.lt_or_ge p.block W.heap.size with hlt | hge
    · exact hlt
    · unfold World.cell? at hc; rw [Array.getElem?_eq_none hge] at hc; cases hc
  refine ⟨cell_of_heap h.1 (hh _ h1 (lt h.1)), fun j hj => ?_⟩
  obtain ⟨b, off, c, e, hV, hc⟩ := h.2 j hj
  exact ⟨b, off, c, e, hV, cell_of_heap hc (hh _ (h2 b off e) (lt hc))⟩
theorem Rd.put {Bx len cap : Nat} {a : Option Addr} {V : Nat → GF → Prop} {W : World} {l : Nat} {o : Obj} (o' : Obj) (hl : W.heap[l]? = some o) (ho : o.isCells = false) (h : Rd Bx len a cap V W) : Rd Bx len a cap V (W.putObj l o') := by
  have key : ∀ {p : Addr} {v : Value}, W.cell? p = some v → (W.putObj l o').cell? p = some v := fun {p v} hc => cell_kept hc (grownBy_putObj' W l o') (fun r e => by cases e; exact ⟨_, hl, ho⟩)
  refine ⟨key h.1, fun j hj => ?_⟩
  obtain ⟨b, off, c, e, hV, hc⟩ := h.2 j hj
  exact ⟨b, off, c, e, hV, key hc⟩
/-- A slice of bytes in its box, ready to be gone through. -/
theorem rd_of {W : World} {Bx B a len cap} {P : List GF} (hb : W.cell? ⟨Bx, 0, none⟩ = some (.slice a len cap)) (h : Bs W B a (iL P)) (hl : P.length = len) : Rd Bx len a cap (fun j c => c = co P j) W := by
  refine ⟨hb, fun j hj => ?_⟩
  obtain ⟨b, off, e, hB, hc⟩ := h (by rw [length_iL]; omega)
  exact ⟨b, off, _, e, rfl, by rw [hc j (by rw [length_iL]; omega), getD_iL]⟩
theorem Bs.low {w : World} {B : Nat} {a : Option Addr} {l : List Int} (h : Bs w B a l) (hl : 0 < l.length) : ∀ b off, a = some ⟨b, off, none⟩ → b < B := fun b off e => by
  obtain ⟨b', off', e', hB, _⟩ := h hl
  rw [e] at e'; cases e'; exact hB

set_option maxRecDepth 100000 in
set_option maxHeartbeats 2000000 in
theorem degree_any (a : Option Addr) (L cap : Nat) (P : List GF) (w : World) (hx : Arg8 w a L cap (iL P)) (hL : L ≤ 140737488355328) :
    Calls Tryz.prog 137 #[.slice a L cap] w fun e w' => e = .returned (.int .i64 (((tr P).length : Int) - 1)) ∧ Below w.heap.size w w' := by
  have hPl : P.length = L := by have := hx.1; rwa [length_iL] at this
  refine (callsIn_wide (n := 3)).1 ?_
  refine callsIn_of_wp_marks Tryz.func137 rfl trivial ?_ rfl
  simp only [Tryz.ntmps137, List.size_toArray, List.length_cons, List.length_nil, Nat.reduceAdd, Nat.reduceSub, Array.replicate_succ, Array.replicate_zero, List.push_toArray, List.append_toArray, List.nil_append, List.cons_append]
  have HX := Lib.hid hx
  clear hx
  gi_wp2_with (refine ⟨trivial, ?_⟩; gi_at_call 160; refine (callsIn_wide.2 (back_any _ _ _ _)).mono ?_; rintro e w' ⟨rfl, rfl⟩)
  have bR := Boxed.new w 3 (.int .i64 0)
  have bN := Boxed.new (w.alloc (.cells #[.int .i64 0] 3)) 22 (.slice a L cap)
  rw [World.size_alloc] at bN
  have hB0 : Below w.heap.size w ((w.alloc (.cells #[.int .i64 0] 3)).alloc (.cells #[.slice a L cap] 22)) := ((Below.refl _ w).alloc (Nat.le_refl _) _).alloc (by simp) _
  refine wpIn_rangeFunc_ownF rfl (by omega) (gf := 174) (lb := #[.pointer (some ⟨w.heap.size + 1, 0, none⟩)]) rfl trivial (enters_of Tryz.func174 (by kernel_rfl) rfl)
    (back_stops Fence.wide (3 - 1) trivial rfl (by omega) (w.heap.size + 1) L cap a (fun j c => c = co P j) hL _ (by simp) (rd_of bN.cell (HX.out.2.2.1.below hB0) hPl) (fun h0 b off e => by have := HX.out.2.2.1.low (by rw [length_iL]; omega) b off e; simp; omega)) (fun h k r => k (h r)) (fun W l o o' _ hl ho _ r => r.put o' hl ho) (Below.refl _ _) (fun _ => by rfl)
    (fun pre W => ((∀ p ∈ pre, p.2 = 0) ∧ W.cell? ⟨w.heap.size, 0, none⟩ = some (.int .i64 0) ∧ W.frozen? ⟨w.heap.size, 0, none⟩ = false) ∧ Below w.heap.size w W)
    (fun c pre W => (c = .ret ∧ ∃ ini last, pre = ini ++ [last] ∧ (∀ p ∈ ini, p.2 = 0) ∧ last.2 ≠ 0 ∧ W.cell? ⟨w.heap.size, 0, none⟩ = some (.int .i64 ((last.1.1 : Nat) : Int))) ∧ Below w.heap.size w W)
    (OwnFrom.and (Own.from (fun s A B row hs hg hr => ⟨hs.1, cell_kept hs.2.1 hg hr, (frozen_kept hs.2.1 hg hr).trans hs.2.2⟩) _) (ownFrom_below (Nat.le_refl _) (by simp; omega)))
    (fun c => OwnFrom.and (Own.from (fun s A B row hs hg hr => by obtain ⟨hc, ini, last, e1, e2, e3, e4⟩ := hs; exact ⟨hc, ini, last, e1, e2, e3, cell_kept e4 hg hr⟩) _) (ownFrom_below (Nat.le_refl _) (by simp; omega)))
    ⟨⟨by simp, (bR.alloc _).cell, (bR.alloc _).frozen⟩, hB0⟩
    (fun x => { tmps := #[.slice a L cap, undef, .pointer (some ⟨w.heap.size, 0, none⟩), .int .i64 ((x.1.1 : Nat) : Int), .int .u8 (toI x.2), .slice a L cap, .func (.func 174) #[] #[.pointer (some ⟨w.heap.size + 1, 0, none⟩)], .int .i64 ((x.1.1 : Nat) : Int), .int .u8 (toI x.2), undef, undef, undef], defers := [] }) ?assign ?body ?done ?stop
  case assign =>
    intro l x W K hK
    dsimp only [itv]
    gi_wp2
    exact hK
  case body =>
    rintro l pre x W ⟨⟨hp, hcr, hfr⟩, hB⟩ _
    by_cases hz : x.2 = 0
    · have q : (toI x.2 != 0) = false := by rw [hz]; rfl
      gi_wp2
      exact ⟨KeepsOthers.refl _, fun r => r, ⟨fun p hp' => (List.mem_append.1 hp').elim (hp p) (fun e => by simp at e; subst e; exact hz), hcr, hfr⟩, hB⟩
    · have q : (toI x.2 != 0) = true := by rw [bne_iff_ne]; exact fun e => hz (toI_eq_zero.1 e)
      gi_wp2
      exact ⟨KeepsOthers.setCell _ _ _, ⟨rfl, pre, x, rfl, hp, hz, World.cell?_setCell_same' _ _ _ (by rw [hcr]; rfl)⟩, hB.setCell (p := ⟨w.heap.size, 0, none⟩) (Nat.le_refl _) _⟩
  case done =>
    rintro D ys W hD ⟨hys, hbk⟩ ⟨⟨hne, hcr, hfr⟩, hB⟩ hK
    gi_wp2
    have hK' := (KeepsOthers.setCell W ⟨w.heap.size, 0, none⟩ (.int .i64 (-1))).same D _ hK rfl
    refine ⟨by simp, .inl ⟨_, _, rfl, run_takeDeferred hK', ?_⟩⟩
    have hc5 := cell_kept (World.cell?_setCell_same' W ⟨w.heap.size, 0, none⟩ (.int .i64 (-1)) (by rw [hcr]; rfl)) (grownBy_putObj' _ D (.deferred none)) (fun r e => by cases e; exact ⟨_, hK', rfl⟩)
    have h0 : tr P = [] := tr_nil.2 fun k => by
      by_cases hk : k < L
      · have h1 := hbk.2 (L - 1 - k) (by omega)
        have h2 := hne _ (List.getElem_mem (show L - 1 - k < ys.length by omega))
        rw [show L - 1 - (L - 1 - k) = k by omega] at h1
        rw [← h1.2, h2]
      · exact co_ge (by omega)
    refine ⟨.int .i64 (-1), ?_, by rw [h0]; rfl, (hB.setCell (p := ⟨w.heap.size, 0, none⟩) (Nat.le_refl _) _).trans (belowK_b (w := w) (Nat.le_refl _) _ D _ _ (by simp at hD; omega) hK' rfl rfl)⟩
    simp [results, Tryz.f137, go_sem, hc5]
  case stop =>
    rintro D c pre W hD hbk ⟨⟨rfl, ini, last, e1, e2, e3, hcr⟩, hB⟩ hK
    gi_wp2
    refine ⟨by simp, .inl ⟨_, _, rfl, run_takeDeferred hK, ?_⟩⟩
    have hc5 := cell_kept hcr (grownBy_putObj' _ D (.deferred none)) (fun r e => by cases e; exact ⟨_, hK, rfl⟩)
    subst e1
    have hlen := hbk.1
    simp at hlen
    have hl := hbk.2 ini.length (by simp)
    rw [List.getElem_append_right (Nat.le_refl _)] at hl
    simp only [Nat.sub_self, List.getElem_cons_zero] at hl
    have h1 : (tr P).length ≤ L - 1 - ini.length + 1 := tr_len.2 fun k hk => by
      by_cases hk2 : k < L
      · have h3 := hbk.2 (L - 1 - k) (by simp; omega)
        rw [List.getElem_append_left (by omega)] at h3
        have h2 := e2 _ (List.getElem_mem (show L - 1 - k < ini.length by omega))
        rw [show L - 1 - (L - 1 - k) = k by omega] at h3
        rw [← h3.2, h2]
      · exact co_ge (by omega)
    have h2 : ¬ (tr P).length ≤ L - 1 - ini.length := fun h => e3 (by rw [hl.2]; exact tr_len.1 h _ (Nat.le_refl _))
    refine ⟨.int .i64 ((last.1.1 : Nat) : Int), ?_, by rw [hl.1]; congr 2; omega, hB.trans (belowK_b (w := w) (Nat.le_refl _) W D _ _ (by simp at hD; omega) hK rfl rfl)⟩
    simp [results, Tryz.f137, go_sem, hc5]
end Go.Proofs.YtappfdbmhgifcaaGreatDoor
/- Contracts of poly's trimmed, Trim, Eval, and of slices.Clone. -/
namespace Go.Proofs.YtappfdbmhgifcaaGreatDoor
open Go.ChangeShapes Go.WideShapes Go.ChangeAt Go.RowKit Go.Shelf GF
set_option linter.unusedVariables false
set_option maxRecDepth 100000
attribute [local go_sem] Oper.semAt_some

theorem tr_take (l : List GF) : l.take (tr l).length = tr l := by
  have h := tr_len_le l
  apply ext_co (by simp; omega)
  intro k hk
  rw [co_tr, co_take (by simp at hk; omega)]
theorem iL_take (l : List GF) (n : Nat) : iL (l.take n) = (iL l).take n := by simp [iL, List.map_take]
theorem Arg8.len {w : World} {a : Option Addr} {L cap : Nat} {P : List GF} (h : Arg8 w a L cap (iL P)) : P.length = L := by have := h.1; rwa [length_iL] at this
theorem Arg8.trim {w : World} {a : Option Addr} {L cap : Nat} {P : List GF} (h : Arg8 w a L cap (iL P)) : Arg8 w a (tr P).length cap (iL (tr P)) := by
  have hl := tr_len_le P
  have := h.len
  refine ⟨length_iL _, allB_iL _, ?_, by have := h.2.2.2.1; omega, h.2.2.2.2⟩
  have := h.2.2.1.take (tr P).length
  rwa [← iL_take, tr_take] at this

theorem trimmed_8 (a : Option Addr) (L cap : Nat) (P : List GF) (w : World) (hx : Arg8 w a L cap (iL P)) (hL : L ≤ 140737488355328) :
    Calls Tryz.prog 161 #[.slice a L cap] w fun e w' => e = .returned (.slice a (tr P).length cap) ∧ Below w.heap.size w w' := by
  have hn := tr_len_le P
  have hPl := hx.len
  have hcap := hx.2.2.2
  have HX := Lib.hid hx
  clear hx
  obtain ⟨n, hN⟩ : ∃ n, n = (tr P).length := ⟨_, rfl⟩
  have HN := Lib.hid hN
  rw [← hN] at hn ⊢
  have q1 : (n : Int) - 1 + 1 = (n : Int) := by omega
  rw [hPl] at hn
  have hm : cap ≤ 9223372036854775807 := by have := hcap.2; unfold maxLen at this; omega
  have hd : ∀ w1 : World, w1 = w → Calls Tryz.prog 137 #[.slice a L cap] w1 fun e w' => e = .returned (.int .i64 ((n : Int) - 1)) ∧ Below w.heap.size w w' := fun w1 e => by subst e; rw [HN.out]; exact degree_any a L cap P _ HX.out hL
  have HD := Lib.hid hd
  clear hN hPl hd
  go_enter Tryz.func161, Tryz.ntmps161
  go_wp2_with (go_at_call 137; refine (HD.out _ rfl).mono ?_; rintro e w1 ⟨rfl, hb⟩)
  go_ret
  exact ⟨rfl, hb⟩

theorem own_base {w : World} {base base' : Nat} {e : TypeId} {v : Value} {n : Nat} {xs : List Value} (h : w.ownsRow base e 1 v n xs) (hb : base' ≤ base) : w.ownsRow base' e 1 v n xs := by
  refine ⟨h.1, ?_⟩
  rcases h.2 with h2 | ⟨g, cap, cur, h1, h2, h3⟩
  · exact .inl h2
  · exact .inr ⟨g, cap, cur, h1, Nat.le_trans hb h2, h3⟩
/-- An argument that is a polynomial. -/
def Pa (w : World) (a : Option Addr) (len cap : Nat) (P : List GF) : Prop := Arg8c w a len cap (iL P)
theorem Pa.len {w : World} {a : Option Addr} {L cap : Nat} {P : List GF} (h : Pa w a L cap P) : P.length = L := h.1.len
theorem Pa.on {W w : World} {a : Option Addr} {n c : Nat} {P : List GF} (h : Pa W a n c P) (hb : Below W.heap.size W w) : Pa w a n c P := ⟨h.1.on hb, h.2⟩
theorem Pa.trim {w : World} {a : Option Addr} {L cap : Nat} {P : List GF} (h : Pa w a L cap P) : Pa w a (tr P).length cap (tr P) := ⟨h.1.trim, h.2⟩
theorem Pa.of {w : World} {a : Option Addr} {L cap : Nat} {l : List Int} (h : Arg8c w a L cap l) : Pa w a L cap (gL l) := by unfold Pa; rw [iL_gL h.1.2.1]; exact h
/-- A row of one's own, as an argument. -/
theorem Pa.own {w : World} {base : Nat} {e : TypeId} {v : Value} {n : Nat} {P : List GF} (h : w.ownsRow base e 1 v n ((iL P).map (Value.int .u8))) : ∃ a c, v = .slice a n c ∧ Pa w a n c P ∧ (∀ b off, a = some ⟨b, off, none⟩ → base ≤ b ∧ off = 0) := by
  obtain ⟨a, c, rfl, hb, hl, h1, h2, h3⟩ := own_form h
  refine ⟨a, c, rfl, ⟨⟨hl, allB_iL P, hb, h1, h2⟩, h3⟩, fun b off e => ?_⟩
  rcases h.2 with ⟨h4, _⟩ | ⟨g, cap, cur, hv, hg, _⟩
  · cases h4; cases e
  · cases hv; cases e; exact ⟨hg, rfl⟩

set_option maxRecDepth 100000 in
theorem eql_nil (w : World) : (binOp .eql 22 (.slice none 0 0) (.slice none 0 0)).run Tryz.prog w = .ok (.bool true) w := rfl
set_option maxRecDepth 100000 in
theorem eql_some (w : World) (ad : Addr) (n c : Nat) : (binOp .eql 22 (.slice (some ad) n c) (.slice none 0 0)).run Tryz.prog w = .ok (.bool false) w := rfl
theorem clone_any (a : Option Addr) (L cap : Nat) (P : List GF) (w : World) (hx : Pa w a L cap P) (hL : L ≤ 140737488355328) :
    Calls Tryz.prog 154 #[.slice a L cap] w fun e w' => ∃ v, e = .returned v ∧ w'.ownsRow w.heap.size 5 1 v L ((iL P).map (Value.int .u8)) ∧ Below w.heap.size w w' := by
  have HX := Lib.hid hx
  have hcap := hx.1.2.2.2
  clear hx
  rcases a with _ | ad
  · obtain rfl : cap = 0 := HX.out.2 rfl
    obtain rfl : L = 0 := by omega
    have h0 : P = [] := List.eq_nil_of_length_eq_zero HX.out.len
    have H0 := Lib.hid h0
    have he := eql_nil
    clear h0
    go_enter Tryz.func154, Tryz.ntmps154
    go_wp2
    go_ret
    rw [H0.out]
    exact ⟨_, rfl, World.ownsRow_nil _ _ _ _, Below.refl _ _⟩
  · obtain ⟨i5, hi, hz0, hz1, hz2⟩ := info_parts info5
    have HI := Lib.hid (And.intro hi (And.intro hz0 (And.intro hz1 hz2)))
    clear hi hz0 hz1 hz2
    have he := fun w => eql_some w ad L cap
    go_enter Tryz.func154, Tryz.ntmps154
    go_wp2_with ((with_reducible show wpList _ _ _ (⟨some 7, _, _, _, _, _⟩ :: _) _ _); refine wpList_append_bs _ rfl (.tmp 5) (.tmp 6) 22 rfl w.heap.size 5 i5 Tryz.underlying22 HI.out.1 HI.out.2.1 HI.out.2.2.1 HI.out.2.2.2 _ 0 [] rfl (own_empty w _) (some ad) L cap w.heap.size (iL P) rfl (HX.out.1.2.2.1.below ((Below.refl _ _).alloc (Nat.le_refl _) _)) HX.out.1.1 (by simp) (by omega) (by simp) ?_; intro v1 wc hown1 hg1; rw [Nat.zero_add, List.nil_append] at hown1; have hBc := ((Below.refl _ w).alloc (Nat.le_refl _) _).grown hg1 (by simp) (own_block_le _ _ _); have HO := Lib.hid hown1; have HB := Lib.hid hBc; obtain ⟨ac, cc, hv, _, _, _, _, _⟩ := own_form hown1; subst hv; clear hown1 hBc hg1)
    go_ret
    exact ⟨_, rfl, HO.out, HB.out⟩

theorem trim_any (a : Option Addr) (L cap : Nat) (P : List GF) (w : World) (hx : Pa w a L cap P) (hL : L ≤ 140737488355328) :
    Calls Tryz.prog 162 #[.slice a L cap] w fun e w' => ∃ v, e = .returned v ∧ w'.ownsRow w.heap.size 5 1 v (tr P).length ((iL (tr P)).map (Value.int .u8)) ∧ Below w.heap.size w w' := by
  have HX := Lib.hid hx
  have hn : (tr P).length ≤ 140737488355328 := by have := tr_len_le P; have := hx.len; omega
  clear hx
  go_enter Tryz.func162, Tryz.ntmps162
  go_wp2_with (first
    | (go_at_call 161; refine (trimmed_8 _ _ _ P _ HX.out.1 hL).mono ?_; rintro e w1 ⟨rfl, hb1⟩)
    | (go_at_call 154; refine (clone_any _ _ _ (tr P) _ (HX.out.trim.on hb1) hn).mono ?_; rintro e w2 ⟨v, rfl, hown, hb2⟩; obtain ⟨ac, cc, hv, _, _, _, _, _⟩ := own_form hown; subst hv; have HO := Lib.hid hown; clear hown))
  go_ret
  exact ⟨_, rfl, own_base HO.out hb1.size, bt hb1 hb2⟩
end Go.Proofs.YtappfdbmhgifcaaGreatDoor
/- Contract of poly's Eval. -/
namespace Go.Proofs.YtappfdbmhgifcaaGreatDoor
open Go.ChangeShapes Go.WideShapes Go.ChangeAt Go.RowKit Go.Shelf GF
set_option linter.unusedVariables false
set_option maxRecDepth 100000
attribute [local go_sem] Oper.semAt_some

/-- What the rounds have reckoned. -/
def hor {L : Nat} (x : GF) (pre : List (It L)) : GF := pre.foldl (fun o p => o * x + p.2) 0
theorem hor_snoc {L : Nat} (x : GF) (pre : List (It L)) (y : It L) : hor x (pre ++ [y]) = hor x pre * x + y.2 := by simp [hor]
theorem hor_ev {L : Nat} (x : GF) (P : List GF) (hP : P.length = L) (ys : List (It L)) (h : Bk L (fun j c => c = co P j) ys) : hor x ys = ev (P.drop (L - ys.length)) x := by
  have key : ∀ k, k ≤ ys.length → hor x (ys.take k) = ev (P.drop (L - k)) x := by
    intro k
    induction k with
    | zero => intro _; rw [List.take_zero, Nat.sub_zero, ← hP, List.drop_length]; rfl
    | succ k ih =>
      intro hk
      have h1 := h.1
      rw [List.take_succ_eq_append_getElem (by omega), hor_snoc, ih (by omega), (h.2 k (by omega)).2, ev_drop P (L - (k + 1)), GF.mul_comm, GF.add_comm]
      rw [show L - 1 - k = L - (k + 1) by omega, show L - (k + 1) + 1 = L - k by omega]
  have := key ys.length (Nat.le_refl _)
  rwa [List.take_length] at this

set_option maxRecDepth 100000 in
set_option maxHeartbeats 2000000 in
theorem eval_8 (b : Nat) (a : Option Addr) (L cap : Nat) (P : List GF) (x : GF) (w : World) (hf : Fld w b) (hx : Arg8 w a L cap (iL P)) (hL : L ≤ 140737488355328) :
    Calls Tryz.prog 158 #[.pointer (some ⟨b, 0, none⟩), .slice a L cap, .int .u8 (toI x)] w fun e w' => e = .returned (.int .u8 (toI (ev P x))) ∧ Below w.heap.size w w' := by
  have hPl : P.length = L := hx.len
  refine (callsIn_wide (n := 3)).1 ?_
  refine callsIn_of_wp_marks Tryz.func158 rfl trivial ?_ rfl
  simp only [Tryz.ntmps158, List.size_toArray, List.length_cons, List.length_nil, Nat.reduceAdd, Nat.reduceSub, Array.replicate_succ, Array.replicate_zero, List.push_toArray, List.append_toArray, List.nil_append, List.cons_append]
  have HX := Lib.hid hx
  have HF := Lib.hid hf
  clear hx hf
  gi_wp2_with (refine ⟨trivial, ?_⟩; gi_at_call 160; refine (callsIn_wide.2 (back_any _ _ _ _)).mono ?_; rintro e w' ⟨rfl, rfl⟩)
  have b0 := Boxed.new w 32 (.pointer (some ⟨b, 0, none⟩))
  have b1 := Boxed.new (w.alloc (.cells #[.pointer (some ⟨b, 0, none⟩)] 32)) 5 (.int .u8 (toI x))
  have b2 := Boxed.new ((w.alloc (.cells #[.pointer (some ⟨b, 0, none⟩)] 32)).alloc (.cells #[.int .u8 (toI x)] 5)) 5 (.int .u8 0)
  have b3 := Boxed.new (((w.alloc (.cells #[.pointer (some ⟨b, 0, none⟩)] 32)).alloc (.cells #[.int .u8 (toI x)] 5)).alloc (.cells #[.int .u8 0] 5)) 22 (.slice a L cap)
  simp only [World.size_alloc] at b1 b2 b3
  have hB0 : Below w.heap.size w ((((w.alloc (.cells #[.pointer (some ⟨b, 0, none⟩)] 32)).alloc (.cells #[.int .u8 (toI x)] 5)).alloc (.cells #[.int .u8 0] 5)).alloc (.cells #[.slice a L cap] 22)) := ((((Below.refl _ w).alloc (Nat.le_refl _) _).alloc (by simp) _).alloc (by simp; omega) _).alloc (by simp; omega) _
  refine wpIn_rangeFunc_ownF rfl (by omega) (gf := 174) (lb := #[.pointer (some ⟨w.heap.size + 1 + 1 + 1, 0, none⟩)]) rfl trivial (enters_of Tryz.func174 (by kernel_rfl) rfl)
    (back_stops Fence.wide (3 - 1) trivial rfl (by omega) (w.heap.size + 1 + 1 + 1) L cap a (fun j c => c = co P j) hL _ (by simp) (rd_of b3.cell (HX.out.2.2.1.below hB0) hPl) (fun h0 b off e => by have := HX.out.2.2.1.low (by rw [length_iL]; omega) b off e; simp; omega)) (fun h k r => k (h r)) (fun W l o o' _ hl ho _ r => r.put o' hl ho) (Below.refl _ _) (fun _ => by rfl)
    (fun pre W => (W.cell? ⟨w.heap.size, 0, none⟩ = some (.pointer (some ⟨b, 0, none⟩)) ∧ W.cell? ⟨w.heap.size + 1, 0, none⟩ = some (.int .u8 (toI x)) ∧ W.cell? ⟨w.heap.size + 1 + 1, 0, none⟩ = some (.int .u8 (toI (hor x pre))) ∧ W.frozen? ⟨w.heap.size + 1 + 1, 0, none⟩ = false) ∧ Below w.heap.size w W)
    (fun _ _ _ => False)
    (OwnFrom.and (Own.from (fun s A B row hs hg hr => ⟨cell_kept hs.1 hg hr, cell_kept hs.2.1 hg hr, cell_kept hs.2.2.1 hg hr, (frozen_kept hs.2.2.1 hg hr).trans hs.2.2.2⟩) _) (ownFrom_below (Nat.le_refl _) (by simp; omega)))
    (fun _ _ _ _ _ hs _ _ => hs)
    ⟨⟨(((b0.alloc _).alloc _).alloc _).cell, ((b1.alloc _).alloc _).cell, (b2.alloc _).cell, (b2.alloc _).frozen⟩, hB0⟩
    (fun y => { tmps := #[.pointer (some ⟨b, 0, none⟩), .slice a L cap, .int .u8 (toI x), .pointer (some ⟨w.heap.size, 0, none⟩), undef, .pointer (some ⟨w.heap.size + 1, 0, none⟩), .int .u8 0, .pointer (some ⟨w.heap.size + 1 + 1, 0, none⟩), undef, .int .u8 (toI y.2), .pointer (some ⟨b, 0, none⟩), .bool false, .slice a L cap, .func (.func 174) #[] #[.pointer (some ⟨w.heap.size + 1 + 1 + 1, 0, none⟩)], .int .i64 ((y.1.1 : Nat) : Int), .int .u8 (toI y.2), undef, undef, undef, undef, undef, undef, undef], defers := [] }) ?assign ?body ?done ?stop
  case assign =>
    intro l y W K hK
    dsimp only [itv]
    gi_wp2
    exact hK
  case body =>
    rintro l pre y W ⟨⟨h1, h2, h3, h4⟩, hB⟩ _
    have hfw := HF.out.below hB
    have HB := Lib.hid hB
    clear hB
    gi_wp2_with (first
      | (refine ⟨trivial, ?_⟩; gi_at_call 104; refine (CallsIn.inRound l (callsIn_wide.2 (mul_G _ _ _ _ hfw))).mono ?_; rintro e w' ⟨rfl, rfl⟩)
      | (refine ⟨trivial, ?_⟩; gi_at_call 56; refine (CallsIn.inRound l (callsIn_wide.2 (add_G _ _ _))).mono ?_; rintro e w' ⟨rfl, rfl⟩))
    refine ⟨KeepsOthers.setCell _ _ _, fun r => r.other (w.heap.size + 1 + 1) (fun k hk _ => Below.heap_setCell _ _ _ k hk) (by omega) (fun bb off e => ?_), ⟨?_, ?_, ?_, ?_⟩, HB.out.setCell (p := ⟨w.heap.size + 1 + 1, 0, none⟩) (by simp; omega) _⟩
    · have := y.1.2
      have := HX.out.2.2.1.low (by rw [length_iL]; omega) bb off e; omega
    · exact cell_of_heap h1 (Below.heap_setCell _ _ _ _ (by simp; omega))
    · exact cell_of_heap h2 (Below.heap_setCell _ _ _ _ (by simp))
    · rw [hor_snoc]; exact World.cell?_setCell_same' _ _ _ (by rw [h3]; rfl)
    · rw [World.frozen?_setCell]; exact h4
  case done =>
    rintro D ys W hD ⟨hys, hbk⟩ ⟨⟨h1, h2, h3, h4⟩, hB⟩ hK
    have he := hor_ev x P hPl ys hbk
    rw [hys, Nat.sub_self, List.drop_zero] at he
    gi_wp2
    refine ⟨by simp, .inl ⟨_, _, rfl, run_takeDeferred hK, ?_⟩⟩
    exact ⟨_, results_tmp rfl _ _ _, rfl, hB.trans (belowK_b (w := w) (Nat.le_refl _) W D _ _ (by simp at hD; omega) hK rfl rfl)⟩
  case stop =>
    rintro D c pre W _ _ h _
    exact h.elim
end Go.Proofs.YtappfdbmhgifcaaGreatDoor
/- Contract of poly's addTimes: so many times one row added to another from a place on. -/
namespace Go.Proofs.YtappfdbmhgifcaaGreatDoor
open Go.ChangeShapes Go.WideShapes Go.ChangeAt Go.RowKit Go.Shelf GF
set_option linter.unusedVariables false
set_option maxRecDepth 100000

/-- P, and c times the first k of Q added from the place off on. -/
def addAt (P : List GF) (off : Nat) (c : GF) (Q : List GF) (k : Nat) : List GF := (List.range P.length).map fun j => if off ≤ j ∧ j < off + k then co P j + c * co Q (j - off) else co P j
def axp (P : List GF) (off : Nat) (c : GF) (Q : List GF) : List GF := addAt P off c Q Q.length
theorem length_addAt (P : List GF) (off : Nat) (c : GF) (Q : List GF) (k : Nat) : (addAt P off c Q k).length = P.length := by simp [addAt]
theorem length_axp (P : List GF) (off : Nat) (c : GF) (Q : List GF) : (axp P off c Q).length = P.length := length_addAt ..
theorem co_addAt {P : List GF} {off : Nat} {c : GF} {Q : List GF} {k j : Nat} (hj : j < P.length) : co (addAt P off c Q k) j = if off ≤ j ∧ j < off + k then co P j + c * co Q (j - off) else co P j := by
  simp only [addAt, co, List.getD_eq_getElem?_getD, List.getElem?_map, List.getElem?_range hj, Option.map_some, Option.getD_some]
theorem addAt_zero (P : List GF) (off : Nat) (c : GF) (Q : List GF) : addAt P off c Q 0 = P := by
  apply ext_co (length_addAt ..)
  intro j hj
  rw [co_addAt (by rwa [length_addAt] at hj), if_neg (by omega)]
theorem addAt_set {P : List GF} {off : Nat} {c : GF} {Q : List GF} {k : Nat} (h : off + k < P.length) : (addAt P off c Q k).set (off + k) (co P (off + k) + c * co Q k) = addAt P off c Q (k + 1) := by
  apply ext_co (by simp [length_addAt])
  intro j hj
  rw [List.length_set, length_addAt] at hj
  rw [co_set (by rw [length_addAt]; exact h), co_addAt hj, co_addAt hj]
  by_cases e : j = off + k
  · rw [if_pos e, if_pos (by omega), e, Nat.add_sub_cancel_left]
  · rw [if_neg e]
    by_cases h1 : off ≤ j ∧ j < off + k
    · rw [if_pos h1, if_pos (by omega)]
    · rw [if_neg h1, if_neg (by omega)]
theorem co_axp {P : List GF} {off : Nat} {c : GF} {Q : List GF} (h : off + Q.length ≤ P.length) (j : Nat) : co (axp P off c Q) j = co P j + if off ≤ j then c * co Q (j - off) else 0 := by
  by_cases hj : j < P.length
  · unfold axp
    rw [co_addAt hj]
    by_cases h1 : off ≤ j
    · rw [if_pos h1]
      by_cases h2 : j < off + Q.length
      · rw [if_pos ⟨h1, h2⟩]
      · rw [if_neg (by omega), co_ge (l := Q) (by omega), GF.mul_zero, GF.add_zero]
    · rw [if_neg (by omega), if_neg h1, GF.add_zero]
  · rw [co_ge (by rw [length_axp]; omega), co_ge (l := P) (by omega)]
    by_cases h1 : off ≤ j
    · rw [if_pos h1, co_ge (l := Q) (by omega), GF.mul_zero, GF.add_zero]
    · rw [if_neg h1, GF.add_zero]
/-- A row of numbers outside the block g. -/
def Pn (w : World) (g : Nat) (a : Option Addr) (P : List GF) : Prop :=
  0 < P.length → ∃ b off, a = some ⟨b, off, none⟩ ∧ b ≠ g ∧ ∀ i, i < P.length → w.cell? ⟨b, off + i, none⟩ = some (.int .u8 (toI (co P i)))
theorem Pn.grown {w w' : World} {g : Nat} {a : Option Addr} {P : List GF} (h : Pn w g a P) (hg : w.grownBy w' (some g)) : Pn w' g a P := fun h0 => by
  obtain ⟨b, off, e, hne, hc⟩ := h h0
  exact ⟨b, off, e, hne, fun i hi => hg.cell (hc i hi) (fun e => by injection e with e; exact hne e)⟩
theorem Pn.of {w : World} {B g : Nat} {a : Option Addr} {P : List GF} (h : Bs w B a (iL P)) (hB : B ≤ g) : Pn w g a P := fun h0 => by
  obtain ⟨b, off, e, hb, hc⟩ := h (by rwa [length_iL])
  exact ⟨b, off, e, by omega, fun i hi => by rw [hc i (by rwa [length_iL]), getD_iL]⟩
theorem Pn.at_ {w : World} {g : Nat} {a : Option Addr} {P : List GF} {k : Nat} (h : Pn w g a P) (hk : k < P.length) : ∃ b off, a = some ⟨b, off, none⟩ ∧ b ≠ g ∧ w.cell? ⟨b, off + k, none⟩ = some (.int .u8 (toI (co P k))) := by
  obtain ⟨b, off, e, hne, hc⟩ := h (by omega)
  exact ⟨b, off, e, hne, hc k hk⟩
theorem grown_trans {a b c : World} {row : Option Nat} (h : a.grownBy b row) (k : b.grownBy c row) : a.grownBy c row :=
  ⟨k.os.trans h.os, k.tape.trans h.tape, k.output.trans h.output, Nat.le_trans h.size k.size, fun i hi hne => (k.block i (Nat.lt_of_lt_of_le hi h.size) hne).trans (h.block i hi hne)⟩
theorem grown_drew {w w' : World} {row : Option Nat} (h : w.grownBy w' row) : w.grownBy w'.drew row := ⟨h.os, h.tape, h.output, h.size, h.block⟩
theorem grown_below {w w' : World} {g B : Nat} (h : w.grownBy w' (some g)) (hB : B ≤ g) (hs : B ≤ w.heap.size) : Below B w w' :=
  (Below.refl B w).grown h hs (fun k e => by cases e; exact hB)
/-- The field outside the block g. -/
theorem Fld.grown {w w' : World} {b g : Nat} (h : Fld w b) (hg : w.grownBy w' (some g)) (hne : b ≠ g) : Fld w' b := by
  exact ⟨Nat.lt_of_lt_of_le h.1 hg.size, fun j hj => hg.cell (h.2.1 j hj) (fun e => by injection e with e; exact hne e), fun j hj => hg.cell (h.2.2 j hj) (fun e => by injection e with e; exact hne e)⟩

set_option maxHeartbeats 1000000 in
theorem addTimes_any (b : Nat) (g off n C N CC base : Nat) (c : GF) (aq : Option Addr) (nq cq : Nat) (P Q : List GF) (w : World) (hf : Fld w b) (hbg : b ≠ g)
    (hown : w.ownsRow base 5 1 (.slice (some ⟨g, 0, none⟩) N CC) N ((iL P).map (Value.int .u8))) (hQ : Pn w g aq Q) (hq : Q.length = nq) (hn : nq ≤ n) (hN : off + nq ≤ N) (hm : N ≤ 9223372036854775807) :
    Calls Tryz.prog 157 #[.pointer (some ⟨b, 0, none⟩), .slice (some ⟨g, off, none⟩) n C, .int .u8 (toI c), .slice aq nq cq] w fun e w' => e = .returned (.tuple #[]) ∧
      w'.ownsRow base 5 1 (.slice (some ⟨g, 0, none⟩) N CC) N ((iL (axp P off c Q)).map (Value.int .u8)) ∧ w.grownBy w' (some g) := by
  have hPl : P.length = N := by have := hown.1; simpa [iL] using this
  have HF := Lib.hid hf
  have HQ := Lib.hid hQ
  have HO := Lib.hid hown
  have HP := Lib.hid hPl
  have Hq := Lib.hid hq
  clear hf hQ hown hPl hq
  go_enter Tryz.func157, Tryz.ntmps157
  go_wp2
  go_loopw [12] (fun i wr => ∃ k : Nat, k ≤ nq ∧ i = .int .i64 (k : Nat) ∧ Hid (wr.ownsRow base 5 1 (.slice (some ⟨g, 0, none⟩) N CC) N ((iL (addAt P off c Q k)).map (Value.int .u8))) ∧ Hid (w.grownBy wr (some g)))
    (fun i _ => nq - (intOf i).toNat)
  case atStart => exact ⟨0, Nat.zero_le _, rfl, Lib.hid (by rw [addAt_zero]; exact HO.out), Lib.hid (World.grownBy.refl _ _)⟩
  case round =>
    obtain ⟨k, hk, rfl, hR, hG⟩ := hrel
    by_cases hlt : k < nq
    · obtain ⟨bb, ob, rfl, hbb, hcb⟩ := (HQ.out.grown hG.out).at_ (k := k) (by rw [Hq.out]; exact hlt)
      have hcg := own_cells hR.out (off + k) (by omega)
      rw [Nat.zero_add, getD_iL, co_addAt (by rw [HP.out]; omega), if_neg (by omega)] at hcg
      have hfz := hR.out.frozenAt (off + k)
      have hfw := HF.out.grown hG.out hbg
      have hst := (hR.out.stored (off + k) (.int .u8 (toI (co P (off + k) + c * co Q k)))).1
      rw [map_set_u8, show (iL (addAt P off c Q k)).set (off + k) (toI (co P (off + k) + c * co Q k)) = iL (addAt P off c Q (k + 1)) by rw [← addAt_set (by rw [HP.out]; omega)]; simp [iL, List.map_set]] at hst
      have HS := Lib.hid hst
      have hg2 := Lib.hid (grown_trans hG.out (grownBy_setCell' wr g (.int .u8 (toI (co P (off + k) + c * co Q k)))))
      have hsp : wr.setCell ⟨g, off + k, none⟩ (.int .u8 (toI (co P (off + k) + c * co Q k))) = wr.setCell ⟨g, off + k, none⟩ (.int .u8 (toI (co P (off + k) + c * co Q k))) := rfl
      clear hst hsp
      obtain ⟨X, hX⟩ : ∃ X, X = co P (off + k) := ⟨_, rfl⟩
      obtain ⟨Y, hY⟩ : ∃ Y, Y = co Q k := ⟨_, rfl⟩
      rw [← hX] at hcg HS
      rw [← hY] at hcb HS
      clear hg2
      have HG := Lib.hid (fun (u : Value) => grown_trans hG.out (show wr.grownBy (wr.setCell ⟨g, off + k, none⟩ u) (some g) from ⟨rfl, rfl, rfl, by show wr.heap.size ≤ (wr.heap.modify _ _).size; rw [Array.size_modify]; exact Nat.le_refl _, fun i _ hne => Below.heap_setCell _ _ _ i (fun e => hne (by rw [e]))⟩))
      clear hX hY hR hG
      have q1 : (k : Int) < (nq : Int) := by omega
      have q2 : (k : Int) < (n : Int) := by omega
      have q3 : (0 : Int) ≤ (k : Int) := by omega
      have hfd : Fld wr.drew b := hfw
      go_wp2_with fail
      go_region_with (first
        | (go_at_call 104; refine (mul_G _ _ _ _ hfd).mono ?_; rintro e w' ⟨rfl, rfl⟩)
        | (go_at_call 56; refine (add_G _ _ _).mono ?_; rintro e w' ⟨rfl, rfl⟩))
      all_goals
        go_wp2
        go_roundw
        case rel => exact ⟨k + 1, by omega, by go_num, Lib.hid HS.out, Lib.hid (grown_drew (HG.out _))⟩
        case measure => simp [intOf]; omega
    · obtain rfl : k = nq := by omega
      go_wp2
      go_end0
      exact ⟨rfl, by unfold axp; rw [Hq.out]; exact hR.out, hG.out⟩
end Go.Proofs.YtappfdbmhgifcaaGreatDoor
/- Contracts of poly's withRoot, Vanish. -/
namespace Go.Proofs.YtappfdbmhgifcaaGreatDoor
open Go.ChangeShapes Go.WideShapes Go.ChangeAt Go.RowKit Go.Shelf GF
set_option linter.unusedVariables false
set_option maxRecDepth 100000

/-- P, times x less r. -/
def rootL (P : List GF) (r : GF) : List GF := axp (0 :: P) 0 r P
theorem length_rootL (P : List GF) (r : GF) : (rootL P r).length = P.length + 1 := by unfold rootL; rw [length_axp]; rfl
theorem co_rootL (P : List GF) (r : GF) (k : Nat) : co (rootL P r) k = co (0 :: P) k + r * co P k := by
  unfold rootL
  rw [co_axp (by simp), if_pos (Nat.zero_le _), Nat.sub_zero]
theorem rootL_mul (P : List GF) (r : GF) (h : 0 < P.length) : rootL P r = mulL P (lin r 1) := by
  apply ext_co (by rw [length_rootL, length_mulL _ _ h (by simp [lin])]; simp [lin])
  intro k _
  have hl0 : co (lin r 1) 0 = r := by simp only [lin]; rw [co_cons_zero, GF.one_mul]
  have hl1 : co (lin r 1) 1 = 1 := by simp only [lin]; rw [co_cons_succ, co_cons_zero]
  rw [co_rootL, co_mulL]
  cases k with
  | zero =>
    simp only [sm]
    rw [co_cons_zero, GF.zero_add, GF.zero_add, hl0, GF.mul_comm]
  | succ k =>
    simp only [sm]
    rw [sm_zero (fun i hi => by rw [co_lin_ge _ _ (by omega), GF.mul_zero]), GF.zero_add, show k + 1 - k = 1 by omega, Nat.sub_self, hl0, hl1, co_cons_succ, GF.mul_one, GF.mul_comm]

theorem splice_one {α : Type} (z : α) (cs : List α) : splice (z :: List.replicate cs.length z) 1 cs = z :: cs := by
  simp [splice]
  omega

theorem Pn.below {w w' : World} {B g : Nat} {a : Option Addr} {P : List GF} (h : Bs w B a (iL P)) (hb : Below B w w') (hB : B ≤ g) : Pn w' g a P := Pn.of (h.below hb) hB
theorem made_row {w1 : World} {g M L : Nat} {P : List GF} (hg : w1.heap[g]? = some (.cells (splice (madeCells #[Value.int .u8 0] M).toList 1 ((iL P).map (Value.int .u8))).toArray 5 (0, 0)))
    (hc : (madeCells #[Value.int .u8 0] M).toList = (Value.int .u8 0) :: List.replicate ((iL P).map (Value.int .u8)).length (Value.int .u8 0)) (hl : P.length = L) (hM : M = L + 1) (hm : M ≤ 140737488355328) :
    w1.ownsRow g 5 1 (.slice (some ⟨g, 0, none⟩) M M) M ((iL (0 :: P)).map (Value.int .u8)) := by
  rw [hc, splice_one] at hg
  refine ⟨by simp [iL, hl, hM], .inr ⟨g, M, _, rfl, Nat.le_refl _, hg, Nat.le_refl _, by unfold maxLen; omega, by simp [iL, hl, hM], ?_⟩⟩
  rw [List.take_of_length_le (by simp [iL, hl, hM])]
  rfl

set_option maxHeartbeats 1000000 in
theorem withRoot_any (b : Nat) (a : Option Addr) (L cap : Nat) (P : List GF) (r : GF) (w : World) (hf : Fld w b) (hx : Pa w a L cap P) (hL0 : 0 < L) (hL : L + 1 ≤ 140737488355328) :
    Calls Tryz.prog 135 #[.pointer (some ⟨b, 0, none⟩), .slice a L cap, .int .u8 (toI r)] w fun e w' => ∃ g, e = .returned (.slice (some ⟨g, 0, none⟩) (L + 1 : Nat) (L + 1 : Nat)) ∧
      w'.ownsRow w.heap.size 5 1 (.slice (some ⟨g, 0, none⟩) (L + 1 : Nat) (L + 1 : Nat)) (L + 1) ((iL (rootL P r)).map (Value.int .u8)) ∧ Below w.heap.size w w' := by
  have hl := hx.len
  obtain ⟨M, hM⟩ : ∃ M, M = L + 1 := ⟨_, rfl⟩
  rw [← hM] at hL ⊢
  have hmk := run_make_row' (P := Tryz.prog) 22 5 (.int .u8 0) 1 Tryz.underlying22 info5 rfl .i64 .i64 M (by omega) (by omega)
  obtain ⟨W1, hW1⟩ : ∃ W1, W1 = w.alloc (.cells (madeCells #[.int .u8 0] M) 5) := ⟨_, rfl⟩
  have hcur : (madeCells #[Value.int .u8 0] M).toList = (Value.int .u8 0) :: List.replicate ((iL P).map (Value.int .u8)).length (Value.int .u8 0) := by
    rw [toList_madeCells_one, List.length_map, length_iL, hl, hM, List.replicate_succ]
  have k1 : W1.heap[w.heap.size]? = some (.cells (madeCells #[.int .u8 0] M).toList.toArray 5 (0, 0)) := by rw [hW1, Array.toArray_toList]; exact heap_alloc_new w _
  have k2 : ((iL P).map (Value.int .u8)).length = Nat.min L L := by simp [length_iL, hl]
  have k5 : Below w.heap.size w W1 := by rw [hW1]; exact (Below.refl _ _).alloc (Nat.le_refl _) _
  have k3 : 0 < ((iL P).map (Value.int .u8)).length → ∃ ad, a = some ad ∧ ∀ j v, ((iL P).map (Value.int .u8))[j]? = some v → W1.cell? (ad.add j) = some v :=
    fun h0 => (hx.1.2.2.1.below k5).cells h0
  have k4 : 1 + ((iL P).map (Value.int .u8)).length ≤ (madeCells #[.int .u8 0] M).toList.length := by simp [length_iL, hl, size_madeCells]; omega
  have K1 := Lib.hid k1; have K2 := Lib.hid k2; have K3 := Lib.hid k3; have K4 := Lib.hid k4; have HX := Lib.hid hx; have HF := Lib.hid hf; have HM := Lib.hid hM; have HC := Lib.hid hcur; have Hl := Lib.hid hl; have K5 := Lib.hid k5
  have hcap := hx.1.2.2.2
  have q1 : (L : Int) + 1 = (M : Int) := by omega
  have q2 : (M : Int) - 1 = (L : Int) := by omega
  have q3 : (1 : Int) ≤ (M : Int) := by omega
  have q4 : M - 1 = L := by omega
  have q5 : 2 ≤ M := by omega
  have q6 : ¬ M = 1 := by omega
  have hsz : w.heap.size ≤ W1.heap.size := k5.size
  clear k1 k2 k3 k4 k5 hx hf hM hcur hl
  subst hW1
  go_enter Tryz.func135, Tryz.ntmps135
  go_wp2_with (first
    | ((with_reducible show wpList _ _ _ (⟨some 15, _, _, _, _, _⟩ :: _) _ _); go_loud (refine wpList_copy_splice (o := ⟨some 15, _, _, _, _, _⟩) rfl (.tmp 13) (.tmp 14) 22 22 rfl 5 Tryz.underlying22 size_u8 (some ⟨w.heap.size, 1, none⟩) a L L L cap rfl rfl w.heap.size 1 (madeCells #[.int .u8 0] M).toList 5 K1.out ((iL P).map (Value.int .u8)) K2.out (fun h0 => ⟨rfl, K3.out h0⟩) K4.out (ints_oneCell _ _) w.heap.size w K5.out (Nat.le_refl _) ?_); go_loud (intro w1 hg1 hb1; have HO1 := Lib.hid (made_row hg1.out HC.out Hl.out HM.out hL)))
    | (go_at_call 157; refine (addTimes_any b w.heap.size 0 M M M M w.heap.size r a L cap (0 :: P) P _ (HF.out.below hb1) (by have := HF.out.1; omega) HO1.out (Pn.below HX.out.1.2.2.1 hb1 (Nat.le_refl _)) Hl.out (by omega) (by omega) (by omega)).mono ?_; rintro e w2 ⟨rfl, hown2, hg2⟩; have HO2 := Lib.hid hown2; have HG2 := Lib.hid hg2; clear hown2 hg2))
  go_ret
  exact ⟨_, rfl, HO2.out, hb1.trans (grown_below HG2.out (Nat.le_refl _) hb1.size)⟩

theorem Pa.own2 {w : World} {base : Nat} {e : TypeId} {g n c : Nat} {P : List GF} (h : w.ownsRow base e 1 (.slice (some ⟨g, 0, none⟩) n c) n ((iL P).map (Value.int .u8))) : Pa w (some ⟨g, 0, none⟩) n c P := by
  obtain ⟨a', c', e, hp, _⟩ := Pa.own h
  cases e
  exact hp
theorem Pa.at_ {w : World} {a : Option Addr} {L cap : Nat} {P : List GF} {k : Nat} (h : Pa w a L cap P) (hk : k < L) : ∃ b off, a = some ⟨b, off, none⟩ ∧ b < w.heap.size ∧ w.cell? ⟨b, off + k, none⟩ = some (.int .u8 (toI (co P k))) := by
  have hl := h.len
  obtain ⟨b, off, e, hb, hc⟩ := h.1.2.2.1 (by rw [length_iL]; omega)
  exact ⟨b, off, e, hb, by rw [hc k (by rw [length_iL]; omega), getD_iL]⟩
theorem vanA_root (X : List GF) (k : Nat) : rootL (vanA X k) (co X k) = vanA X (k + 1) := rootL_mul _ _ (by rw [length_vanA]; omega)
theorem own_one (w : World) (c : GF) : (w.alloc (.cells #[.int .u8 (toI c)] 5)).ownsRow w.heap.size 5 1 (.slice (some ⟨w.heap.size, 0, none⟩) 1 1) 1 ((iL [c]).map (Value.int .u8)) :=
  World.ownsRow_lit (base := w.heap.size) (e := 5) (size := 1) w #[.int .u8 (toI c)] 1 (Nat.le_refl _) (by unfold maxLen; omega) rfl

set_option maxHeartbeats 1000000 in
theorem vanish_any (b : Nat) (a : Option Addr) (L cap : Nat) (X : List GF) (w : World) (hf : Fld w b) (hx : Pa w a L cap X) (hL : L ≤ 255) :
    Calls Tryz.prog 114 #[.pointer (some ⟨b, 0, none⟩), .slice a L cap] w fun e w' => ∃ g, e = .returned (.tuple #[.slice (some ⟨g, 0, none⟩) (L + 1 : Nat) (L + 1 : Nat), .int .i64 0]) ∧
      w'.ownsRow w.heap.size 5 1 (.slice (some ⟨g, 0, none⟩) (L + 1 : Nat) (L + 1 : Nat)) (L + 1) ((iL (vanA X L)).map (Value.int .u8)) ∧ Below w.heap.size w w' := by
  have HX := Lib.hid hx
  have HF := Lib.hid hf
  have hcap := hx.1.2.2.2
  clear hx hf
  go_enter Tryz.func114, Tryz.ntmps114
  go_wp2
  go_loopw [17, 6] (fun i o wr => ∃ k g : Nat, k ≤ L ∧ i = .int .i64 (k : Nat) ∧ o = .slice (some ⟨g, 0, none⟩) (k + 1 : Nat) (k + 1 : Nat) ∧ Hid (wr.ownsRow w.heap.size 5 1 (.slice (some ⟨g, 0, none⟩) (k + 1 : Nat) (k + 1 : Nat)) (k + 1) ((iL (vanA X k)).map (Value.int .u8))) ∧ Hid (Below w.heap.size w wr))
    (fun i _ _ => L - (intOf i).toNat)
  case atStart => exact ⟨0, w.heap.size, Nat.zero_le _, rfl, rfl, Lib.hid (own_one w 1), Lib.hid ((Below.refl _ _).alloc (Nat.le_refl _) _)⟩
  case round =>
    obtain ⟨k, g, hk, rfl, rfl, hR, hB⟩ := hrel
    by_cases hlt : k < L
    · obtain ⟨bx, ox, rfl, hbx, hcx⟩ := (HX.out.on hB.out).at_ hlt
      have q1 : (k : Int) < (L : Int) := by omega
      have q3 : (0 : Int) ≤ (k : Int) := by omega
      obtain ⟨M, hM⟩ : ∃ M, M = k + 1 := ⟨_, rfl⟩
      have HM := Lib.hid hM
      rw [← hM] at hR ⊢
      clear hM
      go_wp2_with (go_at_call 135; refine (withRoot_any b _ M M (vanA X k) (co X k) _ (HF.out.below hB.out) (Pa.own2 hR.out) (by rw [HM.out]; omega) (by rw [HM.out]; omega)).mono ?_; rintro e w2 ⟨g2, rfl, hown2, hb2⟩; have HO2 := Lib.hid hown2; clear hown2)
      go_roundw
      case rel =>
        rw [HM.out, vanA_root] at HO2
        exact ⟨k + 1, g2, by omega, by go_num, by rw [HM.out], Lib.hid (own_base HO2.out hB.out.size), Lib.hid (bt hB.out hb2)⟩
      case measure => simp [intOf]; omega
    · obtain rfl : k = L := by omega
      go_wp2
      go_ret2
      exact ⟨g, rfl, hR.out, hB.out⟩
end Go.Proofs.YtappfdbmhgifcaaGreatDoor
/- Contract of poly's checked: the places that are the same are seen by a map. -/
namespace Go.Proofs.YtappfdbmhgifcaaGreatDoor
open Go.ChangeShapes Go.WideShapes Go.ChangeAt Go.RowKit Go.Shelf GF Go.Maps
set_option linter.unusedVariables false
set_option maxRecDepth 100000

/-- The first k are no two the same. -/
def ApTo (X : List GF) (k : Nat) : Prop := ∀ i j, i < k → j < i → co X i ≠ co X j
theorem apTo_all (X : List GF) : ApTo X X.length ↔ Apart X := Iff.rfl
open Classical in
/-- What is wrong with places. -/
noncomputable def plErr (X : List GF) : Int := if X.length = 0 then 5 else if 255 < X.length then 4 else if Apart X then 0 else 6
theorem plErr_zero {X : List GF} : plErr X = 0 ↔ 0 < X.length ∧ X.length ≤ 255 ∧ Apart X := by
  unfold plErr
  by_cases h0 : X.length = 0
  · rw [if_pos h0]; exact ⟨fun h => absurd h (by decide), fun h => absurd h0 (by omega)⟩
  · rw [if_neg h0]
    by_cases h1 : 255 < X.length
    · rw [if_pos h1]; exact ⟨fun h => absurd h (by decide), fun h => absurd h1 (by omega)⟩
    · rw [if_neg h1]
      by_cases h2 : Apart X
      · rw [if_pos h2]; exact ⟨fun _ => ⟨by omega, by omega, h2⟩, fun _ => rfl⟩
      · rw [if_neg h2]; exact ⟨fun h => absurd h (by decide), fun h => absurd h.2.2 h2⟩
abbrev keyG (y : GF) : Lit := .int .u8 (toI y)
theorem keyG_wf (y : GF) : (keyG y).wf = true := by
  have := toI_bd y
  simp only [Lit.wf, IntKind.min, IntKind.max, IntKind.signed, IntKind.bits, Bool.and_eq_true]
  simp
  omega
theorem keyG_ne {x y : GF} (h : x ≠ y) : keyG x ≠ keyG y := fun e => by injection e with _ e; exact h (toI_inj e)
def SeenTo (X : List GF) (k : Nat) (D : DataW Unit) : Prop :=
  (∀ y, has D (keyG y) = true ↔ ∃ j, j < k ∧ co X j = y) ∧ size D ≤ k ∧ (size D = k ↔ ApTo X k)
theorem SeenTo.zero (X : List GF) : SeenTo X 0 (.map []) :=
  ⟨fun y => ⟨fun h => by simp [has_eq] at h, fun ⟨j, hj, _⟩ => by omega⟩, Nat.le_refl _, ⟨fun _ i j hi _ => by omega, fun _ => rfl⟩⟩
theorem SeenTo.next {X : List GF} {k : Nat} {D : DataW Unit} (h : SeenTo X k D) (hT : Tidy D) (d : DataW Unit) : SeenTo X (k + 1) (D.put (keyG (co X k)) d) := by
  obtain ⟨h1, h2, h3⟩ := h
  refine ⟨fun y => ?_, ?_, ?_⟩
  · by_cases e : y = co X k
    · subst e
      rw [has_put_same hT.isMap (by trivial) d]
      exact ⟨fun _ => ⟨k, by omega, rfl⟩, fun _ => rfl⟩
    · rw [has_put_other (keyG_ne e) d, h1]
      exact ⟨fun ⟨j, hj, he⟩ => ⟨j, by omega, he⟩, fun ⟨j, hj, he⟩ => ⟨j, by rcases Nat.lt_succ_iff_lt_or_eq.1 hj with h | h; exact h; subst h; exact absurd he.symm e, he⟩⟩
  · rw [size_put hT d]; split <;> omega
  · rw [size_put hT d]
    by_cases hh : has D (keyG (co X k)) = true
    · rw [if_pos hh]
      obtain ⟨j, hj, he⟩ := (h1 _).1 hh
      exact ⟨fun e => by omega, fun ha => absurd he.symm (ha k j (by omega) hj)⟩
    · rw [if_neg hh]
      constructor
      · intro e i j hi hj
        rcases Nat.lt_succ_iff_lt_or_eq.1 hi with hi | hi
        · exact (h3.1 (by omega)) i j hi hj
        · subst hi
          exact fun he => hh ((h1 _).2 ⟨j, hj, he.symm⟩)
      · intro ha
        have := h3.2 (fun i j hi hj => ha i j (by omega) hj)
        omega

theorem lawU : Keyed Tryz.prog 5 := int_keyed Tryz.underlying5
theorem zeroI (w : World) : (zeroValue 3).run Tryz.prog w = .ok (.int .i64 0) w := by kernel_rfl

set_option maxRecDepth 100000 in
set_option maxHeartbeats 1000000 in
theorem checked_any (p : Addr) (a : Option Addr) (L cap : Nat) (X : List GF) (w : World) (hx : Pa w a L cap X) :
    Calls Tryz.prog 112 #[.pointer (some p), .slice a L cap] w fun e w' => e = .returned (.int .i64 (plErr X)) ∧ Below w.heap.size w w' := by
  have hl := hx.len
  have hm : L ≤ 9223372036854775807 := by have := hx.1.2.2.2; unfold maxLen at this; omega
  rcases Nat.eq_zero_or_pos L with h0 | h0
  · have hp : plErr X = 5 := by unfold plErr; rw [if_pos (by omega)]
    rw [hp]
    clear hp hx
    subst h0
    go_enter Tryz.func112, Tryz.ntmps112
    go_wp2
    go_ret
    exact ⟨rfl, Below.refl _ _⟩
  have q0 : ((L : Int) == 0) = false := by rw [beq_eq_false_iff_ne]; omega
  by_cases h255 : 255 < L
  · have hp : plErr X = 4 := by unfold plErr; rw [if_neg (by omega), if_pos (by omega)]
    rw [hp]
    clear hp hx
    have q1 : (255 : Int) < (L : Int) := by omega
    go_enter Tryz.func112, Tryz.ntmps112
    go_wp2
    go_ret
    exact ⟨rfl, Below.refl _ _⟩
  have q1 : ¬ (255 : Int) < (L : Int) := by omega
  have HX := Lib.hid hx
  have HL := Lib.hid hl
  clear hx hl
  have hmm := @run_makeMap Tryz.prog
  go_enter Tryz.func112, Tryz.ntmps112
  go_wp2
  go_loopw [19] (fun i wr => ∃ (k : Nat) (D : DataW Unit), k ≤ L ∧ i = .int .i64 (k : Nat) ∧ wr.ownsMap Tryz.prog 5 (plainElem Tryz.prog 3) w.heap.size k D ∧ Hid (SeenTo X k D) ∧ Below w.heap.size w wr)
    (fun i _ => L - (intOf i).toNat)
  case atStart => exact ⟨0, .map [], Nat.zero_le _, rfl, World.ownsMap_made _ _ _ _, Lib.hid (SeenTo.zero X), (Below.refl _ _).alloc (Nat.le_refl _) _⟩
  case round =>
    obtain ⟨k, D, hk, rfl, hown, hS, hnx⟩ := hrel
    by_cases hlt : k < L
    · obtain ⟨bx, ox, rfl, hbx, hcx⟩ := (HX.out.on hnx).at_ hlt
      have q2 : (k : Int) < (L : Int) := by omega
      have q3 : (0 : Int) ≤ (k : Int) := by omega
      have hkey : keyOf Tryz.prog 5 (.int .u8 (toI (co X k))) = some (keyG (co X k)) := keyOf_int_mk Tryz.underlying5 (keyG_wf _)
      have HT := Lib.hid (hown.tidy lawU)
      go_wp2_with (first
        | (at_lookup; refine wpList_lookup_own_int _ rfl _ _ 173 rfl 5 3 .i64 lawU Tryz.underlying173 Tryz.underlying3 (zeroI _) w.heap.size k _ rfl hown _ _ rfl hkey ?_; intro c hat hwc)
        | (at_mapUpdate; refine wpList_mapUpdate_own _ rfl _ _ _ 173 rfl 5 3 lawU Tryz.underlying173 _ w.heap.size k _ rfl hown (by unfold maxLen; omega) _ _ _ rfl rfl hkey _ [] (plainElem_int Tryz.underlying3 (wrap64_wf _)) ?_; intro w1 hown1 hgrow1))
      go_roundw
      case rel => exact ⟨k + 1, _, by omega, by go_num, hown1, Lib.hid (hS.out.next HT.out _), hnx.grown hgrow1 hnx.size (fun j hj => by cases hj; exact Nat.le_refl _)⟩
      case measure => simp [intOf]; omega
    · obtain rfl : k = L := by omega
      have hsz := hS.out.2
      have HS := Lib.hid hS.out.2.2
      by_cases hap : Apart X
      · have hp : plErr X = 0 := plErr_zero.2 ⟨by rw [HL.out]; omega, by rw [HL.out]; omega, hap⟩
        have he : size D = k := HS.out.2 (by rw [← HL.out]; exact hap)
        have HP := Lib.hid hp
        clear hp hsz
        have q5 : ¬ ((size D : Nat) : Int) < (k : Int) := by omega
        go_wp2_with (at_len; refine wpList_len_own _ rfl _ 173 rfl 5 3 Tryz.underlying173 _ w.heap.size k _ rfl hown ?_)
        go_ret
        exact ⟨ret_int HP.out.symm, hnx⟩
      · have hp : plErr X = 6 := by unfold plErr; rw [if_neg (by rw [HL.out]; omega), if_neg (by rw [HL.out]; omega), if_neg hap]
        have he : ((size D : Nat) : Int) < (k : Int) := by
          have h1 := hS.out.2.1
          rcases Nat.lt_or_ge (size D) k with h | h
          · omega
          · exact absurd (by rw [← apTo_all, HL.out]; exact HS.out.1 (by omega)) hap
        have HP := Lib.hid hp
        clear hp hsz
        go_wp2_with (at_len; refine wpList_len_own _ rfl _ 173 rfl 5 3 Tryz.underlying173 _ w.heap.size k _ rfl hown ?_)
        go_ret
        exact ⟨ret_int HP.out.symm, hnx⟩
end Go.Proofs.YtappfdbmhgifcaaGreatDoor
/- Contracts of poly's weight, Weights. -/
namespace Go.Proofs.YtappfdbmhgifcaaGreatDoor
open Go.ChangeShapes Go.WideShapes Go.ChangeAt Go.RowKit Go.Shelf GF
set_option linter.unusedVariables false
set_option maxRecDepth 100000

theorem GF.inv_prod {a b : GF} (ha : a ≠ 0) (hb : b ≠ 0) : GF.inv (a * b) = GF.inv a * GF.inv b := by
  have h : (a * b) * (GF.inv a * GF.inv b) = 1 := by
    rw [show (a * b) * (GF.inv a * GF.inv b) = (a * GF.inv a) * (b * GF.inv b) by
      rw [GF.mul_assoc, GF.mul_left_comm b, ← GF.mul_assoc]]
    rw [GF.mul_inv ha, GF.mul_inv hb, GF.mul_one]
  have h2 := GF.inv_mul (GF.mul_ne ha hb)
  rw [← GF.mul_one (GF.inv (a * b)), ← h, ← GF.mul_assoc, h2, GF.one_mul]
/-- The product of x less each of the first k places but the i-th. -/
def topA (X : List GF) (i : Nat) (x : GF) : Nat → GF
  | 0 => 1
  | k + 1 => if k = i then topA X i x k else topA X i x k * (x + co X k)
theorem bot_ne {X : List GF} (h : Apart X) {i : Nat} (hi : i < X.length) : ∀ k, k ≤ X.length → topA X i (co X i) k ≠ 0 := by
  intro k
  induction k with
  | zero => intro _; exact GF.one_ne
  | succ k ih =>
    intro hk
    simp only [topA]
    by_cases e : k = i
    · rw [if_pos e]; exact ih (by omega)
    · rw [if_neg e]
      exact GF.mul_ne (ih (by omega)) (fun z => h.ne hi (by omega) (Ne.symm e) (GF.add_eq_zero.1 z))
theorem wtA_top {X : List GF} (h : Apart X) {i : Nat} (hi : i < X.length) (x : GF) : ∀ k, k ≤ X.length → topA X i x k * GF.inv (topA X i (co X i) k) = wtA X i x k := by
  intro k
  induction k with
  | zero => intro _; simp only [topA, wtA]; rw [GF.inv_one, GF.one_mul]
  | succ k ih =>
    intro hk
    simp only [topA, wtA]
    by_cases e : k = i
    · rw [if_pos e, if_pos e, if_pos e]; exact ih (by omega)
    · rw [if_neg e, if_neg e, if_neg e, ← ih (by omega), GF.inv_prod (bot_ne h hi k (by omega)) (fun z => h.ne hi (by omega) (Ne.symm e) (GF.add_eq_zero.1 z)), GF.mul_assoc, GF.mul_left_comm (x + co X k), ← GF.mul_assoc]

theorem Pa.drewN {w : World} {a : Option Addr} {L cap : Nat} {P : List GF} (h : Pa w a L cap P) (n : Nat) : Pa (w.drewN n) a L cap P := h

set_option maxHeartbeats 1000000 in
theorem weight_any (b : Nat) (a : Option Addr) (L cap i : Nat) (X : List GF) (x : GF) (w : World) (hf : Fld w b) (hx : Pa w a L cap X) (hi : i < L) (hA : Apart X) (hL : L ≤ 255) :
    Calls Tryz.prog 113 #[.pointer (some ⟨b, 0, none⟩), .slice a L cap, .int .i64 (i : Nat), .int .u8 (toI x)] w fun e w' => e = .returned (.int .u8 (toI (wt X i x))) ∧ w = w' := by
  have hl := hx.len
  obtain ⟨bi, oi, rfl, hbi, hci⟩ := hx.at_ hi
  have hcell : ∀ k, k < L → w.cell? ⟨bi, oi + k, none⟩ = some (.int .u8 (toI (co X k))) := fun k hk => by
    obtain ⟨b', o', e, _, hc⟩ := hx.at_ hk
    cases e
    exact hc
  have HCell := Lib.hid hcell
  have hne := bot_ne hA (i := i) (by omega) L (by omega)
  have hres := wtA_top hA (i := i) (by omega) x L (by omega)
  have HNE := Lib.hid hne
  have HRES := Lib.hid hres
  have HL := Lib.hid hl
  have hqi : (i : Int) < (L : Int) := by omega
  have hqi0 : (0 : Int) ≤ (i : Int) := by omega
  clear hx hl hcell hA hne hres
  go_enter Tryz.func113, Tryz.ntmps113
  go_wp2
  go_loopw [17, 9, 10] (fun j t o wr => ∃ k : Nat, k ≤ L ∧ j = .int .i64 (k : Nat) ∧ t = .int .u8 (toI (topA X i x k)) ∧ o = .int .u8 (toI (topA X i (co X i) k)) ∧ wr = w)
    (fun j _ _ _ => L - (intOf j).toNat)
  case atStart => exact ⟨0, Nat.zero_le _, rfl, rfl, rfl, rfl⟩
  case round =>
    obtain ⟨k, hk, rfl, rfl, rfl, rfl⟩ := hrel
    by_cases hlt : k < L
    · have hck := HCell.out k hlt
      have q2 : (k : Int) < (L : Int) := by omega
      have q3 : (0 : Int) ≤ (k : Int) := by omega
      by_cases e : k = i
      · have q4 : ((k : Int) != (i : Int)) = false := by rw [e]; simp
        have ht : topA X i x (k + 1) = topA X i x k := by simp only [topA]; rw [if_pos e]
        have hb : topA X i (co X i) (k + 1) = topA X i (co X i) k := by simp only [topA]; rw [if_pos e]
        have HT := Lib.hid ht; have HB := Lib.hid hb
        clear ht hb e
        go_wp2
        go_roundw
        case rel => exact ⟨k + 1, by omega, by go_num, by rw [HT.out], by rw [HB.out], by trivial⟩
        case measure => simp [intOf]; omega
      · have q4 : ((k : Int) != (i : Int)) = true := by rw [bne_iff_ne]; omega
        have ht : topA X i x (k + 1) = topA X i x k * (x + co X k) := by simp only [topA]; rw [if_neg e]
        have hb : topA X i (co X i) (k + 1) = topA X i (co X i) k * (co X i + co X k) := by simp only [topA]; rw [if_neg e]
        have HT := Lib.hid ht; have HB := Lib.hid hb
        clear ht hb e
        go_wp2_with (first
          | (go_at_call 104; refine (mul_G _ _ _ _ hf).mono ?_; rintro e w' ⟨rfl, rfl⟩)
          | (go_at_call 56; refine (add_G _ _ _).mono ?_; rintro e w' ⟨rfl, rfl⟩))
        go_roundw
        case rel => exact ⟨k + 1, by omega, by go_num, by rw [HT.out], by rw [HB.out], by trivial⟩
        case measure => simp [intOf]; omega
    · obtain rfl : L = k := by omega
      go_wp2_with (go_at_call 134; refine (div_G _ _ _ _ hf HNE.out).mono ?_; rintro e w' ⟨rfl, rfl⟩)
      go_ret
      refine ⟨?_, rfl⟩
      rw [HRES.out]; unfold wt; rw [HL.out]; rfl

/-- All weights. -/
def wts (X : List GF) (x : GF) : List GF := (List.range X.length).map fun i => wt X i x
theorem length_wts (X : List GF) (x : GF) : (wts X x).length = X.length := by simp [wts]
theorem co_wts {X : List GF} (x : GF) {i : Nat} (hi : i < X.length) : co (wts X x) i = wt X i x := by
  simp only [wts, co, List.getD_eq_getElem?_getD, List.getElem?_map, List.getElem?_range hi, Option.map_some, Option.getD_some]

theorem weights_bad (b : Nat) (a : Option Addr) (L cap : Nat) (X : List GF) (x : GF) (w : World) (hx : Pa w a L cap X) (hE : plErr X ≠ 0) :
    Calls Tryz.prog 94 #[.pointer (some ⟨b, 0, none⟩), .slice a L cap, .int .u8 (toI x)] w fun e w' => e = .returned (.tuple #[.slice none 0 0, .int .i64 (plErr X)]) ∧ Below w.heap.size w w' := by
  have q : (plErr X != 0) = true := by rw [bne_iff_ne]; exact hE
  have HX := Lib.hid hx
  clear hx hE
  go_enter Tryz.func94, Tryz.ntmps94
  go_wp2_with (go_at_call 112; refine (checked_any _ _ _ _ X _ HX.out).mono ?_; rintro e w1 ⟨rfl, hb1⟩)
  go_ret2
  exact ⟨rfl, hb1⟩

set_option maxHeartbeats 1000000 in
theorem weights_any (b : Nat) (a : Option Addr) (L cap : Nat) (X : List GF) (x : GF) (w : World) (hf : Fld w b) (hx : Pa w a L cap X) (hE : plErr X = 0) :
    Calls Tryz.prog 94 #[.pointer (some ⟨b, 0, none⟩), .slice a L cap, .int .u8 (toI x)] w fun e w' => ∃ g, e = .returned (.tuple #[.slice (some ⟨g, 0, none⟩) L L, .int .i64 0]) ∧
      w'.ownsRow w.heap.size 5 1 (.slice (some ⟨g, 0, none⟩) L L) L ((iL (wts X x)).map (Value.int .u8)) ∧ Below w.heap.size w w' := by
  have hl := hx.len
  obtain ⟨h0, h255, hA⟩ := plErr_zero.1 hE
  rw [hl] at h0 h255
  have HX := Lib.hid hx
  have HF := Lib.hid hf
  have HL := Lib.hid hl
  have HE := Lib.hid hE
  have HA := Lib.hid hA
  have hcap := hx.1.2.2.2
  have hW : (iL (wts X x)).length = L := by rw [length_iL, length_wts, hl]
  have HW := Lib.hid hW
  have hmk := run_make_row' (P := Tryz.prog) 22 5 (.int .u8 0) 1 Tryz.underlying22 info5 rfl .i64 .i64 L (by omega) (by omega)
  clear hx hf hl hE hA hW
  go_enter Tryz.func94, Tryz.ntmps94
  go_wp2_with (go_at_call 112; refine (checked_any _ _ _ _ X _ HX.out).mono ?_; rintro e w1 ⟨rfl, hb1⟩; have q5 : (plErr X != 0) = false := (by rw [HE.out]; rfl))
  have ho1 := own_made (w := w1) (e := 5) (n := L) (by unfold maxLen; omega)
  rw [show List.replicate L (0 : Int) = part (iL (wts X x)) 0 by rw [part_zero, HW.out]] at ho1
  have HO1 := Lib.hid (own_base ho1 hb1.size)
  clear ho1
  have hb2 := hb1.alloc hb1.size (.cells (madeCells #[Value.int .u8 0] L) 5)
  go_loopw [22] (fun j wr => ∃ k : Nat, k ≤ L ∧ j = .int .i64 (k : Nat) ∧ Hid (wr.ownsRow w.heap.size 5 1 (.slice (some ⟨w1.heap.size, 0, none⟩) L L) L ((part (iL (wts X x)) k).map (Value.int .u8))) ∧ Hid (Below w.heap.size w wr))
    (fun j _ => L - (intOf j).toNat)
  case atStart => exact ⟨0, Nat.zero_le _, rfl, HO1, Lib.hid hb2⟩
  case round =>
    obtain ⟨k, hk, rfl, hR, hB⟩ := hrel
    by_cases hlt : k < L
    · have q2 : (k : Int) < (L : Int) := by omega
      have q3 : (0 : Int) ≤ (k : Int) := by omega
      have hst := part_set_own HW.out hlt hR.out
      have hcg := own_cells hR.out k hlt
      rw [Nat.zero_add] at hcg
      have hfz := hR.out.frozenAt k
      rw [getD_iL, co_wts x (by rw [HL.out]; exact hlt)] at hst
      have HS := Lib.hid hst
      have HB2 := Lib.hid (hB.out.setCell (p := ⟨w1.heap.size, k, none⟩) hb1.size (.int .u8 (toI (wt X k x))))
      clear hst
      obtain ⟨Z, hZ⟩ : ∃ Z, Z = (part (iL (wts X x)) k).getD k 0 := ⟨_, rfl⟩
      rw [← hZ] at hcg
      clear hZ
      go_wp2_with (go_at_call 113; refine (weight_any b _ L cap k X x _ (HF.out.below hB.out) (HX.out.on hB.out) hlt HA.out h255).mono ?_; rintro e w' ⟨rfl, rfl⟩)
      go_roundw
      case rel => exact ⟨k + 1, by omega, by go_num, Lib.hid HS.out, Lib.hid HB2.out⟩
      case measure => simp [intOf]; omega
    · obtain rfl : k = L := by omega
      have he : part (iL (wts X x)) k = iL (wts X x) := by have := part_all (iL (wts X x)); rwa [HW.out] at this
      rw [he] at hR
      go_wp2
      go_ret2
      exact ⟨_, rfl, hR.out, hB.out⟩
end Go.Proofs.YtappfdbmhgifcaaGreatDoor
/- Contract of poly's Through (Newton's way). -/
namespace Go.Proofs.YtappfdbmhgifcaaGreatDoor
open Go.ChangeShapes Go.WideShapes Go.ChangeAt Go.RowKit Go.Shelf GF
set_option linter.unusedVariables false
set_option maxRecDepth 100000

theorem own_on {w w' : World} {base B : Nat} {e : TypeId} {g n c : Nat} {xs : List Value} (h : w.ownsRow base e 1 (.slice (some ⟨g, 0, none⟩) n c) n xs) (hb : Below B w w') (hg : g < B) : w'.ownsRow base e 1 (.slice (some ⟨g, 0, none⟩) n c) n xs := by
  refine ⟨h.1, ?_⟩
  rcases h.2 with h2 | ⟨g', cap, cur, h1, h2, h3, h4⟩
  · exact .inl h2
  · cases h1
    exact .inr ⟨g, _, cur, rfl, h2, (hb.block g hg).trans h3, h4⟩
theorem own_drew {w : World} {base : Nat} {e : TypeId} {v : Value} {n : Nat} {xs : List Value} (h : w.ownsRow base e 1 v n xs) : w.drew.ownsRow base e 1 v n xs := h

end Go.Proofs.YtappfdbmhgifcaaGreatDoor
/- Poly's products, sums, the document's own, the laws' lives: five texts in one. -/
/- Contract of poly's Mul. -/
namespace Go.Proofs.YtappfdbmhgifcaaGreatDoor
open Go.ChangeShapes Go.WideShapes Go.ChangeAt Go.RowKit Go.Shelf GF
set_option linter.unusedVariables false
set_option maxRecDepth 100000

theorem tr_pos {P : List GF} (h : tr P ≠ []) : 0 < (tr P).length := List.length_pos_iff.2 h
/-- The product of two without noughts at their ends has none either. -/
theorem tr_mul_tr {P Q : List GF} (hp : tr P ≠ []) (hq : tr Q ≠ []) : tr (mulL P Q) = mulL (tr P) (tr Q) := by
  have h1 : tr (mulL P Q) = tr (mulL (tr P) (tr Q)) := tr_mulL_congr (fun k => (co_tr P k).symm) (fun k => (co_tr Q k).symm)
  rw [h1]
  apply tr_self
  right
  have a1 := tr_pos hp
  have a2 := tr_pos hq
  rw [length_mulL _ _ a1 a2, show (tr P).length + (tr Q).length - 1 - 1 = ((tr P).length - 1) + ((tr Q).length - 1) by omega, co_mulL_top (fun i hi => co_ge (by omega)) (fun i hi => co_ge (by omega)), co_tr, co_tr]
  exact GF.mul_ne (tr_last P hp) (tr_last Q hq)
theorem tr_mul_nil {P Q : List GF} (h : tr P = [] ∨ tr Q = []) : tr (mulL P Q) = [] := by
  rw [tr_nil]
  intro k
  rw [co_mulL]
  apply sm_zero
  intro i _
  rcases h with h | h
  · rw [tr_nil.1 h i, GF.zero_mul]
  · rw [tr_nil.1 h (k - i), GF.mul_zero]
/-- The product, the first k numbers of P taken in. -/
def mulA (P Q : List GF) (N : Nat) : Nat → List GF
  | 0 => List.replicate N 0
  | k + 1 => axp (mulA P Q N k) k (co P k) Q
theorem length_mulA (P Q : List GF) (N k : Nat) : (mulA P Q N k).length = N := by
  induction k with
  | zero => simp [mulA]
  | succ k ih => simp only [mulA]; rw [length_axp, ih]
theorem co_mulA {P Q : List GF} {N : Nat} (j : Nat) : ∀ k, k + Q.length ≤ N + 1 → co (mulA P Q N k) j = sm k fun i => if i ≤ j then co P i * co Q (j - i) else 0 := by
  intro k
  induction k with
  | zero => intro _; simp only [mulA, sm]; exact co_replicate _ _
  | succ k ih =>
    intro hk
    simp only [mulA, sm]
    rw [co_axp (by rw [length_mulA]; omega), ih (by omega)]
theorem mulA_all {P Q : List GF} (hp : 0 < P.length) (hq : 0 < Q.length) : mulA P Q (P.length + Q.length - 1) P.length = mulL P Q := by
  apply ext_co (by rw [length_mulA, length_mulL _ _ hp hq])
  intro j _
  rw [co_mulA j _ (by omega), co_mulL]
  have h1 : sm (max P.length (j + 1)) (fun i => if i ≤ j then co P i * co Q (j - i) else 0) = sm P.length (fun i => if i ≤ j then co P i * co Q (j - i) else 0) :=
    sm_more (Nat.le_max_left ..) (fun i h _ => by split; rw [co_ge h, GF.zero_mul]; rfl)
  have h2 : sm (max P.length (j + 1)) (fun i => if i ≤ j then co P i * co Q (j - i) else 0) = sm (j + 1) (fun i => if i ≤ j then co P i * co Q (j - i) else 0) :=
    sm_more (Nat.le_max_right ..) (fun i h _ => by rw [if_neg (by omega)])
  rw [← h1, h2]
  exact sm_congr fun i hi => by rw [if_pos (by omega)]

theorem mul_zero_any (b : Nat) (a : Option Addr) (L cap : Nat) (P : List GF) (a2 : Option Addr) (L2 cap2 : Nat) (Q : List GF) (w : World) (hx : Pa w a L cap P) (hy : Pa w a2 L2 cap2 Q) (hL : L ≤ 140737488355328) (hL2 : L2 ≤ 140737488355328) (h0 : tr P = [] ∨ tr Q = []) :
    Calls Tryz.prog 139 #[.pointer (some ⟨b, 0, none⟩), .slice a L cap, .slice a2 L2 cap2] w fun e w' => e = .returned (.tuple #[.slice none 0 0, .int .i64 0]) ∧ Below w.heap.size w w' := by
  have HX := Lib.hid hx
  have HY := Lib.hid hy
  clear hx hy
  obtain ⟨n, hn⟩ : ∃ n, n = (tr P).length := ⟨_, rfl⟩
  obtain ⟨m, hm⟩ : ∃ m, m = (tr Q).length := ⟨_, rfl⟩
  have hP : ∀ w1 : World, Below w.heap.size w w1 → Calls Tryz.prog 161 #[.slice a L cap] w1 fun e w' => e = .returned (.slice a n cap) ∧ Below w1.heap.size w1 w' := fun w1 hb => by rw [hn]; exact trimmed_8 a L cap P w1 (HX.out.on hb).1 hL
  have hQ : ∀ w1 : World, Below w.heap.size w w1 → Calls Tryz.prog 161 #[.slice a2 L2 cap2] w1 fun e w' => e = .returned (.slice a2 m cap2) ∧ Below w1.heap.size w1 w' := fun w1 hb => by rw [hm]; exact trimmed_8 a2 L2 cap2 Q w1 (HY.out.on hb).1 hL2
  have HP := Lib.hid hP
  have HQ := Lib.hid hQ
  clear hP hQ
  by_cases hn0 : n = 0
  · have q1 : ((n : Int) == 0) = true := by rw [hn0]; rfl
    clear h0 hn hm hn0
    go_enter Tryz.func139, Tryz.ntmps139
    go_wp2_with (first
      | (go_at_call 161; with_reducible refine (HP.out _ (Below.refl _ _)).mono ?_; rintro e w1 ⟨rfl, hb1⟩)
      | (go_at_call 161; with_reducible refine (HQ.out _ hb1).mono ?_; rintro e w2 ⟨rfl, hb2⟩))
    go_ret2
    exact ⟨rfl, bt hb1 hb2⟩
  · have hm0 : m = 0 := by
      rcases h0 with h0 | h0
      · exact absurd (by rw [hn, h0]; rfl) hn0
      · rw [hm, h0]; rfl
    have q1 : ((n : Int) == 0) = false := by rw [beq_eq_false_iff_ne]; omega
    have q2 : ((m : Int) == 0) = true := by rw [hm0]; rfl
    clear h0 hn hm hn0 hm0
    go_enter Tryz.func139, Tryz.ntmps139
    go_wp2_with (first
      | (go_at_call 161; with_reducible refine (HP.out _ (Below.refl _ _)).mono ?_; rintro e w1 ⟨rfl, hb1⟩)
      | (go_at_call 161; with_reducible refine (HQ.out _ hb1).mono ?_; rintro e w2 ⟨rfl, hb2⟩))
    go_ret2
    exact ⟨rfl, bt hb1 hb2⟩
set_option maxHeartbeats 1000000 in
theorem mul_short (b : Nat) (a : Option Addr) (L cap : Nat) (P : List GF) (a2 : Option Addr) (L2 cap2 : Nat) (Q : List GF) (w : World) (hf : Fld w b) (hx : Pa w a L cap P) (hy : Pa w a2 L2 cap2 Q) (hL : L ≤ 140737488355328) (hL2 : L2 ≤ 140737488355328) (hp : tr P ≠ []) (hq : tr Q ≠ []) (hsh : (tr P).length + (tr Q).length ≤ 257) :
    Calls Tryz.prog 139 #[.pointer (some ⟨b, 0, none⟩), .slice a L cap, .slice a2 L2 cap2] w fun e w' => ∃ v, e = .returned (.tuple #[v, .int .i64 0]) ∧
      w'.ownsRow w.heap.size 5 1 v (tr (mulL P Q)).length ((iL (tr (mulL P Q))).map (Value.int .u8)) ∧ Below w.heap.size w w' := by
  have hn1 := tr_pos hp
  have hm1 := tr_pos hq
  have hall := mulA_all hn1 hm1
  have hlen := length_mulL (tr P) (tr Q) hn1 hm1
  have HX := Lib.hid hx
  have HY := Lib.hid hy
  have HF := Lib.hid hf
  have hcap := hx.1.2.2.2
  have hcap2 := hy.1.2.2.2
  have htr := Lib.hid (tr_mul_tr hp hq)
  clear hx hy hp hq hf
  obtain ⟨n, hn⟩ : ∃ n, n = (tr P).length := ⟨_, rfl⟩
  obtain ⟨m, hm⟩ : ∃ m, m = (tr Q).length := ⟨_, rfl⟩
  have hP : ∀ w1 : World, Below w.heap.size w w1 → Calls Tryz.prog 161 #[.slice a L cap] w1 fun e w' => e = .returned (.slice a n cap) ∧ Below w1.heap.size w1 w' := fun w1 hb => by rw [hn]; exact trimmed_8 a L cap P w1 (HX.out.on hb).1 hL
  have hQ : ∀ w1 : World, Below w.heap.size w w1 → Calls Tryz.prog 161 #[.slice a2 L2 cap2] w1 fun e w' => e = .returned (.slice a2 m cap2) ∧ Below w1.heap.size w1 w' := fun w1 hb => by rw [hm]; exact trimmed_8 a2 L2 cap2 Q w1 (HY.out.on hb).1 hL2
  have HP := Lib.hid hP
  have HQ := Lib.hid hQ
  have hXt := HX.out.trim
  have hYt := HY.out.trim
  rw [← hn] at hn1 hsh hall hlen hXt
  rw [← hm] at hm1 hsh hall hlen hYt
  obtain ⟨N, hN⟩ : ∃ N, N = n + m - 1 := ⟨_, rfl⟩
  rw [← hN] at hall hlen
  have HXt := Lib.hid hXt
  have HYt := Lib.hid hYt
  have HA := Lib.hid hall
  have HLn := Lib.hid hlen
  have Hn := Lib.hid hn
  have Hm := Lib.hid hm
  have q1 : ((n : Int) == 0) = false := by rw [beq_eq_false_iff_ne]; omega
  have q2 : ((m : Int) == 0) = false := by rw [beq_eq_false_iff_ne]; omega
  have q3 : (n : Int) + (m : Int) - 1 = (N : Int) := by omega
  have q4 : N ≤ 256 := by omega
  have hmk := run_make_row' (P := Tryz.prog) 22 5 (.int .u8 0) 1 Tryz.underlying22 info5 rfl .i64 .i64 N (by omega) (by omega)
  have HNe := Lib.hid hN
  clear hP hQ hn hm hXt hYt hall hlen hN
  go_enter Tryz.func139, Tryz.ntmps139
  go_wp2_with (first
    | (go_at_call 161; with_reducible refine (HP.out _ (Below.refl _ _)).mono ?_; rintro e w1 ⟨rfl, hb1⟩)
    | (go_at_call 161; with_reducible refine (HQ.out _ hb1).mono ?_; rintro e w2 ⟨rfl, hb2⟩))
  have hb12 := bt hb1 hb2
  obtain ⟨g, hg⟩ : ∃ g, g = w2.heap.size := ⟨_, rfl⟩
  have hmade := own_made (w := w2) (e := 5) (n := N) (by unfold maxLen; omega)
  have HO0 := Lib.hid (own_base hmade hb12.size)
  have HW0 := Lib.hid (hb12.alloc hb12.size (.cells (madeCells #[.int .u8 0] N) 5))
  have hgw : w.heap.size ≤ g := by rw [hg]; exact hb12.size
  rw [← hg] at HO0 ⊢
  clear hmade hg hb12 hb1 hb2
  go_loopw [38] (fun j wr => ∃ k : Nat, k ≤ n ∧ j = .int .i64 (k : Nat) ∧ Hid (wr.ownsRow w.heap.size 5 1 (.slice (some ⟨g, 0, none⟩) N N) N ((iL (mulA (tr P) (tr Q) N k)).map (Value.int .u8))) ∧ Hid (Below w.heap.size w wr))
    (fun j _ => n - (intOf j).toNat)
  case atStart =>
    refine ⟨0, Nat.zero_le _, rfl, Lib.hid ?_, HW0⟩
    have : iL (mulA (tr P) (tr Q) N 0) = List.replicate N 0 := by simp only [mulA, iL, List.map_replicate, toI_zero]
    rw [this]
    exact HO0.out
  case round =>
    obtain ⟨k, hk, rfl, hR, hB⟩ := hrel
    by_cases hlt : k < n
    · obtain ⟨bx, ox, rfl, hbx, hcx⟩ := (HXt.out.on hB.out).at_ hlt
      have q5 : (k : Int) < (n : Int) := by omega
      have q6 : (0 : Int) ≤ (k : Int) := by omega
      have q7 : (k : Int) < (N : Int) := by have := HNe.out; omega
      have q8 : k < N := by omega
      have q9 : m ≤ N - k := by have := HNe.out; omega
      have q10 : k + m ≤ N := by have := HNe.out; omega
      have hbb : b < w.heap.size := HF.out.1
      go_wp2_with (go_at_call 157; go_loud (refine (addTimes_any b g k (N - k) (N - k) N N w.heap.size (co (tr P) k) a2 m cap2 (mulA (tr P) (tr Q) N k) (tr Q) _ (HF.out.below hB.out) (by omega) hR.out (Pn.below HYt.out.1.2.2.1 hB.out hgw) Hm.out.symm q9 q10 (by omega)).mono ?_); rintro e w3 ⟨rfl, hown3, hg3⟩; have hr3 := Lib.hid hown3; have H3 := Lib.hid (hB.out.trans (grown_below hg3 hgw hB.out.size)); clear hown3 hg3)
      go_roundw
      case rel => exact ⟨k + 1, by omega, by go_num, Lib.hid hr3.out, Lib.hid H3.out⟩
      case measure => simp [intOf]; omega
    · obtain rfl : n = k := by omega
      have he : mulA (tr P) (tr Q) N n = tr (mulL P Q) := by rw [htr.out]; exact HA.out
      rw [he] at hR
      have hlen : (tr (mulL P Q)).length = N := by rw [htr.out]; exact HLn.out
      have HE := Lib.hid hlen
      clear he hlen
      go_wp2
      go_ret2
      exact ⟨_, rfl, by rw [HE.out]; exact hR.out, hB.out⟩
/-- The product, whatever it is, if it is no longer than it may be. -/
theorem mul_any (b : Nat) (a : Option Addr) (L cap : Nat) (P : List GF) (a2 : Option Addr) (L2 cap2 : Nat) (Q : List GF) (w : World) (hf : Fld w b) (hx : Pa w a L cap P) (hy : Pa w a2 L2 cap2 Q) (hsh : L + L2 ≤ 257) :
    Calls Tryz.prog 139 #[.pointer (some ⟨b, 0, none⟩), .slice a L cap, .slice a2 L2 cap2] w fun e w' => ∃ v, e = .returned (.tuple #[v, .int .i64 0]) ∧
      w'.ownsRow w.heap.size 5 1 v (tr (mulL P Q)).length ((iL (tr (mulL P Q))).map (Value.int .u8)) ∧ Below w.heap.size w w' := by
  by_cases h0 : tr P = [] ∨ tr Q = []
  · refine (mul_zero_any b a L cap P a2 L2 cap2 Q w hx hy (by omega) (by omega) h0).mono ?_
    rintro e w' ⟨rfl, hb⟩
    rw [tr_mul_nil h0]
    exact ⟨_, rfl, World.ownsRow_nil _ _ _ _, hb⟩
  · have h1 : tr P ≠ [] := fun h => h0 (.inl h)
    have h2 : tr Q ≠ [] := fun h => h0 (.inr h)
    have := tr_len_le P
    have := tr_len_le Q
    have := hx.len
    have := hy.len
    exact mul_short b a L cap P a2 L2 cap2 Q w hf hx hy (by omega) (by omega) h1 h2 (by omega)
end Go.Proofs.YtappfdbmhgifcaaGreatDoor
/- Contract of poly's Add; the laws' lives. -/
namespace Go.Proofs.YtappfdbmhgifcaaGreatDoor
open Go.ChangeShapes Go.WideShapes Go.ChangeAt Go.RowKit Go.Shelf GF
set_option linter.unusedVariables false
set_option maxRecDepth 100000

/-- P, and noughts behind it. -/
def padL (P : List GF) (M : Nat) : List GF := P ++ List.replicate (M - P.length) 0
theorem length_padL {P : List GF} {M : Nat} (h : P.length ≤ M) : (padL P M).length = M := by simp [padL]; omega
theorem co_padL (P : List GF) (M k : Nat) : co (padL P M) k = co P k := by
  unfold padL
  by_cases h : k < P.length
  · simp [co, List.getD_eq_getElem?_getD, List.getElem?_append_left h]
  · rw [co_ge (l := P) (by omega)]
    have : co (P ++ List.replicate (M - P.length) 0) k = co (List.replicate (M - P.length) 0) (k - P.length) := by
      simp [co, List.getD_eq_getElem?_getD, List.getElem?_append_right (Nat.le_of_not_lt h)]
    rw [this, co_replicate]
theorem pad_row {w1 : World} {g M : Nat} {P : List GF} (hg : w1.heap[g]? = some (.cells (splice (madeCells #[Value.int .u8 0] M).toList 0 ((iL P).map (Value.int .u8))).toArray 5 (0, 0))) (hl : P.length ≤ M) (hm : M ≤ 140737488355328) :
    w1.ownsRow g 5 1 (.slice (some ⟨g, 0, none⟩) M M) M ((iL (padL P M)).map (Value.int .u8)) := by
  rw [splice_all, replicate_cells] at hg
  have e : ((iL P).map (Value.int .u8)) ++ ((List.replicate M (0 : Int)).map (Value.int .u8)).drop ((iL P).map (Value.int .u8)).length = (iL (padL P M)).map (Value.int .u8) := by
    simp [padL, iL, List.map_replicate, toI_zero]
  rw [e] at hg
  have hL : (iL (padL P M)).length = M := by rw [length_iL, length_padL hl]
  refine ⟨by simp [hL], .inr ⟨g, M, _, rfl, Nat.le_refl _, hg, Nat.le_refl _, by unfold maxLen; omega, by simp [hL], ?_⟩⟩
  rw [List.take_of_length_le (by simp [hL])]
theorem tr_sum {P Q : List GF} {M : Nat} (hP : P.length ≤ M) (hQ : Q.length ≤ M) : tr (axp (padL P M) 0 1 Q) = tr (addL P Q) := by
  apply tr_ext
  intro k
  rw [co_axp (by rw [length_padL hP]; omega), if_pos (Nat.zero_le _), Nat.sub_zero, co_padL, co_addL, GF.one_mul]

set_option maxHeartbeats 1000000 in
theorem padd_lt (a : Option Addr) (L cap : Nat) (P : List GF) (a2 : Option Addr) (L2 cap2 : Nat) (Q : List GF) (w : World) (hx : Pa w a L cap P) (hy : Pa w a2 L2 cap2 Q) (hL : L ≤ 140737488355328) (hL2 : L2 ≤ 140737488355328) (hc : L < L2) :
    Calls Tryz.prog 140 #[.slice a L cap, .slice a2 L2 cap2] w fun e w' => ∃ v, e = .returned v ∧ w'.ownsRow w.heap.size 5 1 v (tr (addL P Q)).length ((iL (tr (addL P Q))).map (Value.int .u8)) ∧ Below w.heap.size w w' := by
  have hl := hx.len
  have hl2 := hy.len
  have hM1 : L ≤ L2 := by omega
  have hM2 : L2 ≤ L2 := by omega
  have qc : (L : Int) < (L2 : Int) := by omega
  have hsum := tr_sum (P := P) (Q := Q) (M := L2) (by omega) (by omega)
  have HSum := Lib.hid hsum
  have hmk := run_make_row' (P := Tryz.prog) 22 5 (.int .u8 0) 1 Tryz.underlying22 info5 rfl .i64 .i64 L2 (by omega) (by omega)
  have k1 : (w.alloc (.cells (madeCells #[.int .u8 0] L2) 5)).heap[w.heap.size]? = some (.cells (madeCells #[.int .u8 0] L2).toList.toArray 5 (0, 0)) := by rw [Array.toArray_toList]; exact heap_alloc_new w _
  have k2 : ((iL P).map (Value.int .u8)).length = Nat.min L L2 := by rw [List.length_map, length_iL, hl]; exact (Nat.min_eq_left hM1).symm
  have k5 : Below w.heap.size w (w.alloc (.cells (madeCells #[.int .u8 0] L2) 5)) := (Below.refl _ _).alloc (Nat.le_refl _) _
  have k3 : 0 < ((iL P).map (Value.int .u8)).length → ∃ ad, a = some ad ∧ ∀ j v, ((iL P).map (Value.int .u8))[j]? = some v → (w.alloc (.cells (madeCells #[.int .u8 0] L2) 5)).cell? (ad.add j) = some v :=
    fun h0 => (hx.1.2.2.1.below k5).cells h0
  have k4 : 0 + ((iL P).map (Value.int .u8)).length ≤ (madeCells #[.int .u8 0] L2).toList.length := by simp [length_iL, hl, size_madeCells]; try omega
  have K1 := Lib.hid k1; have K2 := Lib.hid k2; have K3 := Lib.hid k3; have K4 := Lib.hid k4; have K5 := Lib.hid k5
  have HX := Lib.hid hx; have HY := Lib.hid hy; have HL := Lib.hid hl; have HL2 := Lib.hid hl2
  have hcap := hx.1.2.2.2
  have hcap2 := hy.1.2.2.2
  clear k1 k2 k3 k4 k5 hx hy hl hl2 hsum hc
  go_enter Tryz.func140, Tryz.ntmps140
  go_wp2_with (first
    | ((with_reducible show wpList _ _ _ (⟨some 16, _, _, _, _, _⟩ :: _) _ _); go_loud (refine wpList_copy_splice (o := ⟨some 16, _, _, _, _, _⟩) rfl (.tmp 14) (.tmp 15) 22 22 rfl 5 Tryz.underlying22 size_u8 (some ⟨w.heap.size, 0, none⟩) a L2 L2 L cap rfl rfl w.heap.size 0 (madeCells #[.int .u8 0] L2).toList 5 K1.out ((iL P).map (Value.int .u8)) K2.out (fun h0 => ⟨rfl, K3.out h0⟩) K4.out (ints_oneCell _ _) w.heap.size w K5.out (Nat.le_refl _) ?_); go_loud (intro w1 hg1 hb1; have HO1 := Lib.hid (pad_row hg1.out (by rw [HL.out]; exact hM1) (by omega)))))
  obtain ⟨g, hg⟩ : ∃ g, g = w.heap.size := ⟨_, rfl⟩
  have hgw : w.heap.size ≤ g := by omega
  have HP1 := Lib.hid (length_padL (P := P) (M := L2) (by rw [HL.out]; exact hM1))
  rw [← hg] at HO1
  rw [show (⟨w.heap.size, 0, none⟩ : Addr) = ⟨g, 0, none⟩ by rw [hg]]
  have HG := Lib.hid hg
  clear hg hg1
  go_loopw [19] (fun j wr => ∃ k : Nat, k ≤ L2 ∧ j = .int .i64 (k : Nat) ∧ Hid (wr.ownsRow w.heap.size 5 1 (.slice (some ⟨g, 0, none⟩) L2 L2) L2 ((iL (addAt (padL P L2) 0 1 Q k)).map (Value.int .u8))) ∧ Hid (Below w.heap.size w wr))
    (fun j _ => L2 - (intOf j).toNat)
  case atStart => exact ⟨0, Nat.zero_le _, rfl, Lib.hid (by rw [addAt_zero]; exact own_base HO1.out hgw), Lib.hid hb1⟩
  case round =>
    obtain ⟨k, hk, rfl, hR, hB⟩ := hrel
    by_cases hlt : k < L2
    · obtain ⟨bx, ox, rfl, hbx, hcx⟩ := (HY.out.on hB.out).at_ hlt
      have q5 : (k : Int) < (L2 : Int) := by omega
      have q6 : (0 : Int) ≤ (k : Int) := by omega
      have q7 : (k : Int) < (L2 : Int) := by omega
      have hcg := own_cells hR.out k (by omega)
      rw [Nat.zero_add, getD_iL, co_addAt (by rw [HP1.out]; omega), if_neg (by omega), co_padL] at hcg
      have hfz := hR.out.frozenAt k
      have hst := (hR.out.stored k (.int .u8 (toI (co P k + co Q k)))).1
      have hset : (iL (addAt (padL P L2) 0 1 Q k)).set k (toI (co P k + co Q k)) = iL (addAt (padL P L2) 0 1 Q (k + 1)) := by
        rw [← addAt_set (by rw [HP1.out]; omega), Nat.zero_add, co_padL, GF.one_mul]; simp [iL, List.map_set]
      rw [map_set_u8, hset] at hst
      have HS := Lib.hid hst
      have HB2 := Lib.hid (hB.out.setCell (p := ⟨g, k, none⟩) hgw (.int .u8 (toI (co P k + co Q k))))
      clear hst hset
      go_wp2_with (go_at_call 56; refine (add_G _ _ _).mono ?_; rintro e w' ⟨rfl, rfl⟩)
      go_roundw
      case rel => exact ⟨k + 1, by omega, by go_num, Lib.hid HS.out, Lib.hid HB2.out⟩
      case measure => simp [intOf]; omega
    · obtain rfl : k = L2 := by omega
      have hR2 : Hid (wr.ownsRow w.heap.size 5 1 (.slice (some ⟨g, 0, none⟩) k k) k ((iL (axp (padL P k) 0 1 Q)).map (Value.int .u8))) := Lib.hid (by unfold axp; rw [HL2.out]; exact hR.out)
      go_wp2_with (go_at_call 162; refine (trim_any _ _ _ (axp (padL P k) 0 1 Q) _ (Pa.own2 hR2.out) (by omega)).mono ?_; rintro e w9 ⟨v, rfl, hown9, hb9⟩; obtain ⟨ac, cc, hv, _, _, _, _, _⟩ := own_form hown9; subst hv; have HO9 := Lib.hid hown9; clear hown9)
      go_ret
      rw [HSum.out] at HO9
      exact ⟨_, by rw [HSum.out]; rfl, own_base HO9.out hB.out.size, bt hB.out hb9⟩
set_option maxHeartbeats 1000000 in
theorem padd_ge (a : Option Addr) (L cap : Nat) (P : List GF) (a2 : Option Addr) (L2 cap2 : Nat) (Q : List GF) (w : World) (hx : Pa w a L cap P) (hy : Pa w a2 L2 cap2 Q) (hL : L ≤ 140737488355328) (hL2 : L2 ≤ 140737488355328) (hc : L2 ≤ L) :
    Calls Tryz.prog 140 #[.slice a L cap, .slice a2 L2 cap2] w fun e w' => ∃ v, e = .returned v ∧ w'.ownsRow w.heap.size 5 1 v (tr (addL P Q)).length ((iL (tr (addL P Q))).map (Value.int .u8)) ∧ Below w.heap.size w w' := by
  have hl := hx.len
  have hl2 := hy.len
  have hM1 : L ≤ L := by omega
  have hM2 : L2 ≤ L := by omega
  have qc : ¬ (L : Int) < (L2 : Int) := by omega
  have hsum := tr_sum (P := P) (Q := Q) (M := L) (by omega) (by omega)
  have HSum := Lib.hid hsum
  have hmk := run_make_row' (P := Tryz.prog) 22 5 (.int .u8 0) 1 Tryz.underlying22 info5 rfl .i64 .i64 L (by omega) (by omega)
  have k1 : (w.alloc (.cells (madeCells #[.int .u8 0] L) 5)).heap[w.heap.size]? = some (.cells (madeCells #[.int .u8 0] L).toList.toArray 5 (0, 0)) := by rw [Array.toArray_toList]; exact heap_alloc_new w _
  have k2 : ((iL P).map (Value.int .u8)).length = Nat.min L L := by rw [List.length_map, length_iL, hl]; exact (Nat.min_eq_left hM1).symm
  have k5 : Below w.heap.size w (w.alloc (.cells (madeCells #[.int .u8 0] L) 5)) := (Below.refl _ _).alloc (Nat.le_refl _) _
  have k3 : 0 < ((iL P).map (Value.int .u8)).length → ∃ ad, a = some ad ∧ ∀ j v, ((iL P).map (Value.int .u8))[j]? = some v → (w.alloc (.cells (madeCells #[.int .u8 0] L) 5)).cell? (ad.add j) = some v :=
    fun h0 => (hx.1.2.2.1.below k5).cells h0
  have k4 : 0 + ((iL P).map (Value.int .u8)).length ≤ (madeCells #[.int .u8 0] L).toList.length := by simp [length_iL, hl, size_madeCells]; try omega
  have K1 := Lib.hid k1; have K2 := Lib.hid k2; have K3 := Lib.hid k3; have K4 := Lib.hid k4; have K5 := Lib.hid k5
  have HX := Lib.hid hx; have HY := Lib.hid hy; have HL := Lib.hid hl; have HL2 := Lib.hid hl2
  have hcap := hx.1.2.2.2
  have hcap2 := hy.1.2.2.2
  clear k1 k2 k3 k4 k5 hx hy hl hl2 hsum hc
  go_enter Tryz.func140, Tryz.ntmps140
  go_wp2_with (first
    | ((with_reducible show wpList _ _ _ (⟨some 16, _, _, _, _, _⟩ :: _) _ _); go_loud (refine wpList_copy_splice (o := ⟨some 16, _, _, _, _, _⟩) rfl (.tmp 14) (.tmp 15) 22 22 rfl 5 Tryz.underlying22 size_u8 (some ⟨w.heap.size, 0, none⟩) a L L L cap rfl rfl w.heap.size 0 (madeCells #[.int .u8 0] L).toList 5 K1.out ((iL P).map (Value.int .u8)) K2.out (fun h0 => ⟨rfl, K3.out h0⟩) K4.out (ints_oneCell _ _) w.heap.size w K5.out (Nat.le_refl _) ?_); go_loud (intro w1 hg1 hb1; have HO1 := Lib.hid (pad_row hg1.out (by rw [HL.out]; exact hM1) (by omega)))))
  obtain ⟨g, hg⟩ : ∃ g, g = w.heap.size := ⟨_, rfl⟩
  have hgw : w.heap.size ≤ g := by omega
  have HP1 := Lib.hid (length_padL (P := P) (M := L) (by rw [HL.out]; exact hM1))
  rw [← hg] at HO1
  rw [show (⟨w.heap.size, 0, none⟩ : Addr) = ⟨g, 0, none⟩ by rw [hg]]
  have HG := Lib.hid hg
  clear hg hg1
  go_loopw [19] (fun j wr => ∃ k : Nat, k ≤ L2 ∧ j = .int .i64 (k : Nat) ∧ Hid (wr.ownsRow w.heap.size 5 1 (.slice (some ⟨g, 0, none⟩) L L) L ((iL (addAt (padL P L) 0 1 Q k)).map (Value.int .u8))) ∧ Hid (Below w.heap.size w wr))
    (fun j _ => L2 - (intOf j).toNat)
  case atStart => exact ⟨0, Nat.zero_le _, rfl, Lib.hid (by rw [addAt_zero]; exact own_base HO1.out hgw), Lib.hid hb1⟩
  case round =>
    obtain ⟨k, hk, rfl, hR, hB⟩ := hrel
    by_cases hlt : k < L2
    · obtain ⟨bx, ox, rfl, hbx, hcx⟩ := (HY.out.on hB.out).at_ hlt
      have q5 : (k : Int) < (L2 : Int) := by omega
      have q6 : (0 : Int) ≤ (k : Int) := by omega
      have q7 : (k : Int) < (L : Int) := by omega
      have hcg := own_cells hR.out k (by omega)
      rw [Nat.zero_add, getD_iL, co_addAt (by rw [HP1.out]; omega), if_neg (by omega), co_padL] at hcg
      have hfz := hR.out.frozenAt k
      have hst := (hR.out.stored k (.int .u8 (toI (co P k + co Q k)))).1
      have hset : (iL (addAt (padL P L) 0 1 Q k)).set k (toI (co P k + co Q k)) = iL (addAt (padL P L) 0 1 Q (k + 1)) := by
        rw [← addAt_set (by rw [HP1.out]; omega), Nat.zero_add, co_padL, GF.one_mul]; simp [iL, List.map_set]
      rw [map_set_u8, hset] at hst
      have HS := Lib.hid hst
      have HB2 := Lib.hid (hB.out.setCell (p := ⟨g, k, none⟩) hgw (.int .u8 (toI (co P k + co Q k))))
      clear hst hset
      go_wp2_with (go_at_call 56; refine (add_G _ _ _).mono ?_; rintro e w' ⟨rfl, rfl⟩)
      go_roundw
      case rel => exact ⟨k + 1, by omega, by go_num, Lib.hid HS.out, Lib.hid HB2.out⟩
      case measure => simp [intOf]; omega
    · obtain rfl : k = L2 := by omega
      have hR2 : Hid (wr.ownsRow w.heap.size 5 1 (.slice (some ⟨g, 0, none⟩) L L) L ((iL (axp (padL P L) 0 1 Q)).map (Value.int .u8))) := Lib.hid (by unfold axp; rw [HL2.out]; exact hR.out)
      go_wp2_with (go_at_call 162; refine (trim_any _ _ _ (axp (padL P L) 0 1 Q) _ (Pa.own2 hR2.out) (by omega)).mono ?_; rintro e w9 ⟨v, rfl, hown9, hb9⟩; obtain ⟨ac, cc, hv, _, _, _, _, _⟩ := own_form hown9; subst hv; have HO9 := Lib.hid hown9; clear hown9)
      go_ret
      rw [HSum.out] at HO9
      exact ⟨_, by rw [HSum.out]; rfl, own_base HO9.out hB.out.size, bt hB.out hb9⟩
theorem padd_any (a : Option Addr) (L cap : Nat) (P : List GF) (a2 : Option Addr) (L2 cap2 : Nat) (Q : List GF) (w : World) (hx : Pa w a L cap P) (hy : Pa w a2 L2 cap2 Q) (hL : L ≤ 140737488355328) (hL2 : L2 ≤ 140737488355328) :
    Calls Tryz.prog 140 #[.slice a L cap, .slice a2 L2 cap2] w fun e w' => ∃ v, e = .returned v ∧ w'.ownsRow w.heap.size 5 1 v (tr (addL P Q)).length ((iL (tr (addL P Q))).map (Value.int .u8)) ∧ Below w.heap.size w w' := by
  rcases Nat.lt_or_ge L L2 with h | h
  · exact padd_lt a L cap P a2 L2 cap2 Q w hx hy hL hL2 h
  · exact padd_ge a L cap P a2 L2 cap2 Q w hx hy hL hL2 h
end Go.Proofs.YtappfdbmhgifcaaGreatDoor
/- Contracts of the document's own Trim, Eval, Mul. -/
namespace Go.Proofs.YtappfdbmhgifcaaGreatDoor
open Go.ChangeShapes Go.WideShapes Go.ChangeAt Go.RowKit Go.Shelf GF
set_option linter.unusedVariables false
set_option maxRecDepth 100000

theorem bits_xor_G (x y : GF) : bits .xor .u8 (toI x) (toI y) = toI (x + y) :=
  u8_xor _ _ (toI_bd x).1 (toI_bd x).2 (toI_bd y).1 (toI_bd y).2

end Go.Proofs.YtappfdbmhgifcaaGreatDoor
/- The laws' lives; small facts for the laws' walks. -/
namespace Go.Proofs.YtappfdbmhgifcaaGreatDoor
open Go.ChangeShapes Go.WideShapes Go.ChangeAt Go.RowKit Go.Shelf GF
set_option linter.unusedVariables false
set_option maxRecDepth 100000

/-- A polynomial made a string. -/
theorem Pa.str {w : World} {a : Option Addr} {n c : Nat} {P : List GF} (h : Pa w a n c P) : (convert 22 9 (.slice a n c)).run Tryz.prog w = .ok (.string (strOfNums (iL P))) w :=
  h.1.2.2.1.str h.1.1 Tryz.underlying22 Tryz.underlying5 Tryz.underlying9
end Go.Proofs.YtappfdbmhgifcaaGreatDoor
/- The walk of PolyRules. -/
namespace Go.Proofs.YtappfdbmhgifcaaGreatDoor
open Go.ChangeShapes Go.WideShapes Go.ChangeAt Go.RowKit Go.Shelf GF
set_option linter.unusedVariables false
set_option maxRecDepth 100000

theorem Pa.bd {w : World} {a : Option Addr} {L cap : Nat} {P : List GF} (h : Pa w a L cap P) : L ≤ cap ∧ cap ≤ 9223372036854775807 := ⟨h.1.2.2.2.1, by have := h.1.2.2.2.2; unfold maxLen at this; omega⟩
/-- What a row reads as, as a string, in whatever world comes after. -/
theorem Pa.str_on {w0 : World} {a : Option Addr} {n c : Nat} {P Q : List GF} (h : Pa w0 a n c P) (e : P = Q) : ∀ W, Below w0.heap.size w0 W → (convert 22 9 (.slice a n c)).run Tryz.prog W = .ok (.string (strOfNums (iL Q))) W := fun W hW => by
  subst e
  exact (h.on hW).str
/-- A slice out of a row of one's own. -/
theorem own_pa {w : World} {base : Nat} {e : TypeId} {v : Value} {n : Nat} {P : List GF} (h : w.ownsRow base e 1 v n ((iL P).map (Value.int .u8))) : ∃ a c, v = .slice a n c ∧ Pa w a n c P := by
  obtain ⟨a, c, e, hp, _⟩ := Pa.own h
  exact ⟨a, c, e, hp⟩

end Go.Proofs.YtappfdbmhgifcaaGreatDoor
