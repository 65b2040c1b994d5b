/- One step of reducing rows (Gauss and Jordan's): what it keeps and what it brings. No program is named here. -/
import Derived.Test.YtpoaimcioeopdaaLdet
namespace Go.Proofs.Ytpoaimcioeopdaa
open GF

theorem KerEq.swp {n m i0 : Nat} (hi : i0 < n) (M : Nat → Nat → GF) (a : Nat → GF) (s : Nat) : KerEq n m M (swp M i0 a s) := by
  have h0 : ∀ c, Go.Proofs.Ytpoaimcioeopdaa.swp M i0 a s i0 c = M i0 c := fun c => by simp [Go.Proofs.Ytpoaimcioeopdaa.swp]
  have hk : ∀ k x, dt m (Go.Proofs.Ytpoaimcioeopdaa.swp M i0 a s k) x = if k < s ∧ k ≠ i0 then dt m (M k) x + a k * dt m (M i0) x else dt m (M k) x := fun k x => by
    by_cases h : k < s ∧ k ≠ i0
    · rw [if_pos h, ← dt_mul_left, ← dt_add_left]
      exact dt_congr fun c _ => by simp only [Go.Proofs.Ytpoaimcioeopdaa.swp, if_pos h]
    · rw [if_neg h]
      exact dt_congr fun c _ => by simp only [Go.Proofs.Ytpoaimcioeopdaa.swp, if_neg h]
  intro x
  constructor
  · intro h k hk' _
    rw [hk]
    split
    · rw [h k hk' rfl, h i0 hi rfl, GF.mul_zero, GF.add_zero]
    · exact h k hk' rfl
  · intro h k hk' _
    have h1 := h k hk' rfl
    have h2 := h i0 hi rfl
    rw [hk] at h1 h2
    rw [if_neg (by omega)] at h2
    split at h1
    · rwa [h2, GF.mul_zero, GF.add_zero] at h1
    · exact h1

/-- Nothing is reduced yet. -/
theorem Red.none {n : Nat} (N : Nat → Nat → GF) (piv : Nat → Nat) : Red n 0 N 0 piv :=
  ⟨Nat.zero_le _, fun t ht => by omega, fun t ht => by omega, fun i _ _ c hc => by omega⟩
/-- The next column has nothing below. -/
theorem Red.skip {n c : Nat} {N : Nat → Nat → GF} {r : Nat} {piv : Nat → Nat} (h : Red n c N r piv) (hz : ∀ i, r ≤ i → i < n → N i c = 0) : Red n (c + 1) N r piv :=
  ⟨h.rn, fun t ht => by have := h.lt t ht; omega, h.one, fun i h1 h2 d hd => by
    by_cases e : d = c
    · rw [e]; exact hz i h1 h2
    · exact h.nil i h1 h2 d (by omega)⟩
/-- All rows lead already. -/
theorem Red.full {n c : Nat} {N : Nat → Nat → GF} {piv : Nat → Nat} (h : Red n c N n piv) (d : Nat) (hd : c ≤ d) : Red n d N n piv :=
  ⟨Nat.le_refl _, fun t ht => by have := h.lt t ht; omega, h.one, fun i h1 h2 => by omega⟩
theorem Red.congr {n c : Nat} {N O : Nat → Nat → GF} {r : Nat} {piv : Nat → Nat} (h : Red n c N r piv) (e : ∀ i, i < n → ∀ d, d < c → N i d = O i d) : Red n c O r piv :=
  ⟨h.rn, h.lt, fun t ht i hi => by rw [← e i hi _ (h.lt t ht)]; exact h.one t ht i hi, fun i h1 h2 d hd => by rw [← e i h2 d hd]; exact h.nil i h1 h2 d hd⟩
theorem Red.piv {n c : Nat} {N : Nat → Nat → GF} {r : Nat} {piv piv' : Nat → Nat} (h : Red n c N r piv) (e : ∀ t, t < r → piv' t = piv t) : Red n c N r piv' :=
  ⟨h.rn, fun t ht => by rw [e t ht]; exact h.lt t ht, fun t ht i hi => by rw [e t ht]; exact h.one t ht i hi, h.nil⟩
/-- Two rows below change their places. -/
def swapF (M : Nat → Nat → GF) (i j : Nat) : Nat → Nat → GF := pu (pu M i (M j)) j (M i)
theorem Red.swap {n c : Nat} {N : Nat → Nat → GF} {r : Nat} {piv : Nat → Nat} (h : Red n c N r piv) {p : Nat} (hp : r ≤ p) (hpn : p < n) : Red n c (swapF N r p) r piv := by
  have h0 := h.rn
  have hrow : ∀ i, (i < r → swapF N r p i = N i) ∧ (r ≤ i → i < n → ∃ k, r ≤ k ∧ k < n ∧ swapF N r p i = N k) := fun i => by
    constructor
    · intro hi; unfold swapF; rw [pu_ne _ _ (by omega), pu_ne _ _ (by omega)]
    · intro h1 h2
      unfold swapF
      by_cases e : i = p
      · subst e; exact ⟨r, Nat.le_refl _, by omega, pu_self _ _ _⟩
      · rw [pu_ne _ _ e]
        by_cases e2 : i = r
        · subst e2; exact ⟨p, hp, hpn, pu_self _ _ _⟩
        · rw [pu_ne _ _ e2]; exact ⟨i, h1, h2, rfl⟩
  refine ⟨h0, h.lt, fun t ht i hi => ?_, fun i h1 h2 d hd => ?_⟩
  · rcases Nat.lt_or_ge i r with hl | hl
    · rw [(hrow i).1 hl]; exact h.one t ht i hi
    · obtain ⟨k, k1, k2, e⟩ := (hrow i).2 hl hi
      rw [e, h.one t ht k k2, if_neg (by omega), if_neg (by omega)]
  · obtain ⟨k, k1, k2, e⟩ := (hrow i).2 h1 h2
    rw [e]; exact h.nil k k1 k2 d hd
/-- The row r made 1 at the column c, then taken from all others. -/
def lead (N : Nat → Nat → GF) (r c : Nat) : Nat → Nat → GF := pu N r (fun d => GF.inv (N r c) * N r d)
theorem Red.lead {n c : Nat} {N : Nat → Nat → GF} {r : Nat} {piv : Nat → Nat} (h : Red n c N r piv) (hr : r < n) : Red n c (lead N r c) r piv := by
  refine ⟨h.rn, h.lt, fun t ht i hi => ?_, fun i h1 h2 d hd => ?_⟩
  · by_cases e : i = r
    · subst e; unfold Go.Proofs.Ytpoaimcioeopdaa.lead; rw [pu_self, h.one t ht i hi, if_neg (by omega), GF.mul_zero]
    · unfold Go.Proofs.Ytpoaimcioeopdaa.lead; rw [pu_ne _ _ e]; exact h.one t ht i hi
  · by_cases e : i = r
    · subst e; unfold Go.Proofs.Ytpoaimcioeopdaa.lead; rw [pu_self, h.nil i h1 h2 d hd, GF.mul_zero]
    · unfold Go.Proofs.Ytpoaimcioeopdaa.lead; rw [pu_ne _ _ e]; exact h.nil i h1 h2 d hd
theorem lead_one {N : Nat → Nat → GF} {r c : Nat} (hp : N r c ≠ 0) : lead N r c r c = 1 := by unfold lead; rw [pu_self]; exact GF.inv_mul hp
/-- The row r, 1 at the column c, taken so often from all others as they have there. -/
theorem Red.next {n c : Nat} {N : Nat → Nat → GF} {r : Nat} {piv : Nat → Nat} (h : Red n c N r piv) (hr : r < n) (h1 : N r c = 1) : Red n (c + 1) (swp N r (fun k => N k c) n) (r + 1) (fun t => if t < r then piv t else c) := by
  have hrow : ∀ d, swp N r (fun k => N k c) n r d = N r d := fun d => by simp [swp]
  have hoth : ∀ i d, i < n → i ≠ r → swp N r (fun k => N k c) n i d = N i d + N i c * N r d := fun i d hi hne => by simp only [swp, if_pos (And.intro hi hne)]
  refine ⟨by omega, fun t ht => ?_, fun t ht i hi => ?_, fun i k1 k2 d hd => ?_⟩
  · show (if t < r then piv t else c) < c + 1
    split
    · rename_i hl; have := h.lt t hl; omega
    · omega
  · by_cases hl : t < r
    · rw [if_pos hl]
      have h2 := h.one t hl r hr
      rw [if_neg (by omega)] at h2
      by_cases e : i = r
      · subst e; rw [hrow, h2, if_neg (by omega)]
      · rw [hoth i _ hi e, h2, GF.mul_zero, GF.add_zero]; exact h.one t hl i hi
    · rw [if_neg hl]
      obtain rfl : t = r := by omega
      by_cases e : i = t
      · subst e; rw [hrow, h1, if_pos rfl]
      · rw [hoth i _ hi e, h1, GF.mul_one, GF.add_self, if_neg e]
  · have e : i ≠ r := by omega
    rw [hoth i _ k2 e]
    by_cases ed : d = c
    · subst ed; rw [h1, GF.mul_one, GF.add_self]
    · rw [h.nil i (by omega) k2 d (by omega), h.nil r (Nat.le_refl _) hr d (by omega), GF.mul_zero, GF.add_zero]
theorem KerEq.lead {n m r c : Nat} {N : Nat → Nat → GF} (hp : N r c ≠ 0) : KerEq n m N (lead N r c) := KerEq.scale (GF.inv_ne hp) N
/-- Reduced with as many leading columns as there are rows and columns: the unit, if they come in their order. -/
theorem Red.unit {n : Nat} {N : Nat → Nat → GF} {piv : Nat → Nat} (h : Red n n N n piv) (hp : ∀ t, t < n → piv t = t) {i c : Nat} (hi : i < n) (hc : c < n) : N i c = Go.Proofs.Ytpoaimcioeopdaa.one i c := by
  have := h.one c hc i hi
  rwa [hp c hc] at this
/-- Leading columns that go up are, if there are as many as columns, each its own number. -/
theorem piv_id {n : Nat} {piv : Nat → Nat} (h1 : ∀ t, t < n → piv t < n) (h2 : ∀ s t, s < t → t < n → piv s < piv t) : ∀ t, t < n → piv t = t := by
  have lo : ∀ t, t < n → t ≤ piv t := by
    intro t
    induction t with
    | zero => intro _; exact Nat.zero_le _
    | succ t ih => intro ht; have := ih (by omega); have := h2 t (t + 1) (by omega) ht; omega
  have hi : ∀ d t, t < n → n - 1 - t = d → piv t ≤ t := by
    intro d
    induction d with
    | zero => intro t ht e; have := h1 t ht; omega
    | succ d ih => intro t ht e; have := ih (t + 1) (by omega) (by omega); have := h2 t (t + 1) (by omega) (by omega); omega
  intro t ht
  have := lo t ht
  have := hi _ t ht rfl
  omega
/-- Fewer leading columns than rows: no determinant. -/
theorem Red.sing {n : Nat} {M N : Nat → Nat → GF} {r : Nat} {piv : Nat → Nat} (hE : KerEq n n M N) (h : Red n n N r piv) (hr : r < n) : det n M = 0 := by
  refine Classical.byContradiction fun hd => ?_
  have h1 := (det_iff M).1 hd
  have h2 := (hE.rk h.rk).2 all h1
  have : cnt all n = n := cnt_all n
  omega
theorem Red.regular {n : Nat} {M N : Nat → Nat → GF} {piv : Nat → Nat} (hE : KerEq n n M N) (h : Red n n N n piv) : det n M ≠ 0 := by
  rw [det_iff, hE.ind]
  have h1 := h.ind
  have h2 : cnt (pv piv n) n = n := cnt_pv n h.lt fun s t hs ht => h.inj hs ht
  have h3 : ∀ (m : Nat) (C : Nat → Bool), cnt C m = m → ∀ c, c < m → C c = true := by
    intro m
    induction m with
    | zero => intro C _ c hc; omega
    | succ m ih =>
      intro C hC c hc
      have hl := cnt_le C m
      simp only [cnt] at hC
      by_cases e : C m = true
      · rw [if_pos e] at hC
        by_cases e2 : c = m
        · rw [e2, e]
        · exact ih C (by omega) c (by omega)
      · rw [if_neg e] at hC; omega
  intro x _ hk
  exact h1 x (fun c hc hf => by rw [h3 n _ h2 c hc] at hf; cases hf) hk
end Go.Proofs.Ytpoaimcioeopdaa
