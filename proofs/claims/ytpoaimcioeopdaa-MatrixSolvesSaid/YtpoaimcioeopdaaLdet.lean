/- Determinants by the first column: what they tell of the columns. No program is named here. -/
import Derived.Test.YtpoaimcioeopdaaLmath
namespace Go.Proofs.Ytpoaimcioeopdaa
open GF

/-- The numbers but i. -/
def sk (i k : Nat) : Nat := if k < i then k else k + 1
theorem sk_ne (i k : Nat) : sk i k ≠ i := by unfold sk; split <;> omega
theorem sk_lt {i k n : Nat} (h : k < n) : sk i k < n + 1 := by unfold sk; split <;> omega
/-- Where a number stands among those but i. -/
def ks (i k : Nat) : Nat := if k < i then k else k - 1
theorem sk_ks {i k : Nat} (h : k ≠ i) : sk i (ks i k) = k := by
  unfold sk ks
  by_cases e : k < i
  · rw [if_pos e, if_pos e]
  · rw [if_neg e, if_neg (by omega)]; omega
theorem sk_inj {i k l : Nat} (h : sk i k = sk i l) : k = l := by unfold sk at h; split at h <;> split at h <;> omega
/-- The row i and the first column left out. -/
def mnr (M : Nat → Nat → GF) (i : Nat) : Nat → Nat → GF := fun a c => M (sk i a) (c + 1)
/-- The determinant. -/
def det : Nat → (Nat → Nat → GF) → GF
  | 0, _ => 1
  | n + 1, M => sm (n + 1) fun i => M i 0 * det n (mnr M i)
theorem det_congr {n : Nat} : ∀ {M N : Nat → Nat → GF}, (∀ i, i < n → ∀ c, c < n → M i c = N i c) → det n M = det n N := by
  induction n with
  | zero => intro M N _; rfl
  | succ n ih =>
    intro M N h
    simp only [det]
    refine sm_congr fun i hi => ?_
    rw [h i hi 0 (by omega), ih (M := mnr M i) (N := mnr N i) fun a ha c hc => h _ (sk_lt ha) _ (by omega)]
theorem mnr_pu_self (M : Nat → Nat → GF) (k : Nat) (f : Nat → GF) : mnr (pu M k f) k = mnr M k := by
  funext a c; simp only [mnr, pu, if_neg (sk_ne k a)]
theorem mnr_pu (M : Nat → Nat → GF) {i k : Nat} (f : Nat → GF) (h : k ≠ i) : mnr (pu M k f) i = pu (mnr M i) (ks i k) (fun c => f (c + 1)) := by
  funext a c
  simp only [mnr, pu]
  by_cases e : sk i a = k
  · rw [if_pos e, if_pos (sk_inj (by rw [sk_ks h, e]))]
  · rw [if_neg e, if_neg (fun e2 => e (by rw [e2, sk_ks h]))]; rfl
theorem ks_lt {i k n : Nat} (hk : k < n + 1) (hi : i < n + 1) (h : k ≠ i) : ks i k < n := by unfold ks; split <;> omega
/-- It goes with each row's sums and multiples. -/
theorem det_lin {n : Nat} : ∀ (M : Nat → Nat → GF) {k : Nat}, k < n → ∀ (f g : Nat → GF) (a : GF), det n (pu M k (fun c => f c + a * g c)) = det n (pu M k f) + a * det n (pu M k g) := by
  induction n with
  | zero => intro M k hk; omega
  | succ n ih =>
    intro M k hk f g a
    simp only [det]
    rw [← sm_mul, ← sm_add]
    refine sm_congr fun i hi => ?_
    by_cases e : k = i
    · subst e
      rw [mnr_pu_self, mnr_pu_self, mnr_pu_self, pu_self, pu_self, pu_self, GF.add_mul, GF.mul_assoc]
    · rw [mnr_pu _ _ e, mnr_pu _ _ e, mnr_pu _ _ e, ih _ (ks_lt hk hi e), pu_ne _ _ (fun h => e h.symm), pu_ne _ _ (fun h => e h.symm), pu_ne _ _ (fun h => e h.symm), GF.mul_add, GF.mul_left_comm]
/-- Two rows that are the same, one behind the other. -/
theorem det_adj {n : Nat} : ∀ (M : Nat → Nat → GF) {j : Nat}, j + 1 < n → (∀ c, M j c = M (j + 1) c) → det n M = 0 := by
  induction n with
  | zero => intro M j hj; omega
  | succ n ih =>
    intro M j hj h
    simp only [det]
    have hm : mnr M j = mnr M (j + 1) := by
      funext a c
      simp only [mnr]
      by_cases e : a = j
      · subst e; rw [show sk a a = a + 1 by simp [sk], show sk (a + 1) a = a by simp [sk]]; exact (h _).symm
      · rw [show sk j a = sk (j + 1) a by unfold sk; split <;> split <;> omega]
    rw [sm_split (show j < n + 1 by omega), sm_split (show j + 1 < n + 1 by omega)]
    rw [if_neg (by omega), ← hm, h 0, ← GF.add_assoc, GF.add_self, GF.zero_add]
    refine sm_zero fun i hi => ?_
    by_cases e1 : i = j + 1
    · rw [if_pos e1]
    rw [if_neg e1]
    by_cases e2 : i = j
    · rw [if_pos e2]
    rw [if_neg e2]
    rcases Nat.lt_or_ge i j with hl | hl
    · rw [ih (mnr M i) (j := j - 1) (by omega) (fun c => by simp only [mnr]; rw [show sk i (j - 1) = j by unfold sk; split <;> omega, show sk i (j - 1 + 1) = j + 1 by unfold sk; split <;> omega]; exact h _), GF.mul_zero]
    · rw [ih (mnr M i) (j := j) (by omega) (fun c => by simp only [mnr]; rw [show sk i j = j by unfold sk; split <;> omega, show sk i (j + 1) = j + 1 by unfold sk; split <;> omega]; exact h _), GF.mul_zero]
theorem pu_pu (M : Nat → Nat → GF) (k : Nat) (f g : Nat → GF) : pu (pu M k f) k g = pu M k g := by funext i; simp only [pu]; split <;> rfl
theorem pu_comm (M : Nat → Nat → GF) {k l : Nat} (h : k ≠ l) (f g : Nat → GF) : pu (pu M k f) l g = pu (pu M l g) k f := by
  funext i; simp only [pu]; split <;> split <;> first | rfl | omega
theorem pu_id (M : Nat → Nat → GF) (k : Nat) : pu M k (M k) = M := by funext i; simp only [pu]; split <;> simp_all
theorem det_plus1 {n : Nat} (M : Nat → Nat → GF) {k : Nat} (hk : k < n) (f g : Nat → GF) : det n (pu M k (fun c => f c + g c)) = det n (pu M k f) + det n (pu M k g) := by
  have := det_lin M hk f g 1
  rw [GF.one_mul] at this
  rw [← this]
  congr 2
  funext c
  rw [GF.one_mul]
/-- Two rows that change their places, one behind the other: the same (a sum is a difference here). -/
theorem det_swap {n : Nat} (M : Nat → Nat → GF) {j : Nat} (hj : j + 1 < n) (f g : Nat → GF) : det n (pu (pu M j f) (j + 1) g) = det n (pu (pu M j g) (j + 1) f) := by
  have hz : ∀ h : Nat → GF, det n (pu (pu M j h) (j + 1) h) = 0 := fun h => det_adj _ hj fun c => by rw [pu_ne _ _ (by omega), pu_self, pu_self]
  have h0 := hz (fun c => f c + g c)
  rw [det_plus1 _ hj, pu_comm _ (by omega), det_plus1 _ (by omega), pu_comm M (show j ≠ j + 1 by omega) (fun c => f c + g c) g, det_plus1 _ (by omega)] at h0
  rw [← pu_comm M (show j ≠ j + 1 by omega) f f, ← pu_comm M (show j ≠ j + 1 by omega) g f, ← pu_comm M (show j ≠ j + 1 by omega) f g, ← pu_comm M (show j ≠ j + 1 by omega) g g, hz f, hz g, GF.zero_add, GF.add_zero] at h0
  exact (GF.add_eq_zero.1 h0).symm
/-- Two rows that are the same. -/
theorem det_same {n : Nat} : ∀ (d : Nat) (M : Nat → Nat → GF) {j : Nat}, j + d + 1 < n → (∀ c, M j c = M (j + d + 1) c) → det n M = 0 := by
  intro d
  induction d with
  | zero => intro M j hj h; exact det_adj M hj h
  | succ d ih =>
    intro M j hj h
    have h1 := det_swap M (j := j + d + 1) (by omega) (M (j + d + 1)) (M (j + d + 1 + 1))
    rw [pu_id, pu_id] at h1
    rw [h1]
    refine ih _ (j := j) (by omega) fun c => ?_
    rw [pu_ne _ _ (by omega), pu_ne _ _ (by omega), pu_ne _ _ (by omega), pu_self]
    exact h c
theorem det_same' {n : Nat} (M : Nat → Nat → GF) {j k : Nat} (hj : j < n) (hk : k < n) (hne : j ≠ k) (h : ∀ c, M j c = M k c) : det n M = 0 := by
  rcases Nat.lt_or_ge j k with hl | hl
  · exact det_same (k - j - 1) M (j := j) (by omega) (fun c => by rw [show j + (k - j - 1) + 1 = k by omega]; exact h c)
  · exact det_same (j - k - 1) M (j := k) (by omega) (fun c => by rw [show k + (j - k - 1) + 1 = j by omega]; exact (h c).symm)
/-- A multiple of a row, added to another one, changes nothing. -/
theorem det_add {n : Nat} (M : Nat → Nat → GF) {i k : Nat} (hi : i < n) (hk : k < n) (hne : k ≠ i) (a : GF) : det n (pu M k (fun c => M k c + a * M i c)) = det n M := by
  rw [det_lin M hk, pu_id, det_same' (pu M k (M i)) hi hk (fun h => hne h.symm) (fun c => by rw [pu_ne _ _ (fun h => hne h.symm), pu_self]), GF.mul_zero, GF.add_zero]
/-- The first s rows but i0, a multiple of row i0 added to each. -/
def swp (M : Nat → Nat → GF) (i0 : Nat) (a : Nat → GF) (s : Nat) : Nat → Nat → GF := fun k c => if k < s ∧ k ≠ i0 then M k c + a k * M i0 c else M k c
theorem det_swp {n : Nat} (M : Nat → Nat → GF) {i0 : Nat} (hi : i0 < n) (a : Nat → GF) : ∀ s, s ≤ n → det n (swp M i0 a s) = det n M := by
  intro s
  induction s with
  | zero => intro _; exact det_congr fun i _ c _ => by simp [swp]
  | succ s ih =>
    intro hs
    rw [← ih (by omega)]
    by_cases e : s = i0
    · exact det_congr fun i _ c _ => by
        simp only [swp]
        by_cases h : i < s
        · simp only [show (i < s + 1 ∧ i ≠ i0) ↔ (i < s ∧ i ≠ i0) from ⟨fun h2 => ⟨h, h2.2⟩, fun h2 => ⟨by omega, h2.2⟩⟩]
        · rw [if_neg (by omega), if_neg (by omega)]
    · rw [← det_add (swp M i0 a s) (show i0 < n by omega) (show s < n by omega) e (a s)]
      refine det_congr fun i _ c _ => ?_
      by_cases h : i = s
      · subst h
        rw [pu_self]
        simp only [swp]
        rw [if_pos ⟨by omega, e⟩, if_neg (by omega), if_neg (by omega)]
      · rw [pu_ne _ _ h]
        simp only [swp]
        by_cases h2 : i < s ∧ i ≠ i0
        · rw [if_pos ⟨by omega, h2.2⟩, if_pos h2]
        · rw [if_neg (by omega), if_neg h2]
/-- There is a determinant just if the columns don't hang on each other. -/
theorem det_iff {n : Nat} : ∀ M : Nat → Nat → GF, det n M ≠ 0 ↔ Ind all n all n M := by
  induction n with
  | zero => intro M; exact ⟨fun _ x _ _ c hc => absurd hc (by omega), fun _ => GF.one_ne⟩
  | succ n ih =>
    intro M
    by_cases hz : ∀ i, i < n + 1 → M i 0 = 0
    · constructor
      · intro h
        exact absurd (show det (n + 1) M = 0 from sm_zero fun i hi => by rw [hz i hi, GF.zero_mul]) h
      · intro h
        have := h (un 0) (fun _ _ h => by cases h) (fun i hi _ => by rw [dt_un (by omega)]; exact hz i hi) 0 (by omega)
        exact absurd (by simpa [un] using this) GF.one_ne
    · obtain ⟨i0, hi0, hp⟩ : ∃ i, i < n + 1 ∧ M i 0 ≠ 0 := by
        refine Classical.byContradiction fun hno => hz fun i hi => ?_
        exact Classical.byContradiction fun h => hno ⟨i, hi, h⟩
      let a : Nat → GF := fun k => M k 0 * GF.inv (M i0 0)
      let N := swp M i0 a (n + 1)
      have hN0 : ∀ k, k < n + 1 → k ≠ i0 → N k 0 = 0 := fun k hk hne => by
        simp only [N, swp, if_pos (And.intro hk hne), a]
        rw [GF.mul_assoc, GF.inv_mul hp, GF.mul_one, GF.add_self]
      have hNi : ∀ c, N i0 c = M i0 c := fun c => by simp [N, swp]
      have hNk : ∀ k c, k < n + 1 → k ≠ i0 → N k c = M k c + a k * M i0 c := fun k c hk hne => by simp only [N, swp, if_pos (And.intro hk hne)]
      have hd : det (n + 1) M = M i0 0 * det n (mnr N i0) := by
        rw [← det_swp M hi0 a (n + 1) (Nat.le_refl _)]
        simp only [det]
        rw [sm_one hi0 (fun k hk hne => by
          have h := hN0 k hk hne
          simp only [N] at h
          rw [h, GF.zero_mul])]
        have h := hNi 0
        simp only [N] at h
        rw [h]
      have hiff : det (n + 1) M ≠ 0 ↔ det n (mnr N i0) ≠ 0 := by
        rw [hd]
        exact ⟨fun h e => h (by rw [e, GF.mul_zero]), fun h => GF.mul_ne hp h⟩
      rw [hiff, ih]
      have hdt : ∀ (f x : Nat → GF), dt (n + 1) f x = f 0 * x 0 + dt n (fun c => f (c + 1)) (fun c => x (c + 1)) := fun f x => by unfold dt; rw [sm_head]
      have hrow : ∀ k, k < n + 1 → k ≠ i0 → ∀ x : Nat → GF, dt (n + 1) (M k) x = dt (n + 1) (N k) x + a k * dt (n + 1) (M i0) x := fun k hk hne x => by
        rw [← dt_mul_left, ← dt_add_left]
        refine dt_congr fun c _ => ?_
        rw [hNk k c hk hne, GF.add_assoc, GF.add_self, GF.add_zero]
      constructor
      · intro h x _ hk
        have h0 := hk i0 hi0 rfl
        have hx : ∀ c, c < n → x (c + 1) = 0 := h (fun c => x (c + 1)) (fun _ _ h => by cases h) fun b hb _ => by
          have h1 := hk (sk i0 b) (sk_lt hb) rfl
          rw [hrow _ (sk_lt hb) (sk_ne i0 b), h0, GF.mul_zero, GF.add_zero, hdt, hN0 _ (sk_lt hb) (sk_ne i0 b), GF.zero_mul, GF.zero_add] at h1
          exact h1
        rw [hdt, dt_zero (fun c hc => by rw [hx c hc, GF.mul_zero]), GF.add_zero] at h0
        intro c hc
        cases c with
        | zero => exact (GF.mul_eq_zero h0).resolve_left hp
        | succ c => exact hx c (by omega)
      · intro h y _ hk c hc
        let x : Nat → GF := fun c => match c with | 0 => GF.inv (M i0 0) * dt n (fun c => M i0 (c + 1)) y | c + 1 => y c
        have h0 : dt (n + 1) (M i0) x = 0 := by
          rw [hdt]
          show M i0 0 * (GF.inv (M i0 0) * dt n (fun c => M i0 (c + 1)) y) + dt n (fun c => M i0 (c + 1)) y = 0
          rw [← GF.mul_assoc, GF.mul_inv hp, GF.one_mul, GF.add_self]
        exact h x (fun _ _ h => by cases h) (fun k hk' _ => by
          by_cases e : k = i0
          · rw [e]; exact h0
          · rw [hrow k hk' e, h0, GF.mul_zero, GF.add_zero, hdt, hN0 k hk' e, GF.zero_mul, GF.zero_add]
            have hb := hk (ks i0 k) (ks_lt hk' hi0 e) rfl
            rw [show mnr N i0 (ks i0 k) = fun c => N k (c + 1) from funext fun c => by simp only [mnr, sk_ks e]] at hb
            exact hb) (c + 1) (by omega)
end Go.Proofs.Ytpoaimcioeopdaa
