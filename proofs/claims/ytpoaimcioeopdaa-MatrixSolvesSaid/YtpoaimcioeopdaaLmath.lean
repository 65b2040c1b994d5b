/- Plain facts on rows of numbers of the field: which columns hang on each other, how many don't (ranks), what becomes of it by reducing. A matrix is a function of row and column; n rows, m columns. No program is named here. -/
import Derived.Test.YtpoaimcioeopdaaGmath
namespace Go.Proofs.Ytpoaimcioeopdaa
open GF

/-! Sums once more. -/
theorem sm_mul_right (n : Nat) (c : GF) (f : Nat → GF) : sm n (fun i => f i * c) = sm n f * c := by
  rw [GF.mul_comm, ← sm_mul]; exact sm_congr fun i _ => GF.mul_comm _ _
theorem sm_turn (n m : Nat) (f : Nat → Nat → GF) : sm n (fun i => sm m (fun j => f i j)) = sm m (fun j => sm n (fun i => f i j)) := by
  induction n with
  | zero => exact (sm_zero (fun _ _ => rfl)).symm
  | succ n ih => simp only [sm]; rw [ih, ← sm_add]
theorem sm_split {n j : Nat} (hj : j < n) (f : Nat → GF) : sm n f = f j + sm n (fun i => if i = j then 0 else f i) := by
  have h : sm n f = sm n (fun i => (if i = j then f i else 0) + (if i = j then 0 else f i)) := sm_congr fun i _ => by
    by_cases e : i = j
    · simp only [if_pos e]; rw [GF.add_zero]
    · simp only [if_neg e]; rw [GF.zero_add]
  rw [h, sm_add]
  congr 1
  rw [sm_one hj (fun i _ hne => by simp only [if_neg hne])]
  simp only [if_pos trivial]

/-- A row times a column. -/
def dt (m : Nat) (f x : Nat → GF) : GF := sm m fun c => f c * x c
/-- The column of c alone. -/
def un (c : Nat) : Nat → GF := fun k => if k = c then 1 else 0
theorem dt_un {m c : Nat} (hc : c < m) (f : Nat → GF) : dt m f (un c) = f c := by
  unfold dt
  rw [sm_one hc (fun i _ hne => by simp only [un, if_neg hne]; exact GF.mul_zero _)]
  simp only [un, if_pos trivial]
  exact GF.mul_one _
theorem dt_add_right (m : Nat) (f x y : Nat → GF) : dt m f (fun c => x c + y c) = dt m f x + dt m f y := by
  unfold dt; rw [← sm_add]; exact sm_congr fun i _ => GF.mul_add _ _ _
theorem dt_mul_right (m : Nat) (a : GF) (f x : Nat → GF) : dt m f (fun c => a * x c) = a * dt m f x := by
  unfold dt; rw [← sm_mul]; exact sm_congr fun i _ => GF.mul_left_comm _ _ _
theorem dt_add_left (m : Nat) (f g x : Nat → GF) : dt m (fun c => f c + g c) x = dt m f x + dt m g x := by
  unfold dt; rw [← sm_add]; exact sm_congr fun i _ => GF.add_mul _ _ _
theorem dt_mul_left (m : Nat) (a : GF) (f x : Nat → GF) : dt m (fun c => a * f c) x = a * dt m f x := by
  unfold dt; rw [← sm_mul]; exact sm_congr fun i _ => GF.mul_assoc _ _ _
theorem dt_congr {m : Nat} {f g x y : Nat → GF} (h : ∀ c, c < m → f c * x c = g c * y c) : dt m f x = dt m g y := sm_congr h
theorem dt_zero {m : Nat} {f x : Nat → GF} (h : ∀ c, c < m → f c * x c = 0) : dt m f x = 0 := sm_zero h

/-- How many of the first m. -/
def cnt (C : Nat → Bool) : Nat → Nat
  | 0 => 0
  | m + 1 => cnt C m + (if C m then 1 else 0)
theorem cnt_le (C : Nat → Bool) (m : Nat) : cnt C m ≤ m := by
  induction m with
  | zero => exact Nat.le_refl _
  | succ m ih => simp only [cnt]; split <;> omega
theorem cnt_congr {C D : Nat → Bool} {m : Nat} (h : ∀ c, c < m → C c = D c) : cnt C m = cnt D m := by
  induction m with
  | zero => rfl
  | succ m ih => simp only [cnt]; rw [ih (fun c hc => h c (by omega)), h m (by omega)]
theorem cnt_all (m : Nat) : cnt (fun _ => true) m = m := by
  induction m with
  | zero => rfl
  | succ m ih => simp only [cnt]; rw [ih]; rfl
theorem cnt_lt (r m : Nat) : cnt (fun i => decide (i < r)) m = min r m := by
  induction m with
  | zero => simp [cnt]
  | succ m ih => simp only [cnt]; rw [ih]; by_cases h : m < r <;> simp [h] <;> omega
theorem cnt_pos {C : Nat → Bool} {m : Nat} (h : 0 < cnt C m) : ∃ c, c < m ∧ C c = true := by
  induction m with
  | zero => simp [cnt] at h
  | succ m ih =>
    by_cases e : C m = true
    · exact ⟨m, by omega, e⟩
    · simp only [cnt, e] at h
      obtain ⟨c, h1, h2⟩ := ih (by simpa using h)
      exact ⟨c, by omega, h2⟩
/-- One taken out. -/
def out (C : Nat → Bool) (c : Nat) : Nat → Bool := fun k => C k && !decide (k = c)
theorem cnt_out {C : Nat → Bool} {m c : Nat} (hc : c < m) (h : C c = true) : cnt (out C c) m + 1 = cnt C m := by
  induction m with
  | zero => omega
  | succ m ih =>
    simp only [cnt]
    by_cases e : c = m
    · subst e
      have : cnt (out C c) c = cnt C c := cnt_congr fun k hk => by simp [out]; omega
      rw [this]; simp [out, h]
    · have := ih (by omega)
      have h2 : out C c m = C m := by simp [out]; omega
      rw [h2]; omega
/-- One put in. -/
def inn (C : Nat → Bool) (c : Nat) : Nat → Bool := fun k => C k || decide (k = c)
theorem cnt_inn {C : Nat → Bool} {m c : Nat} (hc : c < m) (h : C c = false) : cnt (inn C c) m = cnt C m + 1 := by
  have h1 : out (inn C c) c = fun k => out C c k := funext fun k => by by_cases e : k = c <;> simp [out, inn, e]
  have h2 := cnt_out (C := inn C c) hc (by simp [inn])
  have h3 : cnt (out (inn C c) c) m = cnt C m := cnt_congr fun k hk => by
    by_cases e : k = c
    · subst e; simp [out, h]
    · simp [out, inn, e]
  omega

/-- Noughts but in these columns. -/
def Sup (m : Nat) (C : Nat → Bool) (x : Nat → GF) : Prop := ∀ c, c < m → C c = false → x c = 0
/-- These rows send it to nothing. -/
def Ker (R : Nat → Bool) (n m : Nat) (M : Nat → Nat → GF) (x : Nat → GF) : Prop := ∀ i, i < n → R i = true → dt m (M i) x = 0
/-- These columns, in these rows, don't hang on each other. -/
def Ind (R : Nat → Bool) (n : Nat) (C : Nat → Bool) (m : Nat) (M : Nat → Nat → GF) : Prop := ∀ x, Sup m C x → Ker R n m M x → ∀ c, c < m → x c = 0

/-- Fewer rows than columns: something but nothing is sent to nothing. -/
theorem more_columns (m : Nat) : ∀ (n : Nat) (R C : Nat → Bool) (M : Nat → Nat → GF), cnt R n < cnt C m → ∃ x, Sup m C x ∧ Ker R n m M x ∧ ∃ c, c < m ∧ x c ≠ 0 := by
  intro n
  induction n with
  | zero =>
    intro R C M h
    obtain ⟨c, hc, hC⟩ := cnt_pos (C := C) (m := m) (by simpa [cnt] using h)
    refine ⟨un c, fun k _ hk => ?_, fun i hi => absurd hi (by omega), c, hc, by simp only [un, if_pos trivial]; exact GF.one_ne⟩
    simp only [un]
    rw [if_neg (fun e => by rw [e, hC] at hk; cases hk)]
  | succ n ih =>
    intro R C M h
    by_cases hR : R n = true
    · have h' : cnt R n + 1 < cnt C m := by simpa [cnt, hR] using h
      by_cases hz : ∀ c, c < m → C c = true → M n c = 0
      · obtain ⟨x, h1, h2, h3⟩ := ih R C M (by omega)
        refine ⟨x, h1, fun i hi hRi => ?_, h3⟩
        by_cases e : i = n
        · subst e
          refine dt_zero fun c hc => ?_
          by_cases hC : C c = true
          · rw [hz c hc hC, GF.zero_mul]
          · rw [h1 c hc (by simpa using hC), GF.mul_zero]
        · exact h2 i (by omega) hRi
      · obtain ⟨c0, hc0, hC0, hne⟩ : ∃ c, c < m ∧ C c = true ∧ M n c ≠ 0 := by
          refine Classical.byContradiction fun hno => hz fun c hc hC => ?_
          exact Classical.byContradiction fun hM => hno ⟨c, hc, hC, hM⟩
        have hco := cnt_out hc0 hC0
        obtain ⟨x, h1, h2, c1, hc1, hx1⟩ := ih R (out C c0) (fun i c => M i c + (M i c0 * GF.inv (M n c0)) * M n c) (by omega)
        have hx0 : x c0 = 0 := h1 c0 hc0 (by simp [out])
        have hd : ∀ (f : Nat → GF) (v : GF), dt m f (fun c => x c + v * un c0 c) = dt m f x + f c0 * v := fun f v => by
          rw [dt_add_right, dt_mul_right, dt_un hc0, GF.mul_comm v]
        refine ⟨fun c => x c + (GF.inv (M n c0) * dt m (M n) x) * un c0 c, fun c hc hC => ?_, fun i hi hRi => ?_, c1, hc1, ?_⟩
        · have e : c ≠ c0 := fun e => by rw [e, hC0] at hC; cases hC
          simp only [un, if_neg e]
          rw [GF.mul_zero, GF.add_zero]
          exact h1 c hc (by simp [out, hC])
        · rw [hd]
          by_cases e : i = n
          · subst e
            rw [← GF.mul_assoc, GF.mul_inv hne, GF.one_mul, GF.add_self]
          · have := h2 i (by omega) hRi
            rw [dt_add_left, dt_mul_left] at this
            rw [← GF.mul_assoc]
            exact this
        · have e : c1 ≠ c0 := fun e => hx1 (by rw [e, hx0])
          simp only [un, if_neg e]
          rw [GF.mul_zero, GF.add_zero]
          exact hx1
    · obtain ⟨x, h1, h2, h3⟩ := ih R C M (by simpa [cnt, hR] using h)
      refine ⟨x, h1, fun i hi hRi => ?_, h3⟩
      by_cases e : i = n
      · subst e; exact absurd hRi hR
      · exact h2 i (by omega) hRi
theorem ind_le {R : Nat → Bool} {n : Nat} {C : Nat → Bool} {m : Nat} {M : Nat → Nat → GF} (h : Ind R n C m M) : cnt C m ≤ cnt R n := by
  refine Nat.le_of_not_lt fun hlt => ?_
  obtain ⟨x, h1, h2, c, hc, hx⟩ := more_columns m n R C M hlt
  exact hx (h x h1 h2 c hc)
/-- So many rows are enough as there are columns. -/
theorem ind_rows {m : Nat} {n : Nat} {C : Nat → Bool} {M : Nat → Nat → GF} : ∀ (d : Nat) (R : Nat → Bool), cnt R n = cnt C m + d → Ind R n C m M → ∃ R', (∀ i, R' i = true → R i = true) ∧ cnt R' n = cnt C m ∧ Ind R' n C m M := by
  intro d
  induction d with
  | zero => intro R h hI; exact ⟨R, fun _ h => h, by omega, hI⟩
  | succ d ih =>
    intro R h hI
    obtain ⟨y, h1, h2, i0, hi0, hy⟩ := more_columns n m C R (fun c i => M i c) (by omega)
    have hR0 : R i0 = true := by
      refine Classical.byContradiction fun hno => hy (h1 i0 hi0 (by simpa using hno))
    have hco := cnt_out hi0 hR0
    have hI' : Ind (out R i0) n C m M := by
      intro x hs hk
      refine hI x hs fun i hi hRi => ?_
      by_cases e : i = i0
      · subst e
        have ht : sm n (fun k => y k * dt m (M k) x) = 0 := by
          have : sm n (fun k => y k * dt m (M k) x) = sm n (fun k => sm m (fun c => y k * (M k c * x c))) := sm_congr fun k _ => by unfold dt; rw [sm_mul]
          rw [this, sm_turn]
          refine sm_zero fun c hc => ?_
          by_cases hC : C c = true
          · have h3 := h2 c hc hC
            have : sm n (fun k => y k * (M k c * x c)) = dt n (fun k => M k c) y * x c := by
              unfold dt; rw [← sm_mul_right]; exact sm_congr fun k _ => by rw [← GF.mul_assoc, GF.mul_comm (y k)]
            rw [this, h3, GF.zero_mul]
          · refine sm_zero fun k _ => ?_
            rw [hs c hc (by simpa using hC), GF.mul_zero, GF.mul_zero]
        rw [sm_one hi (fun k hk' hne => by
          by_cases hRk : R k = true
          · rw [hk k hk' (by simp [out, hRk, hne]), GF.mul_zero]
          · rw [h1 k hk' (by simpa using hRk), GF.zero_mul])] at ht
        exact (GF.mul_eq_zero ht).resolve_left hy
      · exact hk i hi (by simp [out, hRi, e])
    obtain ⟨R', a1, a2, a3⟩ := ih (out R i0) (by omega) hI'
    exact ⟨R', fun i hi => by have := a1 i hi; simp [out] at this; exact this.1, a2, a3⟩

/-- All of them. -/
def all : Nat → Bool := fun _ => true
theorem Ind.more {R R' : Nat → Bool} {n : Nat} {C : Nat → Bool} {m : Nat} {M : Nat → Nat → GF} (h : Ind R n C m M) (hR : ∀ i, i < n → R i = true → R' i = true) : Ind R' n C m M :=
  fun x hs hk => h x hs fun i hi hRi => hk i hi (hR i hi hRi)
/-- The rank: so many columns don't hang on each other, and no more. -/
def Rk (n m : Nat) (M : Nat → Nat → GF) (r : Nat) : Prop := (∃ C, cnt C m = r ∧ Ind all n C m M) ∧ ∀ C, Ind all n C m M → cnt C m ≤ r
theorem Rk.uniq {n m : Nat} {M : Nat → Nat → GF} {r s : Nat} (h : Rk n m M r) (k : Rk n m M s) : r = s := by
  obtain ⟨⟨C, c1, c2⟩, h2⟩ := h
  obtain ⟨⟨D, d1, d2⟩, k2⟩ := k
  have := h2 D d2
  have := k2 C c2
  omega
theorem Rk.le {n m : Nat} {M : Nat → Nat → GF} {r : Nat} (h : Rk n m M r) : r ≤ n ∧ r ≤ m := by
  obtain ⟨⟨C, c1, c2⟩, _⟩ := h
  have := ind_le c2
  have h2 : cnt all n = n := cnt_all n
  have := cnt_le C m
  omega
/-- The same by squares: so many rows and columns, and no more. -/
theorem Rk.squares {n m : Nat} {M : Nat → Nat → GF} {r : Nat} (h : Rk n m M r) : (∃ R C, cnt R n = r ∧ cnt C m = r ∧ Ind R n C m M) ∧ ∀ R C, Ind R n C m M → cnt C m ≤ r := by
  obtain ⟨⟨C, c1, c2⟩, h2⟩ := h
  refine ⟨?_, fun R D hD => h2 D (hD.more fun _ _ _ => rfl)⟩
  have h0 := ind_le c2
  obtain ⟨R', _, a2, a3⟩ := ind_rows (cnt all n - cnt C m) all (by omega) c2
  exact ⟨R', C, by omega, c1, a3⟩
/-- What is sent to nothing is the same. -/
def KerEq (n m : Nat) (M N : Nat → Nat → GF) : Prop := ∀ x, Ker all n m M x ↔ Ker all n m N x
theorem KerEq.refl (n m : Nat) (M : Nat → Nat → GF) : KerEq n m M M := fun _ => Iff.rfl
theorem KerEq.trans {n m : Nat} {M N O : Nat → Nat → GF} (h : KerEq n m M N) (k : KerEq n m N O) : KerEq n m M O := fun x => (h x).trans (k x)
theorem KerEq.symm {n m : Nat} {M N : Nat → Nat → GF} (h : KerEq n m M N) : KerEq n m N M := fun x => (h x).symm
theorem ker_congr {R : Nat → Bool} {n m : Nat} {M N : Nat → Nat → GF} (h : ∀ i, i < n → ∀ c, c < m → M i c = N i c) (x : Nat → GF) : Ker R n m M x ↔ Ker R n m N x := by
  constructor
  · intro k i hi hR; rw [← k i hi hR]; exact dt_congr fun c hc => by rw [h i hi c hc]
  · intro k i hi hR; rw [← k i hi hR]; exact dt_congr fun c hc => by rw [h i hi c hc]
theorem KerEq.of_congr {n m : Nat} {M N : Nat → Nat → GF} (h : ∀ i, i < n → ∀ c, c < m → M i c = N i c) : KerEq n m M N := fun x => ker_congr h x
/-- Fewer columns. -/
theorem KerEq.short {n m w : Nat} {M N : Nat → Nat → GF} (h : KerEq n w M N) (hm : m ≤ w) : KerEq n m M N := by
  intro x
  have hd : ∀ f : Nat → GF, dt w f (fun c => if c < m then x c else 0) = dt m f x := fun f => by
    unfold dt
    rw [sm_more hm (fun i h1 h2 => by simp only [if_neg (show ¬ i < m by omega)]; exact GF.mul_zero _)]
    exact sm_congr fun c hc => by simp only [if_pos hc]
  have := h (fun c => if c < m then x c else 0)
  constructor
  · intro k i hi hR
    rw [← hd]; exact this.1 (fun i hi hR => by rw [hd]; exact k i hi hR) i hi hR
  · intro k i hi hR
    rw [← hd]; exact this.2 (fun i hi hR => by rw [hd]; exact k i hi hR) i hi hR
theorem KerEq.ind {n m : Nat} {M N : Nat → Nat → GF} (h : KerEq n m M N) {C : Nat → Bool} : Ind all n C m M ↔ Ind all n C m N :=
  ⟨fun k x hs hk => k x hs ((h x).2 hk), fun k x hs hk => k x hs ((h x).1 hk)⟩
theorem KerEq.rk {n m : Nat} {M N : Nat → Nat → GF} (h : KerEq n m M N) {r : Nat} (k : Rk n m N r) : Rk n m M r := by
  obtain ⟨⟨C, c1, c2⟩, h2⟩ := k
  exact ⟨⟨C, c1, h.ind.2 c2⟩, fun D hD => h2 D (h.ind.1 hD)⟩

/-! The steps. -/
/-- A row put in another one's place. -/
def pu (M : Nat → Nat → GF) (k : Nat) (f : Nat → GF) : Nat → Nat → GF := fun i => if i = k then f else M i
theorem pu_self (M : Nat → Nat → GF) (k : Nat) (f : Nat → GF) : pu M k f k = f := by simp [pu]
theorem pu_ne (M : Nat → Nat → GF) {k i : Nat} (f : Nat → GF) (h : i ≠ k) : pu M k f i = M i := by simp [pu, h]
theorem KerEq.swap {n m i j : Nat} (hi : i < n) (hj : j < n) (M : Nat → Nat → GF) : KerEq n m M (pu (pu M i (M j)) j (M i)) := by
  intro x
  constructor
  · intro h k hk hR
    by_cases e : k = j
    · subst e; rw [pu_self]; exact h i hi rfl
    · rw [pu_ne _ _ e]
      by_cases e2 : k = i
      · subst e2; rw [pu_self]; exact h j hj rfl
      · rw [pu_ne _ _ e2]; exact h k hk rfl
  · intro h k hk hR
    by_cases e2 : k = i
    · subst e2
      have := h j hj rfl
      rwa [pu_self] at this
    · by_cases e : k = j
      · subst e
        have := h i hi rfl
        rwa [pu_ne _ _ (fun h => e2 h.symm), pu_self] at this
      · have := h k hk rfl
        rwa [pu_ne _ _ e, pu_ne _ _ e2] at this
theorem KerEq.scale {n m i : Nat} {a : GF} (ha : a ≠ 0) (M : Nat → Nat → GF) : KerEq n m M (pu M i (fun c => a * M i c)) := by
  intro x
  constructor
  · intro h k hk hR
    by_cases e : k = i
    · subst e; rw [pu_self, dt_mul_left, h k hk rfl, GF.mul_zero]
    · rw [pu_ne _ _ e]; exact h k hk rfl
  · intro h k hk hR
    have := h k hk rfl
    by_cases e : k = i
    · subst e
      rw [pu_self, dt_mul_left] at this
      exact (GF.mul_eq_zero this).resolve_left ha
    · rwa [pu_ne _ _ e] at this
theorem KerEq.plus {n m i j : Nat} (a : GF) (hj : j < n) (hne : i ≠ j) (M : Nat → Nat → GF) : KerEq n m M (pu M i (fun c => M i c + a * M j c)) := by
  intro x
  constructor
  · intro h k hk hR
    by_cases e : k = i
    · subst e; rw [pu_self, dt_add_left, dt_mul_left, h k hk rfl, h j hj rfl, GF.mul_zero, GF.add_zero]
    · rw [pu_ne _ _ e]; exact h k hk rfl
  · intro h k hk hR
    have h1 := h k hk rfl
    by_cases e : k = i
    · subst e
      have h2 := h j hj rfl
      rw [pu_ne _ _ (fun h => hne h.symm)] at h2
      rwa [pu_self, dt_add_left, dt_mul_left, h2, GF.mul_zero, GF.add_zero] at h1
    · rwa [pu_ne _ _ e] at h1

/-- Reduced by the columns piv 0, .., piv (r - 1): each alone in its row; below nothing. -/
structure Red (n m : Nat) (N : Nat → Nat → GF) (r : Nat) (piv : Nat → Nat) : Prop where
  rn : r ≤ n
  lt : ∀ t, t < r → piv t < m
  one : ∀ t, t < r → ∀ i, i < n → N i (piv t) = if i = t then 1 else 0
  nil : ∀ i, r ≤ i → i < n → ∀ c, c < m → N i c = 0
theorem Red.inj {n m : Nat} {N : Nat → Nat → GF} {r : Nat} {piv : Nat → Nat} (h : Red n m N r piv) {s t : Nat} (hs : s < r) (ht : t < r) (e : piv s = piv t) : s = t := by
  have h0 := h.rn
  have h1 := h.one s hs s (by omega)
  have h2 := h.one t ht s (by omega)
  rw [if_pos rfl] at h1
  rw [← e, h1] at h2
  refine Classical.byContradiction fun hne => ?_
  rw [if_neg hne] at h2
  exact GF.one_ne h2
/-- The columns of the first r. -/
def pv (piv : Nat → Nat) : Nat → Nat → Bool
  | 0 => fun _ => false
  | r + 1 => inn (pv piv r) (piv r)
theorem pv_iff (piv : Nat → Nat) (r c : Nat) : pv piv r c = true ↔ ∃ t, t < r ∧ piv t = c := by
  induction r with
  | zero => simp [pv]
  | succ r ih =>
    simp only [pv, inn, Bool.or_eq_true, decide_eq_true_eq, ih]
    constructor
    · rintro (⟨t, h1, h2⟩ | h)
      · exact ⟨t, by omega, h2⟩
      · exact ⟨r, by omega, h.symm⟩
    · rintro ⟨t, h1, h2⟩
      by_cases e : t = r
      · subst e; exact .inr h2.symm
      · exact .inl ⟨t, by omega, h2⟩
theorem cnt_pv {piv : Nat → Nat} {m : Nat} : ∀ r, (∀ t, t < r → piv t < m) → (∀ s t, s < r → t < r → piv s = piv t → s = t) → cnt (pv piv r) m = r := by
  intro r
  induction r with
  | zero =>
    intro _ _
    have : ∀ m, cnt (pv piv 0) m = 0 := fun m => by
      induction m with
      | zero => rfl
      | succ m ih => simp only [cnt]; rw [ih]; rfl
    exact this m
  | succ r ih =>
    intro h1 h2
    simp only [pv]
    rw [cnt_inn (h1 r (by omega)), ih (fun t ht => h1 t (by omega)) (fun s t hs ht => h2 s t (by omega) (by omega))]
    refine Bool.eq_false_iff.2 fun hp => ?_
    obtain ⟨t, ht, he⟩ := (pv_iff _ _ _).1 hp
    have := h2 t r (by omega) (by omega) he
    omega
/-- In a reduced one's rows a column that is 0 but at the pivots is told by them. -/
theorem Red.dt {n m : Nat} {N : Nat → Nat → GF} {r : Nat} {piv : Nat → Nat} (h : Red n m N r piv) {x : Nat → GF} (hx : Sup m (pv piv r) x) {t : Nat} (ht : t < r) : dt m (N t) x = x (piv t) := by
  have h0 := h.rn
  unfold Go.Proofs.Ytpoaimcioeopdaa.dt
  rw [sm_one (h.lt t ht) (fun c hc hne => by
    by_cases hp : pv piv r c = true
    · obtain ⟨s, hs, rfl⟩ := (pv_iff _ _ _).1 hp
      rw [h.one s hs t (by omega), if_neg (fun e => hne (by rw [e])), GF.zero_mul]
    · rw [hx c hc (by simpa using hp), GF.mul_zero])]
  rw [h.one t ht t (by omega), if_pos rfl, GF.one_mul]
theorem Red.ind {n m : Nat} {N : Nat → Nat → GF} {r : Nat} {piv : Nat → Nat} (h : Red n m N r piv) : Ind all n (pv piv r) m N := by
  intro x hs hk c hc
  by_cases hp : pv piv r c = true
  · obtain ⟨t, ht, rfl⟩ := (pv_iff _ _ _).1 hp
    have := hk t (by have := h.rn; omega) rfl
    rwa [h.dt hs ht] at this
  · exact hs c hc (by simpa using hp)
theorem Red.rk {n m : Nat} {N : Nat → Nat → GF} {r : Nat} {piv : Nat → Nat} (h : Red n m N r piv) : Rk n m N r := by
  refine ⟨⟨pv piv r, cnt_pv r h.lt (fun s t hs ht => h.inj hs ht), h.ind⟩, fun C hC => ?_⟩
  have h1 : Ind (fun i => decide (i < r)) n C m N := fun x hs hk => hC x hs fun i hi _ => by
    by_cases e : i < r
    · exact hk i hi (by simpa using e)
    · exact dt_zero fun c hc => by rw [h.nil i (by omega) hi c hc, GF.zero_mul]
  have := ind_le h1
  rw [cnt_lt] at this
  omega

/-! Products. -/
/-- The product. -/
def mmul (k : Nat) (M O : Nat → Nat → GF) : Nat → Nat → GF := fun i c => sm k fun j => M i j * O j c
theorem dt_mmul (k m : Nat) (M O : Nat → Nat → GF) (i : Nat) (x : Nat → GF) : dt m (mmul k M O i) x = dt k (M i) (fun j => dt m (O j) x) := by
  unfold dt mmul
  have : sm m (fun c => sm k (fun j => M i j * O j c) * x c) = sm m (fun c => sm k (fun j => M i j * (O j c * x c))) := sm_congr fun c _ => by
    rw [← sm_mul_right]; exact sm_congr fun j _ => GF.mul_assoc _ _ _
  rw [this, sm_turn]
  exact sm_congr fun j _ => by rw [sm_mul]
/-- A product's rank is above neither's. -/
theorem rk_mmul_right {n k m : Nat} {M O : Nat → Nat → GF} {s t : Nat} (hO : Rk k m O s) (hP : Rk n m (mmul k M O) t) : t ≤ s := by
  obtain ⟨⟨C, c1, c2⟩, _⟩ := hP
  rw [← c1]
  refine hO.2 C fun x hs hk => c2 x hs fun i hi _ => ?_
  rw [dt_mmul]
  exact dt_zero fun j hj => by rw [hk j hj rfl, GF.mul_zero]
theorem rk_mmul_left {n k m : Nat} {M N O : Nat → Nat → GF} {r t : Nat} {piv : Nat → Nat} (hE : KerEq n k M N) (hN : Red n k N r piv) (hP : Rk n m (mmul k M O) t) : t ≤ r := by
  obtain ⟨⟨C, c1, c2⟩, _⟩ := hP
  have h1 : Ind (fun i => decide (i < r)) n C m (mmul k N O) := fun x hs hk => c2 x hs fun i hi _ => by
    rw [dt_mmul]
    refine (hE fun j => dt m (O j) x).2 (fun l hl _ => ?_) i hi rfl
    by_cases e : l < r
    · rw [← dt_mmul]; exact hk l hl (by simpa using e)
    · exact dt_zero fun c hc => by rw [hN.nil l (by omega) hl c hc, GF.zero_mul]
  have := ind_le h1
  rw [cnt_lt] at this
  omega

/-! Inverses: the unit put behind, then reduced. -/
/-- Two side by side. -/
def beside (n : Nat) (A B : Nat → Nat → GF) : Nat → Nat → GF := fun i c => if c < n then A i c else B i (c - n)
theorem sm_add_range (n m : Nat) (f : Nat → GF) : sm (n + m) f = sm n f + sm m (fun i => f (n + i)) := by
  induction m with
  | zero => exact (GF.add_zero _).symm
  | succ m ih => rw [← Nat.add_assoc]; simp only [sm]; rw [ih, GF.add_assoc]
theorem dt_beside (n m : Nat) (A B : Nat → Nat → GF) (i : Nat) (x : Nat → GF) : dt (n + m) (beside n A B i) x = dt n (A i) x + dt m (B i) (fun c => x (n + c)) := by
  unfold dt beside
  rw [sm_add_range]
  congr 1
  · exact sm_congr fun c hc => by simp only [if_pos hc]
  · exact sm_congr fun c hc => by simp only [if_neg (show ¬ n + c < n by omega), Nat.add_sub_cancel_left]
/-- What is 0 but at the ends of n, and just j behind them. -/
def tie (n : Nat) (f : Nat → GF) (j : Nat) : Nat → GF := fun c => if c < n then f c else if c = n + j then 1 else 0
theorem dt_tie {n m j : Nat} (hj : j < m) (A B : Nat → Nat → GF) (i : Nat) (f : Nat → GF) : dt (n + m) (beside n A B i) (tie n f j) = dt n (A i) f + B i j := by
  rw [dt_beside]
  congr 1
  · exact dt_congr fun c hc => by simp only [tie, if_pos hc]
  · have : (fun c => tie n f j (n + c)) = un j := funext fun c => by
      simp only [tie, if_neg (show ¬ n + c < n by omega), un]
      by_cases e : c = j
      · rw [if_pos e, if_pos (by omega)]
      · rw [if_neg e, if_neg (by omega)]
    rw [this, dt_un hj]
/-- Ones on the way down. -/
def one : Nat → Nat → GF := fun i c => if i = c then 1 else 0
theorem dt_one {n i : Nat} (hi : i < n) (x : Nat → GF) : dt n (one i) x = x i := by
  unfold dt
  rw [sm_one hi (fun c _ hne => by simp only [one, if_neg (show ¬ i = c from fun e => hne e.symm)]; exact GF.zero_mul _)]
  simp only [one, if_pos trivial]
  exact GF.one_mul _
/-- If the one beside the unit has the same columns' ties as the unit beside another one: that is its inverse, either way. -/
theorem inverse_right {n : Nat} {A B : Nat → Nat → GF} (h : KerEq n (n + n) (beside n A one) (beside n one B)) {i j : Nat} (hi : i < n) (hj : j < n) : mmul n A B i j = one i j := by
  have h1 : Ker all n (n + n) (beside n one B) (tie n (fun c => B c j) j) := fun k hk _ => by
    rw [dt_tie hj, dt_one hk, GF.add_self]
  have := (h _).2 h1 i hi rfl
  rw [dt_tie hj] at this
  exact GF.add_eq_zero.1 this
theorem inverse_left {n : Nat} {A B : Nat → Nat → GF} (h : KerEq n (n + n) (beside n A one) (beside n one B)) {i j : Nat} (hi : i < n) (hj : j < n) : mmul n B A i j = one i j := by
  let x : Nat → GF := fun c => if c < n then one j c else A (c - n) j
  have hx : ∀ (D E : Nat → Nat → GF) (k : Nat), dt (n + n) (beside n D E k) x = D k j + dt n (E k) (fun c => A c j) := fun D E k => by
    rw [dt_beside]
    congr 1
    · rw [show dt n (D k) x = dt n (D k) (un j) from dt_congr fun c hc => by
        simp only [x, if_pos hc, one, un]
        by_cases e : c = j
        · rw [if_pos e, if_pos e.symm]
        · rw [if_neg e, if_neg (fun h => e h.symm)], dt_un hj]
    · exact dt_congr fun c hc => by simp only [x, if_neg (show ¬ n + c < n by omega), Nat.add_sub_cancel_left]
  have h1 : Ker all n (n + n) (beside n A one) x := fun k hk _ => by
    rw [hx, dt_one hk, GF.add_self]
  have := (h _).1 h1 i hi rfl
  rw [hx] at this
  exact (GF.add_eq_zero.1 this).symm
/-- No column but nothing is sent to nothing, where there is an inverse. -/
theorem ind_of_inverse {n : Nat} {A B : Nat → Nat → GF} (h : ∀ i j, i < n → j < n → mmul n B A i j = one i j) : Ind all n all n A := fun x _ hk c hc => by
  have h1 := dt_mmul n n B A c x
  rw [show dt n (mmul n B A c) x = dt n (one c) x from dt_congr fun d hd => by rw [h c d hc hd], dt_one hc] at h1
  rw [h1]
  exact dt_zero fun j hj => by rw [hk j hj rfl, GF.mul_zero]

/-! A column that gives another one. -/
/-- Solved: noughts but at the pivots. -/
def solA (piv : Nat → Nat) (v : Nat → GF) : Nat → Nat → GF
  | 0 => fun _ => 0
  | r + 1 => fun c => if c = piv r then v r else solA piv v r c
theorem solA_sup (piv : Nat → Nat) (v : Nat → GF) (r : Nat) {c : Nat} (h : pv piv r c = false) : solA piv v r c = 0 := by
  induction r with
  | zero => rfl
  | succ r ih =>
    simp only [pv, inn, Bool.or_eq_false_iff, decide_eq_false_iff_not] at h
    simp only [solA, if_neg h.2]
    exact ih h.1
theorem solA_at {piv : Nat → Nat} (v : Nat → GF) {r : Nat} (hinj : ∀ s t, s < r → t < r → piv s = piv t → s = t) {t : Nat} (ht : t < r) : solA piv v r (piv t) = v t := by
  induction r with
  | zero => omega
  | succ r ih =>
    simp only [solA]
    by_cases e : t = r
    · subst e; rw [if_pos rfl]
    · rw [if_neg (fun h => e (hinj t r (by omega) (by omega) h)), ih (fun s u hs hu => hinj s u (by omega) (by omega)) (by omega)]
/-- The given column behind the last one: reduced to w, that is 0 below the pivots: solved. -/
theorem solved {n m : Nat} {A N : Nat → Nat → GF} {v w : Nat → GF} {r : Nat} {piv : Nat → Nat} (h : KerEq n (m + 1) (beside m A (fun i _ => v i)) (beside m N (fun i _ => w i))) (hN : Red n m N r piv) (hw : ∀ i, r ≤ i → i < n → w i = 0) {i : Nat} (hi : i < n) : dt m (A i) (solA piv w r) = v i := by
  have h1 : Ker all n (m + 1) (beside m N (fun i _ => w i)) (tie m (solA piv w r) 0) := fun k hk _ => by
    rw [dt_tie (by omega)]
    by_cases e : k < r
    · rw [hN.dt (fun c _ hc => solA_sup _ _ _ hc) e, solA_at _ (fun s t hs ht => hN.inj hs ht) e, GF.add_self]
    · rw [hw k (by omega) hk, GF.add_zero]
      exact dt_zero fun c hc => by rw [hN.nil k (by omega) hk c hc, GF.zero_mul]
  have := (h _).2 h1 i hi rfl
  rw [dt_tie (by omega)] at this
  exact GF.add_eq_zero.1 this
/-- The rank with the column: the same, if w is 0 below the pivots; one more, if not. -/
theorem rk_more {n m : Nat} {A N : Nat → Nat → GF} {v w : Nat → GF} {r : Nat} {piv : Nat → Nat} (h : KerEq n (m + 1) (beside m A (fun i _ => v i)) (beside m N (fun i _ => w i))) (hN : Red n m N r piv) (hw : ∀ i, r ≤ i → i < n → w i = 0) : Rk n (m + 1) (beside m A (fun i _ => v i)) r := by
  refine h.rk (Red.rk (piv := piv) ⟨hN.rn, fun t ht => by have := hN.lt t ht; omega, fun t ht i hi => ?_, fun i h1 h2 c hc => ?_⟩)
  · simp only [beside, if_pos (hN.lt t ht)]; exact hN.one t ht i hi
  · by_cases e : c < m
    · simp only [beside, if_pos e]; exact hN.nil i h1 h2 c e
    · simp only [beside, if_neg e]; exact hw i h1 h2
theorem rk_not_more {n m : Nat} {A N : Nat → Nat → GF} {v w : Nat → GF} {r s : Nat} {piv : Nat → Nat} (h : KerEq n (m + 1) (beside m A (fun i _ => v i)) (beside m N (fun i _ => w i))) (hN : Red n m N r piv) (hw : ∃ i, r ≤ i ∧ i < n ∧ w i ≠ 0) (hs : Rk n (m + 1) (beside m A (fun i _ => v i)) s) : r < s := by
  obtain ⟨i, h1, h2, h3⟩ := hw
  have hI : Ind all n (inn (pv piv r) m) (m + 1) (beside m N (fun i _ => w i)) := by
    intro x hx hk
    have hm : x m = 0 := by
      have := hk i h2 rfl
      rw [dt_beside, show dt m (N i) x = 0 from dt_zero fun c hc => by rw [hN.nil i h1 h2 c hc, GF.zero_mul], GF.zero_add] at this
      simp only [dt, sm, Nat.add_zero] at this
      rw [GF.zero_add] at this
      exact (GF.mul_eq_zero this).resolve_left h3
    have hk2 : Ker all n m N x := fun k hk' _ => by
      have := hk k hk' rfl
      rw [dt_beside] at this
      simp only [dt, sm, Nat.add_zero] at this
      rw [hm, GF.mul_zero, GF.add_zero, GF.add_zero] at this
      exact this
    intro c hc
    by_cases e : c = m
    · rw [e, hm]
    · refine hN.ind x (fun d hd hp => hx d (by omega) ?_) hk2 c (by omega)
      simp only [inn, hp, Bool.false_or, decide_eq_false_iff_not]; omega
  have hc : cnt (inn (pv piv r) m) (m + 1) = r + 1 := by
    rw [cnt_inn (by omega)]
    · rw [cnt_pv r (fun t ht => by have := hN.lt t ht; omega) (fun s t hs ht => hN.inj hs ht)]
    · refine Bool.eq_false_iff.2 fun hp => ?_
      obtain ⟨t, ht, he⟩ := (pv_iff _ _ _).1 hp
      have := hN.lt t ht
      omega
  have := hs.2 _ (h.ind.2 hI)
  omega
end Go.Proofs.Ytpoaimcioeopdaa
