/- Squares out of a matrix: rows and columns picked by the bits of numbers; their determinants tell the rank. Rows as lists. No program is named here. -/
import Derived.Test.YtpoaimcioeopdaaLdet
namespace Go.Proofs.Ytpoaimcioeopdaa
open GF

/-- Those that are in, going up. -/
def en (C : Nat → Bool) : Nat → List Nat
  | 0 => []
  | m + 1 => if C m then en C m ++ [m] else en C m
theorem length_en (C : Nat → Bool) (m : Nat) : (en C m).length = cnt C m := by
  induction m with
  | zero => rfl
  | succ m ih => simp only [en, cnt]; split <;> simp [ih]
/-- The b-th of them. -/
def ei (C : Nat → Bool) (m b : Nat) : Nat := (en C m).getD b 0
theorem ei_succ {C : Nat → Bool} {m b : Nat} (h : b < cnt C m) : ei C (m + 1) b = ei C m b := by
  unfold ei
  simp only [en]
  split
  · simp only [List.getD_eq_getElem?_getD]
    rw [List.getElem?_append_left (by rw [length_en]; exact h)]
  · rfl
theorem ei_last {C : Nat → Bool} {m : Nat} (h : C m = true) : ei C (m + 1) (cnt C m) = m := by
  unfold ei
  simp only [en, h, if_true]
  simp only [List.getD_eq_getElem?_getD]
  rw [List.getElem?_append_right (by rw [length_en]; exact Nat.le_refl _), length_en, Nat.sub_self]
  rfl
theorem ei_spec {C : Nat → Bool} : ∀ {m b : Nat}, b < cnt C m → ei C m b < m ∧ C (ei C m b) = true ∧ cnt C (ei C m b) = b := by
  intro m
  induction m with
  | zero => intro b hb; simp [cnt] at hb
  | succ m ih =>
    intro b hb
    by_cases e : b < cnt C m
    · rw [ei_succ e]
      obtain ⟨h1, h2, h3⟩ := ih e
      exact ⟨by omega, h2, h3⟩
    · have hC : C m = true := by
        refine Classical.byContradiction fun h => ?_
        simp only [cnt, if_neg h] at hb; omega
      have : b = cnt C m := by simp only [cnt, if_pos hC] at hb; omega
      rw [this, ei_last hC]
      exact ⟨by omega, hC, rfl⟩
theorem cnt_mono {C : Nat → Bool} {a b : Nat} (h : a ≤ b) : cnt C a ≤ cnt C b := by
  induction b with
  | zero => have : a = 0 := by omega
            rw [this]; exact Nat.le_refl _
  | succ b ih =>
    by_cases e : a = b + 1
    · rw [e]; exact Nat.le_refl _
    · simp only [cnt]; have := ih (by omega); omega
theorem cnt_lt_of {C : Nat → Bool} {c m : Nat} (hc : c < m) (h : C c = true) : cnt C c < cnt C m := by
  have h1 : cnt C (c + 1) ≤ cnt C m := cnt_mono (by omega)
  simp only [cnt, if_pos h] at h1
  omega
theorem cnt_inj {C : Nat → Bool} {c d : Nat} (hc : C c = true) (hd : C d = true) (h : cnt C c = cnt C d) : c = d := by
  rcases Nat.lt_trichotomy c d with hl | hl | hl
  · have := cnt_lt_of hl hc; omega
  · exact hl
  · have := cnt_lt_of hl hd; omega
theorem ei_cnt {C : Nat → Bool} {c m : Nat} (hc : c < m) (h : C c = true) : ei C m (cnt C c) = c := by
  obtain ⟨h1, h2, h3⟩ := ei_spec (cnt_lt_of hc h)
  exact cnt_inj h2 h h3
theorem sm_en (C : Nat → Bool) (f : Nat → GF) : ∀ m, (∀ c, c < m → C c = false → f c = 0) → sm m f = sm (cnt C m) fun b => f (ei C m b) := by
  intro m
  induction m with
  | zero => intro _; rfl
  | succ m ih =>
    intro h
    simp only [sm]
    rw [ih fun c hc => h c (by omega)]
    by_cases e : C m = true
    · simp only [cnt, if_pos e, sm]
      rw [ei_last e]
      congr 1
      exact sm_congr fun b hb => by rw [ei_succ hb]
    · rw [h m (by omega) (by simpa using e), GF.add_zero]
      simp only [cnt, if_neg e, Nat.add_zero]
      exact sm_congr fun b hb => by rw [ei_succ hb]
/-- The square of these rows and columns. -/
def sub (R C : Nat → Bool) (n m : Nat) (M : Nat → Nat → GF) : Nat → Nat → GF := fun a b => M (ei R n a) (ei C m b)
theorem sub_ind {R C : Nat → Bool} {n m : Nat} {M : Nat → Nat → GF} : Ind all (cnt R n) all (cnt C m) (sub R C n m M) ↔ Ind R n C m M := by
  have hd : ∀ (f x : Nat → GF), Sup m C x → dt m f x = dt (cnt C m) (fun b => f (ei C m b)) (fun b => x (ei C m b)) := fun f x hs => by
    unfold dt
    exact sm_en C (fun c => f c * x c) m fun c hc hf => by rw [hs c hc hf, GF.mul_zero]
  constructor
  · intro h x hs hk c hc
    have h1 := h (fun b => x (ei C m b)) (fun _ _ h => by cases h) fun a ha _ => by
      obtain ⟨a1, a2, _⟩ := ei_spec ha
      have := hk _ a1 a2
      rwa [hd _ _ hs] at this
    by_cases e : C c = true
    · have := h1 (cnt C c) (cnt_lt_of hc e)
      rwa [ei_cnt hc e] at this
    · exact hs c hc (by simpa using e)
  · intro h y _ hk b hb
    let x : Nat → GF := fun c => if C c = true then y (cnt C c) else 0
    have hs : Sup m C x := fun c _ hf => by simp only [x]; rw [if_neg (by rw [hf]; exact Bool.false_ne_true)]
    have hx : ∀ b, b < cnt C m → x (ei C m b) = y b := fun b hb => by
      obtain ⟨_, b2, b3⟩ := ei_spec hb
      simp only [x]; rw [if_pos b2, b3]
    have := h x hs (fun i hi hR => by
      rw [hd _ _ hs]
      have h1 := hk (cnt R i) (cnt_lt_of hi hR) rfl
      rw [show sub R C n m M (cnt R i) = fun b => M i (ei C m b) from funext fun b => by simp only [sub, ei_cnt hi hR]] at h1
      rw [← h1]
      exact dt_congr fun b hb => by rw [hx b hb]) (ei C m b) (ei_spec hb).1
    rwa [hx b hb] at this
/-- The rank by determinants. -/
theorem rk_dets {n m : Nat} {M : Nat → Nat → GF} {r : Nat} (h : Rk n m M r) : (∃ R C, cnt R n = r ∧ cnt C m = r ∧ det r (sub R C n m M) ≠ 0) ∧ ∀ R C k, cnt R n = k → cnt C m = k → det k (sub R C n m M) ≠ 0 → k ≤ r := by
  obtain ⟨⟨R, C, h1, h2, h3⟩, h4⟩ := h.squares
  constructor
  · refine ⟨R, C, h1, h2, ?_⟩
    rw [det_iff]
    have := sub_ind.2 h3
    rwa [h1, h2] at this
  · intro R C k k1 k2 hd
    rw [det_iff] at hd
    rw [← k2]
    exact h4 R C (sub_ind.1 (by rw [k1, k2]; exact hd))

/-! Numbers' bits. -/
theorem has_bits (C : Nat → Bool) (m : Nat) : ∃ k, k < 2 ^ m ∧ ∀ c, c < m → k.testBit c = C c := by
  induction m with
  | zero => exact ⟨0, by decide, fun c hc => by omega⟩
  | succ m ih =>
    obtain ⟨k, hk, h⟩ := ih
    by_cases e : C m = true
    · refine ⟨2 ^ m + k, by rw [Nat.pow_succ]; omega, fun c hc => ?_⟩
      by_cases e2 : c = m
      · rw [e2, Nat.testBit_two_pow_add_eq, Nat.testBit_lt_two_pow hk, e]; rfl
      · rw [Nat.testBit_two_pow_add_gt (by omega)]; exact h c (by omega)
    · refine ⟨k, by rw [Nat.pow_succ]; omega, fun c hc => ?_⟩
      by_cases e2 : c = m
      · rw [e2, Nat.testBit_lt_two_pow hk]; exact (by simpa using e : C m = false).symm
      · exact h c (by omega)

/-! Rows as lists. -/
/-- A number of a row of rows. -/
def ent (M : List (List GF)) : Nat → Nat → GF := fun i c => co (M.getD i []) c
/-- All rows but the i-th, without their first numbers. -/
def rst (M : List (List GF)) (i : Nat) : List (List GF) := (M.eraseIdx i).map List.tail
theorem length_rst {M : List (List GF)} {i : Nat} (h : i < M.length) : (rst M i).length + 1 = M.length := by
  unfold rst; rw [List.length_map, List.length_eraseIdx, if_pos h]; omega
theorem co_tail (l : List GF) (k : Nat) : co l.tail k = co l (k + 1) := by cases l <;> simp [co]
theorem ent_rst (M : List (List GF)) (i a c : Nat) : ent (rst M i) a c = mnr (ent M) i a c := by
  unfold ent rst mnr sk
  simp only [List.getD_eq_getElem?_getD, List.getElem?_map, List.getElem?_eraseIdx]
  by_cases e : a < i
  · rw [if_pos e, if_pos e]
    cases h : M[a]? with
    | none => simp [co]
    | some l => simp only [Option.map_some, Option.getD_some]; exact co_tail _ _
  · rw [if_neg e, if_neg e]
    cases h : M[a + 1]? with
    | none => simp [co]
    | some l => simp only [Option.map_some, Option.getD_some]; exact co_tail _ _
/-- The determinant of rows. -/
def detL (M : List (List GF)) : GF := det M.length (ent M)
theorem detL_nil : detL [] = 1 := rfl
theorem detL_step {M : List (List GF)} (h : 0 < M.length) : detL M = sm M.length fun i => ent M i 0 * detL (rst M i) := by
  obtain ⟨n, hn⟩ : ∃ n, M.length = n + 1 := ⟨M.length - 1, by omega⟩
  unfold detL
  rw [hn]
  simp only [det]
  refine sm_congr fun i hi => ?_
  have hl := length_rst (M := M) (i := i) (by omega)
  rw [show (rst M i).length = n by omega]
  congr 1
  exact det_congr fun a _ c _ => (ent_rst M i a c).symm
end Go.Proofs.Ytpoaimcioeopdaa
