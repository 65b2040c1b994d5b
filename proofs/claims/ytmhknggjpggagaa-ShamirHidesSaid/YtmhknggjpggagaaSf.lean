/- The rest of package shamir's contracts that the laws want, as statements; ends of rows, and of rows of rows. -/
import Derived.Test.YtmhknggjpggagaaSe
namespace Go.Proofs.Ytmhknggjpggagaa
open Go.ChangeShapes Go.WideShapes Go.ChangeAt Go.RowKit Go.Shelf GF
set_option linter.unusedVariables false

def ShareC : Prop := ∀ (b t n m : Nat) (aS : Option Addr) (cS : Nat) (S : List GF) (aM : Option Addr) (cM : Nat) (M : List GF) (x : GF) (w : World),
  Fld w b → Pa w aS n cS S → Pa w aM m cM M → 1 ≤ t → t ≤ 255 → m = (t - 1) * n → x ≠ 0 → n ≤ 1000 →
  Calls Try.prog 15 #[.pointer (some ⟨b, 0, none⟩), .int .i64 (t : Nat), .slice aS n cS, .slice aM m cM, .int .u8 (toI x)] w fun e w' =>
    ∃ a' c', e = .returned (.tuple #[.slice a' n c', .int .i64 0]) ∧ Pa w' a' n c' (shR t n S M x) ∧ Below w.heap.size w w'
def DeltaC : Prop := ∀ (b t n m L : Nat) (aM : Option Addr) (cM : Nat) (M : List GF) (aX : Option Addr) (cX : Nat) (X : List GF) (w : World),
  Fld w b → Pa w aM m cM M → Pa w aX L cX X → 1 ≤ t → t ≤ 255 → m = (t - 1) * n → (∀ k, k < L → co X k ≠ 0) → n ≤ 1000 → L ≤ 255 →
  Calls Try.prog 21 #[.pointer (some ⟨b, 0, none⟩), .int .i64 (t : Nat), .slice aM m cM, .slice aX L cX, .int .i64 (n : Nat)] w fun e w' =>
    ∃ a' c', e = .returned (.tuple #[.slice a' L c', .int .i64 0]) ∧ MatB w' w.heap.size a' L c' (shM t n (noR n) M X) ∧ Below w.heap.size w w'
def AddBadC : Prop := ∀ (La Lb : Nat) (aA : Option Addr) (cA : Nat) (A : List (List GF)) (aB : Option Addr) (cB : Nat) (B : List (List GF)) (w : World),
  Mat w aA La cA A → Mat w aB Lb cB B → La ≠ Lb → La ≤ 255 → Lb ≤ 255 →
  Calls Try.prog 13 #[.slice aA La cA, .slice aB Lb cB] w fun e w' => ∃ v, e = .returned (.tuple #[v, .int .i64 1]) ∧ Below w.heap.size w w'

/-- The end of a row, from its k-th place on. -/
theorem Pa.drop {w : World} {b o L c : Nat} {P : List GF} (h : Pa w (some ⟨b, o, none⟩) L c P) (k : Nat) : Pa w (some ⟨b, o + k, none⟩) (L - k) (c - k) (P.drop k) := by
  have hl := h.len
  refine ⟨⟨by rw [length_iL, List.length_drop, hl], allB_iL _, fun h0 => ?_, by have := h.1.2.2.2.1; omega, by have := h.1.2.2.2.2; omega⟩, fun h => by cases h⟩
  rw [length_iL, List.length_drop] at h0
  obtain ⟨b', off, e, hb, hc⟩ := h.1.2.2.1 (by rw [length_iL]; omega)
  cases e
  refine ⟨b, o + k, rfl, hb, fun i hi => ?_⟩
  rw [length_iL, List.length_drop] at hi
  have := hc (k + i) (by rw [length_iL]; omega)
  rw [getD_iL] at this
  rw [getD_iL, co_drop, ← this]
  congr 2
  omega
theorem rw_drop (M : List (List GF)) (k i : Nat) : rw_ (M.drop k) i = rw_ M (k + i) := by simp [rw_, List.getD_eq_getElem?_getD]
theorem RV.drop {w : World} {ok : Nat → Prop} {vs : List Value} {M : List (List GF)} (h : RV w ok vs M) (k : Nat) : RV w ok (vs.drop k) (M.drop k) := by
  refine ⟨by rw [List.length_drop, List.length_drop, h.1], fun i hi => ?_⟩
  rw [List.length_drop] at hi
  rw [rw_drop, List.getElem?_drop]
  exact h.2 (k + i) (by omega)
theorem Mat.drop {w : World} {b o n c : Nat} {M : List (List GF)} (h : Mat w (some ⟨b, o, none⟩) n c M) (k : Nat) : Mat w (some ⟨b, o + k, none⟩) (n - k) (c - k) (M.drop k) := by
  obtain ⟨h1, h2, h3, h4, vs, h5, h6⟩ := h
  refine ⟨by rw [List.length_drop, h1], by omega, by omega, (fun e => by cases e), vs.drop k, h5.drop k, fun h0 => ?_⟩
  obtain ⟨b', off, e, hb, hc⟩ := h6 (by omega)
  cases e
  refine ⟨b, o + k, rfl, hb, fun i hi => ?_⟩
  rw [List.getElem?_drop, ← hc (k + i) (by omega)]
  congr 2
  omega
theorem Mat.tail1 {w : World} {b o n c : Nat} {M : List (List GF)} (h : Mat w (some ⟨b, o, none⟩) n c M) : Mat w (if c = 1 then some ⟨b, o, none⟩ else some ⟨b, o + 1, none⟩) (n - 1) (c - 1) (M.drop 1) := by
  by_cases hc : c = 1
  · rw [if_pos hc]
    have hk := h.drop 1
    obtain ⟨h1, h2, h3, h4, vs, h5, h6⟩ := hk
    exact ⟨h1, h2, h3, (fun e => by cases e), vs, h5, fun h0 => absurd h0 (by omega)⟩
  · rw [if_neg hc]; exact h.drop 1
theorem Mat.some_ {w : World} {a : Option Addr} {n c : Nat} {M : List (List GF)} (h : Mat w a n c M) (h0 : 0 < n) : ∃ b o, a = some ⟨b, o, none⟩ := by
  obtain ⟨h1, h2, h3, h4, vs, h5, h6⟩ := h
  obtain ⟨b, o, e, _⟩ := h6 h0
  exact ⟨b, o, e⟩
theorem Pa.some_ {w : World} {a : Option Addr} {L c : Nat} {P : List GF} (h : Pa w a L c P) (h0 : 0 < L) : ∃ b o, a = some ⟨b, o, none⟩ := by
  obtain ⟨b, o, e, _⟩ := h.at_ h0
  exact ⟨b, o, e⟩
/-- What the last shares tell. -/
theorem join_end {t n d : Nat} {S M U : List GF} {A : List (List GF)} (hU : U.Nodup) (ht : 1 ≤ t) (hd : d + t ≤ U.length) (hA : ∀ k, k < U.length → rw_ A k = shR t n S M (co U k)) (x : GF) : atR (U.drop d) (rw_ (A.drop d)) x n = shR t n S M x := by
  refine at_shares (apart_of_nodup (hU.sublist (List.drop_sublist _ _))) ht (by rw [List.length_drop]; omega) (fun k hk => ?_) x
  rw [List.length_drop] at hk
  rw [rw_drop, co_drop]
  exact hA (d + k) (by omega)
theorem rows_M {t n : Nat} {S M U : List GF} {k : Nat} (hk : k < U.length) : rw_ (shM t n S M U) k = shR t n S M (co U k) := shM_row hk
theorem rows_sum {t n : Nat} {S M D U : List GF} (hS : S.length = n) (hMD : M.length = D.length) {k : Nat} (hk : k < U.length) : rw_ (addM (shM t n S M U) (shM t n (noR n) D U)) k = shR t n S (addR M D) (co U k) := by
  rw [addM_row (by rw [shM_len]; exact hk), shM_row hk, shM_row hk, ← sh_add (by simp [noR, hS]) hMD, addR_no hS]
end Go.Proofs.Ytmhknggjpggagaa
