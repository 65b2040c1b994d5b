/- Rows of rows of numbers of the field, as they lie in memory: as arguments, and as rows of one's own. -/
import Derived.Test.YtmhknggjpggagaaPx
import Derived.Deep.OwnRows
namespace Go.Proofs.Ytmhknggjpggagaa
open Go.ChangeShapes Go.WideShapes Go.ChangeAt Go.RowKit Go.Shelf GF
set_option linter.unusedVariables false

/-- The i-th row. -/
def rw_ (M : List (List GF)) (i : Nat) : List GF := M.getD i []
/-- These values are slices that read as these rows; each lies in an old block of which ok holds. -/
def RV (w : World) (ok : Nat → Prop) (vs : List Value) (M : List (List GF)) : Prop :=
  vs.length = M.length ∧ ∀ i, i < M.length → ∃ a c, vs[i]? = some (.slice a (rw_ M i).length c) ∧ (rw_ M i).length ≤ c ∧ c ≤ maxLen ∧ (a = none → c = 0) ∧
    (0 < (rw_ M i).length → ∃ b off, a = some ⟨b, off, none⟩ ∧ b < w.heap.size ∧ ok b ∧ ∀ j, j < (rw_ M i).length → w.cell? ⟨b, off + j, none⟩ = some (.int .u8 (toI (co (rw_ M i) j))))
theorem RV.keep {w w' : World} {ok ok' : Nat → Prop} {vs : List Value} {M : List (List GF)} (h : RV w ok vs M) (hs : w.heap.size ≤ w'.heap.size) (hk : ∀ b, b < w.heap.size → ok b → ok' b ∧ w'.heap[b]? = w.heap[b]?) : RV w' ok' vs M := by
  refine ⟨h.1, fun i hi => ?_⟩
  obtain ⟨a, c, h1, h2, h3, h4, h5⟩ := h.2 i hi
  refine ⟨a, c, h1, h2, h3, h4, fun h0 => ?_⟩
  obtain ⟨b, off, e, hb, ho, hc⟩ := h5 h0
  obtain ⟨k1, k2⟩ := hk b hb ho
  exact ⟨b, off, e, by omega, k1, fun j hj => by rw [World.cell?_of_block (w := w) (a := ⟨b, off + j, none⟩) k2]; exact hc j hj⟩
theorem RV.nil (w : World) (ok : Nat → Prop) : RV w ok [] [] := ⟨rfl, fun i hi => absurd hi (by simp)⟩
theorem RV.pa {w : World} {ok : Nat → Prop} {vs : List Value} {M : List (List GF)} (h : RV w ok vs M) {i : Nat} (hi : i < M.length) : ∃ a c, vs[i]? = some (.slice a (rw_ M i).length c) ∧ Pa w a (rw_ M i).length c (rw_ M i) := by
  obtain ⟨a, c, h1, h2, h3, h4, h5⟩ := h.2 i hi
  refine ⟨a, c, h1, ⟨⟨length_iL _, allB_iL _, fun h0 => ?_, h2, h3⟩, h4⟩⟩
  rw [length_iL] at h0
  obtain ⟨b, off, e, hb, _, hc⟩ := h5 h0
  exact ⟨b, off, e, hb, fun j hj => by rw [length_iL] at hj; rw [getD_iL]; exact hc j hj⟩
/-- One row more. -/
theorem RV.more {w : World} {ok : Nat → Prop} {vs : List Value} {M : List (List GF)} (h : RV w ok vs M) {a : Option Addr} {c : Nat} {P : List GF} (hp : Pa w a P.length c P) (ho : ∀ b off, a = some ⟨b, off, none⟩ → 0 < P.length → ok b) : RV w ok (vs ++ [.slice a P.length c]) (M ++ [P]) := by
  refine ⟨by simp [h.1], fun i hi => ?_⟩
  by_cases e : i < M.length
  · have e1 : rw_ (M ++ [P]) i = rw_ M i := by unfold rw_; simp only [List.getD_eq_getElem?_getD]; rw [List.getElem?_append_left e]
    rw [e1, List.getElem?_append_left (by rw [h.1]; exact e)]
    exact h.2 i e
  · have e0 : i = M.length := by simp at hi; omega
    have e1 : rw_ (M ++ [P]) i = P := by unfold rw_; simp only [List.getD_eq_getElem?_getD]; rw [e0, List.getElem?_append_right (Nat.le_refl _), Nat.sub_self]; rfl
    rw [e1, e0, ← h.1, List.getElem?_append_right (Nat.le_refl _), Nat.sub_self]
    refine ⟨a, c, rfl, hp.1.2.2.2.1, hp.1.2.2.2.2, hp.2, fun h0 => ?_⟩
    obtain ⟨b, off, e, hb, hc⟩ := hp.1.2.2.1 (by rw [length_iL]; exact h0)
    exact ⟨b, off, e, hb, ho b off e h0, fun j hj => by have := hc j (by rw [length_iL]; exact hj); rwa [getD_iL] at this⟩
/-- An argument that is rows of rows. -/
def Mat (w : World) (a : Option Addr) (n c : Nat) (M : List (List GF)) : Prop :=
  M.length = n ∧ n ≤ c ∧ c ≤ maxLen ∧ (a = none → c = 0) ∧ ∃ vs, RV w (fun _ => True) vs M ∧ (0 < n → ∃ b off, a = some ⟨b, off, none⟩ ∧ b < w.heap.size ∧ ∀ i, i < n → w.cell? ⟨b, off + i, none⟩ = vs[i]?)
theorem Mat.on {w w' : World} {a : Option Addr} {n c : Nat} {M : List (List GF)} (h : Mat w a n c M) (hb : Below w.heap.size w w') : Mat w' a n c M := by
  obtain ⟨h1, h2, h3, h4, vs, h5, h6⟩ := h
  refine ⟨h1, h2, h3, h4, vs, h5.keep hb.size (fun b hlt _ => ⟨trivial, hb.block b hlt⟩), fun h0 => ?_⟩
  obtain ⟨b, off, e, hlt, hc⟩ := h6 h0
  exact ⟨b, off, e, by have := hb.size; omega, fun i hi => (hb.cell (p := ⟨b, off + i, none⟩) hlt).trans (hc i hi)⟩
theorem Mat.len {w : World} {a : Option Addr} {n c : Nat} {M : List (List GF)} (h : Mat w a n c M) : M.length = n := h.1
theorem Mat.bd {w : World} {a : Option Addr} {n c : Nat} {M : List (List GF)} (h : Mat w a n c M) : n ≤ c ∧ c ≤ 9223372036854775807 := ⟨h.2.1, by have := h.2.2.1; unfold maxLen at this; omega⟩
/-- One of the rows, for the walk. -/
theorem Mat.row {w : World} {a : Option Addr} {n c : Nat} {M : List (List GF)} (h : Mat w a n c M) {i : Nat} (hi : i < n) : ∃ b off ai ci, a = some ⟨b, off, none⟩ ∧ b < w.heap.size ∧ w.cell? ⟨b, off + i, none⟩ = some (.slice ai (rw_ M i).length ci) ∧ Pa w ai (rw_ M i).length ci (rw_ M i) := by
  obtain ⟨h1, h2, h3, h4, vs, h5, h6⟩ := h
  obtain ⟨b, off, e, hlt, hc⟩ := h6 (by omega)
  obtain ⟨ai, ci, k1, k2⟩ := h5.pa (i := i) (by omega)
  exact ⟨b, off, ai, ci, e, hlt, by rw [hc i hi, k1], k2⟩
/-- A row of rows of one's own, as an argument. -/
theorem Mat.own {w : World} {base : Nat} {e : TypeId} {v : Value} {n : Nat} {vs : List Value} {ok : Nat → Prop} {M : List (List GF)} (h : w.ownsRow base e 1 v n vs) (hv : RV w ok vs M) : ∃ a c, v = .slice a n c ∧ Mat w a n c M := by
  have hl : M.length = n := by rw [← hv.1, h.1, Nat.mul_one]
  have hv2 : RV w (fun _ => True) vs M := hv.keep (Nat.le_refl _) (fun _ _ _ => ⟨trivial, rfl⟩)
  rcases h.2 with ⟨rfl, rfl⟩ | ⟨g, cap, cur, rfl, hg, hh, hn, hm, hs, ht⟩
  · exact ⟨none, 0, rfl, hl, Nat.le_refl _, Nat.zero_le _, fun _ => rfl, vs, hv2, fun h0 => absurd h0 (by omega)⟩
  · refine ⟨_, cap, rfl, hl, hn, hm, (fun h => by cases h), vs, hv2, fun h0 => ⟨g, 0, rfl, ?_, fun i hi => ?_⟩⟩
    · rcases Nat.lt_or_ge g w.heap.size with hlt | hge
      · exact hlt
      · rw [Array.getElem?_eq_none hge] at hh; cases hh
    · rw [Nat.zero_add]; exact h.cellAt i (by omega)
theorem RV.oneCell {w : World} {ok : Nat → Prop} {vs : List Value} {M : List (List GF)} (h : RV w ok vs M) : ∀ u ∈ vs, u.oneCell' = true := by
  intro u hu
  obtain ⟨i, hi, rfl⟩ := List.getElem_of_mem hu
  obtain ⟨a, c, h1, _⟩ := h.2 i (by rw [← h.1]; exact hi)
  rw [List.getElem?_eq_getElem hi] at h1
  injection h1 with h1
  rw [h1]; rfl
/-- Rows' length. -/
def Wide (M : List (List GF)) (m : Nat) : Prop := ∀ i, i < M.length → (rw_ M i).length = m
end Go.Proofs.Ytmhknggjpggagaa
