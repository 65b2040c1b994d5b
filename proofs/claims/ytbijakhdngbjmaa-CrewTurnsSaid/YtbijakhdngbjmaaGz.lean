/- CrewTurns, plain: who is in, with a place more or less; the next boots' tables. -/
import Derived.Test.YtbijakhdngbjmaaGy
import Derived.Test.YtbijakhdngbjmaaGk
namespace Go.Proofs.Ytbijakhdngbjmaa
open Go.ChangeShapes Go.WideShapes Go.ChangeAt Go.RowKit Go.Shelf
set_option linter.unusedVariables false
set_option linter.unusedSimpArgs false

theorem inK_set {l : List Bool} {x : Nat} (hx : x < l.length) : ∀ k, (inK (l.set x true) k).length = (inK (l.set x false) k).length + (if x < k then 1 else 0)
  | 0 => by simp [inK]
  | k + 1 => by
    have ih := inK_set hx k
    have e1 : (l.set x true).getD k false = if x = k then true else l.getD k false := by
      rw [List.getD_eq_getElem?_getD, List.getD_eq_getElem?_getD, List.getElem?_set]
      by_cases e : x = k
      · subst e; rw [if_pos rfl, if_pos hx, if_pos rfl]; rfl
      · rw [if_neg e, if_neg e]
    have e2 : (l.set x false).getD k false = if x = k then false else l.getD k false := by
      rw [List.getD_eq_getElem?_getD, List.getD_eq_getElem?_getD, List.getElem?_set]
      by_cases e : x = k
      · subst e; rw [if_pos rfl, if_pos hx, if_pos rfl]; rfl
      · rw [if_neg e, if_neg e]
    rw [inK, inK, e1, e2]
    by_cases e : x = k
    · subst e
      rw [if_pos rfl, if_pos rfl, if_pos rfl, if_neg (by simp), List.length_append, List.length_singleton, ih, if_neg (by omega), if_pos (by omega)]
    · rw [if_neg e, if_neg e]
      by_cases hb : l.getD k false = true
      · rw [if_pos hb, if_pos hb, List.length_append, List.length_append, ih, List.length_singleton]
        split <;> split <;> omega
      · rw [if_neg hb, if_neg hb, ih]
        split <;> split <;> omega
theorem set_self {l : List Bool} {x : Nat} {v : Bool} (hx : x < l.length) (h : l.getD x false = v) : l.set x v = l := by
  apply List.ext_getElem?
  intro i
  rw [List.getElem?_set]
  by_cases e : x = i
  · subst e
    rw [if_pos rfl, if_pos hx]
    rw [List.getD_eq_getElem?_getD, List.getElem?_eq_getElem hx] at h
    rw [List.getElem?_eq_getElem hx]
    exact congrArg some h.symm
  · rw [if_neg e]
theorem L_less {T : SU} (hT : T.Wf) {x : Nat} (hx : x < 256) (h : T.inn.getD x false = true) : (movP T (x : Int) false).L.length + 1 = T.L.length := by
  have hl : x < T.inn.length := by rw [hT.inn]; exact hx
  have h1 := inK_set hl 256
  rw [if_pos hx, set_self hl h] at h1
  show (inK (T.inn.set (x : Int).toNat false) 256).length + 1 = (inK T.inn 256).length
  rw [Int.toNat_natCast]
  exact h1.symm
theorem L_more {T : SU} (hT : T.Wf) {x : Nat} (hx : x < 256) (h : T.inn.getD x false = false) : (movP T (x : Int) true).L.length = T.L.length + 1 := by
  have hl : x < T.inn.length := by rw [hT.inn]; exact hx
  have h1 := inK_set hl 256
  rw [if_pos hx, set_self hl h] at h1
  show (inK (T.inn.set (x : Int).toNat true) 256).length = (inK T.inn 256).length + 1
  rw [Int.toNat_natCast]
  exact h1
theorem closP_L (T : SU) (SL : List SU) : (closP T (curL T SL)).L = curL T SL := by
  show inK (innL (inK (curB T SL) 256)) 256 = inK (curB T SL) 256
  rw [innL_curB _ (curB_len _ _)]
theorem closP_wf {T : SU} (hT : T.Wf) (hb : T.bo < 2147483648) (I : List Int) : (closP T I).Wf := by
  obtain ⟨h1, h2, h3, h4, h5, h6, h7, h8, h9, h10, h11, h12, h13, h14⟩ := hT
  exact ⟨h1, h2, h3, h4, h5, h6, h7, ⟨by have := h8.1; show 0 ≤ T.bo + 1; omega, by show T.bo + 1 < 4294967296; omega⟩, ⟨by show (0 : Int) ≤ 1; omega, by show (1 : Int) < 4294967296; omega⟩, innL_len I, h11, h12, h13, h14⟩
theorem ga_zero {SL : List SU} (h : gaI SL = 0) : enI (tabSU SL) (curL (tabSU SL) SL).length = 0 := by
  unfold gaI at h
  split at h
  · exact h
  · omega
theorem cur_in {T : SU} {SL : List SU} {p : Int} (h : p ∈ curL T SL) : ∃ x : Nat, p = (x : Int) ∧ x < 256 ∧ T.inn.getD x false = true := by
  obtain ⟨i, hi, e, ht⟩ := inK_mem.1 h
  rw [curB_get _ _ hi, Bool.and_eq_true] at ht
  exact ⟨i, e, hi, ht.1⟩
theorem cur_64 {T : SU} {SL : List SU} : ∀ x ∈ curL T SL, -9223372036854775808 ≤ x ∧ x ≤ 9223372036854775807 := fun x hx => by
  obtain ⟨i, e, hi, _⟩ := cur_in hx
  omega
theorem cur_byte {T : SU} {SL : List SU} : ∀ x ∈ curL T SL, 0 ≤ x ∧ x < 256 := fun x hx => by
  obtain ⟨i, e, hi, _⟩ := cur_in hx
  omega
theorem L_64' (P : SU) : ∀ x ∈ P.L, -9223372036854775808 ≤ x ∧ x ≤ 9223372036854775807 := fun x hx => SU.L_64 256 x hx (Nat.le_refl _)
/-- What is told of a place. -/
theorem mov_out {T : SU} {x : Int} (v : Bool) (er : Int) (h : x < 1 ∨ T.n < x) : movR T x v er = (suZ, 2) := by unfold movR; rw [if_pos h]
theorem mov_was {T : SU} {x : Nat} {v : Bool} (er : Int) (h1 : 1 ≤ x) (h2 : (x : Int) ≤ T.n) (h : T.inn.getD x false = v) : movR T (x : Int) v er = (suZ, er) := by
  unfold movR; rw [if_neg (by omega), Int.toNat_natCast, if_pos h]
theorem mov_goes {T : SU} {x : Nat} {v : Bool} (er : Int) (h1 : 1 ≤ x) (h2 : (x : Int) ≤ T.n) (h : T.inn.getD x false ≠ v) : movR T (x : Int) v er = (movP T (x : Int) v, 0) := by
  unfold movR; rw [if_neg (by omega), Int.toNat_natCast, if_neg h]
theorem movP_in {T : SU} (hT : T.Wf) {x : Nat} (hx : x < 256) (v : Bool) : (movP T (x : Int) v).inn.getD x false = v := by
  show (T.inn.set (x : Int).toNat v).getD x false = v
  rw [Int.toNat_natCast, List.getD_eq_getElem?_getD, List.getElem?_set_self (by rw [hT.inn]; exact hx)]
  rfl
end Go.Proofs.Ytbijakhdngbjmaa
