/- Rows of supers, crews: plain, and in memory. -/
import Derived.Test.YtbijakhdngbjmaaGs
import Derived.Test.YtbijakhdngbjmaaGr
import Derived.Deep.MidRow
namespace Go.Proofs.Ytbijakhdngbjmaa
open Go.ChangeShapes Go.WideShapes Go.ChangeAt Go.RowKit Go.Shelf
set_option linter.unusedVariables false
set_option linter.unusedSimpArgs false
set_option maxRecDepth 100000

/-- The cells of a super; of a row of them. -/
def suL (P : SU) : List Value := (tabV 276 (suV P)).toList
theorem suL_len (P : SU) : (suL P).length = 276 := by unfold suL; rw [Array.length_toList, size_tabV]
theorem suL_get (P : SU) {j : Nat} (h : j < 276) : (suL P)[j]? = some (suV P j) := by unfold suL; rw [Array.getElem?_toList, get_tabV h]
theorem suL_arr (P : SU) : (suL P).toArray = tabV 276 (suV P) := by unfold suL; rw [Array.toArray_toList]
theorem suL_one (P : SU) : ∀ v ∈ suL P, v.oneCell' = true := fun v hv => by
  obtain ⟨j, hj⟩ := List.mem_iff_getElem?.1 hv
  have hl : j < 276 := by
    rcases Nat.lt_or_ge j 276 with h | h
    · exact h
    · rw [List.getElem?_eq_none (by rw [suL_len]; exact h)] at hj; cases hj
  rw [suL_get P hl] at hj
  cases hj
  exact suV_one P j
def rowSU (SL : List SU) : List Value := SL.flatMap suL
theorem rowSU_len : ∀ SL : List SU, (rowSU SL).length = SL.length * 276
  | [] => rfl
  | P :: SL => by
    have := rowSU_len SL
    unfold rowSU at *
    rw [List.flatMap_cons, List.length_append, this, suL_len, List.length_cons]
    omega
theorem rowSU_snoc (SL : List SU) (P : SU) : rowSU (SL ++ [P]) = rowSU SL ++ suL P := by simp [rowSU, List.flatMap_append]
theorem rowSU_get : ∀ {SL : List SU} {i : Nat} {P : SU}, SL[i]? = some P → ∀ {j : Nat}, j < 276 → (rowSU SL)[i * 276 + j]? = (suL P)[j]?
  | [], i, P, h, _, _ => by cases h
  | Q :: SL, 0, P, h, j, hj => by
    have e : Q = P := by simpa using h
    subst e
    unfold rowSU
    rw [List.flatMap_cons, Nat.zero_mul, Nat.zero_add, List.getElem?_append_left (by rw [suL_len]; exact hj)]
  | Q :: SL, i + 1, P, h, j, hj => by
    have h' : SL[i]? = some P := by simpa using h
    have := rowSU_get h' hj
    unfold rowSU at *
    rw [List.flatMap_cons, List.getElem?_append_right (by rw [suL_len]; omega), suL_len, show (i + 1) * 276 + j - 276 = i * 276 + j by omega]
    exact this
/-- A row of supers as an argument. -/
def SuR (w : World) (a : Option Addr) (n c : Nat) (SL : List SU) : Prop :=
  SL.length = n ∧ n ≤ c ∧ c ≤ maxLen ∧ (0 < n → ∃ b off, a = some ⟨b, off, none⟩ ∧ b < w.heap.size ∧ ∀ i P, SL[i]? = some P → w.rangeAt b (off + i * 276) (suL P))
theorem SuR.bd {w : World} {a : Option Addr} {n c : Nat} {SL : List SU} (h : SuR w a n c SL) : n ≤ c ∧ c ≤ 9223372036854775807 := ⟨h.2.1, by have := h.2.2.1; unfold maxLen at this; omega⟩
theorem SuR.on {w w' : World} {a : Option Addr} {n c : Nat} {SL : List SU} (h : SuR w a n c SL) (hb : Below w.heap.size w w') : SuR w' a n c SL := by
  obtain ⟨h1, h2, h3, h4⟩ := h
  refine ⟨h1, h2, h3, fun hp => ?_⟩
  obtain ⟨b, off, e, hlt, hr⟩ := h4 hp
  exact ⟨b, off, e, Nat.lt_of_lt_of_le hlt hb.size, fun i P hP j v hv => (hb.cell (p := ⟨b, off + i * 276 + j, none⟩) hlt).trans (hr i P hP j v hv)⟩
theorem SuR.at_ {w : World} {a : Option Addr} {n c : Nat} {SL : List SU} (h : SuR w a n c SL) {i : Nat} (hi : i < n) : ∃ b off P, a = some ⟨b, off, none⟩ ∧ b < w.heap.size ∧ SL[i]? = some P ∧ w.rangeAt b (off + i * 276) (suL P) := by
  obtain ⟨h1, h2, h3, h4⟩ := h
  obtain ⟨b, off, e, hlt, hr⟩ := h4 (by omega)
  exact ⟨b, off, SL[i], e, hlt, List.getElem?_eq_getElem (by omega), hr i _ (List.getElem?_eq_getElem (by omega))⟩
theorem SuR.nil (w : World) : SuR w none 0 0 [] := ⟨rfl, Nat.le_refl _, Nat.zero_le _, fun h => absurd h (by omega)⟩
theorem SuR.of_own {w : World} {B : Nat} {T : TypeId} {a : Option Addr} {n c : Nat} {SL : List SU} (h : w.ownsRow B T 276 (.slice a n c) n (rowSU SL)) : SuR w a n c SL := by
  obtain ⟨h1, h2⟩ := h
  rw [rowSU_len] at h1
  have hn : SL.length = n := by omega
  rcases h2 with ⟨hv, h0⟩ | ⟨g, cap, cur, hv, hg, hh, hnc, hcm, hsz, ht⟩
  · cases hv
    exact ⟨hn, Nat.le_refl _, Nat.zero_le _, fun h => absurd h (by omega)⟩
  · cases hv
    refine ⟨hn, hnc, hcm, fun hp => ⟨g, 0, rfl, (Array.getElem?_eq_some_iff.1 hh).1, fun i P hP j v hj => ?_⟩⟩
    have hi : i < SL.length := (List.getElem?_eq_some_iff.1 hP).1
    have hj2 : j < 276 := by
      rcases Nat.lt_or_ge j 276 with h | h
      · exact h
      · rw [List.getElem?_eq_none (by rw [suL_len]; exact h)] at hj; cases hj
    have := rowSU_get hP hj2
    rw [hj, ← ht, List.getElem?_take, if_pos (by omega), Array.getElem?_toList] at this
    rw [Nat.zero_add]
    exact (cell_of_row _ g (i * 276 + j) _ _ _ hh).trans this
/-- A crew: its table, and who is current, as a row. -/
def crV (P : SU) (s : Value) (j : Nat) : Value := if j < 276 then suV P j else s
def crA (P : SU) (s : Value) : Value := .agg (tabV 277 (crV P s))
theorem crV_lo (P : SU) (s : Value) {j : Nat} (h : j < 276) : crV P s j = suV P j := if_pos h
theorem crV_hi (P : SU) (s : Value) : crV P s 276 = s := if_neg (by omega)
theorem crV_one (P : SU) {s : Value} (hs : s.oneCell' = true) (j : Nat) : (crV P s j).oneCell' = true := ite_one (suV_one P j) hs
/-- At b lies a crew. -/
def CrB (w : World) (b : Nat) (P : SU) (s : Value) : Prop := Blk w b 38 277 (crV P s)
theorem CrB.on {w w' : World} {b : Nat} {P : SU} {s : Value} (h : CrB w b P s) (hb : Below w.heap.size w w') : CrB w' b P s := Blk.on h hb h.lt
theorem CrB.table {w : World} {b : Nat} {P : SU} {s : Value} (h : CrB w b P s) : w.rangeAt b 0 (suL P) := fun j v hj => by
  have hj2 : j < 276 := by
    rcases Nat.lt_or_ge j 276 with h | h
    · exact h
    · rw [List.getElem?_eq_none (by rw [suL_len]; exact h)] at hj; cases hj
  rw [suL_get P hj2] at hj
  have := h.cell (j := j) (by omega)
  rw [crV_lo P s hj2, hj] at this
  rw [Nat.zero_add]
  exact this
theorem CrB.slot {w : World} {b : Nat} {P : SU} {s : Value} (h : CrB w b P s) : w.cell? ⟨b, 276, none⟩ = some s := by
  have := h.cell (j := 276) (by omega)
  rw [crV_hi] at this
  exact this
theorem CrB.num {w : World} {b : Nat} {P : SU} {s : Value} (h : CrB w b P s) : w.cell? ⟨b, 8, none⟩ = some (.int .u8 P.p) ∧ w.cell? ⟨b, 9, none⟩ = some (.int .u8 P.n) ∧ w.cell? ⟨b, 10, none⟩ = some (.int .u8 P.t) ∧ w.cell? ⟨b, 14, none⟩ = some (.int .u32 P.bo) ∧ w.cell? ⟨b, 15, none⟩ = some (.int .u32 P.ep) :=
  ⟨h.cell (by omega), h.cell (by omega), h.cell (by omega), h.cell (by omega), h.cell (by omega)⟩
theorem CrB.inn {w : World} {b : Nat} {P : SU} {s : Value} (h : CrB w b P s) {j : Nat} (hj : j < 256) : w.cell? ⟨b, 16 + j, none⟩ = some (.bool (P.inn.getD j false)) := by
  have := h.cell (j := 16 + j) (by omega)
  rw [crV_lo P s (by omega), suV_in P hj] at this
  exact this
theorem sizeCr : (Try.prog.info? 38).map (·.size) = some 277 := by kernel_rfl
theorem infoCr : (Try.prog.info? 38).map (fun i => (i.zero, i.size)) = some (some (.agg (tabV 277 (crV suZ (.slice none 0 0)))), 277) := by kernel_rfl
theorem built_cr0 : Try.prog.built 38 [] = some (tabV 277 (crV suZ (.slice none 0 0))) := by kernel_rfl
theorem lenSu : (Try.prog.info? 35).map (·.size) = some (276 : Nat) := sizeSu

/-! ## plain: which table holds, and who is current -/
/-- How one super stands to another one. -/
def cmpI (x y : Int) : Int := if x < y then -1 else if y < x then 1 else 0
def ageI (P Q : SU) : Int := if cmpI P.bo Q.bo ≠ 0 then cmpI P.bo Q.bo else if cmpI P.ep Q.ep ≠ 0 then cmpI P.ep Q.ep else cmpI Q.p P.p
def newer (m P : SU) : SU := if 0 < ageI P m then P else m
/-- The table of the first, and k more. -/
def tabK (SL : List SU) : Nat → SU
  | 0 => SL.getD 0 suZ
  | k + 1 => newer (tabK SL k) (SL.getD (k + 1) suZ)
def tabSU (SL : List SU) : SU := tabK SL (SL.length - 1)
/-- Who is there and in by the table, of the first k. -/
def hereK (T : SU) (SL : List SU) (k : Nat) : List Int := ((SL.take k).filter (fun P => T.inn.getD P.p.toNat false)).map SU.p
/-- .. as bits. -/
def curB (T : SU) (SL : List SU) : List Bool := (List.range 256).map fun i => T.inn.getD i false && SL.any (fun P => P.p == (i : Int))
theorem curB_len (T : SU) (SL : List SU) : (curB T SL).length = 256 := by simp [curB]
theorem curB_get (T : SU) (SL : List SU) {i : Nat} (h : i < 256) : (curB T SL).getD i false = (T.inn.getD i false && SL.any (fun P => P.p == (i : Int))) := by
  unfold curB
  rw [List.getD_eq_getElem?_getD, List.getElem?_map, List.getElem?_range h]
  rfl
/-- Who is current, rising. -/
def curL (T : SU) (SL : List SU) : List Int := inK (curB T SL) 256
theorem inK_sorted (l : List Bool) : ∀ k, (inK l k).Pairwise (· < ·)
  | 0 => by simp [inK]
  | k + 1 => by
    rw [inK]
    split
    · rw [List.pairwise_append]
      refine ⟨inK_sorted l k, by simp, fun x hx y hy => ?_⟩
      obtain ⟨i, h1, rfl, _⟩ := inK_mem.1 hx
      rw [List.mem_singleton] at hy
      subst hy
      omega
    · exact inK_sorted l k
/-- Two lists that rise and have the same members are one. -/
theorem rising_ext : ∀ {l m : List Int}, l.Pairwise (· < ·) → m.Pairwise (· < ·) → (∀ x, x ∈ l ↔ x ∈ m) → l = m
  | [], [], _, _, _ => rfl
  | [], y :: m, _, _, h => absurd ((h y).2 (List.mem_cons_self ..)) (by simp)
  | x :: l, [], _, _, h => absurd ((h x).1 (List.mem_cons_self ..)) (by simp)
  | x :: l, y :: m, hl, hm, h => by
    have h1 := List.pairwise_cons.1 hl
    have h2 := List.pairwise_cons.1 hm
    have e : x = y := by
      rcases List.mem_cons.1 ((h x).1 (List.mem_cons_self ..)) with e | hx
      · exact e
      · rcases List.mem_cons.1 ((h y).2 (List.mem_cons_self ..)) with e | hy
        · exact e.symm
        · have a1 := h1.1 y hy
          have a2 := h2.1 x hx
          omega
    subst e
    rw [rising_ext h1.2 h2.2 fun z => ?_]
    constructor
    · intro hz
      rcases List.mem_cons.1 ((h z).1 (List.mem_cons_of_mem _ hz)) with e | hm'
      · have := h1.1 z hz; omega
      · exact hm'
    · intro hz
      rcases List.mem_cons.1 ((h z).2 (List.mem_cons_of_mem _ hz)) with e | hm'
      · have := h2.1 z hz; omega
      · exact hm'
/-- All places are unlike, and bytes. -/
def Unlk (SL : List SU) : Prop := (SL.map SU.p).Nodup
theorem here_sorted {T : SU} {SL : List SU} (hu : Unlk SL) (hw : ∀ P ∈ SL, P.Wf) : (hereK T SL SL.length).mergeSort (fun x y => decide (x ≤ y)) = curL T SL := by
  have hp := List.mergeSort_perm (hereK T SL SL.length) (fun x y : Int => decide (x ≤ y))
  have hs := List.pairwise_mergeSort (le := fun x y : Int => decide (x ≤ y)) (fun a b c h1 h2 => by simp at *; omega) (fun a b => by simp; omega) (hereK T SL SL.length)
  have hnd : (hereK T SL SL.length).Nodup := by
    unfold hereK
    rw [List.take_of_length_le (Nat.le_refl _)]
    exact List.Nodup.sublist (List.Sublist.map _ List.filter_sublist) hu
  refine rising_ext ?_ (inK_sorted _ _) fun x => ?_
  · have h2 := hp.nodup_iff.2 hnd
    refine (hs.and h2).imp fun h => ?_
    have h1 := h.1
    have h3 := h.2
    simp only [decide_eq_true_eq] at h1
    omega
  · rw [hp.mem_iff]
    unfold hereK curL
    rw [List.take_of_length_le (Nat.le_refl _), inK_mem, List.mem_map]
    constructor
    · rintro ⟨P, hP, rfl⟩
      obtain ⟨h1, h2⟩ := List.mem_filter.1 hP
      have hb := (hw P h1).p
      unfold byteI at hb
      refine ⟨P.p.toNat, by omega, by omega, ?_⟩
      rw [curB_get _ _ (by omega), h2, Bool.true_and, List.any_eq_true]
      exact ⟨P, h1, by rw [Int.toNat_of_nonneg hb.1]; simp⟩
    · rintro ⟨i, hi, rfl, ht⟩
      rw [curB_get _ _ hi, Bool.and_eq_true, List.any_eq_true] at ht
      obtain ⟨h1, P, h2, h3⟩ := ht
      have h3 : P.p = (i : Int) := by simpa using h3
      refine ⟨P, List.mem_filter.2 ⟨h2, ?_⟩, h3⟩
      rw [h3, Int.toNat_natCast]
      exact h1
theorem here_len (T : SU) (SL : List SU) (k : Nat) : (hereK T SL k).length ≤ SL.length := by
  unfold hereK
  rw [List.length_map]
  refine Nat.le_trans (List.length_filter_le _ _) ?_
  rw [List.length_take]; omega
theorem here_byte {T : SU} {SL : List SU} (hw : ∀ P ∈ SL, P.Wf) {k : Nat} : ∀ x ∈ hereK T SL k, 0 ≤ x ∧ x < 256 := fun x hx => by
  unfold hereK at hx
  obtain ⟨P, hP, rfl⟩ := List.mem_map.1 hx
  exact (hw P (List.mem_of_mem_take (List.mem_filter.1 hP).1)).p
theorem here_next {T : SU} {SL : List SU} {k : Nat} {P : SU} (h : SL[k]? = some P) : hereK T SL (k + 1) = if T.inn.getD P.p.toNat false = true then hereK T SL k ++ [P.p] else hereK T SL k := by
  unfold hereK
  have e : SL.take (k + 1) = SL.take k ++ [P] := by rw [List.take_add_one, h]; rfl
  rw [e, List.filter_append, List.map_append]
  by_cases hc : T.inn.getD P.p.toNat false = true
  · rw [if_pos hc]; simp only [List.filter_cons, List.filter_nil, hc, if_true, List.map_cons, List.map_nil]
  · rw [if_neg hc]
    have : T.inn.getD P.p.toNat false = false := by simpa using hc
    simp only [List.filter_cons, List.filter_nil, this, Bool.false_eq_true, if_false, List.map_nil, List.append_nil]
theorem cur_len {T : SU} {SL : List SU} (hu : Unlk SL) (hw : ∀ P ∈ SL, P.Wf) : (curL T SL).length = (hereK T SL SL.length).length := by rw [← here_sorted hu hw, List.length_mergeSort]
theorem cur_len_le {T : SU} {SL : List SU} (hu : Unlk SL) (hw : ∀ P ∈ SL, P.Wf) : (curL T SL).length ≤ SL.length := by rw [cur_len hu hw]; exact here_len _ _ _
theorem cmpI_eq {x y : Int} : cmpI x y = 0 ↔ x = y := by
  unfold cmpI
  by_cases h1 : x < y
  · rw [if_pos h1]; constructor <;> intro h <;> omega
  · rw [if_neg h1]
    by_cases h2 : y < x
    · rw [if_pos h2]; constructor <;> intro h <;> omega
    · rw [if_neg h2]; constructor <;> intro h <;> omega
end Go.Proofs.Ytbijakhdngbjmaa
