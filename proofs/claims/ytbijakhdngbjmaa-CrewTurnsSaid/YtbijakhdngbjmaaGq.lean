/- Rows of supers that grow; numbers for two crews. -/
import Derived.Test.YtbijakhdngbjmaaGo
import Derived.Deep.AppendLies
namespace Go.Proofs.Ytbijakhdngbjmaa
open Go.ChangeShapes Go.WideShapes Go.ChangeAt Go.RowKit Go.Shelf Go.Maps
set_option linter.unusedVariables false
set_option linter.unusedSimpArgs false
set_option maxRecDepth 100000
attribute [local go_sem] Oper.semAt_some

theorem infoSu3 : (Try.prog.info? 35).map (fun i => (i.zero, i.size, decide (i.bytes ≤ 1000))) = some (some (.agg (tabV 276 (suV suZ))), 276, true) := by kernel_rfl
/-- A row of one super, made. -/
theorem wpList_build_su {ops : Array Oper} {rest : List Oper} {o : Oper} {a : Act} {w : World} {Q : Exit → Act → World → Prop} (hg : o.guard = none) (x : Operand) (ho : o.op = .buildSlice 28 1 #[(0, x)]) (P : SU) (hx : a.eval x = suA P)
    (h : wpList Try.prog ops Q rest (a.put o.dst (.slice (some ⟨w.heap.size, 0, none⟩) 1 1)) (w.alloc (.cells (tabV 276 (suV P)) 35))) : wpList Try.prog ops Q (o :: rest) a w := by
  obtain ⟨iS, hiS, hzS⟩ := Option.map_eq_some_iff.1 infoSu
  simp only [Prod.mk.injEq] at hzS
  refine wpList_buildSlice hg 28 35 1 #[(0, x)] ho (tabV 276 (suV P)) iS (.agg (tabV 276 (suV suZ))) Try.underlying28 hiS hzS.1 (by rw [hzS.2]; omega) (by rw [hzS.2]; omega) ?_ h
  rw [Array.toList_map, hzS.2]
  show Instr.fill _ _ [(0, a.eval x)] = _
  rw [hx]
  have h1 := fill_SU (.agg (tabV 276 (suV suZ))) [P] 1 rfl
  have e : (rowSU [P]).toArray = tabV 276 (suV P) := by
    have : rowSU [P] = suL P := by simp [rowSU]
    rw [this, suL_arr]
  rw [e] at h1
  exact h1
/-- append of one super onto a row of one's own. -/
theorem wpList_append_su (w : World) {ops : Array Oper} {rest : List Oper} {o : Oper} {a : Act} {Q : Exit → Act → World → Prop} (hgd : o.guard = none) (s x : Operand)
    (ho : o.op = .call { callee := .builtin .append, args := #[s, x], argTypes := #[28, 28] }) (base : Nat)
    (v : Value) (n : Nat) (SL : List SU) (hs : a.eval s = v) (hown : w.ownsRow base 35 276 v n (rowSU SL))
    (gx : Nat) (P : SU) (hx : a.eval x = .slice (some ⟨gx, 0, none⟩) 1 1) (hB : SuB w gx P) (hn : n + 1 ≤ 1000) (hbase : base ≤ w.heap.size) (Hs : Nat) (hH : w.heap.size = Hs)
    (h : ∀ g' c' w', w'.ownsRow base 35 276 (.slice (some ⟨g', 0, none⟩) (n + 1) c') (n + 1) (rowSU (SL ++ [P])) → w.grownBy w' v.ownBlock → (v.ownBlock = some g' ∨ g' = Hs) → g' < w'.heap.size → wpList Try.prog ops Q rest (a.put o.dst (.slice (some ⟨g', 0, none⟩) (n + 1) c')) w') :
    wpList Try.prog ops Q (o :: rest) a w := by
  obtain ⟨iS, hiS, hzS⟩ := Option.map_eq_some_iff.1 infoSu3
  simp only [Prod.mk.injEq, decide_eq_true_eq] at hzS
  refine wpList_append_lies w hgd s x 28 ho base 35 iS (.agg (tabV 276 (suV suZ))) 276 iS.bytes Try.underlying28 hiS hzS.1 hzS.2.1 rfl (size_tabV _ _) (by omega) v n (rowSU SL) hs hown ⟨gx, 0, none⟩ 1 1 (suL P) hx (by rw [suL_len]) ?_ (suL_one P) (by omega) (by unfold maxLen; omega) ?_ hbase Hs hH ?_
  · intro j u hj
    have := SuB.range hB j u hj
    rw [Nat.zero_add] at this
    rw [Addr.add_mid, Nat.zero_add]
    exact this
  · have h1 : (n + 1) * iS.bytes ≤ 1000 * 1000 := Nat.mul_le_mul hn hzS.2.2
    exact Nat.le_trans h1 (by decide)
  · intro g' cap w' h1 h2 h3 h4
    exact h g' cap w' (by rw [rowSU_snoc]; exact h1) h2 h3 h4
theorem own_nilSU (w : World) (B : Nat) : w.ownsRow B 35 276 (.slice none 0 0) 0 (rowSU []) := World.ownsRow_nil _ _ _ _
/-! ## plain: which super is as new as any -/
def asNew (T P : SU) : Prop := P.bo < T.bo ∨ (P.bo = T.bo ∧ P.ep ≤ T.ep)
theorem asNew_refl (P : SU) : asNew P P := .inr ⟨rfl, Int.le_refl _⟩
theorem asNew_trans {P Q R : SU} (h : asNew P Q) (k : asNew Q R) : asNew P R := by
  unfold asNew at *
  omega
theorem cmpI_lt {x y : Int} (h : x < y) : cmpI x y = -1 := if_pos h
theorem cmpI_gt {x y : Int} (h : y < x) : cmpI x y = 1 := by unfold cmpI; rw [if_neg (by omega), if_pos h]
theorem age_sign (P m : SU) : (0 < ageI P m → asNew P m) ∧ (¬ 0 < ageI P m → asNew m P) := by
  unfold asNew ageI
  rcases Int.lt_trichotomy P.bo m.bo with h | h | h
  · rw [cmpI_lt h, if_pos (by omega)]
    constructor <;> intro k <;> omega
  · rw [cmpI_eq.2 h, if_neg (by simp)]
    rcases Int.lt_trichotomy P.ep m.ep with g | g | g
    · rw [cmpI_lt g, if_pos (by omega)]
      constructor <;> intro k <;> omega
    · constructor <;> intro k <;> omega
    · rw [cmpI_gt g, if_pos (by omega)]
      constructor <;> intro k <;> omega
  · rw [cmpI_gt h, if_pos (by omega)]
    constructor <;> intro k <;> omega
theorem newer_new (m P : SU) : asNew (newer m P) m ∧ asNew (newer m P) P := by
  unfold newer
  by_cases h : 0 < ageI P m
  · rw [if_pos h]; exact ⟨(age_sign P m).1 h, asNew_refl P⟩
  · rw [if_neg h]; exact ⟨asNew_refl m, (age_sign P m).2 h⟩
theorem tabK_new (SL : List SU) : ∀ k j, j ≤ k → asNew (tabK SL k) (SL.getD j suZ)
  | 0, j, h => by
    obtain rfl : j = 0 := by omega
    exact asNew_refl _
  | k + 1, j, h => by
    show asNew (newer (tabK SL k) (SL.getD (k + 1) suZ)) _
    rcases Nat.lt_or_ge j (k + 1) with h1 | h1
    · exact asNew_trans (newer_new _ _).1 (tabK_new SL k j (by omega))
    · obtain rfl : j = k + 1 := by omega
      exact (newer_new _ _).2
theorem tabSU_new {SL : List SU} {P : SU} (h : P ∈ SL) : asNew (tabSU SL) P := by
  obtain ⟨j, hj, rfl⟩ := List.getElem_of_mem h
  have := tabK_new SL (SL.length - 1) j (by omega)
  rw [List.getD_eq_getElem?_getD, List.getElem?_eq_getElem hj] at this
  exact this
/-- Who is told as in, is in. -/
theorem innL_get (I : List Int) (hI : ∀ x ∈ I, 0 ≤ x ∧ x < 256) {i : Nat} (hi : i < 256) : (innL I).getD i false = true ↔ (i : Int) ∈ I := by
  have key : ∀ (J : List Int) (l : List Bool), l.length = 256 → (∀ x ∈ J, 0 ≤ x ∧ x < 256) → ((J.foldl (fun l i => l.set i.toNat true) l).getD i false = true ↔ (l.getD i false = true ∨ (i : Int) ∈ J)) := by
    intro J
    induction J with
    | nil => intro l _ _; simp
    | cons x J ih =>
      intro l hl hJ
      have hx := hJ x (List.mem_cons_self ..)
      rw [List.foldl_cons, ih _ (by rw [List.length_set]; exact hl) (fun y hy => hJ y (List.mem_cons_of_mem _ hy))]
      rw [List.getD_eq_getElem?_getD, List.getD_eq_getElem?_getD]
      by_cases e : x.toNat = i
      · rw [e, List.getElem?_set_self (by omega)]
        have : x = (i : Int) := by omega
        subst this
        simp
      · rw [List.getElem?_set_ne e, List.mem_cons]
        have : ¬ (i : Int) = x := by omega
        simp [this]
  have h := key I (List.replicate 256 false) (by simp) hI
  unfold innL
  rw [h, List.getD_eq_getElem?_getD, List.getElem?_replicate]
  simp [hi]
theorem innL_curB (B : List Bool) (hB : B.length = 256) : innL (inK B 256) = B := by
  have hI : ∀ x ∈ inK B 256, 0 ≤ x ∧ x < 256 := fun x hx => by
    obtain ⟨i, h1, rfl, _⟩ := inK_mem.1 hx
    omega
  apply List.ext_getElem?
  intro i
  rcases Nat.lt_or_ge i 256 with h | h
  · have h1 := innL_get _ hI h
    rw [inK_mem] at h1
    have h2 : (innL (inK B 256)).getD i false = B.getD i false := by
      cases hb : B.getD i false with
      | true => exact h1.2 ⟨i, h, rfl, hb⟩
      | false =>
        rw [Bool.eq_false_iff]
        intro ht
        obtain ⟨j, _, e, hj⟩ := h1.1 ht
        have : i = j := by omega
        subst this
        rw [hb] at hj; cases hj
    rw [List.getD_eq_getElem?_getD, List.getD_eq_getElem?_getD, List.getElem?_eq_getElem (by rw [innL_len]; exact h), List.getElem?_eq_getElem (by rw [hB]; exact h)] at h2
    rw [List.getElem?_eq_getElem (by rw [innL_len]; exact h), List.getElem?_eq_getElem (by rw [hB]; exact h)]
    exact congrArg some h2
  · rw [List.getElem?_eq_none (by rw [innL_len]; exact h), List.getElem?_eq_none (by rw [hB]; exact h)]
end Go.Proofs.Ytbijakhdngbjmaa
