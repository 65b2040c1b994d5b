/- Plain: wrong values among right ones; Euclid's steps from the vanishing polynomial and the one through all values (Gao) find the polynomial, if there is one. No program is named here. -/
import Derived.Test.YtfmjfdbbjggcpaaQ2
namespace Go.Proofs.Ytfmjfdbbjggcpaa
open GF
set_option linter.unusedVariables false

/-! ## lengths of polynomials without noughts at their ends -/
def dg (l : List GF) : Nat := (tr l).length
theorem dg_le {l : List GF} {n : Nat} : dg l ≤ n ↔ ∀ k, n ≤ k → co l k = 0 := tr_len
theorem dg_ge {l : List GF} {k : Nat} (h : dg l ≤ k) : co l k = 0 := dg_le.1 (Nat.le_refl _) k h
theorem dg_pos {l : List GF} : 0 < dg l ↔ tr l ≠ [] := by unfold dg; exact List.length_pos_iff
theorem dg_congr {p q : List GF} (h : ∀ k, co p k = co q k) : dg p = dg q := by unfold dg; rw [tr_ext h]
theorem dg_top {l : List GF} (h : 0 < dg l) : co l (dg l - 1) ≠ 0 := tr_last l (dg_pos.1 h)
theorem dg_mul {p q : List GF} (hp : 0 < dg p) (hq : 0 < dg q) : dg (mulL p q) + 1 = dg p + dg q := by
  unfold dg at *
  rw [tr_mul_tr (dg_pos.1 hp) (dg_pos.1 hq), length_mulL _ _ hp hq]
  omega
theorem dg_mul_pos {p q : List GF} (hp : 0 < dg p) (hq : 0 < dg q) : 0 < dg (mulL p q) := by have := dg_mul hp hq; omega
theorem dg_add {p q : List GF} (h : dg p < dg q) : dg (addL p q) = dg q := by
  refine Nat.le_antisymm (dg_le.2 fun k hk => ?_) (Nat.le_of_not_lt fun h2 => ?_)
  · rw [co_addL, dg_ge (l := p) (by omega), dg_ge (l := q) (by omega), GF.add_zero]
  · have h3 := dg_top (l := q) (by omega)
    have h4 := dg_ge (l := addL p q) (k := dg q - 1) (by omega)
    rw [co_addL, dg_ge (l := p) (by omega), GF.zero_add] at h4
    exact h3 h4
/-- What division by a lesser one yields. -/
theorem div_dg {P Q A R : List GF} (h : ∀ k, co (mulL A Q) k + co R k = co P k) (hR : dg R < dg Q) (hQ : dg Q ≤ dg P) : 0 < dg A ∧ dg A + dg Q = dg P + 1 := by
  have h1 : dg (mulL A Q) = dg P := by
    have e : dg (mulL A Q) = dg (addL R P) := dg_congr fun k => by rw [co_addL, ← h k, GF.add_comm (co R k), GF.add_assoc, GF.add_self, GF.add_zero]
    rw [e]; exact dg_add (by omega)
  have hA : 0 < dg A := by
    rcases Nat.eq_zero_or_pos (dg A) with h0 | h0
    · have h2 : dg (mulL A Q) ≤ 0 := dg_le.2 fun k _ => by
        rw [co_mulL]
        exact sm_zero fun i _ => by rw [dg_ge (l := A) (by omega), GF.zero_mul]
      omega
    · exact h0
  exact ⟨hA, by have := dg_mul hA (show 0 < dg Q by omega); omega⟩
/-- .. and it is the only one. -/
theorem div_uniq {Q A R p : List GF} (h : ∀ k, co (mulL A Q) k + co R k = co (mulL p Q) k) (hR : dg R < dg Q) : (∀ k, co A k = co p k) ∧ ∀ k, co R k = 0 := by
  have h1 : ∀ k, co (mulL (addL A p) Q) k = co R k := fun k => by
    have e : co (mulL (addL A p) Q) k = co (mulL A Q) k + co (mulL p Q) k := by
      rw [co_mulL, co_mulL, co_mulL, ← sm_add]
      exact sm_congr fun i _ => by rw [co_addL, GF.add_mul]
    rw [e, ← h k, ← GF.add_assoc, GF.add_self, GF.zero_add]
  have h2 : dg (addL A p) = 0 := by
    rcases Nat.eq_zero_or_pos (dg (addL A p)) with h0 | h0
    · exact h0
    · have := dg_mul h0 (show 0 < dg Q by omega)
      rw [dg_congr h1] at this
      omega
  have h3 : ∀ k, co A k = co p k := fun k => by
    have := dg_ge (l := addL A p) (k := k) (by omega)
    rw [co_addL] at this
    exact GF.add_eq_zero.1 this
  refine ⟨h3, fun k => ?_⟩
  rw [← h1 k, co_mulL]
  exact sm_zero fun i _ => by rw [dg_ge (l := addL A p) (by omega), GF.zero_mul]

/-! ## which values are wrong -/
/-- The numbers of the places at which p has another value. -/
def wrL (X Y p : List GF) : List Nat := (List.range X.length).filter fun k => decide (ev p (co X k) ≠ co Y k)
theorem wrL_mem {X Y p : List GF} {k : Nat} : k ∈ wrL X Y p ↔ k < X.length ∧ ev p (co X k) ≠ co Y k := by
  unfold wrL; rw [List.mem_filter, List.mem_range, decide_eq_true_eq]
theorem wrL_nodup (X Y p : List GF) : (wrL X Y p).Nodup := List.nodup_range.sublist List.filter_sublist
theorem wrL_congr {X Y p q : List GF} (h : ∀ k, co p k = co q k) : wrL X Y p = wrL X Y q := by
  unfold wrL; exact List.filter_congr fun k _ => by rw [ev_congr h]
theorem wrL_le (X Y p : List GF) : (wrL X Y p).length ≤ X.length := by unfold wrL; have := List.length_filter_le (fun k => decide (ev p (co X k) ≠ co Y k)) (List.range X.length); simpa using this
theorem two_filters {α : Type} (f g : α → Bool) : ∀ l : List α, l.length ≤ (l.filter f).length + (l.filter g).length + (l.filter fun x => !f x && !g x).length
  | [] => by simp
  | a :: l => by
    have ih := two_filters f g l
    cases hf : f a <;> cases hg : g a <;> simp [hf, hg] <;> omega
theorem nodup_places {X : List GF} (hX : Apart X) {l : List Nat} (hl : l.Nodup) (hm : ∀ k, k ∈ l → k < X.length) : (l.map (co X)).Nodup := by
  refine List.pairwise_map.2 (hl.imp_of_mem fun {a b} ha hb hne e => ?_)
  have h1 := hm a ha
  have h2 := hm b hb
  exact Apart.ne hX h1 h2 hne e
/-- Two polynomials that are right at most places are the same. -/
theorem right_uniq {X Y p q : List GF} {t : Nat} (hX : Apart X) (hp : ∀ k, t ≤ k → co p k = 0) (hq : ∀ k, t ≤ k → co q k = 0) (h : (wrL X Y p).length + (wrL X Y q).length + t ≤ X.length) : ∀ k, co p k = co q k := by
  obtain ⟨l, hl⟩ : ∃ l, l = (List.range X.length).filter fun x => !(decide (ev p (co X x) ≠ co Y x)) && !(decide (ev q (co X x) ≠ co Y x)) := ⟨_, rfl⟩
  have h1 := two_filters (fun k => decide (ev p (co X k) ≠ co Y k)) (fun k => decide (ev q (co X k) ≠ co Y k)) (List.range X.length)
  rw [List.length_range, ← hl] at h1
  have h2 : t ≤ l.length := by
    have e1 : (wrL X Y p).length = ((List.range X.length).filter fun k => decide (ev p (co X k) ≠ co Y k)).length := rfl
    have e2 : (wrL X Y q).length = ((List.range X.length).filter fun k => decide (ev q (co X k) ≠ co Y k)).length := rfl
    omega
  have hm : ∀ k, k ∈ l → k < X.length ∧ ev p (co X k) = co Y k ∧ ev q (co X k) = co Y k := fun k hk => by
    rw [hl, List.mem_filter, List.mem_range] at hk
    simpa using hk
  refine same_poly (n := t) (xs := l.map (co X)) hp hq (nodup_places hX (by rw [hl]; exact List.nodup_range.sublist List.filter_sublist) fun k hk => (hm k hk).1) (by rw [List.length_map]; exact h2) fun x hx => ?_
  obtain ⟨k, hk, rfl⟩ := List.mem_map.1 hx
  rw [(hm k hk).2.1, (hm k hk).2.2]
/-- A polynomial that the column is right with. -/
def RightP (X Y : List GF) (t e : Nat) (p : List GF) : Prop := tr p = p ∧ p.length ≤ t ∧ (wrL X Y p).length ≤ e ∧ 2 * (wrL X Y p).length + t ≤ X.length
theorem RightP.co {X Y p : List GF} {t e : Nat} (h : RightP X Y t e p) {k : Nat} (hk : t ≤ k) : co p k = 0 := co_ge (by have := h.2.1; omega)
theorem RightP.uniq {X Y p q : List GF} {t e e' : Nat} (hX : Apart X) (hp : RightP X Y t e p) (hq : RightP X Y t e' q) : p = q := by
  have := right_uniq (Y := Y) hX (fun k hk => hp.co hk) (fun k hk => hq.co hk) (by have := hp.2.2.2; have := hq.2.2.2; omega)
  rw [← hp.1, ← hq.1]; exact tr_ext this

/-! ## Gao -/
/-- What holds between two of Euclid's steps: r0, r1 the rests, u0, u1 what G was multiplied with. -/
structure GaoI (X Y : List GF) (t : Nat) (r0 u0 r1 u1 : List GF) : Prop where
  v0 : ∀ k, k < X.length → ev r0 (co X k) = ev u0 (co X k) * co Y k
  v1 : ∀ k, k < X.length → ev r1 (co X k) = ev u1 (co X k) * co Y k
  d : dg u1 + dg r0 = X.length + 2
  du : dg u0 < dg u1
  dr : dg r1 < dg r0
  big : X.length + t + 2 ≤ 2 * dg r0
theorem dg_van (X : List GF) (i : Nat) : dg (vanA X i) = i + 1 := by unfold dg; rw [tr_vanA, length_vanA]
theorem dg_one : dg [1] = 1 := by
  have h : tr [(1 : GF)] = [1] := tr_self (.inr (by show co [(1 : GF)] 0 ≠ 0; rw [co_cons_zero]; exact GF.one_ne))
  unfold dg; rw [h]; rfl
theorem ev_one (x : GF) : ev [1] x = 1 := by
  have h := ev_drop [(1 : GF)] 0 x
  rw [List.drop_zero, co_cons_zero, show ([(1 : GF)]).drop (0 + 1) = [] from rfl] at h
  rw [h, show ev [] x = 0 from rfl, GF.mul_zero, GF.add_zero]
theorem gao_start {X Y : List GF} {t : Nat} (hX : Apart X) (hY : Y.length = X.length) (ht : t ≤ X.length) (h0 : 0 < X.length) : GaoI X Y t (vanA X X.length) [] (lag X Y) [1] where
  v0 := fun k hk => by rw [(ev_vanA X.length (Nat.le_refl _)).2 ⟨k, hk, rfl⟩, show ev [] (co X k) = 0 from rfl, GF.zero_mul]
  v1 := fun k hk => by rw [ev_lag_at hX hk, ev_one, GF.one_mul]
  d := by rw [dg_van, dg_one]; omega
  du := by rw [dg_one]; exact Nat.lt_succ_self _
  dr := by
    have : dg (lag X Y) ≤ X.length := dg_le.2 fun k hk => co_lag X Y hk
    rw [dg_van]; omega
  big := by rw [dg_van]; omega
theorem gao_step {X Y : List GF} {t : Nat} {r0 u0 r1 u1 A R : List GF} (h : GaoI X Y t r0 u0 r1 u1) (hb : X.length + t + 2 ≤ 2 * dg r1) (hA : ∀ k, co (mulL A r1) k + co R k = co r0 k) (hR : dg R < dg r1) : GaoI X Y t r1 u1 R (addL u0 (mulL A u1)) := by
  obtain ⟨a1, a2⟩ := div_dg hA hR (by have := h.dr; omega)
  have hu : 0 < dg u1 := by have := h.du; omega
  have hm := dg_mul a1 hu
  have hdr := h.dr
  have hdu := h.du
  have hd := h.d
  have hs : dg (addL u0 (mulL A u1)) = dg (mulL A u1) := dg_add (by omega)
  refine ⟨h.v1, fun k hk => ?_, by rw [hs]; omega, by rw [hs]; omega, hR, hb⟩
  have e : ev R (co X k) = ev r0 (co X k) + ev A (co X k) * ev r1 (co X k) := by
    rw [← ev_mulL, ← ev_addL]
    refine ev_congr (fun j => ?_) _
    rw [co_addL, ← hA j, GF.add_comm (co (mulL A r1) j), GF.add_assoc, GF.add_self, GF.add_zero]
  rw [e, h.v0 k hk, h.v1 k hk, ev_addL, ev_mulL, GF.add_mul, GF.mul_assoc]
/-- The bound of what G was multiplied with, at the end. -/
theorem gao_du {X Y : List GF} {t : Nat} {r0 u0 r1 u1 : List GF} (h : GaoI X Y t r0 u0 r1 u1) : 0 < dg u1 ∧ 2 * dg u1 + t ≤ X.length + 2 := by
  have := h.du; have := h.d; have := h.big; omega
/-- If the column is right with p, the last rest is p times what G was multiplied with. -/
theorem gao_found {X Y : List GF} {t : Nat} {r0 u0 r1 u1 p : List GF} (hX : Apart X) (h : GaoI X Y t r0 u0 r1 u1) (hs : 2 * dg r1 < X.length + t + 2) (hp : ∀ k, t ≤ k → co p k = 0) (hw : 2 * (wrL X Y p).length + t ≤ X.length) (ht : 1 ≤ t) : ∀ k, co r1 k = co (mulL p u1) k := by
  obtain ⟨hu0, hu⟩ := gao_du h
  obtain ⟨W, hW⟩ : ∃ W, W = (wrL X Y p).map (co X) := ⟨_, rfl⟩
  have hWl : W.length = (wrL X Y p).length := by rw [hW, List.length_map]
  obtain ⟨ε, hε⟩ : ∃ ε, ε = W.length := ⟨_, rfl⟩
  rw [← hWl, ← hε] at hw
  obtain ⟨F, hF⟩ : ∃ F, F = addL r1 (mulL p u1) := ⟨_, rfl⟩
  have hFd : dg F + ε ≤ X.length := by
    have h1 : dg F ≤ max (dg r1) (t + dg u1 - 1) := dg_le.2 fun k hk => by
      rw [hF, co_addL, dg_ge (l := r1) (Nat.le_trans (Nat.le_max_left _ _) hk), co_mulL_ge (n := t) (m := dg u1) hp (fun i hi => dg_ge hi) (by have := Nat.le_trans (Nat.le_max_right (dg r1) (t + dg u1 - 1)) hk; omega), GF.add_zero]
    rcases Nat.le_total (dg r1) (t + dg u1 - 1) with h2 | h2
    · rw [Nat.max_eq_right h2] at h1; omega
    · rw [Nat.max_eq_left h2] at h1; omega
  have hD0 : ∀ k, co (mulL F (vanA W ε)) k = 0 := by
    refine roots X.length _ X (fun k hk => co_mulL_ge (n := dg F) (m := ε + 1) (fun i hi => dg_ge hi) (fun i hi => dg_ge (by rw [dg_van]; exact hi)) (by omega)) (Apart.nodup hX) (Nat.le_refl _) fun x hx => ?_
    obtain ⟨k, hk, rfl⟩ := mem_co.1 hx
    rw [ev_mulL]
    by_cases hr : ev p (co X k) = co Y k
    · have : ev F (co X k) = 0 := by rw [hF, ev_addL, ev_mulL, h.v1 k hk, hr, GF.mul_comm (co Y k), GF.add_self]
      rw [this, GF.zero_mul]
    · have hm : co X k ∈ W := by rw [hW]; exact List.mem_map.2 ⟨k, wrL_mem.2 ⟨hk, hr⟩, rfl⟩
      obtain ⟨j, hj, e⟩ := mem_co.1 hm
      rw [(ev_vanA (xs := W) (x := co X k) ε (by omega)).2 ⟨j, by omega, e⟩, GF.mul_zero]
  have hF0 : dg F = 0 := by
    rcases Nat.eq_zero_or_pos (dg F) with h0 | h0
    · exact h0
    · have h1 := dg_mul_pos h0 (show 0 < dg (vanA W ε) by rw [dg_van]; omega)
      have h2 : dg (mulL F (vanA W ε)) ≤ 0 := dg_le.2 fun k _ => hD0 k
      omega
  intro k
  have := dg_ge (l := F) (k := k) (by omega)
  rw [hF, co_addL] at this
  exact GF.add_eq_zero.1 this
/-- What the last rest is a multiple of is right. -/
theorem gao_right {X Y : List GF} {t : Nat} {r0 u0 r1 u1 p : List GF} (hX : Apart X) (h : GaoI X Y t r0 u0 r1 u1) (he : ∀ k, co r1 k = co (mulL p u1) k) : 2 * (wrL X Y p).length + t ≤ X.length := by
  obtain ⟨hu0, hu⟩ := gao_du h
  have key : (wrL X Y p).length < dg u1 := by
    rcases Nat.lt_or_ge (wrL X Y p).length (dg u1) with h1 | h1
    · exact h1
    · have hz := roots (dg u1) u1 ((wrL X Y p).map (co X)) (fun k hk => dg_ge hk) (nodup_places hX (wrL_nodup _ _ _) fun k hk => (wrL_mem.1 hk).1) (by rw [List.length_map]; exact h1) fun x hx => by
        obtain ⟨k, hk, rfl⟩ := List.mem_map.1 hx
        obtain ⟨h2, h3⟩ := wrL_mem.1 hk
        have h4 := h.v1 k h2
        rw [ev_congr he, ev_mulL, GF.mul_comm] at h4
        have h5 : ev u1 (co X k) * (ev p (co X k) + co Y k) = 0 := by rw [GF.mul_add, h4, GF.add_self]
        exact (GF.mul_eq_zero h5).resolve_right fun h6 => h3 (GF.add_eq_zero.1 h6)
      have : dg u1 ≤ 0 := dg_le.2 fun k _ => hz k
      omega
  omega
/-- Both ways: division of the last rest leaves nothing over and yields a polynomial that is short enough, just if the column is right with it. -/
theorem gao_iff {X Y : List GF} {t e : Nat} {r0 u0 r1 u1 A R : List GF} (hX : Apart X) (h : GaoI X Y t r0 u0 r1 u1) (hs : 2 * dg r1 < X.length + t + 2) (ht : 1 ≤ t) (hA : ∀ k, co (mulL A u1) k + co R k = co r1 k) (hR : dg R < dg u1) (hAt : tr A = A) :
    (tr R = [] ∧ A.length ≤ t ∧ (wrL X Y A).length ≤ e → RightP X Y t e A) ∧ ∀ p, RightP X Y t e p → p = A ∧ tr R = [] ∧ A.length ≤ t ∧ (wrL X Y A).length ≤ e := by
  refine ⟨fun ⟨h1, h2, h3⟩ => ⟨hAt, h2, h3, gao_right hX h fun k => ?_⟩, fun p hp => ?_⟩
  · rw [← hA k, tr_nil.1 h1 k, GF.add_zero]
  · have h1 := gao_found hX h hs (fun k hk => hp.co hk) hp.2.2.2 ht
    obtain ⟨h2, h3⟩ := div_uniq (fun k => (hA k).trans (h1 k)) hR
    have e : p = A := by rw [← hp.1, ← hAt]; exact (tr_ext h2).symm
    subst e
    exact ⟨rfl, tr_nil.2 h3, hp.2.1, hp.2.2.1⟩
end Go.Proofs.Ytfmjfdbbjggcpaa
