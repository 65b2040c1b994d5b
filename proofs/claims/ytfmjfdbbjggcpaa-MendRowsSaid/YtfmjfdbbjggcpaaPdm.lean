/- Long division, told of lists. No program is named here. -/
import Derived.Test.YtfmjfdbbjggcpaaQ2
namespace Go.Proofs.Ytfmjfdbbjggcpaa
open Go.RowKit GF
set_option linter.unusedVariables false

/-- One step of the division. -/
def divS (d : Nat) (Q : List GF) (s : List GF × List GF) (i : Nat) : List GF × List GF :=
  (s.1.set i (co s.2 (i + d) * GF.inv (co Q d)), axp s.2 i (co s.2 (i + d) * GF.inv (co Q d)) Q)
def divF {m : Nat} (d : Nat) (Q : List GF) (s : List GF × List GF) (pre : List (It m)) : List GF × List GF := pre.foldl (fun s y => divS d Q s y.1.1) s
theorem divF_snoc {m : Nat} (d : Nat) (Q : List GF) (s : List GF × List GF) (pre : List (It m)) (y : It m) : divF d Q s (pre ++ [y]) = divS d Q (divF d Q s pre) y.1.1 := by simp [divF]
theorem divF_len {m : Nat} (d : Nat) (Q : List GF) (s : List GF × List GF) (pre : List (It m)) : (divF d Q s pre).1.length = s.1.length ∧ (divF d Q s pre).2.length = s.2.length := by
  unfold divF
  induction pre generalizing s with
  | nil => exact ⟨rfl, rfl⟩
  | cons y pre ih =>
    simp only [List.foldl_cons]
    have := ih (divS d Q s y.1.1)
    simp only [divS, List.length_set, length_axp] at this ⊢
    exact this
/-- A number set where none stood adds so many times the other, moved there. -/
theorem co_mulL_set {A Q : List GF} {i : Nat} {c : GF} (hi : i < A.length) (h0 : co A i = 0) (k : Nat) : co (mulL (A.set i c) Q) k = co (mulL A Q) k + if i ≤ k then c * co Q (k - i) else 0 := by
  rw [co_mulL, co_mulL]
  have hs : ∀ t, co (A.set i c) t * co Q (k - t) = co A t * co Q (k - t) + (if t = i then c else 0) * co Q (k - t) := fun t => by
    rw [← GF.add_mul, co_set hi]
    by_cases e : t = i
    · rw [if_pos e, if_pos e, e, h0, GF.zero_add]
    · rw [if_neg e, if_neg e, GF.add_zero]
  rw [sm_congr (fun t _ => hs t), sm_add]
  congr 1
  by_cases hk : i ≤ k
  · rw [if_pos hk, sm_one (j := i) (by omega) (fun t _ hne => by rw [if_neg hne, GF.zero_mul]), if_pos rfl]
  · rw [if_neg hk, sm_zero (fun t ht => by rw [if_neg (by omega), GF.zero_mul])]
theorem divF_inv {P Q : List GF} {n d m : Nat} (hP : P.length = n) (hQ : Q.length = d + 1) (hl : co Q d ≠ 0) (hm : m = n - d) (ys : List (It m)) (hbk : Bk m (fun _ _ => True) ys) : ∀ j, j ≤ ys.length →
    (∀ k, co (mulL (divF d Q (List.replicate m 0, P) (ys.take j)).1 Q) k + co (divF d Q (List.replicate m 0, P) (ys.take j)).2 k = co P k) ∧
    (∀ k, m - j + d ≤ k → co (divF d Q (List.replicate m 0, P) (ys.take j)).2 k = 0) ∧
    (∀ k, k < m - j → co (divF d Q (List.replicate m 0, P) (ys.take j)).1 k = 0) ∧
    (1 ≤ j → co (divF d Q (List.replicate m 0, P) (ys.take j)).1 (m - 1) = co P (n - 1) * GF.inv (co Q d)) := by
  intro j
  induction j with
  | zero =>
    intro _
    rw [List.take_zero]
    refine ⟨fun k => ?_, fun k hk => co_ge (by show P.length ≤ k; omega), fun k _ => co_replicate _ _, fun h => by omega⟩
    show co (mulL (List.replicate m 0) Q) k + co P k = co P k
    rw [co_mulL, sm_zero (fun i _ => by rw [co_replicate, GF.zero_mul]), GF.zero_add]
  | succ j ih =>
    intro hj
    obtain ⟨h1, h2, h3, h4⟩ := ih (by omega)
    have hlen := divF_len d Q (List.replicate m 0, P) (ys.take j)
    rw [List.take_succ_eq_append_getElem (by omega), divF_snoc]
    have hjm := hbk.1
    have hi := (hbk.2 j (by omega)).1
    obtain ⟨s, hs⟩ : ∃ s, s = divF d Q (List.replicate m 0, P) (ys.take j) := ⟨_, rfl⟩
    rw [← hs] at h1 h2 h3 h4 hlen ⊢
    rw [hi]
    obtain ⟨i, hi'⟩ : ∃ i, i = m - 1 - j := ⟨_, rfl⟩
    rw [← hi']
    have ha : s.1.length = m := by rw [hlen.1]; simp
    have hr : s.2.length = n := by rw [hlen.2, hP]
    have him : i < m := by omega
    have hA0 : co s.1 i = 0 := h3 i (by omega)
    have hax : ∀ k, co (axp s.2 i (co s.2 (i + d) * GF.inv (co Q d)) Q) k = co s.2 k + if i ≤ k then (co s.2 (i + d) * GF.inv (co Q d)) * co Q (k - i) else 0 := co_axp (by rw [hQ, hr]; omega)
    refine ⟨fun k => ?_, fun k hk => ?_, fun k hk => ?_, fun _ => ?_⟩
    · simp only [divS]
      rw [co_mulL_set (by rw [ha]; exact him) hA0, hax, GF.add_add_add, GF.add_self, GF.add_zero]
      exact h1 k
    · simp only [divS]
      rw [hax, if_pos (by omega)]
      by_cases e : k = i + d
      · rw [e, Nat.add_sub_cancel_left, GF.mul_assoc, GF.inv_mul hl, GF.mul_one, GF.add_self]
      · rw [h2 k (by omega), co_ge (l := Q) (k := k - i) (by omega), GF.mul_zero, GF.add_zero]
    · simp only [divS]
      rw [co_set (by rw [ha]; exact him), if_neg (by omega)]
      exact h3 k (by omega)
    · simp only [divS]
      rw [co_set (by rw [ha]; exact him)]
      by_cases e : m - 1 = i
      · rw [if_pos e]
        have hj0 : j = 0 := by omega
        subst hj0
        rw [List.take_zero] at hs
        rw [hs]
        show co P (i + d) * GF.inv (co Q d) = co P (n - 1) * GF.inv (co Q d)
        rw [show i + d = n - 1 by omega]
      · rw [if_neg e]
        exact h4 (by omega)
/-- What division yields. -/
theorem divF_ok {P Q : List GF} {n d m : Nat} (hn : n = (tr P).length) (hd : (tr Q).length = d + 1) (hq : tr Q ≠ []) (hm : m = n - d) (ys : List (It m)) (hlen : ys.length = m) (hbk : Bk m (fun _ _ => True) ys) :
    tr (divF d (tr Q) (List.replicate m 0, tr P) ys).1 = (divF d (tr Q) (List.replicate m 0, tr P) ys).1 ∧ (tr (divF d (tr Q) (List.replicate m 0, tr P) ys).2).length < (tr Q).length ∧
    ∀ k, co (mulL (divF d (tr Q) (List.replicate m 0, tr P) ys).1 Q) k + co (divF d (tr Q) (List.replicate m 0, tr P) ys).2 k = co P k := by
  have hl : co (tr Q) d ≠ 0 := by have := tr_last Q hq; rw [hd, Nat.add_sub_cancel] at this; rwa [co_tr]
  obtain ⟨h1, h2, h3, h4⟩ := divF_inv (P := tr P) (Q := tr Q) hn.symm hd hl hm ys hbk m (by omega)
  have hA := (divF_len d (tr Q) (List.replicate m 0, tr P) ys).1
  have hT : ys.take m = ys := List.take_of_length_le (by omega)
  rw [hT] at h1 h2 h3 h4
  refine ⟨?_, ?_, fun k => ?_⟩
  · apply tr_self
    rcases Nat.eq_zero_or_pos m with h0 | h0
    · left
      exact List.eq_nil_of_length_eq_zero (by rw [hA]; simp [h0])
    · right
      rw [hA, List.length_replicate, h4 h0]
      have hp : tr P ≠ [] := fun e => by rw [e] at hn; simp at hn; omega
      have := tr_last P hp
      rw [← hn] at this
      refine GF.mul_ne ?_ (GF.inv_ne hl)
      rwa [co_tr]
  · rw [hd]
    have : (tr (divF d (tr Q) (List.replicate m 0, tr P) ys).2).length ≤ d := tr_len.2 fun k hk => h2 k (by omega)
    omega
  · rw [← co_tr P k, ← h1 k, co_mulL, co_mulL]
    congr 1
    exact sm_congr fun i _ => by rw [co_tr]
end Go.Proofs.Ytfmjfdbbjggcpaa
