/- Rows of one's own that can be written each by itself; how often, and whether, columns are unlike. -/
import Derived.Test.YtmhjpdppippgkaaCl
namespace Go.Proofs.Ytmhjpdppippgkaa
open Go.ChangeShapes Go.WideShapes Go.ChangeAt Go.RowKit Go.Shelf GF
set_option linter.unusedVariables false
set_option linter.unusedSimpArgs false

theorem own_ne {w : World} {b1 b2 s1 s2 n1 n2 : Nat} {e1 e2 : TypeId} {v1 v2 : Value} {xs ys : List Value} (h1 : w.ownsRow b1 e1 s1 v1 n1 xs) (h2 : w.ownsRow b2 e2 s2 v2 n2 ys) (hne : e1 ≠ e2) : v1.ownBlock = none ∨ v1.ownBlock ≠ v2.ownBlock := by
  rcases h1.2 with ⟨rfl, _⟩ | ⟨g, c, cur, rfl, _, hh, _⟩
  · left; rfl
  · right
    intro e
    rcases h2.2 with ⟨rfl, _⟩ | ⟨g2, c2, cur2, rfl, _, hh2, _⟩
    · cases e
    · have e3 : g = g2 := by
        have : some g = some g2 := e
        injection this
      subst e3
      rw [hh] at hh2
      injection hh2 with h3
      injection h3 with _ h4 _
      exact hne h4
/-- The first i rows: each its own, no two in one block. -/
def RowsV (w : World) (S n i : Nat) (v : Nat → Value) (Q : Nat → List GF) : Prop :=
  (∀ j, j < i → w.ownsRow S 5 1 (v j) n ((iL (Q j)).map (Value.int .u8))) ∧ ∀ j k, j < k → k < i → ∀ b, (v j).ownBlock = some b → (v k).ownBlock ≠ some b
theorem RowsV.zero (w : World) (S n : Nat) (v : Nat → Value) (Q : Nat → List GF) : RowsV w S n 0 v Q := ⟨fun j hj => absurd hj (by omega), fun j k _ hk => absurd hk (by omega)⟩
theorem own_blkLt {w : World} {S s n : Nat} {e : TypeId} {v : Value} {xs : List Value} (h : w.ownsRow S e s v n xs) {b : Nat} (hb : v.ownBlock = some b) : S ≤ b ∧ b < w.heap.size := by
  rcases h.2 with ⟨rfl, _⟩ | ⟨g, c, cur, rfl, hg, hh, _⟩
  · cases hb
  · have : some g = some b := hb
    injection this with this
    subst this
    exact ⟨hg, (Array.getElem?_eq_some_iff.1 hh).1⟩
/-- One row more, behind all that there were. -/
theorem RowsV.more {w w' : World} {S n i : Nat} {v : Nat → Value} {Q : Nat → List GF} (h : RowsV w S n i v Q) (hb : Below w.heap.size w w') {u : Value} (hu : w'.ownsRow w.heap.size 5 1 u n ((iL (Q i)).map (Value.int .u8))) (hS : S ≤ w.heap.size) :
    RowsV w' S n (i + 1) (fun j => if j = i then u else v j) Q := by
  refine ⟨fun j hj => ?_, fun j k hjk hk b hbj => ?_⟩
  · by_cases e : j = i
    · subst e; simp only [if_pos]; exact own_base hu hS
    · simp only [if_neg e]; exact own_belowV (h.1 j (by omega)) hb
  · have e1 : j ≠ i := by omega
    simp only [if_neg e1] at hbj
    have h1 := own_blkLt (h.1 j (by omega)) hbj
    by_cases e : k = i
    · simp only [if_pos e]
      intro e2
      have h2 := own_blkLt hu e2
      omega
    · simp only [if_neg e]
      exact h.2 j k hjk (by omega) b hbj
/-- What changes only a block of another kind keeps them. -/
theorem RowsV.kept {w w' : World} {S n i : Nat} {v : Nat → Value} {Q : Nat → List GF} (h : RowsV w S n i v Q) {b2 s2 n2 : Nat} {v2 : Value} {ys : List Value} {e2 : TypeId} (h2 : w.ownsRow b2 e2 s2 v2 n2 ys) (hne : 5 ≠ e2) (hg : w.grownBy w' v2.ownBlock) : RowsV w' S n i v Q :=
  ⟨fun j hj => (h.1 j hj).kept hg (own_ne (h.1 j hj) h2 hne), h.2⟩
theorem RowsV.on {w w' : World} {S n i : Nat} {v : Nat → Value} {Q : Nat → List GF} (h : RowsV w S n i v Q) (hb : Below w.heap.size w w') : RowsV w' S n i v Q :=
  ⟨fun j hj => own_belowV (h.1 j hj) hb, h.2⟩
theorem RowsV.congr {w : World} {S n i : Nat} {v : Nat → Value} {Q Q' : Nat → List GF} (h : RowsV w S n i v Q) (e : ∀ j, j < i → Q j = Q' j) : RowsV w S n i v Q' :=
  ⟨fun j hj => by rw [← e j hj]; exact h.1 j hj, h.2⟩
/-- One number of one row written. -/
theorem RowsV.store {w : World} {S n i : Nat} {v : Nat → Value} {Q : Nat → List GF} (h : RowsV w S n i v Q) {j g c : Nat} (hj : j < i) (hv : v j = .slice (some ⟨g, 0, none⟩) n c) (p : Nat) (x : GF) :
    RowsV (w.setCell ⟨g, p, none⟩ (.int .u8 (toI x))) S n i v (fun k => if k = j then (Q j).set p x else Q k) := by
  have hoj := h.1 j hj
  rw [hv] at hoj
  have hst := hoj.stored p (.int .u8 (toI x))
  refine ⟨fun k hk => ?_, h.2⟩
  by_cases e : k = j
  · subst e
    simp only [if_pos]
    rw [hv]
    have h1 := hst.1
    rw [map_set_u8, show (iL (Q k)).set p (toI x) = iL ((Q k).set p x) by simp [iL, List.map_set]] at h1
    exact h1
  · simp only [if_neg e]
    refine (h.1 k hk).kept hst.2 (Classical.byContradiction fun hc => ?_)
    have h3 : (v k).ownBlock = some g := Classical.byContradiction fun h4 => hc (Or.inr h4)
    have h5 : (v j).ownBlock = some g := by rw [hv]; rfl
    rcases Nat.lt_or_ge j k with h6 | h6
    · exact h.2 j k h6 hk g h5 h3
    · exact h.2 k j (by omega) hj g h3 h5
/-- Rows of rows out of them. -/
def listV (v : Nat → Value) (i : Nat) : List Value := (List.range i).map v
def listQ (Q : Nat → List GF) (i : Nat) : List (List GF) := (List.range i).map Q
theorem listV_next (v : Nat → Value) (u : Value) (i : Nat) : listV (fun j => if j = i then u else v j) (i + 1) = listV v i ++ [u] := by
  unfold listV
  rw [List.range_succ, List.map_append]
  congr 1
  · refine List.map_congr_left fun j hj => ?_
    have := List.mem_range.1 hj
    simp only [if_neg (show j ≠ i by omega)]
  · simp
theorem listV_get {v : Nat → Value} {i j : Nat} (h : j < i) : (listV v i)[j]? = some (v j) := by simp [listV, h]
theorem listQ_len (Q : Nat → List GF) (i : Nat) : (listQ Q i).length = i := by simp [listQ]
theorem listQ_row {Q : Nat → List GF} {i j : Nat} (h : j < i) : rw_ (listQ Q i) j = Q j := by
  unfold rw_ listQ; simp [List.getD_eq_getElem?_getD, h]
theorem RowsV.rv {w : World} {S n i : Nat} {v : Nat → Value} {Q : Nat → List GF} (h : RowsV w S n i v Q) : RV w (fun _ => True) (listV v i) (listQ Q i) := by
  refine ⟨by simp [listV, listQ], fun j hj => ?_⟩
  rw [listQ_len] at hj
  obtain ⟨a, c, e, hp, _⟩ := Pa.own (h.1 j hj)
  rw [listQ_row hj, listV_get hj, e, hp.len]
  refine ⟨a, c, rfl, hp.1.2.2.2.1, hp.1.2.2.2.2, hp.2, fun h0 => ?_⟩
  obtain ⟨b, off, e, hb, hc⟩ := hp.1.2.2.1 (by rw [length_iL, hp.len]; exact h0)
  exact ⟨b, off, e, hb, trivial, fun k hk => by have := hc k (by rw [length_iL, hp.len]; exact hk); rwa [getD_iL] at this⟩
theorem RowsV.width {w : World} {S n i : Nat} {v : Nat → Value} {Q : Nat → List GF} (h : RowsV w S n i v Q) {j : Nat} (hj : j < i) : (Q j).length = n := by
  obtain ⟨_, _, _, hp, _⟩ := Pa.own (h.1 j hj)
  exact hp.len
/-- Is one of the first i numbers of a column unlike? -/
def uqA (P Q : List (List GF)) (k i : Nat) : Bool := (List.range i).any fun j => decide (co (rw_ P j) k ≠ co (rw_ Q j) k)
theorem uqA_zero (P Q : List (List GF)) (k : Nat) : uqA P Q k 0 = false := rfl
theorem uqA_next (P Q : List (List GF)) (k i : Nat) : uqA P Q k (i + 1) = (uqA P Q k i || decide (co (rw_ P i) k ≠ co (rw_ Q i) k)) := by
  unfold uqA; rw [List.range_succ, List.any_append]; simp
theorem uqA_false {P Q : List (List GF)} {k i : Nat} (h : uqA P Q k i = false) : ∀ j, j < i → co (rw_ P j) k = co (rw_ Q j) k := fun j hj => by
  unfold uqA at h
  rw [List.any_eq_false] at h
  have := h j (List.mem_range.2 hj)
  simpa using this
theorem uqA_true {P Q : List (List GF)} {k i : Nat} (h : uqA P Q k i = true) : ∃ j, j < i ∧ co (rw_ P j) k ≠ co (rw_ Q j) k := by
  unfold uqA at h
  obtain ⟨j, hj, e⟩ := List.any_eq_true.1 h
  exact ⟨j, List.mem_range.1 hj, of_decide_eq_true e⟩
/-- Are the pieces the same there? -/
def eqS (P Q : List (List GF)) (n k : Nat) : Nat → Bool := fun i => decide (co (pcR P n (pl (i + 1))) k = co (pcR Q n (pl (i + 1))) k)
theorem apart_no {P Q : List (List GF)} {n N k : Nat} (hP : P.length ≤ 255) (hQ : Q.length = P.length) (hN : N ≤ 255) (hk : k < n) (h : uqA P Q k P.length = true) : cnS (eqS P Q n k) N < P.length := by
  rcases Nat.lt_or_ge (cnS (eqS P Q n k) N) P.length with h1 | h1
  · exact h1
  · obtain ⟨j, hj, hne⟩ := uqA_true h
    exact absurd (far_apart hP hQ hN hk h1 j hj) hne
theorem apart_all {P Q : List (List GF)} {n N k : Nat} (hQ : Q.length = P.length) (hk : k < n) (h : uqA P Q k P.length = false) : cnS (eqS P Q n k) N = N :=
  cnS_all fun i _ => decide_eq_true (same_pieces hQ hk (uqA_false h) _)
/-- uint(u) modulo d, as the walk may spell it. -/
theorem mod_bothC (u d : Int) (hd : 0 < d) : ∃ q : Nat, (IntKind.u64.wrap u).tmod d = (q : Int) ∧ (IntKind.u64.wrap u) % d = (q : Int) ∧ (q : Int) < d := by
  have h : IntKind.u64.wrap u = u % 18446744073709551616 := by rw [IntKind.wrap_u64]
  rw [h, Int.tmod_eq_emod_of_nonneg (by omega)]
  have h1 := Int.emod_nonneg (u % 18446744073709551616) (show d ≠ 0 by omega)
  have h2 := Int.emod_lt_of_pos (u % 18446744073709551616) hd
  exact ⟨((u % 18446744073709551616) % d).toNat, by omega, by omega, by omega⟩
end Go.Proofs.Ytmhjpdppippgkaa
