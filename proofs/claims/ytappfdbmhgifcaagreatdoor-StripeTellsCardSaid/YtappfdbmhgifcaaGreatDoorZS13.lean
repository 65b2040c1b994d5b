/- Texts of mine, one behind the other: Cg Ia Ec Ya Yb Yc Fl Yd Cd Ye. -/
import Derived.Test.YtappfdbmhgifcaaGreatDoorZS12
import Derived.Test.YtappfdbmhgifcaaGreatDoorZS11
/- Rows of one's own that can be written each by itself; how often, and whether, columns are unlike. -/
namespace Go.Proofs.YtappfdbmhgifcaaGreatDoor
open Go.ChangeShapes Go.WideShapes Go.ChangeAt Go.RowKit Go.Shelf GF
set_option linter.unusedVariables false
set_option linter.unusedSimpArgs false

theorem own_neC {w : World} {b1 b2 s1 s2 n1 n2 : Nat} {e1 e2 : TypeId} {v1 v2 : Value} {xs ys : List Value} (h1 : w.ownsRow b1 e1 s1 v1 n1 xs) (h2 : w.ownsRow b2 e2 s2 v2 n2 ys) (hne : e1 ≠ e2) : v1.ownBlock = none ∨ v1.ownBlock ≠ v2.ownBlock := by
  rcases h1.2 with ⟨rfl, _⟩ | ⟨g, c, cur, rfl, _, hh, _⟩
  · left; rfl
  · right
    intro e
    rcases h2.2 with ⟨rfl, _⟩ | ⟨g2, c2, cur2, rfl, _, hh2, _⟩
    · cases e
    · have e3 : g = g2 := by
        have : some g = some g2 := e
        injection this
      subst e3
      rw [hh] at hh2
      injection hh2 with h3
      injection h3 with _ h4 _
      exact hne h4
/-- The first i rows: each its own, no two in one block. -/
def RowsV (w : World) (S n i : Nat) (v : Nat → Value) (Q : Nat → List GF) : Prop :=
  (∀ j, j < i → w.ownsRow S 5 1 (v j) n ((iL (Q j)).map (Value.int .u8))) ∧ ∀ j k, j < k → k < i → ∀ b, (v j).ownBlock = some b → (v k).ownBlock ≠ some b
theorem RowsV.zero (w : World) (S n : Nat) (v : Nat → Value) (Q : Nat → List GF) : RowsV w S n 0 v Q := ⟨fun j hj => absurd hj (by omega), fun j k _ hk => absurd hk (by omega)⟩
theorem own_blkLt {w : World} {S s n : Nat} {e : TypeId} {v : Value} {xs : List Value} (h : w.ownsRow S e s v n xs) {b : Nat} (hb : v.ownBlock = some b) : S ≤ b ∧ b < w.heap.size := by
  rcases h.2 with ⟨rfl, _⟩ | ⟨g, c, cur, rfl, hg, hh, _⟩
  · cases hb
  · have : some g = some b := hb
    injection this with this
    subst this
    exact ⟨hg, (Array.getElem?_eq_some_iff.1 hh).1⟩
/-- One row more, behind all that there were. -/
theorem RowsV.more {w w' : World} {S n i : Nat} {v : Nat → Value} {Q : Nat → List GF} (h : RowsV w S n i v Q) (hb : Below w.heap.size w w') {u : Value} (hu : w'.ownsRow w.heap.size 5 1 u n ((iL (Q i)).map (Value.int .u8))) (hS : S ≤ w.heap.size) :
    RowsV w' S n (i + 1) (fun j => if j = i then u else v j) Q := by
  refine ⟨fun j hj => ?_, fun j k hjk hk b hbj => ?_⟩
  · by_cases e : j = i
    · subst e; simp only [if_pos]; exact own_base hu hS
    · simp only [if_neg e]; exact own_belowV (h.1 j (by omega)) hb
  · have e1 : j ≠ i := by omega
    simp only [if_neg e1] at hbj
    have h1 := own_blkLt (h.1 j (by omega)) hbj
    by_cases e : k = i
    · simp only [if_pos e]
      intro e2
      have h2 := own_blkLt hu e2
      omega
    · simp only [if_neg e]
      exact h.2 j k hjk (by omega) b hbj
/-- What changes only a block of another kind keeps them. -/
theorem RowsV.kept {w w' : World} {S n i : Nat} {v : Nat → Value} {Q : Nat → List GF} (h : RowsV w S n i v Q) {b2 s2 n2 : Nat} {v2 : Value} {ys : List Value} {e2 : TypeId} (h2 : w.ownsRow b2 e2 s2 v2 n2 ys) (hne : 5 ≠ e2) (hg : w.grownBy w' v2.ownBlock) : RowsV w' S n i v Q :=
  ⟨fun j hj => (h.1 j hj).kept hg (own_neC (h.1 j hj) h2 hne), h.2⟩
theorem RowsV.on {w w' : World} {S n i : Nat} {v : Nat → Value} {Q : Nat → List GF} (h : RowsV w S n i v Q) (hb : Below w.heap.size w w') : RowsV w' S n i v Q :=
  ⟨fun j hj => own_belowV (h.1 j hj) hb, h.2⟩
theorem RowsV.congr {w : World} {S n i : Nat} {v : Nat → Value} {Q Q' : Nat → List GF} (h : RowsV w S n i v Q) (e : ∀ j, j < i → Q j = Q' j) : RowsV w S n i v Q' :=
  ⟨fun j hj => by rw [← e j hj]; exact h.1 j hj, h.2⟩
/-- One number of one row written. -/
theorem RowsV.store {w : World} {S n i : Nat} {v : Nat → Value} {Q : Nat → List GF} (h : RowsV w S n i v Q) {j g c : Nat} (hj : j < i) (hv : v j = .slice (some ⟨g, 0, none⟩) n c) (p : Nat) (x : GF) :
    RowsV (w.setCell ⟨g, p, none⟩ (.int .u8 (toI x))) S n i v (fun k => if k = j then (Q j).set p x else Q k) := by
  have hoj := h.1 j hj
  rw [hv] at hoj
  have hst := hoj.stored p (.int .u8 (toI x))
  refine ⟨fun k hk => ?_, h.2⟩
  by_cases e : k = j
  · subst e
    simp only [if_pos]
    rw [hv]
    have h1 := hst.1
    rw [map_set_u8, show (iL (Q k)).set p (toI x) = iL ((Q k).set p x) by simp [iL, List.map_set]] at h1
    exact h1
  · simp only [if_neg e]
    refine (h.1 k hk).kept hst.2 (Classical.byContradiction fun hc => ?_)
    have h3 : (v k).ownBlock = some g := Classical.byContradiction fun h4 => hc (Or.inr h4)
    have h5 : (v j).ownBlock = some g := by rw [hv]; rfl
    rcases Nat.lt_or_ge j k with h6 | h6
    · exact h.2 j k h6 hk g h5 h3
    · exact h.2 k j (by omega) hj g h3 h5
/-- uint(u) modulo d, as the walk may spell it. -/
theorem mod_bothC (u d : Int) (hd : 0 < d) : ∃ q : Nat, (IntKind.u64.wrap u).tmod d = (q : Int) ∧ (IntKind.u64.wrap u) % d = (q : Int) ∧ (q : Int) < d := by
  have h : IntKind.u64.wrap u = u % 18446744073709551616 := by rw [IntKind.wrap_u64]
  rw [h, Int.tmod_eq_emod_of_nonneg (by omega)]
  have h1 := Int.emod_nonneg (u % 18446744073709551616) (show d ≠ 0 by omega)
  have h2 := Int.emod_lt_of_pos (u % 18446744073709551616) hd
  exact ⟨((u % 18446744073709551616) % d).toNat, by omega, by omega, by omega⟩
end Go.Proofs.YtappfdbmhgifcaaGreatDoor
/- Whole numbers as an argument. -/
namespace Go.Proofs.YtappfdbmhgifcaaGreatDoor
open Go.ChangeShapes Go.WideShapes Go.ChangeAt Go.RowKit Go.Shelf GF
set_option linter.unusedVariables false
set_option linter.unusedSimpArgs false

/-- An argument that is whole numbers. -/
def IA (w : World) (a : Option Addr) (L c : Nat) (ps : List Int) : Prop :=
  ps.length = L ∧ L ≤ c ∧ c ≤ maxLen ∧ (a = none → c = 0) ∧ (∀ i, -9223372036854775808 ≤ ps.getD i 0 ∧ ps.getD i 0 ≤ 9223372036854775807) ∧ (0 < L → ∃ b off, a = some ⟨b, off, none⟩ ∧ b < w.heap.size ∧ ∀ i, i < L → w.cell? ⟨b, off + i, none⟩ = some (.int .i64 (ps.getD i 0)))
theorem IA.on {w w' : World} {a : Option Addr} {L c : Nat} {ps : List Int} (h : IA w a L c ps) (hb : Below w.heap.size w w') : IA w' a L c ps := by
  obtain ⟨h1, h2, h3, h4, h5, h6⟩ := h
  refine ⟨h1, h2, h3, h4, h5, fun h0 => ?_⟩
  obtain ⟨b, off, e, hlt, hc⟩ := h6 h0
  exact ⟨b, off, e, by have := hb.size; omega, fun i hi => (hb.cell (p := ⟨b, off + i, none⟩) hlt).trans (hc i hi)⟩
theorem IA.bd {w : World} {a : Option Addr} {L c : Nat} {ps : List Int} (h : IA w a L c ps) : L ≤ c ∧ c ≤ 9223372036854775807 := ⟨h.2.1, by have := h.2.2.1; unfold maxLen at this; omega⟩
theorem IA.at_ {w : World} {a : Option Addr} {L c : Nat} {ps : List Int} (h : IA w a L c ps) {i : Nat} (hi : i < L) : ∃ b off, a = some ⟨b, off, none⟩ ∧ b < w.heap.size ∧ w.cell? ⟨b, off + i, none⟩ = some (.int .i64 (ps.getD i 0)) := by
  obtain ⟨h1, h2, h3, h4, h5, h6⟩ := h
  obtain ⟨b, off, e, hlt, hc⟩ := h6 (by omega)
  exact ⟨b, off, e, hlt, hc i hi⟩
theorem getD_drop (ps : List Int) (k i : Nat) : (ps.drop k).getD i 0 = ps.getD (k + i) 0 := by simp [List.getD_eq_getElem?_getD]
theorem getD_take {ps : List Int} {k i : Nat} (h : i < k) : (ps.take k).getD i 0 = ps.getD i 0 := by simp [List.getD_eq_getElem?_getD, List.getElem?_take, h]
theorem IA.drop {w : World} {b o L c : Nat} {ps : List Int} (h : IA w (some ⟨b, o, none⟩) L c ps) (k : Nat) : IA w (some ⟨b, o + k, none⟩) (L - k) (c - k) (ps.drop k) := by
  obtain ⟨h1, h2, h3, h4, h5, h6⟩ := h
  refine ⟨by rw [List.length_drop, h1], by omega, by omega, (fun e => by cases e), fun i => by rw [getD_drop]; exact h5 _, fun h0 => ?_⟩
  obtain ⟨b', off, e, hb, hc⟩ := h6 (by omega)
  cases e
  refine ⟨b, o + k, rfl, hb, fun i hi => ?_⟩
  rw [getD_drop, ← hc (k + i) (by omega)]
  congr 2
  omega
theorem IA.take {w : World} {a : Option Addr} {L c : Nat} {ps : List Int} (h : IA w a L c ps) {k : Nat} (hk : k ≤ L) : IA w a k c (ps.take k) := by
  obtain ⟨h1, h2, h3, h4, h5, h6⟩ := h
  refine ⟨by rw [List.length_take, h1]; omega, by omega, h3, h4, fun i => ?_, fun h0 => ?_⟩
  · by_cases hi : i < k
    · rw [getD_take hi]; exact h5 i
    · have : (ps.take k).getD i 0 = 0 := by rw [List.getD_eq_getElem?_getD, List.getElem?_eq_none (by rw [List.length_take]; omega)]; rfl
      rw [this]; omega
  · obtain ⟨b, off, e, hb, hc⟩ := h6 (by omega)
    exact ⟨b, off, e, hb, fun i hi => by rw [getD_take hi]; exact hc i (by omega)⟩
/-- Whole numbers of one's own, as an argument. -/
def intsV (zs : List Int) : List Value := zs.map (Value.int .i64)
theorem IA.own {w : World} {base : Nat} {v : Value} {n : Nat} {zs : List Int} (h : w.ownsRow base 3 1 v n (intsV zs)) (hz : ∀ z, z ∈ zs → 0 ≤ z ∧ z < 256) : ∃ a c, v = .slice a n c ∧ IA w a n c zs := by
  have hl : zs.length = n := by have := h.1; rw [intsV, List.length_map, Nat.mul_one] at this; exact this
  have hb : ∀ i, -9223372036854775808 ≤ zs.getD i 0 ∧ zs.getD i 0 ≤ 9223372036854775807 := fun i => by
    by_cases hi : i < zs.length
    · have e : zs.getD i 0 = zs[i] := by simp [List.getD_eq_getElem?_getD, List.getElem?_eq_getElem hi]
      rw [e]
      have := hz _ (List.getElem_mem hi)
      omega
    · have e : zs.getD i 0 = 0 := by rw [List.getD_eq_getElem?_getD, List.getElem?_eq_none (Nat.le_of_not_lt hi)]; rfl
      rw [e]; omega
  rcases h.2 with ⟨rfl, rfl⟩ | ⟨g, cap, cur, rfl, hg, hh, hn, hm, hs, ht⟩
  · exact ⟨none, 0, rfl, hl, Nat.le_refl _, Nat.zero_le _, fun _ => rfl, hb, fun h0 => absurd h0 (by omega)⟩
  · refine ⟨_, cap, rfl, hl, hn, hm, (fun h => by cases h), hb, fun h0 => ⟨g, 0, rfl, (Array.getElem?_eq_some_iff.1 hh).1, fun i hi => ?_⟩⟩
    rw [Nat.zero_add, h.cellAt i (by omega), intsV, List.getElem?_map, List.getElem?_eq_getElem (by omega)]
    simp [List.getD_eq_getElem?_getD, List.getElem?_eq_getElem (show i < zs.length by omega)]
end Go.Proofs.YtappfdbmhgifcaaGreatDoor
/- What package code's Decode answers: the contracts, as statements; whole numbers as an argument; what the law CodeDecodes gathers. -/
namespace Go.Proofs.YtappfdbmhgifcaaGreatDoor
open Go.ChangeShapes Go.WideShapes Go.ChangeAt Go.RowKit Go.Shelf GF
set_option linter.unusedVariables false
set_option linter.unusedSimpArgs false

theorem Mat.take {w : World} {a : Option Addr} {n c : Nat} {M : List (List GF)} (h : Mat w a n c M) {k : Nat} (hk : k ≤ n) : Mat w a k c (M.take k) := by
  obtain ⟨h1, h2, h3, h4, vs, h5, h6⟩ := h
  have hr : ∀ i, i < k → rw_ (M.take k) i = rw_ M i := fun i hi => by unfold rw_; simp [List.getD_eq_getElem?_getD, List.getElem?_take, hi]
  refine ⟨by rw [List.length_take]; omega, by omega, h3, h4, vs.take k, ⟨by rw [List.length_take, List.length_take, h5.1], fun i hi => ?_⟩, fun h0 => ?_⟩
  · have hik : i < k := by rw [List.length_take] at hi; omega
    obtain ⟨a', c', k1, k2⟩ := h5.2 i (by rw [List.length_take] at hi; omega)
    rw [hr i hik, List.getElem?_take, if_pos hik]
    exact ⟨a', c', k1, k2⟩
  · obtain ⟨b, off, e, hb, hc⟩ := h6 (by omega)
    exact ⟨b, off, e, hb, fun i hi => by rw [List.getElem?_take, if_pos hi]; exact hc i (by omega)⟩
/-- A block of bytes; what grows a block of other things keeps it. -/
def TyU (w : World) (b : Nat) : Prop := ∃ cur fz, w.heap[b]? = some (.cells cur 5 fz)
theorem TyU.below {w w' : World} {b B : Nat} (h : TyU w b) (hb : Below B w w') (hB : b < B) : TyU w' b := by
  obtain ⟨cur, fz, e⟩ := h
  exact ⟨cur, fz, by rw [hb.block b hB]; exact e⟩
theorem TyU.grown {w w' : World} {b base s n : Nat} {e : TypeId} {v : Value} {ys : List Value} (h : TyU w b) (h2 : w.ownsRow base e s v n ys) (hne : 5 ≠ e) (hg : w.grownBy w' v.ownBlock) : w'.heap[b]? = w.heap[b]? ∧ TyU w' b := by
  obtain ⟨cur, fz, hh⟩ := h
  have k : w'.heap[b]? = w.heap[b]? := hg.block b (Array.getElem?_eq_some_iff.1 hh).1 (fun e' => by
    rcases h2.2 with ⟨rfl, _⟩ | ⟨g2, c2, cur2, rfl, _, hh2, _⟩
    · cases e'
    · have e3 : b = g2 := by
        have : some b = some g2 := e'
        injection this
      subst e3
      rw [hh] at hh2
      injection hh2 with h3
      injection h3 with _ h4 _
      exact hne h4)
  exact ⟨k, cur, fz, by rw [k]; exact hh⟩
/-- A place. -/
def okP (z : Int) : Prop := 1 ≤ z ∧ z ≤ 255
instance (z : Int) : Decidable (okP z) := inferInstanceAs (Decidable (_ ∧ _))
/-- What the law reckons of any places: a place that can't be, a number seen, one seen twice. -/
def badB (ps : List Int) (t i : Nat) : Bool := (List.range i).any fun j => decide (j < t) && decide (¬ okP (ps.getD j 0))
def sawB (ps : List Int) (i : Nat) (z : Int) : Bool := (List.range i).any fun j => decide (ps.getD j 0 = z)
def dupB (ps : List Int) (t i : Nat) : Bool := (List.range i).any fun j => decide (j < t) && sawB ps j (ps.getD j 0)
theorem sawB_next (ps : List Int) (i : Nat) (z : Int) : sawB ps (i + 1) z = (sawB ps i z || decide (ps.getD i 0 = z)) := by simp [sawB, List.range_succ]
/-- What the law wants. -/
def wA (ps : List Int) (t i : Nat) : Int := if badB ps t i then 2 else 0
def wB (ps : List Int) (t L i : Nat) : Int := if badB ps t L then 2 else if dupB ps t i then 6 else 0

open Go.Maps in
/-- Which numbers a map holds. -/
abbrev keyZ (z : Int) : Lit := .int .i64 z
open Go.Maps in
def SeenZ (D : DataW Unit) (f : Int → Bool) : Prop := ∀ z : Int, D.atKey (keyZ z) (.lit (.bool false)) = .lit (.bool (f z))
open Go.Maps in
theorem SeenZ.put {D : DataW Unit} {ps : List Int} {i : Nat} (h : SeenZ D (sawB ps i)) (hT : Tidy D) : SeenZ (D.put (keyZ (ps.getD i 0)) (.lit (.bool true))) (sawB ps (i + 1)) := by
  intro z
  rw [sawB_next]
  by_cases e : ps.getD i 0 = z
  · subst e
    rw [atKey_put_same hT.isMap (by trivial)]; simp
  · rw [atKey_put_other (fun h => e (by injection h with _ h; exact h.symm)), h z, decide_eq_false e, Bool.or_false]
end Go.Proofs.YtappfdbmhgifcaaGreatDoor
/- Contracts of code's possible, and value: what rows tell of a place, whether the place is one of theirs or not. -/
namespace Go.Proofs.YtappfdbmhgifcaaGreatDoor
open Go.ChangeShapes Go.WideShapes Go.ChangeAt Go.RowKit Go.Shelf GF
set_option linter.unusedVariables false
set_option linter.unusedSimpArgs false
set_option maxRecDepth 100000

theorem can_yes (n : Int) (w : World) (h1 : 1 ≤ n) (h2 : n ≤ 255) :
    Calls Tryz.prog 64 #[.int .i64 n] w fun e w' => e = .returned (.bool true) ∧ w = w' := by
  go_enter Tryz.func64, Tryz.ntmps64
  go_wp2
  go_ret
  exact ⟨rfl, rfl⟩
/-- Where y stands first, if it does. -/
theorem indexY_any (a : Option Addr) (L cap : Nat) (X : List GF) (y : GF) (j : Nat) (r : Int) (w : World) (hx : Pa w a L cap X) (hj : j ≤ L) (hn : ∀ k, k < j → co X k ≠ y) (hz : j < L → co X j = y) (hr : (j < L → r = (j : Int)) ∧ (j = L → r = -1)) :
    Calls Tryz.prog 101 #[.slice a L cap, .int .u8 (toI y)] w fun e w' => e = .returned (.int .i64 r) ∧ w = w' := by
  have HX := Lib.hid hx
  have HN := Lib.hid hn
  have HZ := Lib.hid hz
  have HR := Lib.hid hr
  have hcap := hx.bd
  obtain ⟨u, hu⟩ : ∃ u, u = toI y := ⟨_, rfl⟩
  have HU := Lib.hid hu
  rw [← hu]
  clear hx hn hz hr hu
  go_enter Tryz.func101, Tryz.ntmps101
  go_wp2
  go_loopw [8] (fun i wr => ∃ k : Nat, k ≤ j ∧ i = .int .i64 (k : Nat) ∧ wr = w)
    (fun i _ => L - (intOf i).toNat)
  case atStart => exact ⟨0, Nat.zero_le _, rfl, rfl⟩
  case round =>
    obtain ⟨k, hk, rfl, rfl⟩ := hrel
    by_cases hlt : k < L
    · obtain ⟨bx, ox, rfl, hbx, hcx⟩ := HX.out.at_ hlt
      have q2 : (k : Int) < (L : Int) := by omega
      have q3 : (0 : Int) ≤ (k : Int) := by omega
      by_cases e : k = j
      · have hc0 : co X k = y := by rw [e]; exact HZ.out (by omega)
        rw [hc0, ← HU.out] at hcx
        have q4 : r = (k : Int) := by rw [HR.out.1 (by omega), e]
        have Q4 := Lib.hid q4
        clear hc0 e q4
        go_wp2
        go_ret
        exact ⟨by rw [Q4.out]; rfl, rfl⟩
      · have hc0 := HN.out k (by omega)
        obtain ⟨v, hv⟩ : ∃ v, v = toI (co X k) := ⟨_, rfl⟩
        have q5 : v ≠ u := fun h => hc0 (toI_inj (by rw [← hv, h, HU.out]))
        have q6 : (v == u) = false := by rw [beq_eq_false_iff_ne]; exact q5
        have q7 : (u == v) = false := by rw [beq_eq_false_iff_ne]; exact Ne.symm q5
        have hk1 : k + 1 ≤ j := by omega
        rw [← hv] at hcx
        clear hc0 q5 e hv
        go_wp2
        go_roundw
        case rel => exact ⟨k + 1, by omega, by go_num, by trivial⟩
        case measure => simp [intOf]; omega
    · have q4 : r = -1 := HR.out.2 (by omega)
      have Q4 := Lib.hid q4
      obtain rfl : L = k := by omega
      clear q4
      go_wp2
      go_ret
      exact ⟨by rw [Q4.out]; rfl, rfl⟩
theorem firstY (X : List GF) (y : GF) (L : Nat) : ∃ j, j ≤ L ∧ (∀ k, k < j → co X k ≠ y) ∧ (j < L → co X j = y) := by
  induction L with
  | zero => exact ⟨0, Nat.le_refl _, fun k hk => absurd hk (by omega), fun h => absurd h (by omega)⟩
  | succ L ih =>
    obtain ⟨j, h1, h2, h3⟩ := ih
    by_cases h : j < L
    · exact ⟨j, by omega, h2, fun _ => h3 h⟩
    · obtain rfl : j = L := by omega
      by_cases h0 : co X j = y
      · exact ⟨j, by omega, h2, fun _ => h0⟩
      · exact ⟨j + 1, Nat.le_refl _, fun k hk => by
          rcases Nat.lt_succ_iff_lt_or_eq.1 hk with h4 | h4
          · exact h2 k h4
          · rw [h4]; exact h0, fun h => absurd h (by omega)⟩
/-- At a place of theirs rows tell the row there. -/
theorem at_mine {X : List GF} {R : Nat → List GF} {n i : Nat} (hX : Apart X) (hi : i < X.length) (hn : (R i).length = n) : atR X R (co X i) n = R i := by
  refine ext_co (by rw [atR_len, hn]) fun j hj => ?_
  rw [atR_len] at hj
  rw [atR_co hj]
  have e := ev_lag X ((List.range X.length).map fun k => co (R k) j) (co X i)
  have c : ∀ k, k < X.length → co ((List.range X.length).map fun k => co (R k) j) k = co (R k) j := fun k hk => by
    show List.getD _ _ _ = _
    simp [List.getD_eq_getElem?_getD, hk]
  rw [ev_lag_at hX hi, c i hi] at e
  rw [e]
  exact sm_congr fun k hk => by rw [c k hk, mul_comm]
set_option maxHeartbeats 1000000 in
theorem valueO (b L n : Nat) (aX : Option Addr) (cX : Nat) (X : List GF) (aR : Option Addr) (cR : Nat) (R : List (List GF)) (x : GF) (w : World) (hf : Fld w b) (hX : Pa w aX L cX X) (hR : Mat w aR L cR R) (hA : Apart X) (hL1 : 1 ≤ L) (hL : L ≤ 255) (hw : ∀ k, k < L → (rw_ R k).length = n) (hn : n ≤ 1000) :
    Calls Tryz.prog 132 #[.pointer (some ⟨b, 0, none⟩), .slice aX L cX, .slice aR L cR, .int .u8 (toI x)] w fun e w' =>
      ∃ v, e = .returned v ∧ w'.ownsRow w.heap.size 5 1 v n ((iL (atR X (rw_ R) x n)).map (Value.int .u8)) ∧ Below w.heap.size w w' := by
  obtain ⟨j, h1, h2, h3⟩ := firstY X x L
  have hb1 := hX.bd
  have hb2 := hR.bd
  by_cases hj : j < L
  · have HI := Lib.hid (indexY_any aX L cX X x j (j : Int) w hX h1 h2 h3 ⟨fun _ => rfl, fun e => absurd e (by omega)⟩)
    obtain ⟨bx, ox, a1, c1, rfl, hbx, hc1, hp1⟩ := hR.row hj
    have HE := Lib.hid (show atR X (rw_ R) x n = rw_ R j by rw [← h3 hj]; exact at_mine hA (by rw [hX.len]; exact hj) (hw j hj))
    have HC := Lib.hid (clone_any a1 _ c1 (rw_ R j) w hp1 (by rw [hw j hj]; omega))
    have hbd := hp1.bd
    rw [hw j hj] at hc1 HC hbd
    have q0 : (0 : Int) ≤ (j : Int) := by omega
    have q1 : (j : Int) < (L : Int) := by omega
    clear hf hX hR hA hL1 hw hn h1 h2 h3 hp1 hj
    go_enter Tryz.func132, Tryz.ntmps132
    go_wp2_with (first
      | (go_at_call 101; refine HI.out.mono ?_; rintro e w' ⟨rfl, rfl⟩)
      | (go_at_call 154; go_loud (refine HC.out.mono ?_; rintro e w2 ⟨v, rfl, ho, hb⟩; obtain ⟨a2, c2, hv2, _, _, _, _, _⟩ := own_form ho; subst hv2; have HO := Lib.hid ho; have HB := Lib.hid hb; clear ho hb)))
    go_ret
    exact ⟨_, rfl, by rw [HE.out]; exact HO.out, HB.out⟩
  · have HI := Lib.hid (indexY_any aX L cX X x j (-1) w hX h1 h2 h3 ⟨fun h => absurd h hj, fun _ => rfl⟩)
    have HT := Lib.hid (atO b L n aX cX X aR cR R x w hf hX hR hA hL1 hL hw hn)
    clear hf hX hR hA hL1 hw hn h1 h2 h3 hj
    go_enter Tryz.func132, Tryz.ntmps132
    go_wp2_with (first
      | (go_at_call 101; refine HI.out.mono ?_; rintro e w' ⟨rfl, rfl⟩)
      | (go_at_call 155; go_loud (refine HT.out.mono ?_; rintro e w2 ⟨g, rfl, ho, hb⟩; have HO := Lib.hid ho; have HB := Lib.hid hb; clear ho hb)))
    go_ret
    exact ⟨_, rfl, HO.out, HB.out⟩
end Go.Proofs.YtappfdbmhgifcaaGreatDoor
/- Contracts of code's uneven (slices.ContainsFunc, IndexFunc at its function value), and of the same at Decode's function value. -/
namespace Go.Proofs.YtappfdbmhgifcaaGreatDoor
open Go.ChangeShapes Go.WideShapes Go.ChangeAt Go.RowKit Go.Shelf GF
set_option linter.unusedVariables false
set_option linter.unusedSimpArgs false
set_option maxRecDepth 100000

theorem litOne (w : World) (v : Value) (e : TypeId) : (w.alloc (.cells #[v] e)).cell? ⟨w.heap.size, 0, none⟩ = some v := by simp
/-- uneven's function value: has the row another length than the first one? -/
theorem unev1_any (Bx : Nat) (ai : Option Addr) (m ci N cR m0 : Nat) (a0 : Option Addr) (c0 : Nat) (b off : Nat) (W : World) (r : Bool) (hx : W.cell? ⟨Bx, 0, none⟩ = some (.slice (some ⟨b, off, none⟩) N cR)) (h0 : W.cell? ⟨b, off, none⟩ = some (.slice a0 m0 c0)) (hN : 0 < N) (hb1 : N ≤ cR ∧ cR ≤ 9223372036854775807) (hb2 : m ≤ ci ∧ ci ≤ 9223372036854775807) (hb3 : m0 ≤ c0 ∧ c0 ≤ 9223372036854775807) (hr : ((m : Int) != (m0 : Int)) = r) :
    Calls Tryz.prog 131 #[.slice ai m ci, .pointer (some ⟨Bx, 0, none⟩)] W fun e w' => e = .returned (.bool r) ∧ W = w' := by
  have q0 : (0 : Int) < (N : Int) := by omega
  subst hr
  go_enter Tryz.func131, Tryz.ntmps131
  go_wp2
  go_ret
  exact ⟨rfl, rfl⟩
/-- The first j rows are as long as the first one; the next, if there is one, is not. -/
theorem unevIdx (Bx : Nat) (aR : Option Addr) (N cR : Nat) (R : List (List GF)) (j : Nat) (w : World) (hx : w.cell? ⟨Bx, 0, none⟩ = some (.slice aR N cR)) (hR : Mat w aR N cR R) (hw : ∀ k, k < N → (rw_ R k).length ≤ 1000) (hj : j ≤ N) (hz : ∀ i, i < j → (rw_ R i).length = (rw_ R 0).length) (hn : j < N → (rw_ R j).length ≠ (rw_ R 0).length) :
    Calls Tryz.prog 93 #[.slice aR N cR, .func (.func 131) #[] #[.pointer (some ⟨Bx, 0, none⟩)]] w fun e w' => e = .returned (.int .i64 (if j < N then (j : Int) else -1)) ∧ w = w' := by
  have HR := Lib.hid hR
  have HX := Lib.hid hx
  have HW := Lib.hid hw
  have HZ := Lib.hid hz
  have HN := Lib.hid hn
  have hbd := hR.bd
  clear hR hw hz hn hx
  go_enter Tryz.func93, Tryz.ntmps93
  go_wp2
  go_loop [8] (fun k => ∃ i : Nat, i ≤ j ∧ i ≤ N ∧ k = .int .i64 (i : Nat)) (fun k => N - (intOf k).toNat)
  case atStart => exact ⟨0, Nat.zero_le _, Nat.zero_le _, rfl⟩
  case round =>
    obtain ⟨i, hi, hiL, rfl⟩ := hrel
    by_cases hlt : i < N
    · have qi : (i : Int) < (N : Int) := by omega
      have qi0 : (0 : Int) ≤ (i : Int) := by omega
      obtain ⟨b, off, ai, ci, rfl, hb, hcell, hpa⟩ := HR.out.row hlt
      obtain ⟨b2, o2, a0, c0, e0, hb0, hc0, hp0⟩ := HR.out.row (i := 0) (by omega)
      cases e0
      rw [Nat.add_zero] at hc0
      have hd1 := hpa.bd
      have hd0 := hp0.bd
      obtain ⟨m, hm⟩ : ∃ m, m = (rw_ R i).length := ⟨_, rfl⟩
      obtain ⟨m0, hm0⟩ : ∃ m, m = (rw_ R 0).length := ⟨_, rfl⟩
      have HM := Lib.hid hm
      have HM0 := Lib.hid hm0
      rw [← hm] at hcell hd1
      rw [← hm0] at hc0 hd0
      clear hpa hp0 hm hm0
      by_cases hij : i < j
      · have HC := Lib.hid (unev1_any Bx ai m ci N cR m0 a0 c0 b off w false HX.out hc0 (by omega) hbd hd1 hd0 (by have := HZ.out i hij; rw [← HM.out, ← HM0.out] at this; subst this; simp))
        clear hc0
        go_wp2_with (go_at_call 131; refine HC.out.mono ?_; rintro e w' ⟨rfl, rfl⟩)
        go_round
        case rel => exact ⟨i + 1, by omega, by omega, by go_num⟩
        case measure => simp [intOf]; omega
      · obtain rfl : j = i := by omega
        have HC := Lib.hid (unev1_any Bx ai m ci N cR m0 a0 c0 b off w true HX.out hc0 (by omega) hbd hd1 hd0 (by have := HN.out hlt; rw [← HM.out, ← HM0.out] at this; rw [bne_iff_ne]; omega))
        clear hc0
        go_wp2_with (go_at_call 131; refine HC.out.mono ?_; rintro e w' ⟨rfl, rfl⟩)
        go_ret
        exact ⟨rfl, rfl⟩
    · obtain rfl : N = i := by omega
      have hjL : j = N := by omega
      have hn0 : ¬ j < N := by omega
      clear hjL
      go_wp2
      go_ret
      exact ⟨rfl, rfl⟩
theorem unevCon (Bx : Nat) (aR : Option Addr) (N cR : Nat) (R : List (List GF)) (j : Nat) (r : Bool) (w : World) (hx : w.cell? ⟨Bx, 0, none⟩ = some (.slice aR N cR)) (hR : Mat w aR N cR R) (hw : ∀ k, k < N → (rw_ R k).length ≤ 1000) (hj : j ≤ N) (hz : ∀ i, i < j → (rw_ R i).length = (rw_ R 0).length) (hn : j < N → (rw_ R j).length ≠ (rw_ R 0).length) (hr : r = decide (j < N)) :
    Calls Tryz.prog 66 #[.slice aR N cR, .func (.func 131) #[] #[.pointer (some ⟨Bx, 0, none⟩)]] w fun e w' => e = .returned (.bool r) ∧ w = w' := by
  have HI := unevIdx Bx aR N cR R j w hx hR hw hj hz hn
  have hbd := hR.bd
  by_cases h : j < N
  · rw [if_pos h] at HI
    have HH := Lib.hid HI
    have q : (0 : Int) ≤ (j : Int) := by omega
    have Hr := Lib.hid (hr.trans (decide_eq_true h))
    clear hx hR hw hz hn hr HI
    go_enter Tryz.func66, Tryz.ntmps66
    go_wp2_with (go_at_call 93; refine HH.out.mono ?_; rintro e w' ⟨rfl, rfl⟩)
    go_ret
    exact ⟨by rw [Hr.out]; rfl, rfl⟩
  · rw [if_neg h] at HI
    have HH := Lib.hid HI
    have Hr := Lib.hid (hr.trans (decide_eq_false h))
    clear hx hR hw hz hn hr HI
    go_enter Tryz.func66, Tryz.ntmps66
    go_wp2_with (go_at_call 93; refine HH.out.mono ?_; rintro e w' ⟨rfl, rfl⟩)
    go_ret
    exact ⟨by rw [Hr.out]; rfl, rfl⟩
theorem unev_first (R : List (List GF)) (N : Nat) : ∃ j, j ≤ N ∧ (∀ i, i < j → (rw_ R i).length = (rw_ R 0).length) ∧ (j < N → (rw_ R j).length ≠ (rw_ R 0).length) := by
  induction N with
  | zero => exact ⟨0, Nat.le_refl _, fun i hi => absurd hi (by omega), fun h => absurd h (by omega)⟩
  | succ N ih =>
    obtain ⟨j, h1, h2, h3⟩ := ih
    by_cases h : j < N
    · exact ⟨j, by omega, h2, fun _ => h3 h⟩
    · obtain rfl : j = N := by omega
      by_cases h0 : (rw_ R j).length = (rw_ R 0).length
      · exact ⟨j + 1, Nat.le_refl _, fun k hk => by
          rcases Nat.lt_succ_iff_lt_or_eq.1 hk with h4 | h4
          · exact h2 k h4
          · rw [h4]; exact h0, fun h => absurd h (by omega)⟩
      · exact ⟨j, by omega, h2, fun _ => h0⟩
theorem unev_any (aR : Option Addr) (N cR : Nat) (R : List (List GF)) (r : Bool) (w : World) (hR : Mat w aR N cR R) (hw : ∀ k, k < N → (rw_ R k).length ≤ 1000) (hr : r = true ↔ ∃ i, i < N ∧ (rw_ R i).length ≠ (rw_ R 0).length) :
    Calls Tryz.prog 108 #[.slice aR N cR] w fun e w' => e = .returned (.bool r) ∧ Below w.heap.size w w' := by
  obtain ⟨j, h1, h2, h3⟩ := unev_first R N
  have hA := (Below.refl w.heap.size w).alloc (Nat.le_refl _) (.cells #[.slice aR N cR] 28)
  have hrr : r = decide (j < N) := by
    rw [Bool.eq_iff_iff, decide_eq_true_eq, hr]
    constructor
    · rintro ⟨i, hi, he⟩
      rcases Nat.lt_or_ge j N with h | h
      · exact h
      · exact absurd (h2 i (by omega)) he
    · exact fun h => ⟨j, h, h3 h⟩
  have HC := Lib.hid (unevCon w.heap.size aR N cR R j r _ (litOne w (.slice aR N cR) 28) (hR.on hA) hw h1 h2 h3 hrr)
  have HA := Lib.hid hA
  have hbd := hR.bd
  clear hR hw hr hrr h2 h3 h1 hA
  go_enter Tryz.func108, Tryz.ntmps108
  go_wp2_with (go_at_call 66; refine HC.out.mono ?_; rintro e w' ⟨rfl, rfl⟩)
  go_ret
  exact ⟨rfl, HA.out⟩

end Go.Proofs.YtappfdbmhgifcaaGreatDoor
/- Contract of code's values: what rows tell of places one behind the other. -/
namespace Go.Proofs.YtappfdbmhgifcaaGreatDoor
open Go.ChangeShapes Go.WideShapes Go.ChangeAt Go.RowKit Go.Shelf GF
set_option linter.unusedVariables false
set_option linter.unusedSimpArgs false
set_option maxRecDepth 100000

/-- What rows tell of K places from fst on. -/
def valM (X : List GF) (R : Nat → List GF) (n fst K : Nat) : List (List GF) := (List.range K).map fun i => atR X R (pl (fst + i)) n
theorem valM_next (X : List GF) (R : Nat → List GF) (n fst K : Nat) : valM X R n fst (K + 1) = valM X R n fst K ++ [atR X R (pl (fst + K)) n] := by simp [valM, List.range_succ]
/-- A new block of bytes. -/
def NewU (w : World) (B : Nat) : Nat → Prop := fun b => B ≤ b ∧ TyU w b
theorem RV.onN {w w' : World} {B : Nat} {vs : List Value} {M : List (List GF)} (h : RV w (NewU w B) vs M) (hb : Below w.heap.size w w') : RV w' (NewU w' B) vs M :=
  h.keep hb.size (fun b hlt ht => ⟨⟨ht.1, ht.2.below hb hlt⟩, hb.block b hlt⟩)
theorem RV.grownN {w w' : World} {B : Nat} {vs : List Value} {M : List (List GF)} (h : RV w (NewU w B) vs M) {base s n : Nat} {e : TypeId} {v : Value} {ys : List Value} (h2 : w.ownsRow base e s v n ys) (hne : 5 ≠ e) (hg : w.grownBy w' v.ownBlock) : RV w' (NewU w' B) vs M :=
  h.keep hg.size (fun b _ ht => ⟨⟨ht.1, (ht.2.grown h2 hne hg).2⟩, (ht.2.grown h2 hne hg).1⟩)
theorem RV.moreN {w : World} {B B' : Nat} {vs : List Value} {M : List (List GF)} (h : RV w (NewU w B) vs M) {v : Value} {n : Nat} {P : List GF} (ho : w.ownsRow B' 5 1 v n ((iL P).map (Value.int .u8))) (hB : B ≤ B') : RV w (NewU w B) (vs ++ [v]) (M ++ [P]) := by
  obtain ⟨a, c, rfl, hp, hnew⟩ := Pa.own ho
  have hl := hp.len
  have := h.more (P := P) (a := a) (c := c) (by rw [hl]; exact hp) (fun b off e _ => by
    refine ⟨Nat.le_trans hB (hnew b off e).1, ?_⟩
    rcases ho.2 with ⟨h1, _⟩ | ⟨g, cap, cur, h1, _, hh, _⟩
    · cases h1; cases e
    · cases h1; cases e; exact ⟨cur, _, hh⟩)
  rw [hl] at this
  exact this
theorem own_emptyV (w : World) (e : TypeId) : (w.alloc (.cells #[] e)).ownsRow w.heap.size e 1 (.slice (some ⟨w.heap.size, 0, none⟩) 0 0) 0 [] :=
  World.ownsRow_lit (base := w.heap.size) (e := e) (size := 1) w #[] 0 (Nat.le_refl _) (Nat.zero_le _) rfl
set_option maxHeartbeats 2000000 in
theorem valuesO (b L n fst lst K : Nat) (aX : Option Addr) (cX : Nat) (X : List GF) (aR : Option Addr) (cR : Nat) (R : List (List GF)) (w : World) (hf : Fld w b) (hX : Pa w aX L cX X) (hR : Mat w aR L cR R) (hA : Apart X) (hL1 : 1 ≤ L) (hL : L ≤ 255) (hw : ∀ k, k < L → (rw_ R k).length = n) (hn : n ≤ 1000) (h1 : 1 ≤ fst) (h2 : lst ≤ 255) (hK : fst + K = lst + 1) :
    Calls Tryz.prog 109 #[.pointer (some ⟨b, 0, none⟩), .slice aX L cX, .slice aR L cR, .int .i64 (fst : Nat), .int .i64 (lst : Nat)] w fun e w' =>
      ∃ a c, e = .returned (.slice a K c) ∧ ∃ vs, w'.ownsRow w.heap.size 22 1 (.slice a K c) K vs ∧ RV w' (NewU w' w.heap.size) vs (valM X (rw_ R) n fst K) ∧ Below w.heap.size w w' := by
  obtain ⟨i22, hi, hz0, hz1, hz2⟩ := info_parts infoR
  have HI := Lib.hid (And.intro hi (And.intro hz0 (And.intro hz1 hz2)))
  have HF := Lib.hid hf; have HX := Lib.hid hX; have HR := Lib.hid hR; have HA := Lib.hid hA; have HW := Lib.hid hw
  have HC := Lib.hid (And.intro hL1 (And.intro hL (And.intro hn (And.intro h1 (And.intro h2 hK)))))
  have hb1 := hX.bd
  have hb2 := hR.bd
  have hO0 := Lib.hid (own_emptyV w 22)
  have hB0 : Hid (Below w.heap.size w (w.alloc (.cells #[] 22))) := Lib.hid ((Below.refl _ _).alloc (Nat.le_refl _) _)
  clear hf hX hR hA hL1 hL hw hn h1 h2 hK hi hz0 hz1 hz2
  go_enter Tryz.func109, Tryz.ntmps109
  go_wp2
  go_loopw [11, 12] (fun o s wr => ∃ (k x : Nat) (a : Option Addr) (c : Nat) (vs : List Value), k ≤ K ∧ x = fst + k ∧ s = .int .i64 (x : Nat) ∧ o = .slice a k c ∧ Hid (wr.ownsRow w.heap.size 22 1 (.slice a k c) k vs) ∧ Hid (RV wr (NewU wr w.heap.size) vs (valM X (rw_ R) n fst k)) ∧ Hid (Below w.heap.size w wr))
    (fun _ s _ => lst + 1 - (intOf s).toNat)
  case atStart => exact ⟨0, fst, _, 0, [], Nat.zero_le _, rfl, rfl, rfl, hO0, Lib.hid (RV.nil _ _), hB0⟩
  case round =>
    obtain ⟨k, x, a, c, vs, hk, hx, rfl, rfl, hO, hV, hB⟩ := hrel
    rename World => w1
    have HXE := Lib.hid hx
    by_cases hlt : k < K
    · have q1 : (x : Int) ≤ (lst : Int) := by have := HC.out; omega
      have qb : 1 ≤ x ∧ x ≤ 255 := by have := HC.out; omega
      have QB := Lib.hid qb
      have q2 : (x : Int) ≤ 255 := by omega
      have q3 : (0 : Int) ≤ (x : Int) := by omega
      have k1 : ∀ [Inhabited Unit], IntKind.u8.wrap (x : Int) = toI (pl x) := by
        intro _
        rw [pl_I (by omega), IntKind.wrap_u8]; omega
      have HVA := Lib.hid (valueO b L n aX cX X aR cR R (pl x) w1 (HF.out.below hB.out) (HX.out.on hB.out) (HR.out.on hB.out) HA.out HC.out.1 HC.out.2.1 HW.out HC.out.2.2.1)
      have HKL := Lib.hid hlt
      have HM := Lib.hid (show valM X (rw_ R) n fst (k + 1) = valM X (rw_ R) n fst k ++ [atR X (rw_ R) (pl x) n] by rw [valM_next, ← hx])
      clear hlt hk hx qb
      go_wp2_with (first
        | (go_at_call 132; go_loud (refine HVA.out.mono ?_; rintro e w3 ⟨v3, rfl, ho3, hb3⟩; obtain ⟨a3, c3, hv3, _, _, _, _, _⟩ := own_form ho3; subst hv3; have HRV := Lib.hid (((hV.out.onN hb3).moreN ho3 hB.out.size).onN ((Below.refl _ _).alloc (Nat.le_refl _) (.cells #[.slice a3 n c3] 22))); have HB3 := Lib.hid (bt hB.out hb3); have HO3 := Lib.hid ((own_belowV hO.out hb3).alloc (.cells #[.slice a3 n c3] 22)); clear ho3 hb3))
        | ((with_reducible show wpList _ _ _ (⟨some 28, _, _, _, _, _⟩ :: _) _ _); go_loud (refine wpList_append_own _ rfl (.tmp 20) (.tmp 27) 28 rfl w.heap.size 22 i22 (.slice none 0 0) 1 24 Tryz.underlying28 HI.out.1 HI.out.2.1 HI.out.2.2.1 HI.out.2.2.2 rfl (by decide) _ k vs rfl HO3.out _ 1 1 [_] rfl rfl (lit_cellsV _ _ _) (by intro u hu; cases List.mem_singleton.1 hu; rfl) (by unfold maxLen; have := HKL.out; have := HC.out; omega) (by have := HKL.out; have := HC.out; omega) (by have := HB3.out.size; simp; omega) ?_); go_loud (intro v1 wc hown1 hg1 _; have hbel := (HB3.out.alloc HB3.out.size (.cells #[.slice a3 n c3] 22)).grown hg1 (by have := HB3.out.size; simp; omega) (fun z hz => (HO3.out.lt z hz).1); have HRG := Lib.hid (HRV.out.grownN HO3.out (by decide) hg1); obtain ⟨a1, c1, hv1⟩ := own_sliceV hown1; subst hv1; have HO1 := Lib.hid hown1; have HN1 := Lib.hid hbel; clear hown1 hg1 hbel)))
      rw [← HM.out] at HRG
      go_roundw
      case rel => exact ⟨k + 1, x + 1, a1, c1, _, HKL.out, by have := HXE.out; omega, by go_num, rfl, HO1, HRG, HN1⟩
      case measure => simp [intOf]; have := HKL.out; have := HXE.out; have := HC.out; omega
    · obtain rfl : k = K := by omega
      have q1 : ¬ (x : Int) ≤ (lst : Int) := by have := HC.out; omega
      clear hlt
      go_wp2
      go_ret
      exact ⟨_, _, rfl, vs, hO.out, hV.out, hB.out⟩
end Go.Proofs.YtappfdbmhgifcaaGreatDoor
/- A row of bytes that is filled number by number. No program is named here. -/
namespace Go.Proofs.YtappfdbmhgifcaaGreatDoor
open Go.ChangeShapes Go.WideShapes Go.ChangeAt Go.RowKit Go.Shelf GF
set_option linter.unusedVariables false
set_option linter.unusedSimpArgs false
set_option maxRecDepth 100000

theorem set_nextY {vs : List Value} {n : Nat} (z v : Value) (h : vs.length < n) : (vs ++ List.replicate (n - vs.length) z).set vs.length v = (vs ++ [v]) ++ List.replicate (n - (vs.length + 1)) z := by
  rw [List.set_append_right _ _ (Nat.le_refl _), Nat.sub_self, show n - vs.length = (n - (vs.length + 1)) + 1 by omega, List.replicate_succ, List.set_cons_zero, List.append_assoc]
  rfl
/-- The first k of t places, and noughts. -/
def plV (P : List GF) (t k : Nat) : List Value := (iL (P.take k)).map (Value.int .u8) ++ List.replicate (t - k) (.int .u8 0)
theorem plV_zero (P : List GF) (t : Nat) : plV P t 0 = (List.replicate t (0 : Int)).map (Value.int .u8) := by simp [plV, iL]
theorem plV_all {P : List GF} {t : Nat} (h : P.length = t) : plV P t t = (iL P).map (Value.int .u8) := by unfold plV; rw [List.take_of_length_le (by omega), Nat.sub_self]; simp
theorem plV_len {P : List GF} {t k : Nat} (h : P.length = t) (hk : k ≤ t) : (plV P t k).length = t := by simp [plV, iL, h]; omega
theorem plV_set {P : List GF} {t k : Nat} (h : P.length = t) (hk : k < t) : (plV P t k).set k (.int .u8 (toI (co P k))) = plV P t (k + 1) := by
  have hl : ((iL (P.take k)).map (Value.int .u8)).length = k := by simp [iL]; omega
  have := set_nextY (vs := (iL (P.take k)).map (Value.int .u8)) (n := t) (.int .u8 0) (.int .u8 (toI (co P k))) (by omega)
  rw [hl] at this
  unfold plV
  rw [this]
  have e : P[k]? = some (co P k) := by rw [List.getElem?_eq_getElem (by omega), co_lt (by omega)]
  rw [List.take_add_one, e]
  simp [iL]
end Go.Proofs.YtappfdbmhgifcaaGreatDoor
/- Contracts of code's encoded, Encode, Piece. -/
namespace Go.Proofs.YtappfdbmhgifcaaGreatDoor
open Go.ChangeShapes Go.WideShapes Go.ChangeAt Go.RowKit Go.Shelf GF
set_option linter.unusedVariables false
set_option linter.unusedSimpArgs false
set_option maxRecDepth 100000

set_option maxHeartbeats 2000000 in
theorem encO (b t n fst lst K : Nat) (N : Int) (aR : Option Addr) (cR : Nat) (R : List (List GF)) (w : World) (hf : Fld w b) (hR : Mat w aR t cR R) (ht : 1 ≤ t) (htN : (t : Int) ≤ N) (ht2 : t ≤ 255) (hw : ∀ k, k < t → (rw_ R k).length = n) (hn : n ≤ 1000) (h1 : 1 ≤ fst) (hl1 : 1 ≤ lst) (h2 : lst ≤ 255) (hK : fst + K = lst + 1) :
    Calls Tryz.prog 85 #[.pointer (some ⟨b, 0, none⟩), .int .i64 N, .slice aR t cR, .int .i64 (fst : Nat), .int .i64 (lst : Nat)] w fun e w' =>
      ∃ a c, e = .returned (.tuple #[.slice a K c, .int .i64 0]) ∧ ∃ vs, w'.ownsRow w.heap.size 22 1 (.slice a K c) K vs ∧ RV w' (NewU w' w.heap.size) vs (valM (plc t) (rw_ R) n fst K) ∧ Below w.heap.size w w' := by
  have HU := Lib.hid (unev_any aR t cR R false w hR (fun k hk => by rw [hw k hk]; exact hn) ⟨(fun e => by cases e), fun ⟨i, hi, e⟩ => absurd (by rw [hw i hi, hw 0 (by omega)]) e⟩)
  have HP := Lib.hid (can_yes (lst : Int) w (by omega) (by omega))
  have HF := Lib.hid hf; have HR := Lib.hid hR; have HW := Lib.hid hw
  have HC := Lib.hid (And.intro ht (And.intro ht2 (And.intro hn (And.intro h1 (And.intro h2 hK)))))
  have hb2 := hR.bd
  have q1 : ((t : Int) == 0) = false := by rw [beq_eq_false_iff_ne]; omega
  have q2 : ¬ N < (t : Int) := by omega
  have q3 : (t : Int) ≤ 255 := by omega
  have hmk := run_make_row' (P := Tryz.prog) 22 5 (.int .u8 0) 1 Tryz.underlying22 info5 rfl .i64 .i64 t (by omega) (by omega)
  clear hf hR hw ht htN ht2 hn h1 hl1 h2 hK
  go_enter Tryz.func85, Tryz.ntmps85
  go_wp2_with (first
    | (go_at_call 64; refine HP.out.mono ?_; rintro e w' ⟨rfl, rfl⟩)
    | (go_at_call 108; refine HU.out.mono ?_; rintro e w1 ⟨rfl, hb1⟩; have HB1 := Lib.hid hb1; clear hb1))
  have hO0 : Hid ((w1.alloc (.cells (madeCells #[.int .u8 0] t) 5)).ownsRow w1.heap.size 5 1 (.slice (some ⟨w1.heap.size, 0, none⟩) t t) t (plV (plc t) t 0)) := by
    rw [plV_zero]
    exact Lib.hid (own_made (w := w1) (e := 5) (n := t) (by unfold maxLen; have := HC.out; omega))
  have hB0 : Hid (Below w1.heap.size w1 (w1.alloc (.cells (madeCells #[.int .u8 0] t) 5))) := Lib.hid ((Below.refl _ _).alloc (Nat.le_refl _) _)
  go_loopw [37] (fun j wr => ∃ k : Nat, k ≤ t ∧ j = .int .i64 (k : Nat) ∧ Hid (wr.ownsRow w1.heap.size 5 1 (.slice (some ⟨w1.heap.size, 0, none⟩) t t) t (plV (plc t) t k)) ∧ Hid (Below w1.heap.size w1 wr))
    (fun j _ => t - (intOf j).toNat)
  case atStart => exact ⟨0, Nat.zero_le _, rfl, hO0, hB0⟩
  case round =>
    obtain ⟨k, hk, rfl, hO, hB⟩ := hrel
    rename World => w2
    by_cases hlt : k < t
    · have qi : (k : Int) < (t : Int) := by omega
      have qi0 : (0 : Int) ≤ (k : Int) := by omega
      obtain ⟨I, hI⟩ : ∃ I, I = k + 1 := ⟨_, rfl⟩
      have HIE := Lib.hid hI
      have qI : (k : Int) + 1 = (I : Int) := by omega
      have k1 : ∀ [Inhabited Unit], IntKind.u8.wrap (I : Int) = toI (pl I) := by
        intro _
        rw [pl_I (by have := HC.out; omega), IntKind.wrap_u8]; have := HC.out; omega
      have hfz := hO.out.frozenAt k
      have hcl := hO.out.cellAt k (by omega)
      obtain ⟨vo, hvo⟩ : ∃ v, (plV (plc t) t k)[k]? = some v := ⟨_, List.getElem?_eq_getElem (by rw [plV_len (plc_len t) hk]; exact hlt)⟩
      rw [hvo] at hcl
      have hst := (hO.out.stored k (.int .u8 (toI (pl I)))).1
      rw [show pl I = co (plc t) k by rw [plc_co hlt, hI], plV_set (plc_len t) hlt, plc_co hlt, ← hI] at hst
      have HST := Lib.hid hst
      have HBS := Lib.hid (hB.out.setCell (p := ⟨w1.heap.size, k, none⟩) (Nat.le_refl _) (.int .u8 (toI (pl I))))
      have HLT := Lib.hid hlt
      clear hst hI hlt hk hvo
      go_wp2
      go_roundw
      case rel => exact ⟨I, by have := HLT.out; have := HIE.out; omega, by go_num, by rw [HIE.out]; rw [← HIE.out]; exact HST, HBS⟩
      case measure => simp [intOf]; have := HLT.out; have := HIE.out; omega
    · obtain rfl : k = t := by omega
      have ho := hO.out
      rw [plV_all (plc_len k)] at ho
      have HB2 := Lib.hid (bt HB1.out hB.out)
      have HV := Lib.hid (valuesO b k n fst lst K (some ⟨w1.heap.size, 0, none⟩) k (plc k) aR cR R w2 (HF.out.below HB2.out) (Pa.own2 ho) (HR.out.on HB2.out) (plc_apart HC.out.2.1) HC.out.1 HC.out.2.1 HW.out HC.out.2.2.1 HC.out.2.2.2.1 HC.out.2.2.2.2.1 HC.out.2.2.2.2.2)
      have HKC := Lib.hid hk
      clear ho hlt
      go_wp2_with (go_at_call 109; go_loud (refine HV.out.mono ?_; rintro e w3 ⟨a, c, rfl, vs, ho, hv, hb⟩; have HO3 := Lib.hid (own_base ho HB2.out.size); have HRV := Lib.hid (hv.keep (ok' := NewU w3 w.heap.size) (Nat.le_refl _) (fun b _ h => ⟨⟨Nat.le_trans HB2.out.size h.1, h.2⟩, rfl⟩)); have HB3 := Lib.hid (bt HB2.out hb); clear ho hv hb))
      go_ret2
      exact ⟨_, _, rfl, vs, HO3.out, HRV.out, HB3.out⟩

/-- Rows of one's own, as rows of new memory. -/
theorem MatB.ofOk {w : World} {B n c : Nat} {a : Option Addr} {vs : List Value} {M : List (List GF)} {ok : Nat → Prop} (h : w.ownsRow B 22 1 (.slice a n c) n vs) (hv : RV w ok vs M) (hok : ∀ b, ok b → B ≤ b) : MatB w B a n c M := by
  have hl : M.length = n := by rw [← hv.1, h.1, Nat.mul_one]
  have hv2 := hv.keep (w' := w) (ok' := fun b => B ≤ b) (Nat.le_refl _) (fun b _ hb => ⟨hok b hb, rfl⟩)
  rcases h.2 with ⟨e, h0⟩ | ⟨g, cap, cur, e, hg, hh, h4, h5, _⟩
  · cases e
    exact ⟨hl, Nat.le_refl _, Nat.zero_le _, fun _ => rfl, vs, hv2, fun h => absurd h (by omega)⟩
  · cases e
    exact ⟨hl, h4, h5, (fun e => by cases e), vs, hv2, fun h0 => ⟨g, 0, rfl, (Array.getElem?_eq_some_iff.1 hh).1, hg, fun i hi => by rw [Nat.zero_add]; exact h.cellAt i (by omega)⟩⟩
theorem valM_enc {R : List (List GF)} {t : Nat} (h : R.length = t) (n N : Nat) : valM (plc t) (rw_ R) n 1 N = encM R n N := by
  unfold valM encM pcR
  rw [h]
  exact List.map_congr_left fun i _ => by rw [Nat.add_comm 1 i]
/-! ## Piece -/
end Go.Proofs.YtappfdbmhgifcaaGreatDoor
/- Bytes cut into parts: plain facts, and the document's Cut. -/
namespace Go.Proofs.YtappfdbmhgifcaaGreatDoor
open Go.ChangeShapes Go.WideShapes Go.ChangeAt Go.RowKit Go.Shelf GF
set_option linter.unusedVariables false
set_option linter.unusedSimpArgs false
set_option maxRecDepth 100000

theorem ceil_le {L t n : Nat} (ht : 1 ≤ t) : ceil L t ≤ n ↔ L ≤ n * t := by
  unfold ceil
  constructor
  · intro h
    have h1 : (L + t - 1) / t < n + 1 := by omega
    have h2 := (Nat.div_lt_iff_lt_mul (by omega)).1 h1
    rw [Nat.add_mul, Nat.one_mul] at h2
    omega
  · intro h
    have h2 : (L + t - 1) / t < n + 1 := (Nat.div_lt_iff_lt_mul (by omega)).2 (by rw [Nat.add_mul, Nat.one_mul]; omega)
    omega
theorem ceil_bd {L t : Nat} (ht : 1 ≤ t) : ceil L t ≤ L := (ceil_le ht).2 (Nat.le_mul_of_pos_right L (by omega))
/-- The first k bytes of the i-th part. -/
def cutP (B : List GF) (n i k : Nat) : List GF := (List.range k).map fun j => co B (i * n + j)
theorem cutP_len (B : List GF) (n i k : Nat) : (cutP B n i k).length = k := by simp [cutP]
theorem cutM_len (B : List GF) (t n : Nat) : (cutM B t n).length = t := by simp [cutM]
theorem cutM_take {B : List GF} {t n i : Nat} (h : i < t) : (cutM B t n).take (i + 1) = (cutM B t n).take i ++ [cutP B n i n] := by
  refine take_stepV ?_
  unfold cutM cutP; simp [h]
theorem flat_cut (B : List GF) (n : Nat) : ∀ t, flat (cutM B t n) = (List.range (t * n)).map (co B) := by
  intro t
  induction t with
  | zero => simp [flat, cutM]
  | succ t ih =>
    have e : cutM B (t + 1) n = cutM B t n ++ [(List.range n).map fun k => co B (t * n + k)] := by simp [cutM, List.range_succ]
    unfold flat at ih ⊢
    rw [e, List.flatten_append, ih, Nat.add_mul, Nat.one_mul, List.range_add, List.map_append]
    simp
theorem flat_take {B : List GF} {L t n : Nat} (hB : B.length = L) (h : L ≤ t * n) : (flat (cutM B t n)).take L = B := by
  rw [flat_cut]
  refine ext_co (by simp [hB]; omega) fun i hi => ?_
  simp at hi
  show List.getD _ _ _ = _
  have h1 : i < L := by omega
  have h2 : i < t * n := by omega
  simp [List.getD_eq_getElem?_getD, List.getElem?_take, h1, h2]
/-- Blocks ahead of B stay, but the G-th. -/
def KeepB (B G : Nat) (V W : World) : Prop := V.heap.size ≤ W.heap.size ∧ ∀ b, b < B → b ≠ G → W.heap[b]? = V.heap[b]?
theorem KeepB.refl (B G : Nat) (V : World) : KeepB B G V V := ⟨Nat.le_refl _, fun _ _ _ => rfl⟩
theorem KeepB.below {B G : Nat} {V W U : World} (h : KeepB B G V W) (k : Below B W U) : KeepB B G V U := ⟨Nat.le_trans h.1 k.size, fun b hb hn => (k.block b hb).trans (h.2 b hb hn)⟩
theorem KeepB.set {B G : Nat} {V W : World} (h : KeepB B G V W) (i : Nat) (v : Value) : KeepB B G V (W.setCell ⟨G, i, none⟩ v) := ⟨by simpa using h.1, fun b hb hn => (Below.heap_setCell _ _ _ _ hn).trans (h.2 b hb hn)⟩
theorem set_mid {vs : List Value} {t i : Nat} (z u v : Value) (hi : vs.length = i) : (vs ++ u :: List.replicate (t - (i + 1)) z).set i v = vs ++ v :: List.replicate (t - (i + 1)) z := by
  subst hi
  rw [List.set_append_right _ _ (Nat.le_refl _), Nat.sub_self, List.set_cons_zero]
theorem rep_mid {t i : Nat} (z : Value) (h : i < t) : List.replicate (t - i) z = z :: List.replicate (t - (i + 1)) z := by
  rw [show t - i = (t - (i + 1)) + 1 by omega, List.replicate_succ]
theorem own_madeC {w : World} {n : Nat} (hm : n ≤ maxLen) :
    (w.alloc (.cells (madeCells #[Value.slice none 0 0] n) 22)).ownsRow w.heap.size 22 1 (.slice (some ⟨w.heap.size, 0, none⟩) n n) n (List.replicate n (.slice none 0 0)) := by
  have := World.ownsRow_lit (base := w.heap.size) (e := 22) (size := 1) w (madeCells #[Value.slice none 0 0] n) n (Nat.le_refl _) hm (by simp [size_madeCells])
  rw [toList_madeCells_one] at this
  exact this

end Go.Proofs.YtappfdbmhgifcaaGreatDoor
/- Contracts of code's PartSize, Cut, Glue. -/
namespace Go.Proofs.YtappfdbmhgifcaaGreatDoor
open Go.ChangeShapes Go.WideShapes Go.ChangeAt Go.RowKit Go.Shelf GF
set_option linter.unusedVariables false
set_option linter.unusedSimpArgs false
set_option maxRecDepth 100000

theorem ceil_parts {L t : Nat} (ht : 1 ≤ t) : ceil L t = L / t + (if 1 < L % t then 1 else L % t) := by
  have h1 := Nat.div_add_mod L t
  have h2 := Nat.mod_lt L (show 0 < t by omega)
  generalize L / t = Q at *
  generalize L % t = M at *
  unfold ceil
  by_cases h0 : M = 0
  · subst h0
    rw [if_neg (by omega)]
    rw [← h1, Nat.add_zero, show t * Q + t - 1 = t * Q + (t - 1) by omega, Nat.mul_add_div (by omega), Nat.div_eq_of_lt (by omega)]
  · have e : (if 1 < M then 1 else M) = 1 := by split <;> omega
    rw [e, ← h1, show t * Q + M + t - 1 = t * (Q + 1) + (M - 1) by rw [Nat.mul_add, Nat.mul_one]; omega, Nat.mul_add_div (by omega), Nat.div_eq_of_lt (by omega)]
set_option maxHeartbeats 1000000 in
theorem partC : PartC := by
  intro L t w ht ht2 hL
  have HP := Lib.hid (can_yes (t : Int) w (by omega) (by omega))
  have HE := Lib.hid (ceil_parts (L := L) ht)
  have e1 : (L : Int).tdiv (t : Int) = ((L / t : Nat) : Int) := by rw [Int.tdiv_eq_ediv_of_nonneg (by omega)]; rfl
  have e2 : (L : Int).tmod (t : Int) = ((L % t : Nat) : Int) := by rw [Int.tmod_eq_emod_of_nonneg (by omega)]; rfl
  have e3 : (L : Int) / (t : Int) = ((L / t : Nat) : Int) := rfl
  have e4 : (L : Int) % (t : Int) = ((L % t : Nat) : Int) := rfl
  have hq : L / t ≤ L := Nat.div_le_self _ _
  have hm : L % t < t := Nat.mod_lt _ (by omega)
  obtain ⟨Q, hQ⟩ : ∃ Q, Q = L / t := ⟨_, rfl⟩
  obtain ⟨M, hM⟩ : ∃ M, M = L % t := ⟨_, rfl⟩
  rw [← hQ] at e1 e3 hq HE
  rw [← hM] at e2 e4 hm HE
  clear hQ hM
  have k1 : (L : Int) ≤ 1000 := by omega
  have k2 : (t : Int) ≤ 255 := by omega
  have k3 : (Q : Int) ≤ 1000 := by omega
  have k4 : (M : Int) ≤ 255 := by omega
  have k5 : ((t : Int) == 0) = false := by rw [beq_eq_false_iff_ne]; omega
  have k6 : ¬ (t : Int) = 0 := by omega
  have k7 : ¬ t = 0 := by omega
  by_cases h : 1 < M
  · have k8 : (1 : Int) < (M : Int) := by omega
    rw [if_pos h] at HE
    clear h ht ht2 hL hq hm
    go_enter Tryz.func35, Tryz.ntmps35
    go_upto_region 3 with (go_at_call 64; refine HP.out.mono ?_; rintro e w' ⟨rfl, rfl⟩)
    go_quiet (fail)
    go_wp2
    go_ret
    exact ⟨by rw [HE.out]; rfl, _, rfl⟩
  · have k8 : ¬ (1 : Int) < (M : Int) := by omega
    rw [if_neg h] at HE
    clear h ht ht2 hL hq hm
    go_enter Tryz.func35, Tryz.ntmps35
    go_upto_region 3 with (go_at_call 64; refine HP.out.mono ?_; rintro e w' ⟨rfl, rfl⟩)
    go_quiet (fail)
    go_wp2
    go_ret
    exact ⟨by rw [HE.out]; rfl, _, rfl⟩
end Go.Proofs.YtappfdbmhgifcaaGreatDoor
