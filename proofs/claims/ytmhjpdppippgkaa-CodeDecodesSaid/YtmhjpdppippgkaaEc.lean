/- What package code's Decode answers: the contracts, as statements; whole numbers as an argument; what the law CodeDecodes gathers. -/
import Derived.Test.YtmhjpdppippgkaaCg
import Derived.Test.YtmhjpdppippgkaaQ3
namespace Go.Proofs.Ytmhjpdppippgkaa
open Go.ChangeShapes Go.WideShapes Go.ChangeAt Go.RowKit Go.Shelf GF
set_option linter.unusedVariables false
set_option linter.unusedSimpArgs false

/-- An argument that is whole numbers. -/
def IA (w : World) (a : Option Addr) (L c : Nat) (ps : List Int) : Prop :=
  ps.length = L ∧ L ≤ c ∧ c ≤ maxLen ∧ (a = none → c = 0) ∧ (∀ i, -9223372036854775808 ≤ ps.getD i 0 ∧ ps.getD i 0 ≤ 9223372036854775807) ∧ (0 < L → ∃ b off, a = some ⟨b, off, none⟩ ∧ b < w.heap.size ∧ ∀ i, i < L → w.cell? ⟨b, off + i, none⟩ = some (.int .i64 (ps.getD i 0)))
theorem IA.on {w w' : World} {a : Option Addr} {L c : Nat} {ps : List Int} (h : IA w a L c ps) (hb : Below w.heap.size w w') : IA w' a L c ps := by
  obtain ⟨h1, h2, h3, h4, h5, h6⟩ := h
  refine ⟨h1, h2, h3, h4, h5, fun h0 => ?_⟩
  obtain ⟨b, off, e, hlt, hc⟩ := h6 h0
  exact ⟨b, off, e, by have := hb.size; omega, fun i hi => (hb.cell (p := ⟨b, off + i, none⟩) hlt).trans (hc i hi)⟩
theorem IA.bd {w : World} {a : Option Addr} {L c : Nat} {ps : List Int} (h : IA w a L c ps) : L ≤ c ∧ c ≤ 9223372036854775807 := ⟨h.2.1, by have := h.2.2.1; unfold maxLen at this; omega⟩
theorem IA.at_ {w : World} {a : Option Addr} {L c : Nat} {ps : List Int} (h : IA w a L c ps) {i : Nat} (hi : i < L) : ∃ b off, a = some ⟨b, off, none⟩ ∧ b < w.heap.size ∧ w.cell? ⟨b, off + i, none⟩ = some (.int .i64 (ps.getD i 0)) := by
  obtain ⟨h1, h2, h3, h4, h5, h6⟩ := h
  obtain ⟨b, off, e, hlt, hc⟩ := h6 (by omega)
  exact ⟨b, off, e, hlt, hc i hi⟩
theorem getD_drop (ps : List Int) (k i : Nat) : (ps.drop k).getD i 0 = ps.getD (k + i) 0 := by simp [List.getD_eq_getElem?_getD]
theorem getD_take {ps : List Int} {k i : Nat} (h : i < k) : (ps.take k).getD i 0 = ps.getD i 0 := by simp [List.getD_eq_getElem?_getD, List.getElem?_take, h]
theorem IA.drop {w : World} {b o L c : Nat} {ps : List Int} (h : IA w (some ⟨b, o, none⟩) L c ps) (k : Nat) : IA w (some ⟨b, o + k, none⟩) (L - k) (c - k) (ps.drop k) := by
  obtain ⟨h1, h2, h3, h4, h5, h6⟩ := h
  refine ⟨by rw [List.length_drop, h1], by omega, by omega, (fun e => by cases e), fun i => by rw [getD_drop]; exact h5 _, fun h0 => ?_⟩
  obtain ⟨b', off, e, hb, hc⟩ := h6 (by omega)
  cases e
  refine ⟨b, o + k, rfl, hb, fun i hi => ?_⟩
  rw [getD_drop, ← hc (k + i) (by omega)]
  congr 2
  omega
theorem IA.take {w : World} {a : Option Addr} {L c : Nat} {ps : List Int} (h : IA w a L c ps) {k : Nat} (hk : k ≤ L) : IA w a k c (ps.take k) := by
  obtain ⟨h1, h2, h3, h4, h5, h6⟩ := h
  refine ⟨by rw [List.length_take, h1]; omega, by omega, h3, h4, fun i => ?_, fun h0 => ?_⟩
  · by_cases hi : i < k
    · rw [getD_take hi]; exact h5 i
    · have : (ps.take k).getD i 0 = 0 := by rw [List.getD_eq_getElem?_getD, List.getElem?_eq_none (by rw [List.length_take]; omega)]; rfl
      rw [this]; omega
  · obtain ⟨b, off, e, hb, hc⟩ := h6 (by omega)
    exact ⟨b, off, e, hb, fun i hi => by rw [getD_take hi]; exact hc i (by omega)⟩
theorem Mat.take {w : World} {a : Option Addr} {n c : Nat} {M : List (List GF)} (h : Mat w a n c M) {k : Nat} (hk : k ≤ n) : Mat w a k c (M.take k) := by
  obtain ⟨h1, h2, h3, h4, vs, h5, h6⟩ := h
  have hr : ∀ i, i < k → rw_ (M.take k) i = rw_ M i := fun i hi => by unfold rw_; simp [List.getD_eq_getElem?_getD, List.getElem?_take, hi]
  refine ⟨by rw [List.length_take]; omega, by omega, h3, h4, vs.take k, ⟨by rw [List.length_take, List.length_take, h5.1], fun i hi => ?_⟩, fun h0 => ?_⟩
  · have hik : i < k := by rw [List.length_take] at hi; omega
    obtain ⟨a', c', k1, k2⟩ := h5.2 i (by rw [List.length_take] at hi; omega)
    rw [hr i hik, List.getElem?_take, if_pos hik]
    exact ⟨a', c', k1, k2⟩
  · obtain ⟨b, off, e, hb, hc⟩ := h6 (by omega)
    exact ⟨b, off, e, hb, fun i hi => by rw [List.getElem?_take, if_pos hi]; exact hc i (by omega)⟩
/-- Whole numbers of one's own, as an argument. -/
def intsV (zs : List Int) : List Value := zs.map (Value.int .i64)
theorem IA.own {w : World} {base : Nat} {v : Value} {n : Nat} {zs : List Int} (h : w.ownsRow base 3 1 v n (intsV zs)) (hz : ∀ z, z ∈ zs → 0 ≤ z ∧ z < 256) : ∃ a c, v = .slice a n c ∧ IA w a n c zs := by
  have hl : zs.length = n := by have := h.1; rw [intsV, List.length_map, Nat.mul_one] at this; exact this
  have hb : ∀ i, -9223372036854775808 ≤ zs.getD i 0 ∧ zs.getD i 0 ≤ 9223372036854775807 := fun i => by
    by_cases hi : i < zs.length
    · have e : zs.getD i 0 = zs[i] := by simp [List.getD_eq_getElem?_getD, List.getElem?_eq_getElem hi]
      rw [e]
      have := hz _ (List.getElem_mem hi)
      omega
    · have e : zs.getD i 0 = 0 := by rw [List.getD_eq_getElem?_getD, List.getElem?_eq_none (Nat.le_of_not_lt hi)]; rfl
      rw [e]; omega
  rcases h.2 with ⟨rfl, rfl⟩ | ⟨g, cap, cur, rfl, hg, hh, hn, hm, hs, ht⟩
  · exact ⟨none, 0, rfl, hl, Nat.le_refl _, Nat.zero_le _, fun _ => rfl, hb, fun h0 => absurd h0 (by omega)⟩
  · refine ⟨_, cap, rfl, hl, hn, hm, (fun h => by cases h), hb, fun h0 => ⟨g, 0, rfl, (Array.getElem?_eq_some_iff.1 hh).1, fun i hi => ?_⟩⟩
    rw [Nat.zero_add, h.cellAt i (by omega), intsV, List.getElem?_map, List.getElem?_eq_getElem (by omega)]
    simp [List.getD_eq_getElem?_getD, List.getElem?_eq_getElem (show i < zs.length by omega)]
/-- A block of bytes; what grows a block of other things keeps it. -/
def TyU (w : World) (b : Nat) : Prop := ∃ cur fz, w.heap[b]? = some (.cells cur 5 fz)
theorem TyU.below {w w' : World} {b B : Nat} (h : TyU w b) (hb : Below B w w') (hB : b < B) : TyU w' b := by
  obtain ⟨cur, fz, e⟩ := h
  exact ⟨cur, fz, by rw [hb.block b hB]; exact e⟩
theorem TyU.grown {w w' : World} {b base s n : Nat} {e : TypeId} {v : Value} {ys : List Value} (h : TyU w b) (h2 : w.ownsRow base e s v n ys) (hne : 5 ≠ e) (hg : w.grownBy w' v.ownBlock) : w'.heap[b]? = w.heap[b]? ∧ TyU w' b := by
  obtain ⟨cur, fz, hh⟩ := h
  have k : w'.heap[b]? = w.heap[b]? := hg.block b (Array.getElem?_eq_some_iff.1 hh).1 (fun e' => by
    rcases h2.2 with ⟨rfl, _⟩ | ⟨g2, c2, cur2, rfl, _, hh2, _⟩
    · cases e'
    · have e3 : b = g2 := by
        have : some b = some g2 := e'
        injection this
      subst e3
      rw [hh] at hh2
      injection hh2 with h3
      injection h3 with _ h4 _
      exact hne h4)
  exact ⟨k, cur, fz, by rw [k]; exact hh⟩
theorem RV.onU {w w' : World} {vs : List Value} {M : List (List GF)} (h : RV w (TyU w) vs M) (hb : Below w.heap.size w w') : RV w' (TyU w') vs M :=
  h.keep hb.size (fun b hlt ht => ⟨ht.below hb hlt, hb.block b hlt⟩)
theorem RV.grownU {w w' : World} {vs : List Value} {M : List (List GF)} (h : RV w (TyU w) vs M) {base s n : Nat} {e : TypeId} {v : Value} {ys : List Value} (h2 : w.ownsRow base e s v n ys) (hne : 5 ≠ e) (hg : w.grownBy w' v.ownBlock) : RV w' (TyU w') vs M :=
  h.keep hg.size (fun b _ ht => ⟨(ht.grown h2 hne hg).2, (ht.grown h2 hne hg).1⟩)

/-- The places of the first t, and what is decoded. -/
def psG (ps : List Int) (t : Nat) : List GF := (List.range t).map fun i => toG (ps.getD i 0)
theorem psG_len (ps : List Int) (t : Nat) : (psG ps t).length = t := by simp [psG]
theorem psG_co {ps : List Int} {t i : Nat} (h : i < t) : co (psG ps t) i = toG (ps.getD i 0) := by
  show List.getD _ _ _ = _
  unfold psG; simp [List.getD_eq_getElem?_getD, h]
def decM (X : List GF) (R : Nat → List GF) (t n : Nat) : List (List GF) := (List.range t).map fun i => atR X R (pl (i + 1)) n
theorem decM_row {X : List GF} {R : Nat → List GF} {t n i : Nat} (h : i < t) : rw_ (decM X R t n) i = atR X R (pl (i + 1)) n := by
  unfold decM rw_; simp [List.getD_eq_getElem?_getD, h]
/-- A place. -/
def okP (z : Int) : Prop := 1 ≤ z ∧ z ≤ 255
/-- Piece as PieceC has it, in a block of bytes. -/
def PieceUC : Prop := ∀ (b t x n : Nat) (aR : Option Addr) (cR : Nat) (R : List (List GF)) (w : World),
  Fld w b → Mat w aR t cR R → 1 ≤ t → t ≤ 255 → 1 ≤ x → x ≤ 255 → (∀ k, k < t → (rw_ R k).length = n) → n ≤ 1000 →
  Calls Try.prog 12 #[.pointer (some ⟨b, 0, none⟩), .slice aR t cR, .int .i64 (x : Nat)] w fun e w' =>
    ∃ a' c', e = .returned (.tuple #[.slice a' n c', .int .i64 0]) ∧ Pa w' a' n c' (pcR R n (pl x)) ∧ (∀ g o, a' = some ⟨g, o, none⟩ → 0 < n → TyU w' g) ∧ Below w.heap.size w w'
def DecodeC : Prop := ∀ (b t N n : Nat) (aX : Option Addr) (cX : Nat) (ps : List Int) (aR : Option Addr) (cR : Nat) (R : List (List GF)) (w : World),
  Fld w b → IA w aX N cX ps → Mat w aR N cR R → 1 ≤ t → t ≤ N → N ≤ 255 → (∀ k, k < t → okP (ps.getD k 0)) → Apart (psG ps t) → (∀ k, k < t → (rw_ R k).length = n) → n ≤ 1000 → (∀ k, k < N → (rw_ R k).length ≤ 1000) →
  Calls Try.prog 15 #[.pointer (some ⟨b, 0, none⟩), .int .i64 (t : Nat), .slice aX N cX, .slice aR N cR] w fun e w' =>
    ∃ a' c', e = .returned (.tuple #[.slice a' t c', .int .i64 0]) ∧ MatB w' w.heap.size a' t c' (decM (psG ps t) (rw_ R) t n) ∧ Below w.heap.size w w'
def DecArgC : Prop := ∀ (b t N K : Nat) (aX : Option Addr) (cX : Nat) (ps : List Int) (aR : Option Addr) (cR : Nat) (R : List (List GF)) (w : World),
  Fld w b → IA w aX N cX ps → Mat w aR K cR R → N ≠ K → t ≤ 255 → N ≤ 255 → K ≤ 255 → (∀ k, k < K → (rw_ R k).length ≤ 1000) →
  Calls Try.prog 15 #[.pointer (some ⟨b, 0, none⟩), .int .i64 (t : Nat), .slice aX N cX, .slice aR K cR] w fun e w' => ∃ v, e = .returned (.tuple #[v, .int .i64 1]) ∧ Below w.heap.size w w'
def DecRangeC : Prop := ∀ (b N : Nat) (t : Int) (aX : Option Addr) (cX : Nat) (ps : List Int) (aR : Option Addr) (cR : Nat) (R : List (List GF)) (w : World),
  Fld w b → IA w aX N cX ps → Mat w aR N cR R → (Lit.int .i64 t).wf = true → (t < 1 ∨ 255 < t) → N ≤ 255 → (∀ k, k < N → (rw_ R k).length ≤ 1000) →
  Calls Try.prog 15 #[.pointer (some ⟨b, 0, none⟩), .int .i64 t, .slice aX N cX, .slice aR N cR] w fun e w' => ∃ v, e = .returned (.tuple #[v, .int .i64 2]) ∧ Below w.heap.size w w'
def DecFewC : Prop := ∀ (b t N : Nat) (aX : Option Addr) (cX : Nat) (ps : List Int) (aR : Option Addr) (cR : Nat) (R : List (List GF)) (w : World),
  Fld w b → IA w aX N cX ps → Mat w aR N cR R → 1 ≤ t → t ≤ 255 → N < t → (∀ k, k < N → (rw_ R k).length ≤ 1000) →
  Calls Try.prog 15 #[.pointer (some ⟨b, 0, none⟩), .int .i64 (t : Nat), .slice aX N cX, .slice aR N cR] w fun e w' => ∃ v, e = .returned (.tuple #[v, .int .i64 5]) ∧ Below w.heap.size w w'
def DecPlaceC : Prop := ∀ (b t N j : Nat) (aX : Option Addr) (cX : Nat) (ps : List Int) (aR : Option Addr) (cR : Nat) (R : List (List GF)) (w : World),
  Fld w b → IA w aX N cX ps → Mat w aR N cR R → 1 ≤ t → t ≤ N → N ≤ 255 → j < t → ¬ okP (ps.getD j 0) → (∀ k, k < N → (rw_ R k).length ≤ 1000) →
  Calls Try.prog 15 #[.pointer (some ⟨b, 0, none⟩), .int .i64 (t : Nat), .slice aX N cX, .slice aR N cR] w fun e w' => ∃ v, e = .returned (.tuple #[v, .int .i64 2]) ∧ Below w.heap.size w w'
def DecSameC : Prop := ∀ (b t N n : Nat) (aX : Option Addr) (cX : Nat) (ps : List Int) (aR : Option Addr) (cR : Nat) (R : List (List GF)) (w : World),
  Fld w b → IA w aX N cX ps → Mat w aR N cR R → 1 ≤ t → t ≤ N → N ≤ 255 → (∀ k, k < t → okP (ps.getD k 0)) → ¬ Apart (psG ps t) → (∀ k, k < t → (rw_ R k).length = n) → n ≤ 1000 → (∀ k, k < N → (rw_ R k).length ≤ 1000) →
  Calls Try.prog 15 #[.pointer (some ⟨b, 0, none⟩), .int .i64 (t : Nat), .slice aX N cX, .slice aR N cR] w fun e w' => ∃ v, e = .returned (.tuple #[v, .int .i64 6]) ∧ Below w.heap.size w w'
def DecAll : Prop := EncodeC ∧ PieceUC ∧ DecodeC ∧ DecArgC ∧ DecRangeC ∧ DecFewC ∧ DecPlaceC ∧ DecSameC

instance (z : Int) : Decidable (okP z) := inferInstanceAs (Decidable (_ ∧ _))
/-- What the law reckons of any places: a place that can't be, a number seen, one seen twice. -/
def badB (ps : List Int) (t i : Nat) : Bool := (List.range i).any fun j => decide (j < t) && decide (¬ okP (ps.getD j 0))
def sawB (ps : List Int) (i : Nat) (z : Int) : Bool := (List.range i).any fun j => decide (ps.getD j 0 = z)
def dupB (ps : List Int) (t i : Nat) : Bool := (List.range i).any fun j => decide (j < t) && sawB ps j (ps.getD j 0)
theorem badB_zero (ps : List Int) (t : Nat) : badB ps t 0 = false := rfl
theorem badB_next (ps : List Int) (t i : Nat) : badB ps t (i + 1) = (badB ps t i || (decide (i < t) && decide (¬ okP (ps.getD i 0)))) := by simp [badB, List.range_succ]
theorem sawB_next (ps : List Int) (i : Nat) (z : Int) : sawB ps (i + 1) z = (sawB ps i z || decide (ps.getD i 0 = z)) := by simp [sawB, List.range_succ]
theorem dupB_zero (ps : List Int) (t : Nat) : dupB ps t 0 = false := rfl
theorem dupB_next (ps : List Int) (t i : Nat) : dupB ps t (i + 1) = (dupB ps t i || (decide (i < t) && sawB ps i (ps.getD i 0))) := by simp [dupB, List.range_succ]
theorem badB_false {ps : List Int} {t i : Nat} (h : badB ps t i = false) {j : Nat} (hj : j < i) (ht : j < t) : okP (ps.getD j 0) := by
  unfold badB at h
  rw [List.any_eq_false] at h
  have := h j (List.mem_range.2 hj)
  simpa [ht] using this
theorem badB_true {ps : List Int} {t i : Nat} (h : badB ps t i = true) : ∃ j, j < i ∧ j < t ∧ ¬ okP (ps.getD j 0) := by
  unfold badB at h
  rw [List.any_eq_true] at h
  obtain ⟨j, hj, e⟩ := h
  rw [Bool.and_eq_true, decide_eq_true_eq, decide_eq_true_eq] at e
  exact ⟨j, List.mem_range.1 hj, e.1, e.2⟩
theorem sawB_true {ps : List Int} {i : Nat} {z : Int} : sawB ps i z = true ↔ ∃ j, j < i ∧ ps.getD j 0 = z := by
  unfold sawB
  rw [List.any_eq_true]
  exact ⟨fun ⟨j, hj, e⟩ => ⟨j, List.mem_range.1 hj, of_decide_eq_true e⟩, fun ⟨j, hj, e⟩ => ⟨j, List.mem_range.2 hj, decide_eq_true e⟩⟩
theorem toG_place {x y : Int} (hx : okP x) (hy : okP y) (h : toG x = toG y) : x = y := by
  have := congrArg toI h
  rw [toI_toG (by unfold okP at hx; omega), toI_toG (by unfold okP at hy; omega)] at this
  exact this
theorem dup_apart {ps : List Int} {t L : Nat} (htL : t ≤ L) (hok : ∀ k, k < t → okP (ps.getD k 0)) (h : dupB ps t L = false) : Apart (psG ps t) := fun i j hi hj e => by
  rw [psG_len] at hi
  rw [psG_co hi, psG_co (by omega)] at e
  have e2 := toG_place (hok i hi) (hok j (by omega)) e
  unfold dupB at h
  rw [List.any_eq_false] at h
  have h1 := h i (List.mem_range.2 (by omega))
  rw [decide_eq_true hi, Bool.true_and] at h1
  exact h1 (sawB_true.2 ⟨j, hj, e2.symm⟩)
theorem dup_same {ps : List Int} {t L : Nat} (h : dupB ps t L = true) : ¬ Apart (psG ps t) := by
  unfold dupB at h
  rw [List.any_eq_true] at h
  obtain ⟨i, _, e⟩ := h
  rw [Bool.and_eq_true, decide_eq_true_eq] at e
  obtain ⟨j, hj, e2⟩ := sawB_true.1 e.2
  intro hA
  exact hA i j (by rw [psG_len]; exact e.1) hj (by rw [psG_co e.1, psG_co (by have := e.1; omega), e2])
/-- What the law wants. -/
def wA (ps : List Int) (t i : Nat) : Int := if badB ps t i then 2 else 0
def wB (ps : List Int) (t L i : Nat) : Int := if badB ps t L then 2 else if dupB ps t i then 6 else 0

open Go.Maps in
/-- Which numbers a map holds. -/
abbrev keyZ (z : Int) : Lit := .int .i64 z
open Go.Maps in
def SeenZ (D : DataW Unit) (f : Int → Bool) : Prop := ∀ z : Int, D.atKey (keyZ z) (.lit (.bool false)) = .lit (.bool (f z))
open Go.Maps in
theorem SeenZ.put {D : DataW Unit} {ps : List Int} {i : Nat} (h : SeenZ D (sawB ps i)) (hT : Tidy D) : SeenZ (D.put (keyZ (ps.getD i 0)) (.lit (.bool true))) (sawB ps (i + 1)) := by
  intro z
  rw [sawB_next]
  by_cases e : ps.getD i 0 = z
  · subst e
    rw [atKey_put_same hT.isMap (by trivial)]; simp
  · rw [atKey_put_other (fun h => e (by injection h with _ h; exact h.symm)), h z, decide_eq_false e, Bool.or_false]
open Go.Maps in
theorem size_more {D : DataW Unit} {i : Nat} (hT : Tidy D) (h : size D ≤ i) (k : Lit) (d : DataW Unit) : size (D.put k d) ≤ i + 1 := by
  rw [size_put hT d]; split <;> omega
theorem lawZ : Go.Maps.Keyed Try.prog 3 := Go.Maps.int_keyed Try.underlying3
open Go.Maps in
theorem keyZ_of {z : Int} (h : -9223372036854775808 ≤ z ∧ z ≤ 9223372036854775807) : keyOf Try.prog 3 (.int .i64 z) = some (keyZ z) :=
  keyOf_int_mk Try.underlying3 (by simp [Lit.wf, IntKind.min, IntKind.max, IntKind.signed, IntKind.bits]; omega)
open Go.Maps in
/-- A look into a map, in an operation that has a guard. -/
theorem wpList_lookup_own_boolG {P : Program} (w : World) {ops : Array Oper} {rest : List Oper} {o : Oper} {a : Act} {Q : Exit → Act → World → Prop}
    (hg : Region.wanted o (yielded ops a.tmps) = true) (m x : Operand) (t : TypeId) (hop : o.op = Op.lookup t m x false)
    (k e : TypeId) (K : Keyed P k) (ht : P.underlying t = some (.map k e)) (he : P.underlying e = some .bool) (hz : (zeroValue e).run P w = .ok (.bool false) w) (b n : Nat) (D : DataW Unit)
    (hm : a.eval m = .map (some b)) (hown : w.ownsMap P k (plainElem P e) b n D) (key : Value) (kl : Lit) (hx : a.eval x = key) (hkey : keyOf P k key = some kl) (c : Bool) (hat : D.atKey kl (.lit (.bool false)) = .lit (.bool c))
    (hK : wpList P ops Q rest (a.put o.dst (.bool c)) w) :
    wpList P ops Q (o :: rest) a w := by
  refine wpList_step fun K' hK' => ?_
  rw [if_pos hg]
  obtain ⟨v, ps, hrun, hv⟩ := hown.lookup K ht hz (plainElem_bool he false) hkey
  rw [hat] at hv
  obtain rfl := plainElem_bool_inv he hv
  unfold Oper.wp
  simp [execOp, hop, hm, hx, hrun, Result.andThen]
  exact hK' _ _ hK
end Go.Proofs.Ytmhjpdppippgkaa
