/- Rows of rows that the code makes, and the matrix behind a pointer, as they lie in memory. -/
import Derived.Test.YtpoaimcioeopdaaMmul
import Derived.Test.YtpoaimcioeopdaaFrow
namespace Go.Proofs.Ytpoaimcioeopdaa
open Go.ChangeShapes Go.WideShapes Go.ChangeAt Go.RowKit Go.Shelf GF
set_option linter.unusedVariables false
set_option maxRecDepth 100000
set_option linter.unusedSimpArgs false

theorem rw_set (M : List (List GF)) (i k : Nat) (P : List GF) : rw_ (M.set i P) k = if k = i ∧ i < M.length then P else rw_ M k := by
  unfold rw_
  simp only [List.getD_eq_getElem?_getD, List.getElem?_set]
  by_cases e : i = k
  · subst e
    by_cases h : i < M.length
    · simp [h]
    · simp [h]
  · have : ¬ (k = i ∧ i < M.length) := fun h => e h.1.symm
    rw [if_neg e, if_neg this]
theorem RV.set {w : World} {ok : Nat → Prop} {vs : List Value} {M : List (List GF)} (h : RV w ok vs M) {i : Nat} (hi : i < M.length) {a : Option Addr} {c : Nat} {P : List GF} (hp : Pa w a P.length c P) (ho : ∀ b off, a = some ⟨b, off, none⟩ → 0 < P.length → ok b) : RV w ok (vs.set i (.slice a P.length c)) (M.set i P) := by
  refine ⟨by simp [h.1], fun k hk => ?_⟩
  rw [rw_set]
  by_cases e : k = i
  · subst e
    rw [if_pos ⟨rfl, hi⟩, List.getElem?_set_self (by rw [h.1]; exact hi)]
    refine ⟨a, c, rfl, hp.1.2.2.2.1, hp.1.2.2.2.2, hp.2, fun h0 => ?_⟩
    obtain ⟨b, off, e, hb, hc⟩ := hp.1.2.2.1 (by rw [length_iL]; exact h0)
    exact ⟨b, off, e, hb, ho b off e h0, fun j hj => by have := hc j (by rw [length_iL]; exact hj); rwa [getD_iL] at this⟩
  · rw [if_neg (fun h => e h.1), List.getElem?_set_ne (fun h => e h.symm)]
    exact h.2 k (by simpa using hk)
/-- A block of bytes. -/
def T8 (w : World) (b : Nat) : Prop := ∃ cur fz, w.heap[b]? = some (.cells cur 5 fz)
/-- Rows of rows of one's own, told by block B alone; each row lies in a block of bytes. -/
def GC (w : World) (base B n c : Nat) (M : List (List GF)) : Prop := ∃ vs, w.ownsRow base 22 1 (.slice (some ⟨B, 0, none⟩) n c) n vs ∧ RV w (T8 w) vs M
abbrev GR (w : World) (base B n : Nat) (M : List (List GF)) : Prop := GC w base B n n M
theorem GC.len {w : World} {base B n c : Nat} {M : List (List GF)} (h : GC w base B n c M) : M.length = n := by
  obtain ⟨vs, h1, h2⟩ := h
  rw [← h2.1, h1.1, Nat.mul_one]
theorem GC.lt {w : World} {base B n c : Nat} {M : List (List GF)} (h : GC w base B n c M) : base ≤ B ∧ B < w.heap.size := by
  obtain ⟨vs, h1, h2⟩ := h
  exact h1.lt B rfl
theorem GC.cap {w : World} {base B n c : Nat} {M : List (List GF)} (h : GC w base B n c M) : n ≤ c ∧ c ≤ 9223372036854775807 := by
  obtain ⟨vs, h1, h2⟩ := h
  rcases h1.2 with ⟨h3, _⟩ | ⟨g, cap, cur, e, hg, hh, hn, hm, _⟩
  · cases h3
  · cases e; unfold maxLen at hm; omega
theorem GC.typ {w : World} {base B n c : Nat} {M : List (List GF)} (h : GC w base B n c M) : ∃ cur, w.heap[B]? = some (.cells cur 22 (0, 0)) := by
  obtain ⟨vs, h1, h2⟩ := h
  rcases h1.2 with ⟨h3, _⟩ | ⟨g, cap, cur, e, hg, hh, _⟩
  · cases h3
  · cases e; exact ⟨cur, hh⟩
theorem GC.ne {w : World} {base B n c : Nat} {M : List (List GF)} (h : GC w base B n c M) {b : Nat} (hb : T8 w b) : b ≠ B := fun e => by
  obtain ⟨cur, h1⟩ := h.typ
  obtain ⟨cur', fz, h2⟩ := hb
  rw [e, h1] at h2
  injection h2 with h2
  injection h2 with _ h2 _
  exact absurd h2 (by decide)
theorem T8.keep {w w' : World} {b : Nat} (h : T8 w b) (e : w'.heap[b]? = w.heap[b]?) : T8 w' b := by
  obtain ⟨cur, fz, h⟩ := h
  exact ⟨cur, fz, e.trans h⟩
theorem GC.on {w w' : World} {base B n c : Nat} {M : List (List GF)} (h : GC w base B n c M) (hb : Below w.heap.size w w') : GC w' base B n c M := by
  obtain ⟨vs, h1, h2⟩ := h
  exact ⟨vs, own_below h1 hb, h2.keep hb.size fun b hlt ho => ⟨ho.keep (hb.block b hlt), hb.block b hlt⟩⟩
theorem GC.base {w : World} {base base' B n c : Nat} {M : List (List GF)} (h : GC w base B n c M) (hB : base' ≤ base) : GC w base' B n c M := by
  obtain ⟨vs, h1, h2⟩ := h
  refine ⟨vs, ⟨h1.1, ?_⟩, h2⟩
  rcases h1.2 with h3 | ⟨g, cap, cur, e, hg, h3⟩
  · exact .inl h3
  · exact .inr ⟨g, cap, cur, e, by omega, h3⟩
theorem GC.row {w : World} {base B n c : Nat} {M : List (List GF)} (h : GC w base B n c M) {i : Nat} (hi : i < n) : ∃ ai ci, w.cell? ⟨B, i, none⟩ = some (.slice ai (rw_ M i).length ci) ∧ Pa w ai (rw_ M i).length ci (rw_ M i) ∧ ∀ b off, ai = some ⟨b, off, none⟩ → 0 < (rw_ M i).length → T8 w b := by
  have hl := h.len
  obtain ⟨vs, h1, h2⟩ := h
  obtain ⟨a, c', k1, k2, k3, k4, k5⟩ := h2.2 i (by omega)
  obtain ⟨a', c'', e, hp⟩ := h2.pa (i := i) (by omega)
  rw [k1] at e
  cases e
  refine ⟨a, c', by rw [h1.cellAt i (by omega), k1], hp, fun b off e h0 => ?_⟩
  obtain ⟨b', off', e', _, ho, _⟩ := k5 h0
  rw [e] at e'
  cases e'
  exact ho
theorem GC.free {w : World} {base B n c : Nat} {M : List (List GF)} (h : GC w base B n c M) (i : Nat) : w.frozen? ⟨B, i, none⟩ = false := by
  obtain ⟨vs, h1, h2⟩ := h
  exact h1.frozenAt i
theorem GC.set {w : World} {base B n cc : Nat} {M : List (List GF)} (h : GC w base B n cc M) {i : Nat} (hi : i < n) {a : Option Addr} {c : Nat} {P : List GF} (hp : Pa w a P.length c P) (ho : ∀ b off, a = some ⟨b, off, none⟩ → 0 < P.length → T8 w b) : GC (w.setCell ⟨B, i, none⟩ (.slice a P.length c)) base B n cc (M.set i P) := by
  have hl := h.len
  have hne := fun b (hb : T8 w b) => h.ne hb
  obtain ⟨vs, h1, h2⟩ := h
  refine ⟨vs.set i (.slice a P.length c), (h1.stored i _).1, ?_⟩
  exact (h2.set (by omega) hp ho).keep (by simp) fun b hlt hb => ⟨hb.keep (Below.heap_setCell _ _ _ _ (hne b hb)), Below.heap_setCell _ _ _ _ (hne b hb)⟩
/-- An argument that is rows in blocks of bytes. -/
def M8 (w : World) (a : Option Addr) (n c : Nat) (M : List (List GF)) : Prop :=
  M.length = n ∧ n ≤ c ∧ c ≤ maxLen ∧ (a = none → c = 0) ∧ ∃ vs, RV w (T8 w) vs M ∧ (0 < n → ∃ b off, a = some ⟨b, off, none⟩ ∧ b < w.heap.size ∧ ∀ i, i < n → w.cell? ⟨b, off + i, none⟩ = vs[i]?)
theorem M8.mat {w : World} {a : Option Addr} {n c : Nat} {M : List (List GF)} (h : M8 w a n c M) : Mat w a n c M := by
  obtain ⟨h1, h2, h3, h4, vs, h5, h6⟩ := h
  exact ⟨h1, h2, h3, h4, vs, h5.keep (Nat.le_refl _) (fun _ _ _ => ⟨trivial, rfl⟩), h6⟩
theorem M8.on {w w' : World} {a : Option Addr} {n c : Nat} {M : List (List GF)} (h : M8 w a n c M) (hb : Below w.heap.size w w') : M8 w' a n c M := by
  obtain ⟨h1, h2, h3, h4, vs, h5, h6⟩ := h
  refine ⟨h1, h2, h3, h4, vs, h5.keep hb.size (fun b hlt ho => ⟨ho.keep (hb.block b hlt), hb.block b hlt⟩), fun h0 => ?_⟩
  obtain ⟨b, off, e, hlt, hc⟩ := h6 h0
  exact ⟨b, off, e, by have := hb.size; omega, fun i hi => (hb.cell (p := ⟨b, off + i, none⟩) hlt).trans (hc i hi)⟩
theorem M8.len {w : World} {a : Option Addr} {n c : Nat} {M : List (List GF)} (h : M8 w a n c M) : M.length = n := h.1
theorem M8.bd {w : World} {a : Option Addr} {n c : Nat} {M : List (List GF)} (h : M8 w a n c M) : n ≤ c ∧ c ≤ 9223372036854775807 := h.mat.bd
theorem M8.row {w : World} {a : Option Addr} {n c : Nat} {M : List (List GF)} (h : M8 w a n c M) {i : Nat} (hi : i < n) : ∃ b off ai ci, a = some ⟨b, off, none⟩ ∧ b < w.heap.size ∧ w.cell? ⟨b, off + i, none⟩ = some (.slice ai (rw_ M i).length ci) ∧ Pa w ai (rw_ M i).length ci (rw_ M i) := h.mat.row hi
theorem GC.m8 {w : World} {base B n c : Nat} {M : List (List GF)} (h : GC w base B n c M) : M8 w (some ⟨B, 0, none⟩) n c M := by
  have hl := h.len
  have hlt := h.lt
  have hcap := h.cap
  obtain ⟨vs, h1, h2⟩ := h
  exact ⟨hl, hcap.1, (by unfold maxLen; omega), (fun e => by cases e), vs, h2, fun _ => ⟨B, 0, rfl, hlt.2, fun i hi => by rw [Nat.zero_add]; exact h1.cellAt i (by omega)⟩⟩
theorem GC.mat {w : World} {base B n c : Nat} {M : List (List GF)} (h : GC w base B n c M) : Mat w (some ⟨B, 0, none⟩) n c M := h.m8.mat
theorem rw_replicate (n i : Nat) : rw_ (List.replicate n []) i = ([] : List GF) := by
  unfold rw_; simp [List.getD_eq_getElem?_getD, List.getElem?_replicate]; split <;> rfl
theorem GR.made (w : World) {n : Nat} (hn : n ≤ maxLen) : GR (w.alloc (.cells (madeCells #[.slice none 0 0] n) 22)) w.heap.size w.heap.size n (List.replicate n []) := by
  refine ⟨(madeCells #[Value.slice none 0 0] n).toList, World.ownsRow_lit w _ n (Nat.le_refl _) hn (by simp [size_madeCells]), ?_⟩
  rw [toList_madeCells_one]
  refine ⟨by simp, fun i hi => ⟨none, 0, ?_, ?_, Nat.zero_le _, fun _ => rfl, fun h0 => ?_⟩⟩
  · rw [rw_replicate]; simp at hi; simp [List.getElem?_replicate, hi]
  · rw [rw_replicate]; exact Nat.le_refl _
  · rw [rw_replicate] at h0; exact absurd h0 (by simp)
theorem own_t8 {w : World} {base g n c : Nat} {xs : List Value} (h : w.ownsRow base 5 1 (.slice (some ⟨g, 0, none⟩) n c) n xs) : T8 w g := by
  rcases h.2 with ⟨h3, _⟩ | ⟨g', cap, cur, e, hg, hh, _⟩
  · cases h3
  · cases e; exact ⟨cur, _, hh⟩
/-- A matrix behind a pointer: n rows of m numbers. -/
def Mx (w : World) (a : Option Addr) (n m : Nat) (M : List (List GF)) : Prop :=
  ∃ g s c, a = some ⟨g, 0, none⟩ ∧ g < w.heap.size ∧ w.cell? ⟨g, 0, none⟩ = some (.slice s n c) ∧ M8 w s n c M ∧ Wide M m ∧ (1 ≤ n ∧ n ≤ 64) ∧ (1 ≤ m ∧ m ≤ 64)
theorem Mx.on {w w' : World} {a : Option Addr} {n m : Nat} {M : List (List GF)} (h : Mx w a n m M) (hb : Below w.heap.size w w') : Mx w' a n m M := by
  obtain ⟨g, s, c, h1, h2, h3, h4, h5⟩ := h
  exact ⟨g, s, c, h1, by have := hb.size; omega, (hb.cell (p := ⟨g, 0, none⟩) h2).trans h3, h4.on hb, h5⟩
theorem Mx.len {w : World} {a : Option Addr} {n m : Nat} {M : List (List GF)} (h : Mx w a n m M) : M.length = n := by
  obtain ⟨g, s, c, h1, h2, h3, h4, h5⟩ := h
  exact h4.len
theorem Mx.wide {w : World} {a : Option Addr} {n m : Nat} {M : List (List GF)} (h : Mx w a n m M) : Wide M m := by
  obtain ⟨g, s, c, h1, h2, h3, h4, h5, _⟩ := h
  exact h5
theorem Mx.bd {w : World} {a : Option Addr} {n m : Nat} {M : List (List GF)} (h : Mx w a n m M) : (1 ≤ n ∧ n ≤ 64) ∧ (1 ≤ m ∧ m ≤ 64) := by
  obtain ⟨g, s, c, h1, h2, h3, h4, h5, h6⟩ := h
  exact h6

theorem fits_any (n : Int) (w : World) (h : -9223372036854775808 ≤ n ∧ n ≤ 9223372036854775807) : Calls Try.prog 31 #[.int .i64 n] w fun e w' => e = .returned (.bool (decide (1 ≤ n) && decide (n ≤ 64))) ∧ w = w' := by
  by_cases h1 : 1 ≤ n
  · by_cases h2 : n ≤ 64
    all_goals
      go_enter Try.func31, Try.ntmps31
      go_wp2
      go_ret
      exact ⟨by simp [h1, h2], rfl⟩
  · go_enter Try.func31, Try.ntmps31
    go_wp2
    go_ret
    exact ⟨by simp; omega, rfl⟩
theorem missing_nil (w : World) : Calls Try.prog 35 #[.pointer none] w fun e w' => e = .returned (.bool true) ∧ w = w' := by
  go_enter Try.func35, Try.ntmps35
  go_wp2
  go_ret
  exact ⟨rfl, rfl⟩
theorem missing_any (a : Option Addr) (n m : Nat) (M : List (List GF)) (w : World) (h : Mx w a n m M) : Calls Try.prog 35 #[.pointer a] w fun e w' => e = .returned (.bool false) ∧ w = w' := by
  obtain ⟨g, s, c, rfl, hg, hc, hm, hw, hn, hm1⟩ := h
  have q : ((n : Int) == 0) = false := by rw [beq_eq_false_iff_ne]; omega
  clear hm hw
  go_enter Try.func35, Try.ntmps35
  go_wp2
  go_ret
  exact ⟨rfl, rfl⟩
theorem size_nil (w : World) : Calls Try.prog 34 #[.pointer none] w fun e w' => e = .returned (.tuple #[.int .i64 0, .int .i64 0]) ∧ w = w' := by
  go_enter Try.func34, Try.ntmps34
  go_wp2_with (go_at_call 35; refine (missing_nil _).mono ?_; rintro e w' ⟨rfl, rfl⟩)
  go_ret2
  exact ⟨rfl, rfl⟩
theorem size_any (a : Option Addr) (n m : Nat) (M : List (List GF)) (w : World) (h : Mx w a n m M) : Calls Try.prog 34 #[.pointer a] w fun e w' => e = .returned (.tuple #[.int .i64 (n : Nat), .int .i64 (m : Nat)]) ∧ ∃ q, w' = w.drewN q := by
  have H := Lib.hid h
  obtain ⟨g, s, c, rfl, hg, hc, hm, hw, hn, hm1⟩ := h
  obtain ⟨b, off, ai, ci, rfl, hb, hcell, hpa⟩ := hm.row (i := 0) (by omega)
  rw [hw 0 (by rw [hm.len]; omega), Nat.add_zero] at hcell
  have q : (0 : Int) < (n : Int) := by omega
  clear hm hw hpa
  go_enter Try.func34, Try.ntmps34
  go_wp2_with (go_at_call 35; refine (missing_any _ _ _ _ _ H.out).mono ?_; rintro e w' ⟨rfl, rfl⟩)
  go_quiet (fail)
  go_wp2
  go_ret2
  exact ⟨rfl, _, rfl⟩
theorem has_any (a : Option Addr) (n m : Nat) (M : List (List GF)) (i : Int) (w : World) (h : Mx w a n m M) : Calls Try.prog 64 #[.pointer a, .int .i64 i] w fun e w' => e = .returned (.bool (decide (0 ≤ i) && decide (i < n))) ∧ ∃ q, w' = w.drewN q := by
  have H := Lib.hid h
  have hb := h.bd
  clear h
  by_cases h1 : 0 ≤ i
  · by_cases h2 : i < n
    all_goals
      go_enter Try.func64, Try.ntmps64
      go_wp2_with (go_at_call 34; refine (size_any _ _ _ _ _ H.out).mono ?_; rintro e w' ⟨rfl, q, rfl⟩)
      go_ret
      exact ⟨by simp [h1, h2], _, rfl⟩
  · go_enter Try.func64, Try.ntmps64
    go_wp2_with (go_at_call 34; refine (size_any _ _ _ _ _ H.out).mono ?_; rintro e w' ⟨rfl, q, rfl⟩)
    go_ret
    exact ⟨by simp; omega, _, rfl⟩
end Go.Proofs.Ytpoaimcioeopdaa
