/- MendRows where rows are of one length: plain facts; what Rows answers, both ways at once. -/
import Derived.Test.YtfmjfdbbjggcpaaRk
namespace Go.Proofs.Ytfmjfdbbjggcpaa
open Go.ChangeShapes Go.WideShapes Go.ChangeAt Go.RowKit Go.Shelf GF
set_option linter.unusedVariables false
set_option linter.unusedSimpArgs false
set_option maxRecDepth 100000

theorem info1 : (Try.prog.info? 4).map (fun i => (i.zero, i.size, i.bytes)) = some (some (.bool false), 1, 1) := by kernel_rfl
/-- A row of bools, told by a function. -/
def wrV (f : Nat → Bool) (L : Nat) : List Value := (List.range L).map fun i => .bool (f i)
theorem wrV_len (f : Nat → Bool) (L : Nat) : (wrV f L).length = L := by simp [wrV]
theorem wrV_at {f : Nat → Bool} {L i : Nat} (h : i < L) : (wrV f L)[i]? = some (.bool (f i)) := by simp [wrV, h]
theorem wrV_congr {f g : Nat → Bool} {L : Nat} (h : ∀ i, i < L → f i = g i) : wrV f L = wrV g L := by
  unfold wrV
  exact List.map_congr_left fun i hi => by rw [h i (List.mem_range.1 hi)]
theorem wrV_set {f : Nat → Bool} {L i : Nat} (b : Bool) : (wrV f L).set i (.bool b) = wrV (fun j => if j = i then b else f j) L := by
  apply List.ext_getElem?
  intro j
  rw [List.getElem?_set]
  by_cases h : i = j
  · subst h
    by_cases h2 : i < L
    · rw [if_pos rfl, if_pos (by rw [wrV_len]; exact h2), wrV_at h2]; simp
    · rw [if_pos rfl, if_neg (by rw [wrV_len]; exact h2), List.getElem?_eq_none (by rw [wrV_len]; omega)]
  · rw [if_neg h]
    by_cases h2 : j < L
    · rw [wrV_at h2, wrV_at h2, if_neg (fun e => h e.symm)]
    · rw [List.getElem?_eq_none (by rw [wrV_len]; omega), List.getElem?_eq_none (by rw [wrV_len]; omega)]
theorem own_madeW {w : World} {n : Nat} (hm : n ≤ maxLen) :
    (w.alloc (.cells (madeCells #[Value.bool false] n) 4)).ownsRow w.heap.size 4 1 (.slice (some ⟨w.heap.size, 0, none⟩) n n) n (wrV (fun _ => false) n) := by
  have := World.ownsRow_lit (base := w.heap.size) (e := 4) (size := 1) w (madeCells #[Value.bool false] n) n (Nat.le_refl _) hm (by simp [size_madeCells])
  rw [toList_madeCells_one] at this
  rw [show wrV (fun _ => false) n = List.replicate n (Value.bool false) from by unfold wrV; rw [List.map_const', List.length_range]]
  exact this
/-- The rows wrong so far, while column k is looked at: the first i rows have been. -/
def mixF (X : List GF) (R P : List (List GF)) (k i : Nat) : Nat → Bool := fun j => wrF X R P (if j < i then k + 1 else k) j
theorem mixF_zero (X : List GF) (R P : List (List GF)) (k L : Nat) : wrV (mixF X R P k 0) L = wrV (wrF X R P k) L := wrV_congr fun i _ => by unfold mixF; rw [if_neg (by omega)]
theorem mixF_all (X : List GF) (R P : List (List GF)) (k L : Nat) : wrV (mixF X R P k L) L = wrV (wrF X R P (k + 1)) L := wrV_congr fun i hi => by unfold mixF; rw [if_pos hi]
theorem mixF_at (X : List GF) (R P : List (List GF)) (k i : Nat) : mixF X R P k i i = wrF X R P k i := by unfold mixF; rw [if_neg (by omega)]
theorem mixF_set (X : List GF) (R P : List (List GF)) (k i L : Nat) {b : Bool} (hb : b = (wrF X R P k i || decide (ev (rw_ P k) (co X i) ≠ co (rw_ R i) k))) : (wrV (mixF X R P k i) L).set i (.bool b) = wrV (mixF X R P k (i + 1)) L := by
  rw [wrV_set]
  refine wrV_congr fun j _ => ?_
  unfold mixF
  by_cases h : j = i
  · subst h; rw [if_pos rfl, if_pos (by omega), wrF_next]; exact hb
  · rw [if_neg h]
    by_cases h2 : j < i
    · rw [if_pos h2, if_pos (by omega)]
    · rw [if_neg h2, if_neg (by omega)]
theorem colM_next {R : List (List GF)} {T i j : Nat} (h : j < T) : (colM R T i).take (j + 1) = (colM R T i).take j ++ [co (rw_ R j) i] := by
  rw [List.take_add_one, List.getElem?_eq_getElem (by rw [colM_len]; exact h)]
  have : (colM R T i)[j]'(by rw [colM_len]; exact h) = co (rw_ R j) i := by simp [colM]
  rw [this]; rfl
/-- The right polynomials of the columns, where there are any. -/
theorem pO_ex (X : List GF) (R : List (List GF)) (L t e n : Nat) (hA : Apart X) : ∃ P : List (List GF), P.length = n ∧ ∀ k p, k < n → RightP X (colM R L k) t e p → p = rw_ P k := by
  classical
  refine ⟨(List.range n).map fun k => if h : ∃ p, RightP X (colM R L k) t e p then h.choose else [], by simp, fun k p hk hp => ?_⟩
  have e1 : rw_ ((List.range n).map fun k => if h : ∃ p, RightP X (colM R L k) t e p then h.choose else []) k = if h : ∃ p, RightP X (colM R L k) t e p then h.choose else [] := by
    unfold rw_; simp [List.getD_eq_getElem?_getD, hk]
  rw [e1, dif_pos ⟨p, hp⟩]
  exact RightP.uniq hA hp (Exists.choose_spec (⟨p, hp⟩ : ∃ p, RightP X (colM R L k) t e p))
/-- What Rows answers of rows of one length, both ways at once. -/
theorem rows_both {Md : World → Addr → List (List GF) → List Nat → Prop} (hRA : RowsAll Md) (b L t n : Nat) (e : Int) (aX : Option Addr) (cX : Nat) (X : List GF) (aR : Option Addr) (cR : Nat) (R P : List (List GF)) (w : World) (hf : Fld w b) (hX : Pa w aX L cX X) (hR : Mat w aR L cR R) (hE : (Lit.int .i64 e).wf = true) (he0 : 0 ≤ e) (ht : 1 ≤ t) (htL : t ≤ L) (hL : L ≤ 6) (hp : plErr X = 0) (hn : ∀ k, k < L → (rw_ R k).length = n) (hn8 : n ≤ 8) (hPL : P.length = n) (hP : ∀ k p, k < n → RightP X (colM R L k) t e.toNat p → p = rw_ P k) :
    Calls Try.prog 15 #[.pointer (some ⟨b, 0, none⟩), .int .i64 (t : Nat), .slice aX L cX, .slice aR L cR, .int .i64 e] w fun r w' => ∃ m g, r = .returned (.tuple #[.pointer m, .int .i64 g]) ∧
      ((g = 0 ∧ ∃ p, m = some p ∧ Md w' p P (wrI X R P n L) ∧ ∀ k, k < n → RightP X (colM R L k) t e.toNat (rw_ P k)) ∨ (g = 11 ∧ m = none ∧ ∃ k, k < n ∧ ∀ p, ¬ RightP X (colM R L k) t e.toNat p)) ∧ Below w.heap.size w w' := by
  by_cases hb : ∃ k, k < n ∧ ∀ p, ¬ RightP X (colM R L k) t e.toNat p
  · obtain ⟨k, hk, hno⟩ := hb
    exact (hRA.no b L t n k e aX cX X aR cR R w hf hX hR hE he0 ht htL hL hp hn hn8 hk hno).mono fun r w' ⟨h1, h2⟩ => ⟨none, 11, h1, .inr ⟨rfl, rfl, k, hk, hno⟩, h2⟩
  · have hok : ∀ k, k < n → RightP X (colM R L k) t e.toNat (rw_ P k) := fun k hk => by
      by_cases h : ∃ p, RightP X (colM R L k) t e.toNat p
      · obtain ⟨p, h⟩ := h
        rw [← hP k p hk h]; exact h
      · exact absurd ⟨k, hk, fun p hp => h ⟨p, hp⟩⟩ hb
    exact (hRA.ok b L t n e aX cX X aR cR R P w hf hX hR hE he0 ht htL hL hp hn hn8 hPL hok).mono fun r w' ⟨p, h1, h2, h3⟩ => ⟨some p, 0, h1, .inl ⟨rfl, p, rfl, h2, hok⟩, h3⟩
theorem uI_like_all {R : List (List GF)} {L : Nat} (h : unl R L = false) : uI R L = 0 := by unfold uI; rw [h]; rfl
theorem own_bdY {w : World} {base n c : Nat} {e : TypeId} {a : Option Addr} {vs : List Value} (h : w.ownsRow base e 1 (.slice a n c) n vs) : n ≤ c ∧ c ≤ 9223372036854775807 := by
  rcases h.2 with ⟨e, h0⟩ | ⟨g, cap, cur, e, hg, hh, h4, h5, _⟩
  · cases e; omega
  · cases e; exact ⟨h4, by unfold maxLen at h5; omega⟩
theorem gb_drewN (w : World) (q : Nat) (r : Option Nat) : w.grownBy (w.drewN q) r := ⟨rfl, rfl, rfl, Nat.le_refl _, fun _ _ _ => rfl⟩
theorem ne_toI (a b : GF) : (toI a != toI b) = decide (a ≠ b) := by
  by_cases h : a = b
  · subst h; simp
  · rw [decide_eq_true h, bne_iff_ne]; exact fun e => h (toI_inj e)
/-- The next wrong row's number. -/
theorem wrI_hit {X : List GF} {R P : List (List GF)} {n z N : Nat} (hz : z < N) (h : wrF X R P n z = true) : (wrI X R P n z).length < (wrI X R P n N).length ∧ (zl (wrI X R P n N)).getD (wrI X R P n z).length 0 = (z : Int) ∧ (wrI X R P n (z + 1)).length = (wrI X R P n z).length + 1 := by
  obtain ⟨l, hl⟩ := wrI_take X R P n (show z + 1 ≤ N from hz)
  rw [wrI_next, if_pos h] at hl
  refine ⟨by rw [hl]; simp, ?_, by rw [wrI_next, if_pos h]; simp⟩
  rw [zl_get, hl]
  simp [List.getD_eq_getElem?_getD]
theorem wrI_mem {X : List GF} {R P : List (List GF)} {n N x : Nat} (h : x ∈ wrI X R P n N) : x < N := by
  unfold wrI at h
  exact List.mem_range.1 (List.mem_filter.1 h).1
end Go.Proofs.Ytfmjfdbbjggcpaa
