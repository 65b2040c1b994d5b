/- What package mend's Rows, At, Wrong and Radius answer: the contracts, as statements over whatever a Mended is in memory. -/
import Derived.Test.YtfmjfdbbjggcpaaRi
import Derived.Test.YtfmjfdbbjggcpaaFl
namespace Go.Proofs.Ytfmjfdbbjggcpaa
open Go.ChangeShapes Go.WideShapes Go.ChangeAt Go.RowKit Go.Shelf GF
set_option linter.unusedVariables false
set_option linter.unusedSimpArgs false

/-- A column of rows. -/
def colM (R : List (List GF)) (T i : Nat) : List GF := (List.range T).map fun k => co (rw_ R k) i
theorem colM_len (R : List (List GF)) (T i : Nat) : (colM R T i).length = T := by simp [colM]
theorem colM_co (R : List (List GF)) {T i k : Nat} (h : k < T) : co (colM R T i) k = co (rw_ R k) i := by
  show List.getD _ _ _ = _
  unfold colM; simp [List.getD_eq_getElem?_getD, h]
/-- Is the i-th row wrong in one of the first k columns? -/
def wrF (X : List GF) (R P : List (List GF)) (k i : Nat) : Bool := (List.range k).any fun q => decide (ev (rw_ P q) (co X i) ≠ co (rw_ R i) q)
theorem wrF_zero (X : List GF) (R P : List (List GF)) (i : Nat) : wrF X R P 0 i = false := rfl
theorem wrF_next (X : List GF) (R P : List (List GF)) (k i : Nat) : wrF X R P (k + 1) i = (wrF X R P k i || decide (ev (rw_ P k) (co X i) ≠ co (rw_ R i) k)) := by
  unfold wrF; rw [List.range_succ, List.any_append]; simp
/-- The numbers of the rows that are wrong. -/
def wrI (X : List GF) (R P : List (List GF)) (n N : Nat) : List Nat := (List.range N).filter fun i => wrF X R P n i
theorem wrI_next (X : List GF) (R P : List (List GF)) (n i : Nat) : wrI X R P n (i + 1) = wrI X R P n i ++ if wrF X R P n i then [i] else [] := by
  unfold wrI
  rw [List.range_succ, List.filter_append]
  by_cases h : wrF X R P n i <;> simp [h]
theorem wrI_le (X : List GF) (R P : List (List GF)) (n i : Nat) : (wrI X R P n i).length ≤ i := by unfold wrI; have := List.length_filter_le (fun i => wrF X R P n i) (List.range i); simpa using this
theorem wrI_take (X : List GF) (R P : List (List GF)) (n : Nat) {i N : Nat} (h : i ≤ N) : ∃ l, wrI X R P n N = wrI X R P n i ++ l := by
  obtain ⟨d, rfl⟩ : ∃ d, N = i + d := ⟨N - i, by omega⟩
  refine ⟨((List.range d).map (i + ·)).filter fun i => wrF X R P n i, ?_⟩
  unfold wrI
  rw [List.range_add, List.filter_append]
/-- What rows should be at a place. -/
def evP (P : List (List GF)) (x : GF) : List GF := P.map fun p => ev p x
theorem evP_len (P : List (List GF)) (x : GF) : (evP P x).length = P.length := by simp [evP]
theorem evP_co {P : List (List GF)} (x : GF) {k : Nat} (h : k < P.length) : co (evP P x) k = ev (rw_ P k) x := by
  show List.getD _ _ _ = _
  unfold evP rw_; simp [List.getD_eq_getElem?_getD, h]
/-- The contracts: Md w p P W: a Mended of these polynomials, with these rows wrong, lies behind p. -/
structure RowsAll (Md : World → Addr → List (List GF) → List Nat → Prop) : Prop where
  keep : ∀ (w w' : World) (p : Addr) (P : List (List GF)) (W : List Nat), Md w p P W → Below w.heap.size w w' → Md w' p P W
  err : ∀ (b L K : Nat) (t e : Int) (aX : Option Addr) (cX : Nat) (X : List GF) (aR : Option Addr) (cR : Nat) (R : List (List GF)) (w : World),
    Fld w b → Pa w aX L cX X → Mat w aR K cR R → (Lit.int .i64 t).wf = true → (Lit.int .i64 e).wf = true → L ≤ 6 → K ≤ 6 → (∀ k, k < K → (rw_ R k).length ≤ 8) → colErr X K t e ≠ 0 →
    Calls Try.prog 15 #[.pointer (some ⟨b, 0, none⟩), .int .i64 t, .slice aX L cX, .slice aR K cR, .int .i64 e] w fun r w' => r = .returned (.tuple #[.pointer none, .int .i64 (colErr X K t e)]) ∧ Below w.heap.size w w'
  form : ∀ (b L t : Nat) (e : Int) (aX : Option Addr) (cX : Nat) (X : List GF) (aR : Option Addr) (cR : Nat) (R : List (List GF)) (w : World),
    Fld w b → Pa w aX L cX X → Mat w aR L cR R → (Lit.int .i64 e).wf = true → 0 ≤ e → 1 ≤ t → t ≤ L → L ≤ 6 → plErr X = 0 → (∀ k, k < L → (rw_ R k).length ≤ 8) → unl R L = true →
    Calls Try.prog 15 #[.pointer (some ⟨b, 0, none⟩), .int .i64 (t : Nat), .slice aX L cX, .slice aR L cR, .int .i64 e] w fun r w' => r = .returned (.tuple #[.pointer none, .int .i64 3]) ∧ Below w.heap.size w w'
  no : ∀ (b L t n k : Nat) (e : Int) (aX : Option Addr) (cX : Nat) (X : List GF) (aR : Option Addr) (cR : Nat) (R : List (List GF)) (w : World),
    Fld w b → Pa w aX L cX X → Mat w aR L cR R → (Lit.int .i64 e).wf = true → 0 ≤ e → 1 ≤ t → t ≤ L → L ≤ 6 → plErr X = 0 → (∀ k, k < L → (rw_ R k).length = n) → n ≤ 8 → k < n → (∀ p, ¬ RightP X (colM R L k) t e.toNat p) →
    Calls Try.prog 15 #[.pointer (some ⟨b, 0, none⟩), .int .i64 (t : Nat), .slice aX L cX, .slice aR L cR, .int .i64 e] w fun r w' => r = .returned (.tuple #[.pointer none, .int .i64 11]) ∧ Below w.heap.size w w'
  ok : ∀ (b L t n : Nat) (e : Int) (aX : Option Addr) (cX : Nat) (X : List GF) (aR : Option Addr) (cR : Nat) (R P : List (List GF)) (w : World),
    Fld w b → Pa w aX L cX X → Mat w aR L cR R → (Lit.int .i64 e).wf = true → 0 ≤ e → 1 ≤ t → t ≤ L → L ≤ 6 → plErr X = 0 → (∀ k, k < L → (rw_ R k).length = n) → n ≤ 8 → P.length = n → (∀ k, k < n → RightP X (colM R L k) t e.toNat (rw_ P k)) →
    Calls Try.prog 15 #[.pointer (some ⟨b, 0, none⟩), .int .i64 (t : Nat), .slice aX L cX, .slice aR L cR, .int .i64 e] w fun r w' => ∃ p, r = .returned (.tuple #[.pointer (some p), .int .i64 0]) ∧ Md w' p P (wrI X R P n L) ∧ Below w.heap.size w w'
  at_ : ∀ (p : Addr) (P : List (List GF)) (W : List Nat) (x : GF) (w : World), Md w p P W → P.length ≤ 8 → (∀ k, k < P.length → (rw_ P k).length ≤ 6) →
    Calls Try.prog 17 #[.pointer (some p), .int .u8 (toI x)] w fun r w' => ∃ a c, r = .returned (.slice a P.length c) ∧ Pa w' a P.length c (evP P x) ∧ Below w.heap.size w w'
  wrong : ∀ (p : Addr) (P : List (List GF)) (W : List Nat) (w : World), Md w p P W → W.length ≤ 6 → (∀ x, x ∈ W → x ≤ 6) →
    Calls Try.prog 18 #[.pointer (some p)] w fun r w' => ∃ a c, r = .returned (.slice a W.length c) ∧ IA w' a W.length c (zl W) ∧ Below w.heap.size w w'
  atNil : ∀ (x : GF) (w : World), Calls Try.prog 17 #[.pointer none, .int .u8 (toI x)] w fun r w' => ∃ a c, r = .returned (.slice a 0 c) ∧ Below w.heap.size w w'
  wrongNil : ∀ (w : World), Calls Try.prog 18 #[.pointer none] w fun r w' => ∃ a c, r = .returned (.slice a 0 c) ∧ Below w.heap.size w w'
  radius : ∀ (m t : Nat) (w : World), m ≤ 1000 → t ≤ 1000 → Calls Try.prog 19 #[.int .i64 (m : Nat), .int .i64 (t : Nat)] w fun r w' => r = .returned (.int .i64 (((m - t) / 2 : Nat) : Int)) ∧ Below w.heap.size w w'
end Go.Proofs.Ytfmjfdbbjggcpaa
