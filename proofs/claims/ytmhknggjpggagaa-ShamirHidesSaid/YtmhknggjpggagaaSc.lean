/- What package shamir's functions answer: the contracts, as statements (each is to be proved of the program). -/
import Derived.Test.YtmhknggjpggagaaSv
namespace Go.Proofs.Ytmhknggjpggagaa
open Go.ChangeShapes Go.WideShapes Go.ChangeAt Go.RowKit Go.Shelf GF
set_option linter.unusedVariables false

/-- The shares at all places. -/
def shM (t n : Nat) (S M X : List GF) : List (List GF) := X.map fun x => shR t n S M x
theorem shM_len (t n : Nat) (S M X : List GF) : (shM t n S M X).length = X.length := by simp [shM]
theorem shM_row {t n k : Nat} {S M X : List GF} (h : k < X.length) : rw_ (shM t n S M X) k = shR t n S M (co X k) := by
  unfold rw_ shM co
  simp [List.getD_eq_getElem?_getD, h]
theorem rw_shM_len {t n k : Nat} {S M X : List GF} (h : k < X.length) : (rw_ (shM t n S M X) k).length = n := by rw [shM_row h, shR_len]
/-- Rows of two lists of rows, added. -/
def addM (A B : List (List GF)) : List (List GF) := (List.range A.length).map fun k => addR (rw_ A k) (rw_ B k)
theorem addM_len (A B : List (List GF)) : (addM A B).length = A.length := by simp [addM]
theorem addM_row {A B : List (List GF)} {k : Nat} (h : k < A.length) : rw_ (addM A B) k = addR (rw_ A k) (rw_ B k) := by
  show List.getD _ _ _ = _
  unfold addM
  simp [List.getD_eq_getElem?_getD, h]
/-- Rows of new memory: each lies from block B on. -/
def MatB (w : World) (B : Nat) (a : Option Addr) (n c : Nat) (M : List (List GF)) : Prop :=
  M.length = n ∧ n ≤ c ∧ c ≤ maxLen ∧ (a = none → c = 0) ∧ ∃ vs, RV w (fun b => B ≤ b) vs M ∧ (0 < n → ∃ b off, a = some ⟨b, off, none⟩ ∧ b < w.heap.size ∧ B ≤ b ∧ ∀ i, i < n → w.cell? ⟨b, off + i, none⟩ = vs[i]?)
theorem MatB.mat {w : World} {B : Nat} {a : Option Addr} {n c : Nat} {M : List (List GF)} (h : MatB w B a n c M) : Mat w a n c M := by
  obtain ⟨h1, h2, h3, h4, vs, h5, h6⟩ := h
  refine ⟨h1, h2, h3, h4, vs, h5.keep (Nat.le_refl _) (fun _ _ _ => ⟨trivial, rfl⟩), fun h0 => ?_⟩
  obtain ⟨b, off, e, hb, _, hc⟩ := h6 h0
  exact ⟨b, off, e, hb, hc⟩
theorem MatB.keep {w w' : World} {B : Nat} {a : Option Addr} {n c : Nat} {M : List (List GF)} (h : MatB w B a n c M) (hs : w.heap.size ≤ w'.heap.size) (hk : ∀ b, b < w.heap.size → B ≤ b → w'.heap[b]? = w.heap[b]?) : MatB w' B a n c M := by
  obtain ⟨h1, h2, h3, h4, vs, h5, h6⟩ := h
  refine ⟨h1, h2, h3, h4, vs, h5.keep hs (fun b hlt hb => ⟨hb, hk b hlt hb⟩), fun h0 => ?_⟩
  obtain ⟨b, off, e, hlt, hB, hc⟩ := h6 h0
  exact ⟨b, off, e, by omega, hB, fun i hi => (World.cell?_of_block (w := w) (a := ⟨b, off + i, none⟩) (hk b hlt hB)).trans (hc i hi)⟩
theorem MatB.on {w w' : World} {B : Nat} {a : Option Addr} {n c : Nat} {M : List (List GF)} (h : MatB w B a n c M) (hb : Below w.heap.size w w') : MatB w' B a n c M := h.keep hb.size (fun b hlt _ => hb.block b hlt)
theorem MatB.but {w w' : World} {B g : Nat} {a : Option Addr} {n c : Nat} {M : List (List GF)} (h : MatB w B a n c M) (hg : w.grownBy w' (some g)) (hlt : g < B) : MatB w' B a n c M := h.keep hg.size (fun b h1 h2 => hg.block b h1 (fun e => by injection e with e; omega))
def SplitC : Prop := ∀ (b t n m L : Nat) (aS : Option Addr) (cS : Nat) (S : List GF) (aM : Option Addr) (cM : Nat) (M : List GF) (aX : Option Addr) (cX : Nat) (X : List GF) (w : World),
  Fld w b → Pa w aS n cS S → Pa w aM m cM M → Pa w aX L cX X → 1 ≤ t → t ≤ 255 → m = (t - 1) * n → (∀ k, k < L → co X k ≠ 0) → n ≤ 1000 → L ≤ 255 →
  Calls Try.prog 12 #[.pointer (some ⟨b, 0, none⟩), .int .i64 (t : Nat), .slice aS n cS, .slice aM m cM, .slice aX L cX] w fun e w' =>
    ∃ a' c', e = .returned (.tuple #[.slice a' L c', .int .i64 0]) ∧ MatB w' w.heap.size a' L c' (shM t n S M X) ∧ Below w.heap.size w w'
def AtC : Prop := ∀ (b L n : Nat) (aX : Option Addr) (cX : Nat) (X : List GF) (aR : Option Addr) (cR : Nat) (Rm : List (List GF)) (x : GF) (w : World),
  Fld w b → Pa w aX L cX X → Mat w aR L cR Rm → Apart X → 1 ≤ L → L ≤ 255 → (∀ k, k < L → (rw_ Rm k).length = n) → n ≤ 1000 →
  Calls Try.prog 18 #[.pointer (some ⟨b, 0, none⟩), .slice aX L cX, .slice aR L cR, .int .u8 (toI x)] w fun e w' =>
    ∃ a' c', e = .returned (.tuple #[.slice a' n c', .int .i64 0]) ∧ Pa w' a' n c' (atR X (rw_ Rm) x n) ∧ Below w.heap.size w w'
def JoinC : Prop := ∀ (b L n : Nat) (aX : Option Addr) (cX : Nat) (X : List GF) (aR : Option Addr) (cR : Nat) (Rm : List (List GF)) (w : World),
  Fld w b → Pa w aX L cX X → Mat w aR L cR Rm → Apart X → 1 ≤ L → L ≤ 255 → (∀ k, k < L → (rw_ Rm k).length = n) → n ≤ 1000 →
  Calls Try.prog 19 #[.pointer (some ⟨b, 0, none⟩), .slice aX L cX, .slice aR L cR] w fun e w' =>
    ∃ a' c', e = .returned (.tuple #[.slice a' n c', .int .i64 0]) ∧ Pa w' a' n c' (atR X (rw_ Rm) 0 n) ∧ Below w.heap.size w w'
def AddC : Prop := ∀ (L : Nat) (aA : Option Addr) (cA : Nat) (A : List (List GF)) (aB : Option Addr) (cB : Nat) (B : List (List GF)) (w : World),
  Mat w aA L cA A → Mat w aB L cB B → (∀ k, k < L → (rw_ A k).length = (rw_ B k).length) → L ≤ 255 → (∀ k, k < L → (rw_ A k).length ≤ 1000) →
  Calls Try.prog 13 #[.slice aA L cA, .slice aB L cB] w fun e w' =>
    ∃ a' c', e = .returned (.tuple #[.slice a' L c', .int .i64 0]) ∧ MatB w' w.heap.size a' L c' (addM A B) ∧ Below w.heap.size w w'
end Go.Proofs.Ytmhknggjpggagaa
