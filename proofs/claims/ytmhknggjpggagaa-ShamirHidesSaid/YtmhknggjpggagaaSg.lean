/- Package shamir's refusals, and MaskSize, as statements; which places are 0. -/
import Derived.Test.YtmhknggjpggagaaSf
namespace Go.Proofs.Ytmhknggjpggagaa
open Go.ChangeShapes Go.WideShapes Go.ChangeAt Go.RowKit Go.Shelf GF
set_option linter.unusedVariables false

def SplitRangeC : Prop := ∀ (b n m L : Nat) (t : Int) (aS : Option Addr) (cS : Nat) (S : List GF) (aM : Option Addr) (cM : Nat) (M : List GF) (aX : Option Addr) (cX : Nat) (X : List GF) (w : World),
  Fld w b → Pa w aS n cS S → Pa w aM m cM M → Pa w aX L cX X → (Lit.int .i64 t).wf = true → (t < 1 ∨ 255 < t ∨ ∃ k, k < L ∧ co X k = 0) → n ≤ 1000 → L ≤ 255 →
  Calls Try.prog 12 #[.pointer (some ⟨b, 0, none⟩), .int .i64 t, .slice aS n cS, .slice aM m cM, .slice aX L cX] w fun e w' =>
    ∃ a' c', e = .returned (.tuple #[.slice a' 0 c', .int .i64 2]) ∧ Below w.heap.size w w'
def SplitFormC : Prop := ∀ (b t n m L : Nat) (aS : Option Addr) (cS : Nat) (S : List GF) (aM : Option Addr) (cM : Nat) (M : List GF) (aX : Option Addr) (cX : Nat) (X : List GF) (w : World),
  Fld w b → Pa w aS n cS S → Pa w aM m cM M → Pa w aX L cX X → 1 ≤ t → t ≤ 255 → (∀ k, k < L → co X k ≠ 0) → m ≠ (t - 1) * n → n ≤ 1000 → L ≤ 255 →
  Calls Try.prog 12 #[.pointer (some ⟨b, 0, none⟩), .int .i64 (t : Nat), .slice aS n cS, .slice aM m cM, .slice aX L cX] w fun e w' =>
    ∃ a' c', e = .returned (.tuple #[.slice a' 0 c', .int .i64 3]) ∧ Below w.heap.size w w'
def SplitArgC : Prop := ∀ (t n m L : Nat) (aS : Option Addr) (cS : Nat) (S : List GF) (aM : Option Addr) (cM : Nat) (M : List GF) (aX : Option Addr) (cX : Nat) (X : List GF) (w : World),
  Pa w aS n cS S → Pa w aM m cM M → Pa w aX L cX X → 1 ≤ t → t ≤ 255 → n ≤ 1000 → L ≤ 255 →
  Calls Try.prog 12 #[.pointer none, .int .i64 (t : Nat), .slice aS n cS, .slice aM m cM, .slice aX L cX] w fun e w' => ∃ v, e = .returned (.tuple #[v, .int .i64 1]) ∧ Below w.heap.size w w'
def ShareZeroC : Prop := ∀ (b t n m : Nat) (aS : Option Addr) (cS : Nat) (S : List GF) (aM : Option Addr) (cM : Nat) (M : List GF) (w : World),
  Fld w b → Pa w aS n cS S → Pa w aM m cM M → 1 ≤ t → t ≤ 255 → n ≤ 1000 →
  Calls Try.prog 15 #[.pointer (some ⟨b, 0, none⟩), .int .i64 (t : Nat), .slice aS n cS, .slice aM m cM, .int .u8 0] w fun e w' => ∃ v, e = .returned (.tuple #[v, .int .i64 2]) ∧ Below w.heap.size w w'
def MaskC : Prop := ∀ (t n : Nat) (w : World), 1 ≤ t → t ≤ 255 → n ≤ 1000 →
  Calls Try.prog 14 #[.int .i64 (t : Nat), .int .i64 (n : Nat)] w fun e w' => e = .returned (.int .i64 (((t - 1) * n : Nat) : Int)) ∧ Below w.heap.size w w'
def MaskNoC : Prop := ∀ (t s : Int) (w : World), (Lit.int .i64 t).wf = true → (Lit.int .i64 s).wf = true → (t < 1 ∨ 255 < t ∨ s < 0) →
  Calls Try.prog 14 #[.int .i64 t, .int .i64 s] w fun e w' => e = .returned (.int .i64 0) ∧ Below w.heap.size w w'

theorem snN_false {X : List GF} {L : Nat} (hL : X.length = L) (h : snN X L 0 = false) : ∀ k, k < L → co X k ≠ 0 := fun k hk e => by
  have h1 : (0 : GF) ∈ X := by rw [← e, co_lt (by rw [hL]; exact hk)]; exact List.getElem_mem _
  have h2 := (snN_mem (X := X) (y := (0 : GF))).2 h1
  rw [hL] at h2
  rw [show ((0 : GF).1) = 0 from rfl] at h2
  rw [h] at h2; cases h2
theorem snN_true {X : List GF} {L : Nat} (hL : X.length = L) (h : snN X L 0 = true) : ∃ k, k < L ∧ co X k = 0 := by
  have h1 : snN X X.length (0 : GF).1 = true := by rw [hL]; exact h
  obtain ⟨k, hk, e⟩ := List.getElem_of_mem (snN_mem.1 h1)
  exact ⟨k, by omega, by rw [co_lt hk, e]⟩
theorem snN_step {X : List GF} {k : Nat} (hk : k < X.length) : (co X k = 0 → snN X (k + 1) 0 = true) ∧ (co X k ≠ 0 → snN X (k + 1) 0 = snN X k 0) := by
  have h := snN_next hk 0
  constructor
  · intro e; rw [h, if_pos (by rw [e]; rfl)]
  · intro e; rw [h, if_neg (fun e2 => e (GF.ext e2.symm))]
end Go.Proofs.Ytmhknggjpggagaa
