/- At's and Join's refusals, as statements; which rows are of unlike lengths. -/
import Derived.Test.YtmhknggjpggagaaSg
namespace Go.Proofs.Ytmhknggjpggagaa
open Go.ChangeShapes Go.WideShapes Go.ChangeAt Go.RowKit Go.Shelf GF
set_option linter.unusedVariables false

/-- Has one of the first k rows another length than the first? -/
def unl (M : List (List GF)) (k : Nat) : Bool := (M.take k).any fun r => r.length != (rw_ M 0).length
def uI (M : List (List GF)) (k : Nat) : Int := if unl M k then 3 else 0
theorem uI_zero (M : List (List GF)) : uI M 0 = 0 := by simp [uI, unl]
theorem unl_next {M : List (List GF)} {k : Nat} (h : k < M.length) : unl M (k + 1) = (unl M k || ((rw_ M k).length != (rw_ M 0).length)) := by
  unfold unl
  rw [List.take_add_one, List.any_append, List.getElem?_eq_getElem h]
  simp [rw_, List.getD_eq_getElem?_getD, h]
theorem uI_like {M : List (List GF)} {k : Nat} (h : k < M.length) (e : (rw_ M k).length = (rw_ M 0).length) : uI M (k + 1) = uI M k := by
  unfold uI; rw [unl_next h, e]; simp
theorem uI_unlike {M : List (List GF)} {k : Nat} (h : k < M.length) (e : (rw_ M k).length ≠ (rw_ M 0).length) : uI M (k + 1) = 3 := by
  unfold uI; rw [unl_next h]; simp [e]
theorem unl_mem {M : List (List GF)} (h : unl M M.length = false) {k : Nat} (hk : k < M.length) : (rw_ M k).length = (rw_ M 0).length := by
  unfold unl at h
  rw [List.take_length, List.any_eq_false] at h
  have := h (M[k]) (List.getElem_mem hk)
  have e : rw_ M k = M[k] := by simp [rw_, List.getD_eq_getElem?_getD, hk]
  rw [e]; simpa using this
/-- What At and Join answer of these shares. -/
noncomputable def atErr (X : List GF) (M : List (List GF)) : Int := if X.length ≠ M.length then 1 else if unl M M.length then 3 else plErr X
def AtBadC : Prop := ∀ (b L N : Nat) (aX : Option Addr) (cX : Nat) (X : List GF) (aR : Option Addr) (cR : Nat) (Rm : List (List GF)) (x : GF) (w : World),
  Fld w b → Pa w aX L cX X → Mat w aR N cR Rm → (∀ k, k < N → (rw_ Rm k).length ≤ 1000) → atErr X Rm ≠ 0 → L ≤ 255 → N ≤ 255 →
  Calls Try.prog 18 #[.pointer (some ⟨b, 0, none⟩), .slice aX L cX, .slice aR N cR, .int .u8 (toI x)] w fun e w' =>
    ∃ a' c', e = .returned (.tuple #[.slice a' 0 c', .int .i64 (atErr X Rm)]) ∧ Below w.heap.size w w'
def JoinBadC : Prop := ∀ (b L N : Nat) (aX : Option Addr) (cX : Nat) (X : List GF) (aR : Option Addr) (cR : Nat) (Rm : List (List GF)) (w : World),
  Fld w b → Pa w aX L cX X → Mat w aR N cR Rm → (∀ k, k < N → (rw_ Rm k).length ≤ 1000) → atErr X Rm ≠ 0 → L ≤ 255 → N ≤ 255 →
  Calls Try.prog 19 #[.pointer (some ⟨b, 0, none⟩), .slice aX L cX, .slice aR N cR] w fun e w' =>
    ∃ a' c', e = .returned (.tuple #[.slice a' 0 c', .int .i64 (atErr X Rm)]) ∧ Below w.heap.size w w'
def AtArgC : Prop := ∀ (L N : Nat) (aX : Option Addr) (cX : Nat) (X : List GF) (aR : Option Addr) (cR : Nat) (Rm : List (List GF)) (x : GF) (w : World),
  Pa w aX L cX X → Mat w aR N cR Rm → (∀ k, k < N → (rw_ Rm k).length ≤ 1000) → L ≤ 255 → N ≤ 255 →
  Calls Try.prog 18 #[.pointer none, .slice aX L cX, .slice aR N cR, .int .u8 (toI x)] w fun e w' => ∃ v, e = .returned (.tuple #[v, .int .i64 1]) ∧ Below w.heap.size w w'
end Go.Proofs.Ytmhknggjpggagaa
