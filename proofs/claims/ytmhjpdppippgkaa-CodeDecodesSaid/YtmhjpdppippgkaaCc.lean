/- What package code's functions answer: the contracts, as statements (each is to be proved of the program). -/
import Derived.Test.YtmhjpdppippgkaaCm
import Derived.Test.YtmhjpdppippgkaaQ3
import Derived.Test.YtmhjpdppippgkaaQ4
namespace Go.Proofs.Ytmhjpdppippgkaa
open Go.ChangeShapes Go.WideShapes Go.ChangeAt Go.RowKit Go.Shelf GF
set_option linter.unusedVariables false

def EncodeC : Prop := ∀ (b t N n : Nat) (aR : Option Addr) (cR : Nat) (R : List (List GF)) (w : World),
  Fld w b → Mat w aR t cR R → 1 ≤ t → t ≤ N → N ≤ 255 → (∀ k, k < t → (rw_ R k).length = n) → n ≤ 1000 →
  Calls Try.prog 11 #[.pointer (some ⟨b, 0, none⟩), .int .i64 (N : Nat), .slice aR t cR] w fun e w' =>
    ∃ a' c', e = .returned (.tuple #[.slice a' N c', .int .i64 0]) ∧ MatB w' w.heap.size a' N c' (encM R n N) ∧ Below w.heap.size w w'
def EncodeRangeC : Prop := ∀ (b t : Nat) (N : Int) (aR : Option Addr) (cR : Nat) (R : List (List GF)) (w : World),
  Fld w b → Mat w aR t cR R → (Lit.int .i64 N).wf = true → (t = 0 ∨ N < t ∨ 255 < N) → t ≤ 255 → (∀ k, k < t → (rw_ R k).length ≤ 1000) →
  Calls Try.prog 11 #[.pointer (some ⟨b, 0, none⟩), .int .i64 N, .slice aR t cR] w fun e w' => ∃ a' c', e = .returned (.tuple #[.slice a' 0 c', .int .i64 2]) ∧ Below w.heap.size w w'
def EncodeFormC : Prop := ∀ (b t N : Nat) (aR : Option Addr) (cR : Nat) (R : List (List GF)) (w : World),
  Fld w b → Mat w aR t cR R → 1 ≤ t → t ≤ N → N ≤ 255 → unl R t = true → (∀ k, k < t → (rw_ R k).length ≤ 1000) →
  Calls Try.prog 11 #[.pointer (some ⟨b, 0, none⟩), .int .i64 (N : Nat), .slice aR t cR] w fun e w' => ∃ a' c', e = .returned (.tuple #[.slice a' 0 c', .int .i64 3]) ∧ Below w.heap.size w w'
def EncodeArgC : Prop := ∀ (t : Nat) (N : Int) (aR : Option Addr) (cR : Nat) (R : List (List GF)) (w : World),
  Mat w aR t cR R → (Lit.int .i64 N).wf = true → t ≤ 255 → (∀ k, k < t → (rw_ R k).length ≤ 1000) →
  Calls Try.prog 11 #[.pointer none, .int .i64 N, .slice aR t cR] w fun e w' => ∃ v, e = .returned (.tuple #[v, .int .i64 1]) ∧ Below w.heap.size w w'
def PieceC : Prop := ∀ (b t x n : Nat) (aR : Option Addr) (cR : Nat) (R : List (List GF)) (w : World),
  Fld w b → Mat w aR t cR R → 1 ≤ t → t ≤ 255 → 1 ≤ x → x ≤ 255 → (∀ k, k < t → (rw_ R k).length = n) → n ≤ 1000 →
  Calls Try.prog 12 #[.pointer (some ⟨b, 0, none⟩), .slice aR t cR, .int .i64 (x : Nat)] w fun e w' =>
    ∃ a' c', e = .returned (.tuple #[.slice a' n c', .int .i64 0]) ∧ Pa w' a' n c' (pcR R n (pl x)) ∧ Below w.heap.size w w'
def PieceRangeC : Prop := ∀ (b t : Nat) (x : Int) (aR : Option Addr) (cR : Nat) (R : List (List GF)) (w : World),
  Fld w b → Mat w aR t cR R → (Lit.int .i64 x).wf = true → (t = 0 ∨ x < 1 ∨ 255 < x) → t ≤ 255 → (∀ k, k < t → (rw_ R k).length ≤ 1000) →
  Calls Try.prog 12 #[.pointer (some ⟨b, 0, none⟩), .slice aR t cR, .int .i64 x] w fun e w' => ∃ a' c', e = .returned (.tuple #[.slice a' 0 c', .int .i64 2]) ∧ Below w.heap.size w w'
def PieceFormC : Prop := ∀ (b t x : Nat) (aR : Option Addr) (cR : Nat) (R : List (List GF)) (w : World),
  Fld w b → Mat w aR t cR R → 1 ≤ t → t ≤ 255 → 1 ≤ x → x ≤ 255 → unl R t = true → (∀ k, k < t → (rw_ R k).length ≤ 1000) →
  Calls Try.prog 12 #[.pointer (some ⟨b, 0, none⟩), .slice aR t cR, .int .i64 (x : Nat)] w fun e w' => ∃ a' c', e = .returned (.tuple #[.slice a' 0 c', .int .i64 3]) ∧ Below w.heap.size w w'
def PieceArgC : Prop := ∀ (t : Nat) (x : Int) (aR : Option Addr) (cR : Nat) (R : List (List GF)) (w : World),
  Mat w aR t cR R → (Lit.int .i64 x).wf = true → t ≤ 255 → (∀ k, k < t → (rw_ R k).length ≤ 1000) →
  Calls Try.prog 12 #[.pointer none, .slice aR t cR, .int .i64 x] w fun e w' => ∃ v, e = .returned (.tuple #[v, .int .i64 1]) ∧ Below w.heap.size w w'
/-- The parts that bytes are cut into, and how long they are. -/
def ceil (L t : Nat) : Nat := (L + t - 1) / t
def cutM (B : List GF) (t n : Nat) : List (List GF) := (List.range t).map fun i => (List.range n).map fun k => co B (i * n + k)
def CutC : Prop := ∀ (L t : Nat) (aB : Option Addr) (cB : Nat) (B : List GF) (w : World),
  Pa w aB L cB B → 1 ≤ t → t ≤ 255 → L ≤ 1000 →
  Calls Try.prog 16 #[.slice aB L cB, .int .i64 (t : Nat)] w fun e w' =>
    ∃ a' c', e = .returned (.tuple #[.slice a' t c', .int .i64 0]) ∧ MatB w' w.heap.size a' t c' (cutM B t (ceil L t)) ∧ Below w.heap.size w w'
def CutBadC : Prop := ∀ (L : Nat) (t : Int) (aB : Option Addr) (cB : Nat) (B : List GF) (w : World),
  Pa w aB L cB B → (Lit.int .i64 t).wf = true → (t < 1 ∨ 255 < t) → L ≤ 1000 →
  Calls Try.prog 16 #[.slice aB L cB, .int .i64 t] w fun e w' => ∃ a' c', e = .returned (.tuple #[.slice a' 0 c', .int .i64 2]) ∧ Below w.heap.size w w'
def PartC : Prop := ∀ (L t : Nat) (w : World), 1 ≤ t → t ≤ 255 → L ≤ 1000 →
  Calls Try.prog 17 #[.int .i64 (L : Nat), .int .i64 (t : Nat)] w fun e w' => e = .returned (.int .i64 (ceil L t : Nat)) ∧ ∃ q, w' = w.drewN q
def PartBadC : Prop := ∀ (L : Nat) (t : Int) (w : World), (Lit.int .i64 t).wf = true → (t < 1 ∨ 255 < t) → L ≤ 1000 →
  Calls Try.prog 17 #[.int .i64 (L : Nat), .int .i64 t] w fun e w' => e = .returned (.int .i64 0) ∧ ∃ q, w' = w.drewN q
/-- All rows, one behind the other. -/
def flat (M : List (List GF)) : List GF := M.flatten
def GlueC : Prop := ∀ (t s : Nat) (aR : Option Addr) (cR : Nat) (R : List (List GF)) (w : World),
  Mat w aR t cR R → s ≤ (flat R).length → t ≤ 255 → (∀ k, k < t → (rw_ R k).length ≤ 1000) →
  Calls Try.prog 19 #[.slice aR t cR, .int .i64 (s : Nat)] w fun e w' =>
    ∃ a' c', e = .returned (.tuple #[.slice a' s c', .int .i64 0]) ∧ Pa w' a' s c' ((flat R).take s) ∧ Below w.heap.size w w'
def GlueBadC : Prop := ∀ (t : Nat) (s : Int) (aR : Option Addr) (cR : Nat) (R : List (List GF)) (w : World),
  Mat w aR t cR R → (Lit.int .i64 s).wf = true → (s < 0 ∨ ((flat R).length : Int) < s) → t ≤ 255 → (∀ k, k < t → (rw_ R k).length ≤ 1000) →
  Calls Try.prog 19 #[.slice aR t cR, .int .i64 s] w fun e w' => ∃ a' c', e = .returned (.tuple #[.slice a' 0 c', .int .i64 2]) ∧ Below w.heap.size w w'
end Go.Proofs.Ytmhjpdppippgkaa
