/- The contracts of package sector's commits, as propositions; the laws' lives. -/
import Derived.Test.YtkfdcdfaikkneaaId
namespace Go.Proofs.Ytkfdcdfaikkneaa
open Go.ChangeShapes Go.WideShapes Go.ChangeAt Go.RowKit Go.Shelf
set_option linter.unusedVariables false
set_option linter.unusedSimpArgs false
set_option maxRecDepth 100000
attribute [local go_sem] Oper.semAt_some

def cmA (c : CM) : Value := .agg #[.int .u8 c.st, .int .u8 c.n, .int .u64 c.g]
def CM.E (c : CM) : Int := if c.Ok then 0 else 2
def pcmZ (b : List Int) : CM := (pcm b).getD ⟨0, 0, 0⟩
def pcmE (b : List Int) : Int := if (pcm b).isSome then 0 else 3
/-- What is told lies in new memory. -/
def NewS (w : World) (a : Option Addr) (n : Nat) : Prop := 0 < n → ∀ b o, a = some ⟨b, o, none⟩ → w.heap.size ≤ b
def CommitBytesC : Prop := ∀ (c : CM) (w : World), c.Wf →
  Calls Try.prog 68 #[cmA c] w fun e w' => ∃ a k, e = .returned (.tuple #[.slice a c.S.length k, .int .i64 c.E]) ∧ Arg8c w' a c.S.length k c.S ∧ NewS w a c.S.length ∧ Below w.heap.size w w'
def ParseCommitC : Prop := ∀ (a : Option Addr) (n k : Nat) (b : List Int) (w : World), Arg8c w a n k b → n ≤ 600 →
  Calls Try.prog 28 #[.slice a n k] w fun e w' => e = .returned (.tuple #[cmA (pcmZ b), .int .i64 (pcmE b)]) ∧ Below w.heap.size w w'
theorem CM.S_ok {c : CM} (h : c.Ok) : c.S = c.B ∧ c.E = 0 := ⟨if_pos h, if_pos h⟩
theorem CM.S_no {c : CM} (h : ¬ c.Ok) : c.S = [] ∧ c.E = 2 := ⟨if_neg h, if_neg h⟩
theorem CM.S_B {c : CM} (h : c.Wf) : AllB c.S := by
  unfold CM.S; split
  · exact CM.B_B h
  · exact fun x hx => by cases hx
theorem arg_str {w W : World} {a : Option Addr} {n k : Nat} {l : List Int} (h : Arg8c w a n k l) (hb : Below w.heap.size w W) : (convert 47 9 (.slice a n k)).run Try.prog W = .ok (.string (strOfNums l)) W :=
  (h.1.2.2.1.below hb).str h.1.1 Try.underlying47 Try.underlying5 Try.underlying9
def exCM : CM := ⟨1, 2, 3⟩
theorem exCM_wf : exCM.Wf := ⟨⟨by decide, by decide⟩, ⟨by decide, by decide⟩, by decide, by decide⟩
theorem exCM_12 : exCM.B.take 12 = [76, 67, 1, 2, 0, 0, 0, 0, 0, 0, 0, 3] := by decide
end Go.Proofs.Ytkfdcdfaikkneaa
