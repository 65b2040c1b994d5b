/- The contracts of package sector's shares, as propositions; the law's sameShare. -/
import Derived.Test.YtkfdcdfaikkneaaIf
import Derived.Test.YtkfdcdfaikkneaaIh
namespace Go.Proofs.Ytkfdcdfaikkneaa
open Go.ChangeShapes Go.WideShapes Go.ChangeAt Go.RowKit Go.Shelf
set_option linter.unusedVariables false
set_option linter.unusedSimpArgs false
set_option maxRecDepth 100000
attribute [local go_sem] Oper.semAt_some

def shG (s : SH) (v : Value) : Value := .agg #[.int .u8 s.m, .int .u8 s.p, .int .u32 s.st, .int .u64 s.g, v]
def SH.E (s : SH) : Int := if s.Ok then 0 else 2
def pshE (b : List Int) : Int := if (psh b).isSome then 0 else 3
def ShareBytesC : Prop := ∀ (s : SH) (a : Option Addr) (n k : Nat) (w : World), s.Wf → Arg8c w a n k s.row → n ≤ 500 →
  Calls Try.prog 14 #[shG s (.slice a n k)] w fun e w' => ∃ a2 k2, e = .returned (.tuple #[.slice a2 s.S.length k2, .int .i64 s.E]) ∧ Arg8c w' a2 s.S.length k2 s.S ∧ NewS w a2 s.S.length ∧ Below w.heap.size w w'
def ParseShareC : Prop := ∀ (a : Option Addr) (n k : Nat) (b : List Int) (w : World), Arg8c w a n k b → n ≤ 600 →
  Calls Try.prog 27 #[.slice a n k] w fun e w' => ∃ a2 k2, e = .returned (.tuple #[shG (pshZ b) (.slice a2 (pshZ b).row.length k2), .int .i64 (pshE b)]) ∧ Arg8c w' a2 (pshZ b).row.length k2 (pshZ b).row ∧ Below w.heap.size w w'
theorem SH.S_ok {s : SH} (h : s.Ok) : s.S = s.B ∧ s.E = 0 := ⟨if_pos h, if_pos h⟩
theorem SH.S_no {s : SH} (h : ¬ s.Ok) : s.S = [] ∧ s.E = 2 := ⟨if_neg h, if_neg h⟩
theorem SH.S_B {s : SH} (h : s.Wf) : AllB s.S := by
  unfold SH.S; split
  · exact SH.B_B h
  · exact fun x hx => by cases hx
theorem psh_zero {b : List Int} (h : psh b = none) : pshZ b = ⟨0, 0, 0, 0, []⟩ ∧ pshE b = 3 := by unfold pshZ pshE; rw [h]; exact ⟨rfl, rfl⟩
theorem psh_one {b : List Int} {c : SH} (h : psh b = some c) : pshZ b = c ∧ pshE b = 0 := by unfold pshZ pshE; rw [h]; exact ⟨rfl, rfl⟩
end Go.Proofs.Ytkfdcdfaikkneaa
