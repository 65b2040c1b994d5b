/- The contracts of package sector's commits, as propositions; the laws' lives. -/
import Derived.Test.YtadcgngiofdhcaaDoorId
namespace Go.Proofs.YtadcgngiofdhcaaDoor
open Go.ChangeShapes Go.WideShapes Go.ChangeAt Go.RowKit Go.Shelf
set_option linter.unusedVariables false
set_option linter.unusedSimpArgs false
set_option maxRecDepth 100000
attribute [local go_sem] Oper.semAt_some

def cmA (c : CM) : Value := .agg #[.int .u8 c.st, .int .u8 c.n, .int .u64 c.g]
def CM.E (c : CM) : Int := if c.Ok then 0 else 2
def pcmZ (b : List Int) : CM := (pcm b).getD ⟨0, 0, 0⟩
def pcmE (b : List Int) : Int := if (pcm b).isSome then 0 else 3
/-- What is told lies in new memory. -/
def NewS (w : World) (a : Option Addr) (n : Nat) : Prop := 0 < n → ∀ b o, a = some ⟨b, o, none⟩ → w.heap.size ≤ b
def CommitBytesC : Prop := ∀ (c : CM) (w : World), c.Wf →
  Calls Tryd.prog 12 #[cmA c] w fun e w' => ∃ a k, e = .returned (.tuple #[.slice a c.S.length k, .int .i64 c.E]) ∧ Arg8c w' a c.S.length k c.S ∧ NewS w a c.S.length ∧ Below w.heap.size w w'
theorem CM.S_ok {c : CM} (h : c.Ok) : c.S = c.B ∧ c.E = 0 := ⟨if_pos h, if_pos h⟩
theorem CM.S_no {c : CM} (h : ¬ c.Ok) : c.S = [] ∧ c.E = 2 := ⟨if_neg h, if_neg h⟩
theorem CM.S_B {c : CM} (h : c.Wf) : AllB c.S := by
  unfold CM.S; split
  · exact CM.B_B h
  · exact fun x hx => by cases hx
theorem arg_str {w W : World} {a : Option Addr} {n k : Nat} {l : List Int} (h : Arg8c w a n k l) (hb : Below w.heap.size w W) : (convert 22 9 (.slice a n k)).run Tryd.prog W = .ok (.string (strOfNums l)) W :=
  (h.1.2.2.1.below hb).str h.1.1 Tryd.underlying22 Tryd.underlying5 Tryd.underlying9
def exCM : CM := ⟨1, 2, 3⟩
theorem exCM_wf : exCM.Wf := ⟨⟨by decide, by decide⟩, ⟨by decide, by decide⟩, by decide, by decide⟩
theorem exCM_12 : exCM.B.take 12 = [76, 67, 1, 2, 0, 0, 0, 0, 0, 0, 0, 3] := by decide
set_option maxHeartbeats 2000000 in
theorem lives14 (hC : CommitBytesC) (w : World) : Calls Tryd.prog 4 #[] w fun e w' => e = .returned (.bool true) ∧ Below w.heap.size w w' := by
  have hok : exCM.Ok := ⟨by decide, by decide⟩
  have h := hC exCM w exCM_wf
  rw [(CM.S_ok hok).1, (CM.S_ok hok).2, CM.B_len] at h
  have HC := Lib.hid (show Calls Tryd.prog 12 #[.agg #[.int .u8 1, .int .u8 2, .int .u64 3]] w fun e w' => ∃ a k, e = .returned (.tuple #[.slice a 512 k, .int .i64 0]) ∧ Arg8c w' a 512 k exCM.B ∧ NewS w a 512 ∧ Below w.heap.size w w' from h)
  clear h hC hok
  go_enter Tryd.func4, Tryd.ntmps4
  go_wp2_with (go_at_call 12; go_loud (refine HC.out.mono ?_; rintro e w1 ⟨a1, k1, rfl, hx, -, hb⟩; have hk := hx.1.2.2.2; unfold maxLen at hk; have q1 : (12 : Int) ≤ (k1 : Int) := (by omega); have hcv : (convert 22 9 (.slice a1 12 k1)).run Tryd.prog w1 = .ok (.string { data := #[76, 67, 1, 2, 0, 0, 0, 0, 0, 0, 0, 3] }) w1   := (by { have h12 := (hx.1.2.2.1.take 12).str (P := Tryd.prog) (e := 5) (src := 22) (n := 12) (c := k1) (congrArg List.length exCM_12) Tryd.underlying22 Tryd.underlying5 (dst := 9) Tryd.underlying9; rw [exCM_12] at h12; exact h12 }); have HB := Lib.hid hb; clear hx hb hk))
  go_ret
  exact ⟨rfl, HB.out⟩
end Go.Proofs.YtadcgngiofdhcaaDoor
