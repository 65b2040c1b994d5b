/- The contracts of package sector's shares, as propositions; the law's sameShare. -/
import Derived.Test.YtadcgngiofdhcaaIf
import Derived.Test.YtadcgngiofdhcaaIh
namespace Go.Proofs.Ytadcgngiofdhcaa
open Go.ChangeShapes Go.WideShapes Go.ChangeAt Go.RowKit Go.Shelf
set_option linter.unusedVariables false
set_option linter.unusedSimpArgs false
set_option maxRecDepth 100000
attribute [local go_sem] Oper.semAt_some

def shG (s : SH) (v : Value) : Value := .agg #[.int .u8 s.m, .int .u8 s.p, .int .u32 s.st, .int .u64 s.g, v]
def SH.E (s : SH) : Int := if s.Ok then 0 else 2
def pshE (b : List Int) : Int := if (psh b).isSome then 0 else 3
def ShareBytesC : Prop := ∀ (s : SH) (a : Option Addr) (n k : Nat) (w : World), s.Wf → Arg8c w a n k s.row → n ≤ 500 →
  Calls Try.prog 12 #[shG s (.slice a n k)] w fun e w' => ∃ a2 k2, e = .returned (.tuple #[.slice a2 s.S.length k2, .int .i64 s.E]) ∧ Arg8c w' a2 s.S.length k2 s.S ∧ NewS w a2 s.S.length ∧ Below w.heap.size w w'
def ParseShareC : Prop := ∀ (a : Option Addr) (n k : Nat) (b : List Int) (w : World), Arg8c w a n k b → n ≤ 600 →
  Calls Try.prog 8 #[.slice a n k] w fun e w' => ∃ a2 k2, e = .returned (.tuple #[shG (pshZ b) (.slice a2 (pshZ b).row.length k2), .int .i64 (pshE b)]) ∧ Arg8c w' a2 (pshZ b).row.length k2 (pshZ b).row ∧ Below w.heap.size w w'
theorem SH.S_ok {s : SH} (h : s.Ok) : s.S = s.B ∧ s.E = 0 := ⟨if_pos h, if_pos h⟩
theorem SH.S_no {s : SH} (h : ¬ s.Ok) : s.S = [] ∧ s.E = 2 := ⟨if_neg h, if_neg h⟩
theorem SH.S_B {s : SH} (h : s.Wf) : AllB s.S := by
  unfold SH.S; split
  · exact SH.B_B h
  · exact fun x hx => by cases hx
theorem psh_zero {b : List Int} (h : psh b = none) : pshZ b = ⟨0, 0, 0, 0, []⟩ ∧ pshE b = 3 := by unfold pshZ pshE; rw [h]; exact ⟨rfl, rfl⟩
theorem psh_one {b : List Int} {c : SH} (h : psh b = some c) : pshZ b = c ∧ pshE b = 0 := by unfold pshZ pshE; rw [h]; exact ⟨rfl, rfl⟩
set_option maxHeartbeats 2000000 in
theorem same_any (s : SH) (a : Option Addr) (n k : Nat) (w : World) (h : Arg8c w a n k s.row) :
    Calls Try.prog 14 #[shG s (.slice a n k), shA s] w fun e w' => e = .returned (.bool true) ∧ Below w.heap.size w w' := by
  obtain ⟨m, p, st, g, row⟩ := s
  unfold shG shA
  dsimp only at h ⊢
  obtain ⟨RS, hRS⟩ : ∃ RS, RS = strOfNums row := ⟨_, rfl⟩
  obtain ⟨A, hA⟩ : ∃ A, A = w.alloc (.cells #[.int .u8 m, .int .u8 p, .int .u32 st, .int .u64 g, .slice a n k] 28) := ⟨_, rfl⟩
  have hb1 : Below w.heap.size w A := by rw [hA]; exact (Below.refl _ _).alloc (Nat.le_refl _) _
  have hr1 : A.heap[w.heap.size]? = some (.cells #[.int .u8 m, .int .u8 p, .int .u32 st, .int .u64 g, .slice a n k] 28 (0, 0)) := by rw [hA]; exact heap_alloc_new w _
  have hsA : A.heap.size = w.heap.size + 1 := by rw [hA]; simp
  obtain ⟨B, hB⟩ : ∃ B, B = A.alloc (.cells #[.int .u8 m, .int .u8 p, .int .u32 st, .int .u64 g, .string RS] 46) := ⟨_, rfl⟩
  have hb2 : Below w.heap.size w B := by rw [hB]; exact hb1.alloc hb1.size _
  have hr2 : B.heap[A.heap.size]? = some (.cells #[.int .u8 m, .int .u8 p, .int .u32 st, .int .u64 g, .string RS] 46 (0, 0)) := by rw [hB]; exact heap_alloc_new A _
  have hr1' : B.heap[w.heap.size]? = some (.cells #[.int .u8 m, .int .u8 p, .int .u32 st, .int .u64 g, .slice a n k] 28 (0, 0)) := by rw [hB, heap_alloc_old _ _ (by omega)]; exact hr1
  have hcv := arg_str h hb2
  rw [← hRS] at hcv
  rw [hB, hA] at hcv
  have hc1 := cell5 hr1'
  have hc2 := cell5 hr2
  have hss : (RS.toList == RS.toList) = true := by simp
  rw [hsA] at hc2
  rw [hB, hA] at hc1 hc2
  obtain ⟨j0, j1, j2, j3, j4⟩ := hc1
  obtain ⟨k0, k1, k2, k3, k4⟩ := hc2
  have HB2 := Lib.hid hb2
  rw [← hRS]
  have HBB := Lib.hid hB
  have HAA := Lib.hid hA
  clear hRS hb1 hr1 hsA hr2 hr1' hB hA hb2 h
  go_enter Try.func14, Try.ntmps14
  go_wp2
  go_ret
  refine ⟨rfl, ?_⟩
  rw [HBB.out, HAA.out] at HB2
  exact HB2.out
end Go.Proofs.Ytadcgngiofdhcaa
