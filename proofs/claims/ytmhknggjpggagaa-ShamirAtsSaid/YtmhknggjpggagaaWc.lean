/- The walk of ShamirAts at any arguments. -/
import Derived.Test.YtmhknggjpggagaaVi
import Derived.Test.YtmhknggjpggagaaTe
namespace Go.Proofs.Ytmhknggjpggagaa
open Go.ChangeShapes Go.WideShapes Go.ChangeAt Go.RowKit Go.Shelf GF
set_option linter.unusedVariables false
set_option linter.unusedSimpArgs false
set_option maxRecDepth 100000

set_option maxHeartbeats 1000000 in
theorem shamirAts_walk (a0 : Option Addr) (len0 cap0 : Nat) (a1 : Option Addr) (len1 cap1 : Nat) (a2 : Int) (w : World) (w0 : ∃ l, Arg8c w a0 len0 cap0 l) (w1 : ∃ M, Mat w a1 len1 cap1 M) (w2 : (Lit.int .u8 a2).wf = true) :
    Calls Try.prog 5 #[.slice a0 len0 cap0, .slice a1 len1 cap1, .int .u8 a2] w fun e w' => e = .returned (.bool true) ∧ Below w.heap.size w w' := by
  obtain ⟨l0, h0⟩ := w0
  have p0 := Pa.of h0
  have hb0 := p0.bd
  obtain ⟨M, hM⟩ := w1
  have hbM := hM.bd
  have hx := wf_u8 w2
  obtain ⟨x, rfl⟩ : ∃ x : GF, a2 = toI x := ⟨toG a2, (toI_toG hx).symm⟩
  by_cases c0 : len0 ≤ 12
  · have k0 : ¬ (12 : Int) < (len0 : Int) := by omega
    by_cases c1 : len1 ≤ 12
    · have k1 : ¬ (12 : Int) < (len1 : Int) := by omega
      exact shamirAts_core splitC joinC atC atBadC joinBadC atArgC a0 len0 cap0 _ a1 len1 cap1 M x w p0 hM c0 c1
    · have k1 : (12 : Int) < (len1 : Int) := by omega
      clear h0 p0 hM w2 hx
      go_enter Try.func5, Try.ntmps5
      go_wp2_with (go_at_call 8; go_loud ((with_reducible refine (lives_true _).mono ?_); rintro e w1 ⟨rfl, hb⟩))
      go_ret
      exact ⟨rfl, bt (by assumption) (by assumption)⟩
  · have k0 : (12 : Int) < (len0 : Int) := by omega
    clear h0 p0 hM w2 hx
    go_enter Try.func5, Try.ntmps5
    go_wp2_with (go_at_call 8; go_loud ((with_reducible refine (lives_true _).mono ?_); rintro e w1 ⟨rfl, hb⟩))
    go_ret
    exact ⟨rfl, bt (by assumption) (by assumption)⟩
end Go.Proofs.Ytmhknggjpggagaa
