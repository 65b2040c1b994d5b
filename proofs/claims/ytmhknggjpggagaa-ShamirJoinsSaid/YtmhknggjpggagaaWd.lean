/- The walk of ShamirJoins at any arguments. -/
import Derived.Test.YtmhknggjpggagaaVi
import Derived.Test.YtmhknggjpggagaaTb
namespace Go.Proofs.Ytmhknggjpggagaa
open Go.ChangeShapes Go.WideShapes Go.ChangeAt Go.RowKit Go.Shelf GF
set_option linter.unusedVariables false
set_option linter.unusedSimpArgs false
set_option maxRecDepth 100000

set_option maxHeartbeats 1000000 in
theorem shamirJoins_walk (a0 a1 : Int) (a2 : Option Addr) (len2 cap2 : Nat) (a3 : Option Addr) (len3 cap3 : Nat) (a4 : Option Addr) (len4 cap4 : Nat) (a5 : Option Addr) (len5 cap5 : Nat) (a6 : Int) (w : World) (w0 : (Lit.int .i64 a0).wf = true) (w1 : (Lit.int .i64 a1).wf = true) (w2 : ∃ l, Arg8c w a2 len2 cap2 l) (w3 : ∃ l, Arg8c w a3 len3 cap3 l) (w4 : ∃ l, Arg8c w a4 len4 cap4 l) (w5 : ∃ l, Arg8c w a5 len5 cap5 l) (w6 : (Lit.int .u8 a6).wf = true) :
    Calls Try.prog 6 #[.int .i64 a0, .int .i64 a1, .slice a2 len2 cap2, .slice a3 len3 cap3, .slice a4 len4 cap4, .slice a5 len5 cap5, .int .u8 a6] w fun e w' => e = .returned (.bool true) ∧ Below w.heap.size w w' := by
  obtain ⟨l2, h2⟩ := w2
  have p2 := Pa.of h2
  have hb2 := p2.bd
  obtain ⟨l3, h3⟩ := w3
  have p3 := Pa.of h3
  have hb3 := p3.bd
  obtain ⟨l4, h4⟩ := w4
  have p4 := Pa.of h4
  have hb4 := p4.bd
  obtain ⟨l5, h5⟩ := w5
  have p5 := Pa.of h5
  have hb5 := p5.bd
  have hx := wf_u8 w6
  obtain ⟨x, rfl⟩ : ∃ x : GF, a6 = toI x := ⟨toG a6, (toI_toG hx).symm⟩
  by_cases c0 : len2 ≤ 20
  · have k0 : ¬ (20 : Int) < (len2 : Int) := by omega
    exact shamirJoins_core splitC joinC atC addC shareC deltaC addBadC a0 a1 a2 len2 cap2 _ a3 len3 cap3 _ a4 len4 cap4 _ a5 len5 cap5 _ x w p2 p3 p4 p5 c0
  · have k0 : (20 : Int) < (len2 : Int) := by omega
    clear h2 h3 h4 h5 p2 p3 p4 p5 w0 w1 w6 hx
    go_enter Try.func6, Try.ntmps6
    go_wp2_with (go_at_call 8; go_loud ((with_reducible refine (lives_true _).mono ?_); rintro e w1 ⟨rfl, hb⟩))
    go_ret
    exact ⟨rfl, bt (by assumption) (by assumption)⟩
end Go.Proofs.Ytmhknggjpggagaa
