/- The walk of ShamirHides at any arguments. -/
import Derived.Test.YtmhknggjpggagaaTg
namespace Go.Proofs.Ytmhknggjpggagaa
open Go.ChangeShapes Go.WideShapes Go.ChangeAt Go.RowKit Go.Shelf GF
set_option linter.unusedVariables false
set_option linter.unusedSimpArgs false
set_option maxRecDepth 100000

set_option maxHeartbeats 1000000 in
theorem shamirHides_walk (a0 : Int) (a1 : Option Addr) (len1 cap1 : Nat) (a2 : Option Addr) (len2 cap2 : Nat) (a3 : Option Addr) (len3 cap3 : Nat) (a4 : Option Addr) (len4 cap4 : Nat) (a5 : Int) (w : World) (w0 : (Lit.int .i64 a0).wf = true) (w1 : ∃ l, Arg8c w a1 len1 cap1 l) (w2 : ∃ l, Arg8c w a2 len2 cap2 l) (w3 : ∃ l, Arg8c w a3 len3 cap3 l) (w4 : ∃ l, Arg8c w a4 len4 cap4 l) (w5 : (Lit.int .i64 a5).wf = true) :
    Calls Try.prog 7 #[.int .i64 a0, .slice a1 len1 cap1, .slice a2 len2 cap2, .slice a3 len3 cap3, .slice a4 len4 cap4, .int .i64 a5] w fun e w' => e = .returned (.bool true) ∧ Below w.heap.size w w' := by
  obtain ⟨l1, h1⟩ := w1
  have p1 := Pa.of h1
  have hb1 := p1.bd
  obtain ⟨l2, h2⟩ := w2
  have p2 := Pa.of h2
  have hb2 := p2.bd
  obtain ⟨l3, h3⟩ := w3
  have p3 := Pa.of h3
  have hb3 := p3.bd
  obtain ⟨l4, h4⟩ := w4
  have p4 := Pa.of h4
  have hb4 := p4.bd
  by_cases c0 : len1 ≤ 8
  · exact shamirHides_core a0 a5 w5 a1 len1 cap1 _ a2 len2 cap2 _ a3 len3 cap3 _ a4 len4 cap4 _ w p1 p2 p3 p4 c0
  · have k0 : (8 : Int) < (len1 : Int) := by omega
    clear h1 h2 h3 h4 p1 p2 p3 p4 w0 w5
    go_enter Try.func7, Try.ntmps7
    go_wp2_with (go_at_call 8; go_loud ((with_reducible refine (lives_true _).mono ?_); rintro e w1 ⟨rfl, hb⟩))
    go_ret
    exact ⟨rfl, bt (by assumption) (by assumption)⟩
end Go.Proofs.Ytmhknggjpggagaa
