/- JournalCrashes' walk, in the frame's form. -/
import Derived.Test.YtkfdcdfaikkneaaXs
import Derived.Test.YtkfdcdfaikkneaaXp
namespace Go.Proofs.Ytkfdcdfaikkneaa
open Go.ChangeShapes Go.WideShapes Go.ChangeAt Go.RowKit Go.Shelf
set_option linter.unusedVariables false
set_option linter.unusedSimpArgs false
set_option maxRecDepth 100000
attribute [local go_sem] Oper.semAt_some

theorem journalCrashes_walk (a0 : Option Addr) (n0 c0 : Nat) (a1 : Option Addr) (n1 c1 : Nat) (left : Int) (ak : Option Addr) (nk ck : Nat) (w : World)
    (h0 : ∃ L, ArgS w a0 n0 c0 L) (h1 : ∃ L, ArgS w a1 n1 c1 L) (h2 : (Lit.int .i64 left).wf = true) (h3 : ∃ ks, ArgB w ak nk ck ks) :
    Calls Try.prog 3 #[.slice a0 n0 c0, .slice a1 n1 c1, .int .i64 left, .slice ak nk ck] w fun e w' => e = .returned (.bool true) ∧ Below w.heap.size w w' := by
  obtain ⟨L0, h0⟩ := h0
  obtain ⟨L1, h1⟩ := h1
  obtain ⟨ks, h3⟩ := h3
  have b0 := h0.bd
  have b1 := h1.bd
  have bk := h3.bd
  by_cases hn : n0 ≤ 20 ∧ n1 ≤ 20 ∧ nk ≤ 60
  · exact journalCrashes_core a0 n0 c0 L0 a1 n1 c1 L1 left ak nk ck ks w h0 h1 h3 hn.1 hn.2.1 hn.2.2
  · clear h0 h1 h2 h3
    by_cases g0 : n0 ≤ 20
    · have q0 : ¬ (20 : Int) < (n0 : Int) := by omega
      by_cases g1 : n1 ≤ 20
      · have q1 : ¬ (20 : Int) < (n1 : Int) := by omega
        have q2 : (60 : Int) < (nk : Int) := by omega
        clear hn g0 g1
        go_enter Try.func3, Try.ntmps3
        go_upto_region 2 with (go_at_call 5; go_loud (refine (lives15 w).mono ?_; rintro e w1 ⟨rfl, hb1⟩; have HB1 := Lib.hid hb1; clear hb1))
        go_wp2_with (go_at_call 5; go_loud (refine (lives15 w1).mono ?_; rintro e w2 ⟨rfl, hb2⟩; have HB2 := Lib.hid hb2; clear hb2))
        go_ret
        exact ⟨rfl, bt HB1.out HB2.out⟩
      · have q1 : (20 : Int) < (n1 : Int) := by omega
        clear hn g0 g1
        go_enter Try.func3, Try.ntmps3
        go_upto_region 2 with (go_at_call 5; go_loud (refine (lives15 w).mono ?_; rintro e w1 ⟨rfl, hb1⟩; have HB1 := Lib.hid hb1; clear hb1))
        go_wp2_with (go_at_call 5; go_loud (refine (lives15 w1).mono ?_; rintro e w2 ⟨rfl, hb2⟩; have HB2 := Lib.hid hb2; clear hb2))
        go_ret
        exact ⟨rfl, bt HB1.out HB2.out⟩
    · have q0 : (20 : Int) < (n0 : Int) := by omega
      clear hn g0
      go_enter Try.func3, Try.ntmps3
      go_upto_region 2 with (go_at_call 5; go_loud (refine (lives15 w).mono ?_; rintro e w1 ⟨rfl, hb1⟩; have HB1 := Lib.hid hb1; clear hb1))
      go_wp2_with (go_at_call 5; go_loud (refine (lives15 w1).mono ?_; rintro e w2 ⟨rfl, hb2⟩; have HB2 := Lib.hid hb2; clear hb2))
      go_ret
      exact ⟨rfl, bt HB1.out HB2.out⟩
end Go.Proofs.Ytkfdcdfaikkneaa
