/- JournalGoes' walk, in the frame's form. -/
import Derived.Test.YtkfdcdfaikkneaaGreatDoorXy
import Derived.Test.YtkfdcdfaikkneaaGreatDoorXp
import Derived.Test.YtkfdcdfaikkneaaGreatDoorRh2
import Derived.Test.YtkfdcdfaikkneaaGreatDoorJg
namespace Go.Proofs.YtkfdcdfaikkneaaGreatDoor
open Go.ChangeShapes Go.WideShapes Go.ChangeAt Go.RowKit Go.Shelf
set_option linter.unusedVariables false
set_option linter.unusedSimpArgs false
set_option maxRecDepth 100000
attribute [local go_sem] Oper.semAt_some

theorem journalGoes_walk (a0 : Option Addr) (n0 c0 : Nat) (a1 : Option Addr) (n1 c1 : Nat) (P : SU) (aN : Option Addr) (lN cN : Nat) (aI : Option Addr) (lI cI : Nat) (w : World)
    (h0 : ∃ L, ArgS w a0 n0 c0 L) (h1 : ∃ L, ArgS w a1 n1 c1 L) (h2 : (P.nm = List.replicate 8 0 ∧ P.inn = List.replicate 256 false) ∧ P.Wf ∧ (∃ N, Arg8c w aN lN cN N) ∧ (∃ I, Arg8c w aI lI cI I)) (hG : Gl w) :
    Calls Tryz.prog 3 #[.slice a0 n0 c0, .slice a1 n1 c1, .agg #[.slice aN lN cN, .int .u8 P.p, .int .u8 P.n, .int .u8 P.t, .int .u8 P.m, .int .u8 P.c, .int .u32 P.bl, .int .u32 P.bo, .int .u32 P.ep, .slice aI lI cI, .int .u32 P.rf, .int .u32 P.sc, .int .u8 P.tg, .int .u32 P.rs]] w fun e w' => e = .returned (.bool true) ∧ Below w.heap.size w w' := by
  obtain ⟨L0, h0⟩ := h0
  obtain ⟨L1, h1⟩ := h1
  obtain ⟨hz, hP, ⟨N, hN⟩, ⟨I, hI⟩⟩ := h2
  have b0 := h0.bd
  have b1 := h1.bd
  have hIk := hI.1.2.2.2
  unfold maxLen at hIk
  by_cases hn : n0 ≤ 20 ∧ n1 ≤ 20 ∧ lI ≤ 20
  · exact journalGoes_core a0 n0 c0 L0 a1 n1 c1 L1 P hz hP aN lN cN aI lI cI N I w h0 h1 hN hI hG hn.1 hn.2.1 hn.2.2
  · obtain ⟨A, hA⟩ : ∃ A, A = w.alloc (.cells #[.slice aN lN cN, .int .u8 P.p, .int .u8 P.n, .int .u8 P.t, .int .u8 P.m, .int .u8 P.c, .int .u32 P.bl, .int .u32 P.bo, .int .u32 P.ep, .slice aI lI cI, .int .u32 P.rf, .int .u32 P.sc, .int .u8 P.tg, .int .u32 P.rs] 26) := ⟨_, rfl⟩
    have hwA : Below w.heap.size w A := by rw [hA]; exact (Below.refl _ _).alloc (Nat.le_refl _) _
    have r0 : A.heap[w.heap.size]? = some (.cells #[.slice aN lN cN, .int .u8 P.p, .int .u8 P.n, .int .u8 P.t, .int .u8 P.m, .int .u8 P.c, .int .u32 P.bl, .int .u32 P.bo, .int .u32 P.ep, .slice aI lI cI, .int .u32 P.rf, .int .u32 P.sc, .int .u8 P.tg, .int .u32 P.rs] 26 (0, 0)) := by rw [hA]; exact heap_alloc_new w _
    have HA := Lib.hid (And.intro hA (And.intro hwA r0))
    clear h0 h1 hz hP hN hI hG hA hwA r0
    by_cases g0 : n0 ≤ 20
    · have q0 : ¬ (20 : Int) < (n0 : Int) := by omega
      by_cases g1 : n1 ≤ 20
      · have q1 : ¬ (20 : Int) < (n1 : Int) := by omega
        have q2 : (20 : Int) < (lI : Int) := by omega
        clear hn g0 g1
        go_enter Tryz.func3, Tryz.ntmps3
        go_upto_region 2 with (go_at_call 4; go_loud (rw [← HA.out.1]; refine (lives15 A).mono ?_; rintro e w1 ⟨rfl, hb1⟩; have HB1 := Lib.hid hb1; obtain ⟨-, -, -, -, -, -, -, -, -, y9, -⟩ := cell14 ((hb1.block w.heap.size (Array.getElem?_eq_some_iff.1 HA.out.2.2).1).trans HA.out.2.2); clear hb1))
        go_wp2_with (go_at_call 4; go_loud (refine (lives15 w1).mono ?_; rintro e w2 ⟨rfl, hb2⟩; have HB2 := Lib.hid hb2; clear hb2))
        go_ret
        exact ⟨rfl, bt HA.out.2.1 (bt HB1.out HB2.out)⟩
      · have q1 : (20 : Int) < (n1 : Int) := by omega
        clear hn g0 g1
        go_enter Tryz.func3, Tryz.ntmps3
        go_upto_region 2 with (go_at_call 4; go_loud (rw [← HA.out.1]; refine (lives15 A).mono ?_; rintro e w1 ⟨rfl, hb1⟩; have HB1 := Lib.hid hb1; clear hb1))
        go_wp2_with (go_at_call 4; go_loud (refine (lives15 w1).mono ?_; rintro e w2 ⟨rfl, hb2⟩; have HB2 := Lib.hid hb2; clear hb2))
        go_ret
        exact ⟨rfl, bt HA.out.2.1 (bt HB1.out HB2.out)⟩
    · have q0 : (20 : Int) < (n0 : Int) := by omega
      clear hn g0
      go_enter Tryz.func3, Tryz.ntmps3
      go_upto_region 2 with (go_at_call 4; go_loud (rw [← HA.out.1]; refine (lives15 A).mono ?_; rintro e w1 ⟨rfl, hb1⟩; have HB1 := Lib.hid hb1; clear hb1))
      go_wp2_with (go_at_call 4; go_loud (refine (lives15 w1).mono ?_; rintro e w2 ⟨rfl, hb2⟩; have HB2 := Lib.hid hb2; clear hb2))
      go_ret
      exact ⟨rfl, bt HA.out.2.1 (bt HB1.out HB2.out)⟩
end Go.Proofs.YtkfdcdfaikkneaaGreatDoor
