/- CodeApart's walk at any arguments, under the contracts. -/
import Derived.Test.YtmhjpdppippgkaaCe
namespace Go.Proofs.Ytmhjpdppippgkaa
open Go.ChangeShapes Go.WideShapes Go.ChangeAt Go.RowKit Go.Shelf GF
set_option linter.unusedVariables false
set_option linter.unusedSimpArgs false
set_option maxRecDepth 100000

set_option maxHeartbeats 2000000 in
theorem codeApart_any (hE : EncodeC) (u : Int) (t : Nat) (aP : Option Addr) (cP : Nat) (P : List (List GF)) (aW : Option Addr) (lW cW : Nat) (Wh : List GF) (aB : Option Addr) (lB cB : Nat) (By : List GF) (w : World) (hP : Mat w aP t cP P) (hW : Pa w aW lW cW Wh) (hBy : Pa w aB lB cB By) :
    Calls Try.prog 3 #[.slice aP t cP, .slice aW lW cW, .slice aB lB cB, .int .i64 u] w fun e w' => e = .returned (.bool true) ∧ Below w.heap.size w w' := by
  have HL9 := Lib.hid (lives9 hE)
  have hb1 := hP.bd
  have hb2 := hW.bd
  by_cases hF : FewR t P
  · have HFW := Lib.hid (fun V (hV : Below w.heap.size w V) => few_yes aP t cP P V (hP.on hV) hF)
    by_cases h0 : t = 0
    · have q0 : ((t : Int) == 0) = true := by rw [h0]; rfl
      clear hP hW hBy hF h0
      go_enter Try.func3, Try.ntmps3
      go_wp2_with (first
        | (go_at_call 7; go_loud ((with_reducible refine (HL9.out _).mono ?_); rintro e w1 ⟨rfl, hb⟩))
        | (go_at_call 8; go_loud (refine (HFW.out _ (by assumption)).mono ?_; rintro e w' ⟨rfl, rfl⟩)))
      go_ret
      exact ⟨rfl, bt (by assumption) (by assumption)⟩
    have q0 : ((t : Int) == 0) = false := by rw [beq_eq_false_iff_ne]; omega
    by_cases h8 : t ≤ 8
    · have q8 : ¬ (8 : Int) < (t : Int) := by omega
      by_cases hO : OneR t P
      · have HUW := Lib.hid (fun V (hV : Below w.heap.size w V) => unl_no aP t cP P V (hP.on hV) hO)
        by_cases h40 : lW ≤ 40
        · exact codeApart_core hE u t aP cP P aW lW cW Wh aB lB cB By w hP hW hBy hF (by omega) h8 hO h40
        · have q40 : (40 : Int) < (lW : Int) := by omega
          clear hP hW hBy hF h0 hO h8 h40
          go_enter Try.func3, Try.ntmps3
          go_wp2_with (first
            | (go_at_call 7; go_loud ((with_reducible refine (HL9.out _).mono ?_); rintro e w1 ⟨rfl, hb⟩))
            | (go_at_call 8; go_loud (refine (HFW.out _ (by assumption)).mono ?_; rintro e w' ⟨rfl, rfl⟩))
            | (go_at_call 9; go_loud (refine (HUW.out _ (by assumption)).mono ?_; rintro e w' ⟨rfl, rfl⟩)))
          go_ret
          exact ⟨rfl, bt (by assumption) (by assumption)⟩
      · have HUW := Lib.hid (fun V (hV : Below w.heap.size w V) => unl_yes aP t cP P V (hP.on hV) hO)
        clear hP hW hBy hF h0 hO h8
        go_enter Try.func3, Try.ntmps3
        go_wp2_with (first
          | (go_at_call 7; go_loud ((with_reducible refine (HL9.out _).mono ?_); rintro e w1 ⟨rfl, hb⟩))
          | (go_at_call 8; go_loud (refine (HFW.out _ (by assumption)).mono ?_; rintro e w' ⟨rfl, rfl⟩))
          | (go_at_call 9; go_loud (refine (HUW.out _ (by assumption)).mono ?_; rintro e w' ⟨rfl, rfl⟩)))
        go_ret
        exact ⟨rfl, bt (by assumption) (by assumption)⟩
    · have q8 : (8 : Int) < (t : Int) := by omega
      clear hP hW hBy hF h0 h8
      go_enter Try.func3, Try.ntmps3
      go_wp2_with (first
        | (go_at_call 7; go_loud ((with_reducible refine (HL9.out _).mono ?_); rintro e w1 ⟨rfl, hb⟩))
        | (go_at_call 8; go_loud (refine (HFW.out _ (by assumption)).mono ?_; rintro e w' ⟨rfl, rfl⟩)))
      go_ret
      exact ⟨rfl, bt (by assumption) (by assumption)⟩
  · have HFW := Lib.hid (fun V (hV : Below w.heap.size w V) => few_no aP t cP P V (hP.on hV) hF)
    clear hP hW hBy hF
    go_enter Try.func3, Try.ntmps3
    go_wp2_with (first
      | (go_at_call 7; go_loud ((with_reducible refine (HL9.out _).mono ?_); rintro e w1 ⟨rfl, hb⟩))
      | (go_at_call 8; go_loud (refine (HFW.out _ (by assumption)).mono ?_; rintro e w' ⟨rfl, rfl⟩)))
    go_ret
    exact ⟨rfl, bt (by assumption) (by assumption)⟩
end Go.Proofs.Ytmhjpdppippgkaa
