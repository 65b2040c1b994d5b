/- CodeDecodes's walk at any arguments, under the contracts. -/
import Derived.Test.YtmhjpdppippgkaaEd
namespace Go.Proofs.Ytmhjpdppippgkaa
open Go.ChangeShapes Go.WideShapes Go.ChangeAt Go.RowKit Go.Shelf GF
set_option linter.unusedVariables false
set_option linter.unusedSimpArgs false
set_option maxRecDepth 100000

set_option maxHeartbeats 2000000 in
theorem codeDecodes_any (hAll : DecAll) (t : Nat) (aP : Option Addr) (cP : Nat) (P : List (List GF)) (aX : Option Addr) (lX cX : Nat) (X : List GF) (aW : Option Addr) (lW cW : Nat) (ps : List Int) (w : World) (hP : Mat w aP t cP P) (hX : Pa w aX lX cX X) (hW : IA w aW lW cW ps) :
    Calls Try.prog 5 #[.slice aP t cP, .slice aX lX cX, .slice aW lW cW] w fun e w' => e = .returned (.bool true) ∧ Below w.heap.size w w' := by
  have HL9 := Lib.hid (lives9 hAll.1)
  have hb1 := hP.bd
  have hb2 := hW.bd
  have hb3 := hX.bd
  by_cases hF : FewR t P
  · have HFW := Lib.hid (fun V (hV : Below w.heap.size w V) => few_yes aP t cP P V (hP.on hV) hF)
    by_cases h0 : t = 0
    · have q0 : ((t : Int) == 0) = true := by rw [h0]; rfl
      clear hP hX hW hF h0
      go_enter Try.func5, Try.ntmps5
      go_wp2_with (first
        | (go_at_call 7; go_loud ((with_reducible refine (HL9.out _).mono ?_); rintro e w1 ⟨rfl, hb⟩))
        | (go_at_call 8; go_loud (refine (HFW.out _ (by assumption)).mono ?_; rintro e w' ⟨rfl, rfl⟩)))
      go_ret
      exact ⟨rfl, bt (by assumption) (by assumption)⟩
    have q0 : ((t : Int) == 0) = false := by rw [beq_eq_false_iff_ne]; omega
    by_cases h8 : t ≤ 8
    · have q8 : ¬ (8 : Int) < (t : Int) := by omega
      by_cases hO : OneR t P
      · have HUW := Lib.hid (fun V (hV : Below w.heap.size w V) => unl_no aP t cP P V (hP.on hV) hO)
        by_cases h40 : lW ≤ 12
        · exact codeDecodes_core hAll t aP cP P aX lX cX X aW lW cW ps w hP hX hW hF (by omega) h8 hO h40
        · have q40 : (12 : Int) < (lW : Int) := by omega
          clear hP hX hW hF h0 hO h8 h40
          go_enter Try.func5, Try.ntmps5
          go_wp2_with (first
            | (go_at_call 7; go_loud ((with_reducible refine (HL9.out _).mono ?_); rintro e w1 ⟨rfl, hb⟩))
            | (go_at_call 8; go_loud (refine (HFW.out _ (by assumption)).mono ?_; rintro e w' ⟨rfl, rfl⟩))
            | (go_at_call 9; go_loud (refine (HUW.out _ (by assumption)).mono ?_; rintro e w' ⟨rfl, rfl⟩)))
          go_ret
          exact ⟨rfl, bt (by assumption) (by assumption)⟩
      · have HUW := Lib.hid (fun V (hV : Below w.heap.size w V) => unl_yes aP t cP P V (hP.on hV) hO)
        clear hP hX hW hF h0 hO h8
        go_enter Try.func5, Try.ntmps5
        go_wp2_with (first
          | (go_at_call 7; go_loud ((with_reducible refine (HL9.out _).mono ?_); rintro e w1 ⟨rfl, hb⟩))
          | (go_at_call 8; go_loud (refine (HFW.out _ (by assumption)).mono ?_; rintro e w' ⟨rfl, rfl⟩))
          | (go_at_call 9; go_loud (refine (HUW.out _ (by assumption)).mono ?_; rintro e w' ⟨rfl, rfl⟩)))
        go_ret
        exact ⟨rfl, bt (by assumption) (by assumption)⟩
    · have q8 : (8 : Int) < (t : Int) := by omega
      clear hP hX hW hF h0 h8
      go_enter Try.func5, Try.ntmps5
      go_wp2_with (first
        | (go_at_call 7; go_loud ((with_reducible refine (HL9.out _).mono ?_); rintro e w1 ⟨rfl, hb⟩))
        | (go_at_call 8; go_loud (refine (HFW.out _ (by assumption)).mono ?_; rintro e w' ⟨rfl, rfl⟩)))
      go_ret
      exact ⟨rfl, bt (by assumption) (by assumption)⟩
  · have HFW := Lib.hid (fun V (hV : Below w.heap.size w V) => few_no aP t cP P V (hP.on hV) hF)
    clear hP hX hW hF
    go_enter Try.func5, Try.ntmps5
    go_wp2_with (first
      | (go_at_call 7; go_loud ((with_reducible refine (HL9.out _).mono ?_); rintro e w1 ⟨rfl, hb⟩))
      | (go_at_call 8; go_loud (refine (HFW.out _ (by assumption)).mono ?_; rintro e w' ⟨rfl, rfl⟩)))
    go_ret
    exact ⟨rfl, bt (by assumption) (by assumption)⟩
end Go.Proofs.Ytmhjpdppippgkaa
