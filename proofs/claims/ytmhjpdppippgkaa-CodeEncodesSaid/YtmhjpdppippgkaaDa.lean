/- CodeEncodes's walk at any arguments, under the contracts. -/
import Derived.Test.YtmhjpdppippgkaaCa
namespace Go.Proofs.Ytmhjpdppippgkaa
open Go.ChangeShapes Go.WideShapes Go.ChangeAt Go.RowKit Go.Shelf GF
set_option linter.unusedVariables false
set_option linter.unusedSimpArgs false
set_option maxRecDepth 100000

set_option maxHeartbeats 2000000 in
theorem codeEncodes_any (hAll : EncAll) (N x : Int) (t : Nat) (aR : Option Addr) (cR : Nat) (R : List (List GF)) (w : World) (hNW : (Lit.int .i64 N).wf = true) (hXW : (Lit.int .i64 x).wf = true) (hR : Mat w aR t cR R) :
    Calls Try.prog 4 #[.int .i64 N, .slice aR t cR, .int .i64 x] w fun e w' => e = .returned (.bool true) ∧ Below w.heap.size w w' := by
  have HL9 := Lib.hid (lives9 hAll.1)
  have hbd := hR.bd
  by_cases hF : FewR t R
  · by_cases hNf : 20 < N ∧ N ≤ 255
    · have q1 := hNf.1
      have q2 := hNf.2
      have HFW := Lib.hid (fun V (hV : Below w.heap.size w V) => few_yes aR t cR R V (hR.on hV) hF)
      clear hR hNW hXW hNf hF
      go_enter Try.func4, Try.ntmps4
      go_wp2_with (first
        | (go_at_call 7; go_loud ((with_reducible refine (HL9.out _).mono ?_); rintro e w1 ⟨rfl, hb⟩))
        | (go_at_call 8; go_loud (refine (HFW.out _ (by assumption)).mono ?_; rintro e w' ⟨rfl, rfl⟩)))
      go_ret
      exact ⟨rfl, bt (by assumption) (by assumption)⟩
    · exact codeEncodes_core hAll N x t aR cR R w hNW hXW hR hF hNf
  · have HFW := Lib.hid (fun V (hV : Below w.heap.size w V) => few_no aR t cR R V (hR.on hV) hF)
    clear hR hNW hXW hF
    go_enter Try.func4, Try.ntmps4
    go_wp2_with (first
      | (go_at_call 7; go_loud ((with_reducible refine (HL9.out _).mono ?_); rintro e w1 ⟨rfl, hb⟩))
      | (go_at_call 8; go_loud (refine (HFW.out _ (by assumption)).mono ?_; rintro e w' ⟨rfl, rfl⟩)))
    go_ret
    exact ⟨rfl, bt (by assumption) (by assumption)⟩
end Go.Proofs.Ytmhjpdppippgkaa
