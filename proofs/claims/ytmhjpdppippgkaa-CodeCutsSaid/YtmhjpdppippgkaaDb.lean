/- CodeCuts's walk at any arguments, under the contracts. -/
import Derived.Test.YtmhjpdppippgkaaCb
namespace Go.Proofs.Ytmhjpdppippgkaa
open Go.ChangeShapes Go.WideShapes Go.ChangeAt Go.RowKit Go.Shelf GF
set_option linter.unusedVariables false
set_option linter.unusedSimpArgs false
set_option maxRecDepth 100000

set_option maxHeartbeats 2000000 in
theorem codeCuts_any (hAll : CutAll) (t s : Int) (L : Nat) (aB : Option Addr) (cB : Nat) (B : List GF) (w : World) (hTW : (Lit.int .i64 t).wf = true) (hSW : (Lit.int .i64 s).wf = true) (hB : Pa w aB L cB B) :
    Calls Try.prog 6 #[.slice aB L cB, .int .i64 t, .int .i64 s] w fun e w' => e = .returned (.bool true) ∧ Below w.heap.size w w' := by
  have HL9 := Lib.hid (lives9 hAll.1)
  have hbd := hB.bd
  by_cases hL : L ≤ 300
  · have q3 : ¬ (300 : Int) < (L : Int) := by omega
    by_cases hNf : 20 < t ∧ t ≤ 255
    · have q1 := hNf.1
      have q2 := hNf.2
      clear hB hTW hSW hNf hL
      go_enter Try.func6, Try.ntmps6
      go_wp2_with (first
        | (go_at_call 7; go_loud ((with_reducible refine (HL9.out _).mono ?_); rintro e w1 ⟨rfl, hb⟩)))
      go_ret
      exact ⟨rfl, bt (by assumption) (by assumption)⟩
    · exact codeCuts_core hAll t s L aB cB B w hTW hSW hB hL hNf
  · have q3 : (300 : Int) < (L : Int) := by omega
    clear hB hTW hSW hL
    go_enter Try.func6, Try.ntmps6
    go_wp2_with (first
      | (go_at_call 7; go_loud ((with_reducible refine (HL9.out _).mono ?_); rintro e w1 ⟨rfl, hb⟩)))
    go_ret
    exact ⟨rfl, bt (by assumption) (by assumption)⟩
end Go.Proofs.Ytmhjpdppippgkaa
