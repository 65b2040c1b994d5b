/- The walk of PolyDivides, put together. -/
import Derived.Test.YtgbcdmognobieaaPdvl
namespace Go.Proofs.Ytgbcdmognobieaa
open Go.ChangeShapes Go.WideShapes Go.ChangeAt Go.RowKit Go.Shelf GF
set_option linter.unusedVariables false

theorem polyDivides_walk (a0 : Option Addr) (len0 cap0 : Nat) (a1 : Option Addr) (len1 cap1 : Nat) (w : World) (w0 : ∃ l, Arg8c w a0 len0 cap0 l) (w1 : ∃ l, Arg8c w a1 len1 cap1 l) :
    Calls Try.prog 5 #[.slice a0 len0 cap0, .slice a1 len1 cap1] w fun e w' => e = .returned (.bool true) ∧ Below w.heap.size w w' := by
  obtain ⟨l, hl⟩ := w0
  obtain ⟨m, hm⟩ := w1
  have b0 := (Pa.of hl).bd
  have b1 := (Pa.of hm).bd
  by_cases h0 : len0 ≤ 60
  · by_cases h1 : len1 ≤ 60
    · by_cases hq : tr (gL m) = []
      · exact polyDivides_zero a0 len0 cap0 a1 len1 cap1 w _ _ (Pa.of hl) (Pa.of hm) h0 h1 hq
      · exact polyDivides_ok a0 len0 cap0 a1 len1 cap1 w _ _ (Pa.of hl) (Pa.of hm) h0 h1 hq
    · clear hl hm
      have q : (60 : Int) < (len1 : Int) := by omega
      go_enter Try.func5, Try.ntmps5
      go_wp2_with (go_at_call 9; refine (lives_any _).mono ?_; rintro e w' ⟨rfl, hbel⟩)
      go_ret
      exact ⟨rfl, bt (by assumption) (by assumption)⟩
  · clear hl hm
    have q : (60 : Int) < (len0 : Int) := by omega
    go_enter Try.func5, Try.ntmps5
    go_wp2_with (go_at_call 9; refine (lives_any _).mono ?_; rintro e w' ⟨rfl, hbel⟩)
    go_ret
    exact ⟨rfl, bt (by assumption) (by assumption)⟩
end Go.Proofs.Ytgbcdmognobieaa
