import Derived.Test.YtdapcnffiapgpaaPut
namespace Go.Proofs.Ytdapcnffiapgpaa
open Go.ChangeShapes Go.WideShapes Go.ChangeAt Go.RowKit
set_option linter.unusedVariables false

theorem rotI_129 : rotI 8 129 1 = 3 := by decide
theorem str_258 : (strOfNums (be 2 258)).toList = [1, 2] := by decide +kernel
theorem lives_any (w : World) : Calls Try.prog 8 #[] w fun e w' => e = .returned (.bool true) ∧ Below w.heap.size w w' := by
  have h1 := rotI_129
  have h2 := str_258
  go_enter Try.func8, Try.ntmps8
  go_wp2_with (first
    | (go_at_call 26; refine (put16 none 0 0 [] _ rfl (Bs.nil _ _ _) (by omega) 258 (by decide)).mono ?_; rintro e w' ⟨g, rfl, hown, hbel⟩; have hcv := own_string (P := Try.prog) hown Try.underlying31 Try.underlying5 Try.underlying9)
    | (go_at_call 9; refine (turn8 129 1 (by decide) (by decide) _).mono ?_; rintro e w' ⟨rfl, k, rfl⟩))
  go_ret
  exact ⟨rfl, below_drewN hbel _⟩
end Go.Proofs.Ytdapcnffiapgpaa
