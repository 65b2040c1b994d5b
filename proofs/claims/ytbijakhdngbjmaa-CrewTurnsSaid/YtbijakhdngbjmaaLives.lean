import Derived.Test.YtbijakhdngbjmaaPut
namespace Go.Proofs.Ytbijakhdngbjmaa
open Go.ChangeShapes Go.WideShapes Go.ChangeAt Go.RowKit
set_option linter.unusedVariables false

theorem rotI_129 : rotI 8 129 1 = 3 := by decide
theorem str_258 : (strOfNums (be 2 258)).toList = [1, 2] := by decide +kernel
end Go.Proofs.Ytbijakhdngbjmaa
