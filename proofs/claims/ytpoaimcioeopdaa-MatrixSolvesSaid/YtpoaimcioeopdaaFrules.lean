/- The walk of FieldRules. -/
import Derived.Test.YtpoaimcioeopdaaFlives
import Derived.Test.YtpoaimcioeopdaaFint
namespace Go.Proofs.Ytpoaimcioeopdaa
open Go.ChangeShapes Go.WideShapes Go.ChangeAt Go.RowKit
set_option linter.unusedVariables false
set_option maxRecDepth 100000

end Go.Proofs.Ytpoaimcioeopdaa
