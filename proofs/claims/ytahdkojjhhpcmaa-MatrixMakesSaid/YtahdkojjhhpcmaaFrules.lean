/- The walk of FieldRules. -/
import Derived.Test.YtahdkojjhhpcmaaFlives
import Derived.Test.YtahdkojjhhpcmaaFint
namespace Go.Proofs.Ytahdkojjhhpcmaa
open Go.ChangeShapes Go.WideShapes Go.ChangeAt Go.RowKit
set_option linter.unusedVariables false

end Go.Proofs.Ytahdkojjhhpcmaa
