import Derived.Test.YtcdepbnglmncpaaDoorQN
import Derived.Test.YtcdepbnglmncpaaDoorQK1
import Derived.Test.YtcdepbnglmncpaaDoorBits
import Derived.Test.YtcdepbnglmncpaaDoorQ1
namespace Go.Proofs.YtcdepbnglmncpaaDoor
open Go.ChangeShapes Go.WideShapes Go.ChangeAt Go.RowKit
set_option linter.unusedVariables false
set_option maxRecDepth 100000

end Go.Proofs.YtcdepbnglmncpaaDoor
