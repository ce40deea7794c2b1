/- The document's answers on sets: Sum, Right, Power. -/
import Derived.Test.YtkkcallokahjaaaChecked
import Derived.WalkKit
import Derived.WalkLawsBesides
import Derived.Lib.Hide
import Derived.Deep.QuietTactic
import Derived.BigQuiet
import Derived.Test.YtkkcallokahjaaaVr
namespace Go.Proofs.Ytkkcallokahjaaa
open Go.RowKit
set_option linter.unusedVariables false
set_option linter.unusedSimpArgs false
set_option maxRecDepth 20000

end Go.Proofs.Ytkkcallokahjaaa
