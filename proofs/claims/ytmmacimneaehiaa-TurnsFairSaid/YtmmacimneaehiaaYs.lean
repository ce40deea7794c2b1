/- The document's answers on sets: Sum, Right, Power. -/
import Derived.Test.YtmmacimneaehiaaChecked
import Derived.WalkKit
import Derived.WalkLawsBesides
import Derived.Lib.Hide
import Derived.Deep.QuietTactic
import Derived.BigQuiet
import Derived.Test.YtmmacimneaehiaaVr
namespace Go.Proofs.Ytmmacimneaehiaa
open Go.RowKit
set_option linter.unusedVariables false
set_option linter.unusedSimpArgs false
set_option maxRecDepth 20000

end Go.Proofs.Ytmmacimneaehiaa
