/- The document's Total, Order, Proposer, Turn; turns.Turn. -/
import Derived.Deep.QuietTactic
import Derived.BigQuiet
import Derived.Test.YtmmacimneaehiaaTo
import Derived.Test.YtmmacimneaehiaaYs
namespace Go.Proofs.Ytmmacimneaehiaa
open Go.RowKit Go.Shelf
set_option linter.unusedVariables false
set_option linter.unusedSimpArgs false
set_option maxRecDepth 20000

def tv (h r : Int) : Int := if 1 ≤ h ∧ h ≤ 1099511627776 ∧ 0 ≤ r ∧ r ≤ 1048576 then (h + r) % 4096 else 0

end Go.Proofs.Ytmmacimneaehiaa
