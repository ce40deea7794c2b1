/- Package round: the document's Step at any kind. (Written by wip/tools/gen12.py.) -/
import Derived.Test.YtdejfamcmebdiaaRy1
import Derived.Test.YtdejfamcmebdiaaRy2
import Derived.Test.YtdejfamcmebdiaaRy3
import Derived.Test.YtdejfamcmebdiaaRy4
import Derived.Test.YtdejfamcmebdiaaRy5
import Derived.Test.YtdejfamcmebdiaaRy6
import Derived.Test.YtdejfamcmebdiaaRy7
namespace Go.Proofs.Ytdejfamcmebdiaa
open Go.RowKit mach
set_option linter.unusedVariables false
set_option linter.unusedSimpArgs false
set_option maxRecDepth 20000

theorem rStep_any (w : World) (s : State) (i : In) (ok : s.Ok) (oi : i.Ok) : Calls Try.prog 11 #[.agg s.cells.toArray, .agg i.cells.toArray] w (Did 51 w (stepM s i)) := by
  by_cases k1 : i.kind = 1
  · exact rStep_1 w s i ok oi k1
  by_cases k2 : i.kind = 2
  · exact rStep_2 w s i ok oi k2
  by_cases k3 : i.kind = 3
  · exact rStep_3 w s i ok oi k3
  by_cases k4 : i.kind = 4
  · exact rStep_4 w s i ok oi k4
  by_cases k5 : i.kind = 5
  · exact rStep_5 w s i ok oi k5
  by_cases k6 : i.kind = 6
  · exact rStep_6 w s i ok oi k6
  by_cases k7 : i.kind = 7
  · exact rStep_7 w s i ok oi k7
  by_cases k8 : i.kind = 8
  · exact rStep_8 w s i ok oi k8
  by_cases k9 : i.kind = 9
  · exact rStep_9 w s i ok oi k9
  by_cases k10 : i.kind = 10
  · exact rStep_10 w s i ok oi k10
  by_cases k11 : i.kind = 11
  · exact rStep_11 w s i ok oi k11
  by_cases k12 : i.kind = 12
  · exact rStep_12 w s i ok oi k12
  exact rStep_none w s i ok oi ⟨k1, k2, k3, k4, k5, k6, k7, k8, k9, k10, k11, k12⟩
end Go.Proofs.Ytdejfamcmebdiaa
