/- The document's Total, Order, Proposer, Turn; turns.Turn. -/
import Derived.Deep.QuietTactic
import Derived.BigQuiet
import Derived.Test.YtkjekaklfjginaaTo
import Derived.Test.YtkjekaklfjginaaYs
namespace Go.Proofs.Ytkjekaklfjginaa
open Go.RowKit Go.Shelf
set_option linter.unusedVariables false
set_option linter.unusedSimpArgs false
set_option maxRecDepth 20000

def tv (h r : Int) : Int := if 1 ≤ h ∧ h ≤ 1099511627776 ∧ 0 ≤ r ∧ r ≤ 1048576 then (h + r) % 4096 else 0

set_option maxHeartbeats 1600000 in
theorem Turn_any (w : World) (h r : Int) (hh : -9223372036854775808 ≤ h ∧ h ≤ 9223372036854775807) (hr : -9223372036854775808 ≤ r ∧ r ≤ 9223372036854775807) :
    Calls Try.prog 4 #[.int .i64 h, .int .i64 r] w fun e w' => w' = w ∧ e = .returned (.int .i64 (tv h r)) := by
  unfold tv
  go_enter Try.func4, Try.ntmps4
  by_cases c : 1 ≤ h ∧ h ≤ 1099511627776 ∧ 0 ≤ r ∧ r ≤ 1048576
  · rw [if_pos c]
    obtain ⟨c1, c2, c3, c4⟩ := c
    have n1 : ¬ h < 1 := by omega
    have n2 : ¬ 1099511627776 < h := by omega
    have n3 : ¬ r < 0 := by omega
    have n4 : ¬ 1048576 < r := by omega
    go_wp2_with fail
    go_ret
    exact ⟨rfl, rfl⟩
  · rw [if_neg c]
    go_wp2_with fail
    all_goals first
      | (go_ret; exact ⟨rfl, rfl⟩)
      | (exfalso; omega)

end Go.Proofs.Ytkjekaklfjginaa
