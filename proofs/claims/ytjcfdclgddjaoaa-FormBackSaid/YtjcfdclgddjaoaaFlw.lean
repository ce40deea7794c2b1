/- Package forms: words for lists. -/
import Derived.Test.YtjcfdclgddjaoaaChecked
import Derived.WalkKit
import Derived.WalkLawsBesides
import Derived.Lib.Hide
import Derived.Deep.RegionHeld3
import Derived.Test.YtjcfdclgddjaoaaFw
namespace Go.Proofs.Ytjcfdclgddjaoaa
open Go.RowKit
set_option linter.unusedVariables false
set_option linter.unusedSimpArgs false
set_option maxRecDepth 20000

/-- The first k, one behind the other. -/
def jn (bs : Nat → List UInt8) : Nat → List UInt8
  | 0 => []
  | k + 1 => jn bs k ++ bs k
/-- All of the first k are right. -/
def allB (ok : Nat → Bool) : Nat → Bool
  | 0 => true
  | k + 1 => allB ok k && ok k
theorem allB_no {ok : Nat → Bool} {n k : Nat} (h : k < n) (hk : ok k = false) : allB ok n = false := by
  induction n with
  | zero => omega
  | succ n ih =>
    unfold allB
    by_cases e : k = n
    · subst e; rw [hk, Bool.and_false]
    · rw [ih (by omega), Bool.false_and]
theorem allB_yes {ok : Nat → Bool} {n k : Nat} (h : allB ok n = true) (hk : k < n) : ok k = true := by
  cases e : ok k with
  | true => rfl
  | false => rw [allB_no hk e] at h; cases h
theorem jn_len {bs : Nat → List UInt8} {ok : Nat → Bool} {m : Nat} (hb : ∀ i, ok i = true → (bs i).length ≤ m) : ∀ k, allB ok k = true → (jn bs k).length ≤ k * m
  | 0, _ => by simp [jn]
  | k + 1, h => by
    unfold allB at h
    rw [Bool.and_eq_true] at h
    have h1 := jn_len hb k h.1
    have h2 := hb k h.2
    unfold jn
    rw [List.length_append, Nat.succ_mul]
    omega
end Go.Proofs.Ytjcfdclgddjaoaa
