/- Package forms: words for lists, read. -/
import Derived.Test.YtjcfdclgddjaoaaChecked
import Derived.WalkKit
import Derived.WalkLawsBesides
import Derived.Lib.Hide
import Derived.Deep.RegionHeld3
import Derived.Test.YtjcfdclgddjaoaaFcv
import Derived.Test.YtjcfdclgddjaoaaFt2
namespace Go.Proofs.Ytjcfdclgddjaoaa
open Go.RowKit
set_option linter.unusedVariables false
set_option linter.unusedSimpArgs false
set_option maxRecDepth 20000

/-- What the reading of a list leaves: a slice of new memory, in which its elements lie; or the panic. -/
def RLO {α : Type} (w : World) (g : Nat) (F : Nat → Prop) (tb : Nat) (t : TypeId) (n : Nat) (p q : List Value) (et : TypeId) (cells : α → List Value) (r : Option (List α × St)) (e : Ending) (w' : World) : Prop :=
  match r with
  | some x => e = .returned (.tuple #[]) ∧ ∃ nb, w.heap.size ≤ nb ∧ Rst w g F tb t (p ++ .slice (some ⟨nb, 0, none⟩) x.1.length x.1.length :: q) x.2 w' ∧ Hb w' nb et (x.1.flatMap cells).toArray
  | none => e = .panicked bad ∧ Chg (Two g tb) w w' ∧ ∃ L' : List Value, L'.length = n ∧ Hb w' tb t L'.toArray
theorem dK_none {α : Type} {d : St → Option (α × St)} {st : St} {k n : Nat} (h : k ≤ n) (hk : dK d st k = none) : dK d st n = none := by
  induction n with
  | zero =>
    obtain rfl : k = 0 := by omega
    exact hk
  | succ n ih =>
    by_cases e : k = n + 1
    · subst e; exact hk
    · unfold dK
      rw [ih (by omega)]
      rfl
theorem dK_flat {α : Type} {d : St → Option (α × St)} {cells : α → List Value} {sz : Nat} (hc : ∀ st x s, d st = some (x, s) → (cells x).length = sz) {st : St} : ∀ {k : Nat} {l : List α} {s : St}, dK d st k = some (l, s) → (l.flatMap cells).length = k * sz
  | 0, l, s, h => by
    simp only [dK, Option.some.injEq, Prod.mk.injEq] at h
    rw [← h.1]; simp
  | k + 1, l, s, h => by
    simp only [dK, Option.bind_eq_some_iff, Option.some.injEq, Prod.mk.injEq, Prod.exists] at h
    obtain ⟨a, s1, h1, b, s2, h2, rfl, rfl⟩ := h
    rw [List.flatMap_append, List.length_append, dK_flat hc h1]
    simp [hc _ _ _ h2, Nat.succ_mul]
end Go.Proofs.Ytjcfdclgddjaoaa
