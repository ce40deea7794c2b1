/- slices.Sort at []uint64: order2, median. -/
import Derived.Test.YtflellcbfcakhaaChecked
import Derived.WalkKit
import Derived.WalkLawsBesides
import Derived.Lib.Hide
import Derived.BigGuard
import Derived.BigCall
import Derived.CellFam
import Derived.Deep.Draws
import Derived.Deep.QuietTactic
import Derived.BigQuiet
import Derived.Test.YtflellcbfcakhaaZb
namespace Go.Proofs.Ytflellcbfcakhaa
open Go.RowKit
set_option linter.unusedVariables false
set_option linter.unusedSimpArgs false
set_option maxRecDepth 20000

/-- A box of one count. -/
def Bx (w : World) (h : Nat) (s : Nat) : Prop := Hb w h 3 #[.int .i64 (s : Int)]
set_option maxHeartbeats 1600000 in
theorem order2_any (w : World) (g off cap c n a b h s : Nat) (f : Nat → Int) (hR : Rk w g off cap n f) (ha : a < n) (hb : b < n) (hn : n ≤ 1000) (hB : Bx w h s) (hs : s ≤ 1000) :
    Calls Try.prog 46 #[.slice (some ⟨g, off, none⟩) n c, .int .i64 a, .int .i64 b, .pointer (some ⟨h, 0, none⟩)] w fun e w' =>
      ∃ x y s' : Nat, e = .returned (.tuple #[.int .i64 x, .int .i64 y]) ∧ Chg (· = h) w w' ∧ Hid (Bx w' h s') ∧ s ≤ s' ∧ s' ≤ s + 1 ∧ (x = a ∧ y = b ∨ x = b ∧ y = a) ∧ f x ≤ f y := by
  have hcw := hR.cell
  have c0 : w.cell? ⟨h, 0, none⟩ = some (.int .i64 (s : Int)) := by rw [Hb.cell hB]; rfl
  have f0 := Hb.frozen hB 0
  have HB := Lib.hid hB
  clear hR hB
  go_enter Try.func46, Try.ntmps46
  go_wp2
  go_quiet (first | (go_at_call 35; refine Calls.quiet_of_same (less_any _ _ _)))
  go_wp2
  · have hl : f b < f a := by assumption
    go_ret2
    exact ⟨b, a, s + 1, rfl, ((Chg.refl (· = h) w).drewN nq).setCell (p := ⟨h, 0, none⟩) (.inl rfl) _, Lib.hid ((HB.out.drewN nq).set 0 (.int .i64 ((s + 1 : Nat) : Int))), by omega, by omega, .inr ⟨rfl, rfl⟩, by omega⟩
  · have hl : ¬ f b < f a := by first | assumption | exact Int.not_lt.2 (by assumption)
    go_ret2
    exact ⟨a, b, s, rfl, (Chg.refl (· = h) w).drewN nq, Lib.hid (HB.out.drewN nq), by omega, by omega, .inl ⟨rfl, rfl⟩, by omega⟩
set_option maxHeartbeats 1600000 in
theorem median_any (w : World) (g off cap c n i j k h s : Nat) (f : Nat → Int) (hR : Rk w g off cap n f) (hij : i < j) (hjk : j < k) (hk : k < n) (hn : n ≤ 1000) (hB : Bx w h s) (hs : s ≤ 100) (hne : g ≠ h) :
    Calls Try.prog 44 #[.slice (some ⟨g, off, none⟩) n c, .int .i64 i, .int .i64 j, .int .i64 k, .pointer (some ⟨h, 0, none⟩)] w fun e w' =>
      ∃ m s' : Nat, e = .returned (.int .i64 m) ∧ Chg (· = h) w w' ∧ Hid (Bx w' h s') ∧ s ≤ s' ∧ s' ≤ s + 3 ∧ i ≤ m ∧ m ≤ k ∧ (∃ lo, i ≤ lo ∧ lo ≤ k ∧ lo ≠ m ∧ f lo ≤ f m) ∧ ∃ hi, i ≤ hi ∧ hi ≤ k ∧ hi ≠ m ∧ f m ≤ f hi := by
  have HR := Lib.hid hR
  have HB := Lib.hid hB
  clear hR hB
  go_enter Try.func44, Try.ntmps44
  go_wp2_with fail
  refine (order2_any w g off cap c n i j h s f HR.out (by omega) (by omega) hn HB.out (by omega)).mono ?_
  rintro e w1 ⟨x1, y1, s1, rfl, k1, HB1, hs1, hs1', hxy1, hf1⟩
  have HR1 := Lib.hid (HR.out.chg k1 hne)
  have HC1 := Lib.hid k1
  clear k1
  go_wp2_with fail
  refine (order2_any w1 g off cap c n y1 k h s1 f HR1.out (by omega) (by omega) hn HB1.out (by omega)).mono ?_
  rintro e w2 ⟨x2, y2, s2, rfl, k2, HB2, hs2, hs2', hxy2, hf2⟩
  have HR2 := Lib.hid (HR1.out.chg k2 hne)
  have HC2 := Lib.hid (HC1.out.trans k2 (fun _ e => .inl e))
  clear k2
  go_wp2_with fail
  refine (order2_any w2 g off cap c n x1 x2 h s2 f HR2.out (by omega) (by omega) hn HB2.out (by omega)).mono ?_
  rintro e w3 ⟨x3, y3, s3, rfl, k3, HB3, hs3, hs3', hxy3, hf3⟩
  have HC3 := Lib.hid (HC2.out.trans k3 (fun _ e => .inl e))
  clear k3
  go_wp2_with fail
  go_ret
  refine ⟨y3, s3, rfl, HC3.out, HB3, by omega, by omega, by omega, by omega, ⟨x3, by omega, by omega, by omega, hf3⟩, ?_⟩
  refine ⟨y2, by omega, by omega, by omega, ?_⟩
  rcases hxy1 with ⟨rfl, rfl⟩ | ⟨rfl, rfl⟩ <;> rcases hxy2 with ⟨rfl, rfl⟩ | ⟨rfl, rfl⟩ <;> rcases hxy3 with ⟨rfl, rfl⟩ | ⟨rfl, rfl⟩ <;> omega
end Go.Proofs.Ytflellcbfcakhaa
