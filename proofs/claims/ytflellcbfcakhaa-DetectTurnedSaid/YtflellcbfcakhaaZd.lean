/- slices.Sort at []uint64: choosePivot. -/
import Derived.Test.YtflellcbfcakhaaChecked
import Derived.WalkKit
import Derived.WalkLawsBesides
import Derived.Lib.Hide
import Derived.IntWalk
import Derived.BigGuard
import Derived.BigCall
import Derived.CellFam
import Derived.Deep.Draws
import Derived.Deep.QuietTactic
import Derived.BigQuiet
import Derived.Test.YtflellcbfcakhaaZc
namespace Go.Proofs.Ytflellcbfcakhaa
open Go.RowKit
set_option linter.unusedVariables false
set_option linter.unusedSimpArgs false
set_option maxRecDepth 20000

set_option maxHeartbeats 3200000 in
theorem pivot_any (w : World) (g off cap c n a b l : Nat) (f : Nat → Int) (hR : Rk w g off cap n f) (hl : b = a + l) (hb : b ≤ n) (hn : n ≤ 1000) (h8 : 8 ≤ l) (h50 : l < 50) :
    Calls Try.prog 32 #[.slice (some ⟨g, off, none⟩) n c, .int .i64 a, .int .i64 b] w fun e w' =>
      ∃ m t : Nat, e = .returned (.tuple #[.int .i64 m, .int .i64 t]) ∧ Hid (Chg Non w w') ∧ (t = 0 ∨ t = 1) ∧ a ≤ m ∧ m < b ∧ (∃ lo, a ≤ lo ∧ lo < b ∧ lo ≠ m ∧ f lo ≤ f m) ∧ ∃ hi, a ≤ hi ∧ hi < b ∧ hi ≠ m ∧ f m ≤ f hi := by
  obtain ⟨q, hq⟩ : ∃ q, l / 4 = q := ⟨_, rfl⟩
  have hq2 : 2 ≤ q := by omega
  have hq4 : 4 * q ≤ l := by omega
  have HR := Lib.hid (hR.alloc (.cells #[.int .i64 0] 3))
  have HB : Hid (Bx (w.alloc (.cells #[.int .i64 0] 3)) w.heap.size 0) := Lib.hid (Hb.new w 3 #[.int .i64 0])
  have HC := Lib.hid ((Chg.refl Non w).alloc (.cells #[.int .i64 0] 3))
  have HNE : Hid (g ≠ w.heap.size) := Lib.hid (by have := hR.lt; omega)
  clear hR
  go_enter Try.func32, Try.ntmps32
  go_wp2_with fail
  rw [show (a : Int) + ((a : Int) + (l : Int) - (a : Int)) / 4 = ((a + q : Nat) : Int) from by omega, show (a : Int) + ((a : Int) + (l : Int) - (a : Int)) / 4 * 2 = ((a + q * 2 : Nat) : Int) from by omega, show (a : Int) + ((a : Int) + (l : Int) - (a : Int)) / 4 * 3 = ((a + q * 3 : Nat) : Int) from by omega]
  generalize w.alloc (.cells #[.int .i64 0] 3) = w1 at *
  obtain ⟨h, hh⟩ : ∃ h, w.heap.size = h := ⟨_, rfl⟩
  have HSZ : Hid (w.heap.size ≤ h) := Lib.hid (by omega)
  rw [hh] at HB HNE ⊢
  clear hh
  refine (median_any w1 g off cap c n (a + q) (a + q * 2) (a + q * 3) h 0 f HR.out (by omega) (by omega) (by omega) hn HB.out (by omega) HNE.out).mono ?_
  rintro e w2 ⟨m, s', rfl, k2, HB2, hs, hs', hm, hm', ⟨lo, hlo, hlo', hlom, hflo⟩, hi, hhi, hhi', hhim, hfhi⟩
  have c0 : w2.cell? ⟨h, 0, none⟩ = some (.int .i64 (s' : Int)) := by rw [Hb.cell HB2.out]; rfl
  have HC2 : Hid (Chg Non w w2) := Lib.hid (HC.out.trans k2 (fun j e => .inr (by rw [e]; exact HSZ.out)))
  clear k2
  have HX : Hid ((∃ lo, a ≤ lo ∧ lo < b ∧ lo ≠ m ∧ f lo ≤ f m) ∧ ∃ hi, a ≤ hi ∧ hi < b ∧ hi ≠ m ∧ f m ≤ f hi) := Lib.hid ⟨⟨lo, by omega, by omega, hlom, hflo⟩, hi, by omega, by omega, hhim, hfhi⟩
  have hma : a ≤ m := by omega
  have hmb : m < b := by omega
  have hs3 : s' ≤ 3 := by omega
  clear hlo hlo' hlom hflo hhi hhi' hhim hfhi hm hm' hs hs'
  by_cases hz : s' = 0
  · subst hz
    go_wp2_with fail
    go_ret2
    exact ⟨m, 1, rfl, HC2, .inr rfl, hma, hmb, HX.out.1, HX.out.2⟩
  · have hz1 : ¬ (s' : Int) = 0 := by omega
    have hz2 : ¬ (s' : Int) = 12 := by omega
    go_wp2_with fail
    go_ret2
    exact ⟨m, 0, rfl, HC2, .inl rfl, hma, hmb, HX.out.1, HX.out.2⟩
end Go.Proofs.Ytflellcbfcakhaa
