/- slices.Sort at []uint64: partialInsertionSort. -/
import Derived.Test.YtflellcbfcakhaaChecked
import Derived.WalkKit
import Derived.WalkLawsBesides
import Derived.Lib.Hide
import Derived.IntWalk
import Derived.BigGuard
import Derived.BigCall
import Derived.CellFam
import Derived.Deep.Draws
import Derived.Deep.QuietTactic
import Derived.BigQuiet
import Derived.Test.YtflellcbfcakhaaZb
namespace Go.Proofs.Ytflellcbfcakhaa
open Go.RowKit
set_option linter.unusedVariables false
set_option linter.unusedSimpArgs false
set_option maxRecDepth 20000

theorem Srt.more {a i : Nat} {f : Nat → Int} (h : Srt a i f) (hi : a < i) (hl : ¬ f i < f (i - 1)) : Srt a (i + 1) f := by
  intro p q h1 h2 h3
  by_cases e : q = i
  · subst e
    by_cases e' : p = q - 1
    · subst e'; omega
    · have := h p (q - 1) h1 (by omega) (by omega); omega
  · exact h p q h1 h2 (by omega)
set_option maxHeartbeats 1600000 in
theorem partial_any (w : World) (g off cap c n a b : Nat) (f : Nat → Int) (hR : Rk w g off cap n f) (hab : a < b) (hb : b ≤ n) (hn : n ≤ 1000) (h50 : b < a + 50) :
    Calls Try.prog 34 #[.slice (some ⟨g, off, none⟩) n c, .int .i64 a, .int .i64 b] w fun e w' =>
      ∃ r : Bool, e = .returned (.bool r) ∧ (∃ m, w' = w.drewN m) ∧ (r = true → Srt a b f) := by
  have HR := Lib.hid hR
  clear hR
  go_enter Try.func34, Try.ntmps34
  go_wp2
  go_loopw [7, 8] (fun vi vj wr => vi = .int .i64 ((a + 1 : Nat) : Int) ∧ vj = .int .i64 0 ∧ wr = w) (fun _ _ _ => 0)
  case atStart => exact ⟨by go_num, rfl, rfl⟩
  case round =>
    obtain ⟨rfl, rfl, hw⟩ := hrel
    replace hw := hw.symm
    subst hw
    go_wp2
    go_loopw [7] (fun vi wr2 => ∃ (i m : Nat), vi = .int .i64 i ∧ a < i ∧ i ≤ b ∧ wr2 = w.drewN m ∧ Hid (Srt a i f)) (fun vi _ => b - (numV vi).toNat)
    case atStart => exact ⟨a + 1, 0, by go_num, by omega, by omega, rfl, Lib.hid (fun p q h1 h2 h3 => by omega)⟩
    case round =>
      obtain ⟨i, m, rfl, hai, hib, hw2, HS⟩ := hrel
      have hcw : ∀ t, t < n → wr.cell? ⟨g, off + t, none⟩ = some (.int .u64 (f t)) := by rw [hw2]; exact (HR.out.drewN m).cell
      have HW := Lib.hid hw2
      clear hw2
      go_wp2
      by_cases hi : i < b
      · go_quiet (first | (go_at_call 35; refine Calls.quiet_of_same (less_any _ _ _)))
        go_wp2
        · have hl0 : (!decide (f i < f (i - 1))) = true := by assumption
          have hl : ¬ f i < f (i - 1) := by simpa using hl0
          go_roundw
          case rel => exact ⟨i + 1, m + nq, by go_num, by omega, by omega, by rw [HW.out, World.drewN_drewN], Lib.hid (HS.out.more hai hl)⟩
          case measure => simp [numV]; omega
        · have hne : ¬ (i : Int) = (b : Int) := by omega
          have h5 : ((b : Int) - (a : Int)) < 50 := by omega
          go_wp2
          go_ret
          exact ⟨false, rfl, ⟨m + nq, by rw [HW.out, World.drewN_drewN]⟩, fun e => by cases e⟩
      · have hib2 : i = b := by omega
        subst hib2
        go_quiet (first | (go_at_call 35; refine Calls.quiet_of_same (less_any _ _ _)))
        go_wp2
        go_ret
        exact ⟨true, rfl, ⟨m + nq, by rw [HW.out, World.drewN_drewN]⟩, fun _ => HS.out⟩
end Go.Proofs.Ytflellcbfcakhaa
