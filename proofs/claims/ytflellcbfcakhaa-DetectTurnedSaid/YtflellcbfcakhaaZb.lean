/- slices.Sort at []uint64: insertionSort. -/
import Derived.Test.YtflellcbfcakhaaChecked
import Derived.WalkKit
import Derived.WalkLawsBesides
import Derived.Lib.Hide
import Derived.BigGuard
import Derived.BigCall
import Derived.CellFam
import Derived.Deep.Draws
import Derived.Deep.QuietTactic
import Derived.BigQuiet
import Derived.Test.YtflellcbfcakhaaZa
namespace Go.Proofs.Ytflellcbfcakhaa
open Go.RowKit
set_option linter.unusedVariables false
set_option linter.unusedSimpArgs false
set_option maxRecDepth 20000

/-- The number in a value. -/
def numV : Value → Int
  | .int _ q => q
  | _ => 0
/-- Rising from a to i, but for the key at j, which may be too far right. -/
def Sj (a i j : Nat) (f : Nat → Int) : Prop := ∀ p q, a ≤ p → p < q → q ≤ i → q ≠ j → f p ≤ f q
theorem Sj.start {a i : Nat} {f : Nat → Int} (h : Srt a i f) : Sj a i i f := fun p q h1 h2 h3 h4 => h p q h1 h2 (by omega)
theorem Sj.left {a i j : Nat} {f : Nat → Int} (h : Sj a i j f) (hj : j ≤ a) : Srt a (i + 1) f := fun p q h1 h2 h3 => h p q h1 h2 (by omega) (by omega)
theorem Sj.stop {a i j : Nat} {f : Nat → Int} (h : Sj a i j f) (hj : a < j) (hji : j ≤ i) (hl : ¬ f j < f (j - 1)) : Srt a (i + 1) f := by
  intro p q h1 h2 h3
  have e1 := h p q h1 h2 (by omega)
  have e2 := h p (j - 1) h1
  by_cases e : q = j
  · subst e
    by_cases e' : p = q - 1
    · subst e'; omega
    · have := e2 (by omega) (by omega) (by omega); omega
  · exact e1 e
theorem Sj.step {a i j : Nat} {f : Nat → Int} (H : Sj a i j f) (hj : a < j) (hl : f j < f (j - 1)) : Sj a i (j - 1) (swf f j (j - 1)) := by
  intro p q h1 h2 h3 h4
  unfold swf
  have := H p q; have := H (j-1) q; have := H j q; have := H p (j-1)
  grind
set_option maxHeartbeats 1600000 in
theorem insertion_any (w : World) (g off cap c n a b : Nat) (f : Nat → Int) (hR : Rk w g off cap n f) (hab : a ≤ b) (hb : b ≤ n) (hn : n ≤ 1000) :
    Calls Try.prog 29 #[.slice (some ⟨g, off, none⟩) n c, .int .i64 a, .int .i64 b] w fun e w' =>
      e = .returned (.tuple #[]) ∧ Chg (· = g) w w' ∧ ∃ f', Hid (Rk w' g off cap n f') ∧ Hid (PermIn a b f f') ∧ Hid (Srt a b f') := by
  go_enter Try.func29, Try.ntmps29
  go_wp2
  go_loopw [6] (fun vi wr => ∃ (i : Nat) (fi : Nat → Int), vi = .int .i64 i ∧ a < i ∧ i ≤ b + 1 ∧ Hid (Rk wr g off cap n fi) ∧ Hid (Chg (· = g) w wr) ∧ Hid (PermIn a b f fi) ∧ Hid (Srt a i fi)) (fun vi _ => b + 1 - (numV vi).toNat)
  case atStart => exact ⟨a + 1, f, by go_num, by omega, by omega, Lib.hid hR, Lib.hid (Chg.refl _ _), Lib.hid (PermIn.refl _ _ _), Lib.hid (fun p q h1 h2 h3 => by omega)⟩
  case round =>
    obtain ⟨i, fi, rfl, hai, hib, HR, HC, HP, HS⟩ := hrel
    clear hR
    go_wp2
    · go_loopw [7] (fun vj wr2 => ∃ (j : Nat) (fj : Nat → Int), vj = .int .i64 j ∧ a ≤ j ∧ j ≤ i ∧ Hid (Rk wr2 g off cap n fj) ∧ Hid (Chg (· = g) w wr2) ∧ Hid (PermIn a b f fj) ∧ Hid (Sj a i j fj)) (fun vj _ => (numV vj).toNat)
      case atStart => exact ⟨i, fi, rfl, by omega, Nat.le_refl _, HR, HC, HP, Lib.hid (Sj.start HS.out)⟩
      case round =>
        obtain ⟨j, fj, rfl, haj, hji, HR2, HC2, HP2, HS2⟩ := hrel
        have hlt : i < b := by assumption
        have hcw := HR2.out.cell
        have hfw := HR2.out.frozen
        clear HR HC HP HS
        go_wp2
        by_cases hja : a < j
        · go_quiet (first | (go_at_call 35; refine Calls.quiet_of_same (less_any _ _ _)))
          go_wp2
          · have hl : fj j < fj (j - 1) := by assumption
            go_region
            all_goals go_wp2
            go_roundw
            case rel =>
              refine ⟨j - 1, swf fj j (j - 1), by congr 1; omega, by omega, by omega, Lib.hid ?_, Lib.hid ?_, Lib.hid (HP2.out.trans (PermIn.swf ⟨by omega, by omega⟩ ⟨by omega, by omega⟩)), Lib.hid (HS2.out.step hja hl)⟩
              · exact HR2.out.swap (nq + 1) j (j - 1)
              · exact HC2.out.trans (Rk.swapC _ g off (nq + 1) j (j - 1) _ _) (fun _ e => .inl e)
            case measure => simp [numV]; omega
          · have hl : ¬ fj j < fj (j - 1) := by first | assumption | exact Int.not_lt.2 (by assumption)
            go_roundw
            case rel => exact ⟨i + 1, fj, by go_num, by omega, by omega, Lib.hid (HR2.out.drewN nq), Lib.hid (HC2.out.drewN nq), HP2, Lib.hid (HS2.out.stop hja hji hl)⟩
            case measure => simp [numV]; omega
        · go_quiet (first | (go_at_call 35; refine Calls.quiet_of_same (less_any _ _ _)))
          go_wp2
          go_roundw
          case rel => exact ⟨i + 1, fj, by go_num, by omega, by omega, Lib.hid (HR2.out.drewN nq), Lib.hid (HC2.out.drewN nq), HP2, Lib.hid (HS2.out.left (by omega))⟩
          case measure => simp [numV]; omega
    · have hge : ¬ i < b := by assumption
      go_end0
      exact ⟨rfl, HC.out, fi, HR, HP, Lib.hid (fun p q h1 h2 h3 => HS.out p q h1 h2 (by omega))⟩
end Go.Proofs.Ytflellcbfcakhaa
