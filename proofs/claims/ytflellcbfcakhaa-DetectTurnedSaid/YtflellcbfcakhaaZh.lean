/- slices.Sort at []uint64: breakPatterns. -/
import Derived.Test.YtflellcbfcakhaaChecked
import Derived.WalkKit
import Derived.WalkLawsBesides
import Derived.Lib.Hide
import Derived.IntWalk
import Derived.BigGuard
import Derived.Deep.Cut
import Derived.Deep.CutRange
import Derived.Deep.CutBlock
import Derived.BigCall
import Derived.CellFam
import Derived.Deep.Draws
import Derived.Deep.QuietTactic
import Derived.BigQuiet
import Derived.Test.YtflellcbfcakhaaZg
namespace Go.Proofs.Ytflellcbfcakhaa
open Go.RowKit
set_option linter.unusedVariables false
set_option linter.unusedSimpArgs false
set_option maxRecDepth 20000

theorem Rn.chg {w w' : World} {h : Nat} {S : Nat → Prop} (r : Rn w h) (k : Chg S w w') (hh : ¬ S h) : Rn w' h := by
  obtain ⟨x, hb⟩ := r
  exact ⟨x, hb.chg k hh⟩
set_option maxHeartbeats 6400000 in
theorem breakPatterns_any (w : World) (g off cap c n a b l : Nat) (f : Nat → Int) (hR : Rk w g off cap n f) (hl : b = a + l) (hb : b ≤ n) (hn : n ≤ 1000) (h8 : 13 ≤ l) (h20 : l ≤ 20) :
    Calls Try.prog 31 #[.slice (some ⟨g, off, none⟩) n c, .int .i64 a, .int .i64 b] w fun e w' =>
      e = .returned (.tuple #[]) ∧ Hid (Chg (· = g) w w') ∧ ∃ f', Hid (Rk w' g off cap n f') ∧ Hid (PermIn a b f f') := by
  obtain ⟨w1, hw1, HR, HB, HC, HNE⟩ : ∃ w1, w.alloc (.cells #[.int .u64 (l : Int)] 88) = w1 ∧ Hid (Rk w1 g off cap n f) ∧ Hid (Rn w1 w.heap.size) ∧ Hid (Chg (· = g) w w1) ∧ Hid (g ≠ w.heap.size) := by
    have hlt := hR.lt
    exact ⟨_, rfl, Lib.hid (hR.alloc _), Lib.hid ⟨l, Hb.new w 88 #[.int .u64 l]⟩, Lib.hid ((Chg.refl (· = g) w).alloc _), Lib.hid (by omega)⟩
  have HW1 := Lib.hid hw1
  obtain ⟨M, hM, hM2, hM3⟩ : ∃ M : Nat, (if l < 16 then (16 : Int) else 32) = (M : Int) + 1 ∧ M < 2 * l ∧ M < 1000 := by
    by_cases e : l < 16
    · exact ⟨15, by rw [if_pos e]; rfl, by omega, by omega⟩
    · exact ⟨31, by rw [if_neg e]; rfl, by omega, by omega⟩
  have HN := npot_any w1 l h8 h20
  rw [hM] at HN
  replace HN := Lib.hid HN
  obtain ⟨h, hh⟩ : ∃ h, w.heap.size = h := ⟨_, rfl⟩
  have HH := Lib.hid hh
  rw [hh] at HB HNE
  have HSZ : Hid (w.heap.size ≤ h) := Lib.hid (by omega)
  have hl1 : b ≤ a + l := by omega
  have hl2 : a + l ≤ b := by omega
  clear hw1 hR hM hh hl
  go_enter Try.func31, Try.ntmps31
  go_wp2_with fail
  rw [show (b : Int) - (a : Int) = (l : Int) from by omega, HW1.out, HH.out]
  refine HN.out.mono ?_
  rintro e w2 ⟨rfl, hw2⟩
  obtain rfl : w1 = w2 := hw2.symm
  obtain ⟨q, hq⟩ : ∃ q, l / 4 = q := ⟨_, rfl⟩
  have hql : 4 * q ≤ l := by omega
  have hq3 : 3 ≤ q := by omega
  have hqi : (l : Int) / 4 = (q : Int) := by omega
  clear hq HW1 HH HN
  go_wp2_with fail
  go_loopw [9, 10] (fun vi vo wr => ∃ (i : Nat) (fs : Nat → Int), vi = .int .i64 i ∧ a + q * 2 ≤ i + 1 ∧ i ≤ a + q * 2 + 2 ∧ Hid (Rk wr g off cap n fs) ∧ Hid (Rn wr h) ∧ Hid (Chg (· = g) w wr) ∧ Hid (PermIn a b f fs)) (fun vi _ _ => a + q * 2 + 2 - (numV vi).toNat)
  case atStart => exact ⟨a + q * 2 - 1, f, by go_num, by omega, by omega, HR, HB, HC, Lib.hid (PermIn.refl _ _ _)⟩
  case round =>
    clear HR HB HC
    obtain ⟨i, fs, rfl, hi1, hi2, HR, HB, HC, HP⟩ := hrel
    by_cases hle : (i : Int) ≤ (a : Int) + (q : Int) * 2 + 1
    · go_wp2_with fail
      refine (next_any wr h HB.out).mono ?_
      rintro e W ⟨y, rfl, k, HBW⟩
      have HRW := Lib.hid (HR.out.chg k.out HNE.out)
      have HCW := Lib.hid (HC.out.trans k.out (fun j e => .inr (by rw [e]; exact HSZ.out)))
      obtain ⟨r, hr, hrM⟩ : ∃ r : Nat, bits .and .u64 y (M : Int) = (r : Int) ∧ r ≤ M := by
        have := and_lt y M hM3
        exact ⟨(bits .and .u64 y (M : Int)).toNat, by omega, by omega⟩
      clear k HR HB HC
      by_cases hrl : (l : Int) ≤ (r : Int)
      · obtain ⟨o, ho⟩ : ∃ o, r - l = o := ⟨_, rfl⟩
        go_wp2_with fail
        rw [show (r : Int) - (l : Int) = (o : Int) from by omega]
        have hcw := HRW.out.cell
        have hfw := HRW.out.frozen
        obtain ⟨vj, hyj⟩ := cell?_setCell_some (w := W) (p := ⟨g, off + i, none⟩) (x := .int .u64 (fs (a + o))) (q := ⟨g, off + (a + o), none⟩) (hcw (a + o) (by omega))
        clear hr
        go_region
        all_goals go_wp2_with fail
        go_roundw
        case rel => exact ⟨i + 1, swf fs i (a + o), by go_num, by omega, by omega, Lib.hid (HRW.out.swap 1 i (a + o)), Lib.hid (HBW.out.chg (Rk.swapC W g off 1 i (a + o) (.int .u64 (fs (a + o))) (.int .u64 (fs i))) (fun e => HNE.out e.symm)), Lib.hid (HCW.out.trans (Rk.swapC W g off 1 i (a + o) (.int .u64 (fs (a + o))) (.int .u64 (fs i))) (fun _ e => .inl e)), Lib.hid (HP.out.trans (PermIn.swf ⟨by omega, by omega⟩ ⟨by omega, by omega⟩))⟩
        case measure => simp [numV]; omega
      · obtain ⟨o, ho⟩ : ∃ o, r = o := ⟨_, rfl⟩
        go_wp2_with fail
        have hcw := HRW.out.cell
        have hfw := HRW.out.frozen
        obtain ⟨vj, hyj⟩ := cell?_setCell_some (w := W) (p := ⟨g, off + i, none⟩) (x := .int .u64 (fs (a + o))) (q := ⟨g, off + (a + o), none⟩) (hcw (a + o) (by omega))
        clear hr
        go_region
        all_goals go_wp2_with fail
        go_roundw
        case rel => exact ⟨i + 1, swf fs i (a + o), by go_num, by omega, by omega, Lib.hid (HRW.out.swap 1 i (a + o)), Lib.hid (HBW.out.chg (Rk.swapC W g off 1 i (a + o) (.int .u64 (fs (a + o))) (.int .u64 (fs i))) (fun e => HNE.out e.symm)), Lib.hid (HCW.out.trans (Rk.swapC W g off 1 i (a + o) (.int .u64 (fs (a + o))) (.int .u64 (fs i))) (fun _ e => .inl e)), Lib.hid (HP.out.trans (PermIn.swf ⟨by omega, by omega⟩ ⟨by omega, by omega⟩))⟩
        case measure => simp [numV]; omega
    · go_wp2_with fail
      go_end0
      exact ⟨rfl, HC, fs, HR, HP⟩
end Go.Proofs.Ytflellcbfcakhaa
