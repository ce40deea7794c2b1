/- slices.Sort at []uint64: pdqsort, whole. -/
import Derived.Test.YtflellcbfcakhaaChecked
import Derived.WalkKit
import Derived.WalkLawsBesides
import Derived.Lib.Hide
import Derived.IntWalk
import Derived.BigGuard
import Derived.Deep.Cut
import Derived.Deep.CutRange
import Derived.Deep.CutBlock
import Derived.BigCall
import Derived.CellFam
import Derived.Deep.Draws
import Derived.Deep.QuietTactic
import Derived.BigQuiet
import Derived.Test.YtflellcbfcakhaaZi
namespace Go.Proofs.Ytflellcbfcakhaa
open Go.RowKit
set_option linter.unusedVariables false
set_option linter.unusedSimpArgs false
set_option maxRecDepth 20000

/-- The keys that have not yet been placed, and what is left of the limit. -/
structure Lm (l lim : Nat) (wb : Bool) : Prop where
  yes : wb = true → 13 ≤ l → 1 + (l - 12) / 2 ≤ lim
  no : wb = false → 13 ≤ l → 2 + (l - 12) / 2 ≤ lim
theorem less_wrap (x y : Int) (h : x < y) : decide (x < y) = true := decide_eq_true h
set_option maxHeartbeats 12800000 in
theorem pdq_any (w : World) (g off cap c n lim : Nat) (f : Nat → Int) (hR : Rk w g off cap n f) (hI : Inj n f) (hn : n ≤ 20) (hlim : 13 ≤ n → 1 + (n - 12) / 2 ≤ lim) (hlm : lim ≤ 100) :
    Calls Try.prog 27 #[.slice (some ⟨g, off, none⟩) n c, .int .i64 0, .int .i64 n, .int .i64 lim] w fun e w' =>
      e = .returned (.tuple #[]) ∧ Chg (· = g) w w' ∧ ∃ f', Hid (Rk w' g off cap n f') ∧ Hid (PermIn 0 n f f') ∧ Hid (Srt 0 n f') := by
  have HR := Lib.hid hR
  have HI := Lib.hid hI
  have HLM : Hid (Lm (n - 0) lim true) := Lib.hid ⟨fun _ h => hlim (by omega), fun h => by cases h⟩
  clear hR hI hlim
  go_enter Try.func27, Try.ntmps27
  go_wp2_with fail
  go_loopw [1, 2, 3, 8, 9] (fun va vb vl vwb vwp wr => ∃ (a b lim : Nat) (wb wp : Bool) (fs : Nat → Int), va = .int .i64 a ∧ vb = .int .i64 b ∧ vl = .int .i64 lim ∧ vwb = .bool wb ∧ vwp = .bool wp ∧ a ≤ b ∧ b ≤ n ∧ lim ≤ 100 ∧ Hid (Rk wr g off cap n fs) ∧ Hid (Chg (· = g) w wr) ∧ Hid (Sg n a b f fs) ∧ Hid (Lm (b - a) lim wb))
    (fun va vb _ _ _ _ => (numV vb).toNat - (numV va).toNat)
  case atStart => exact ⟨0, n, lim, true, true, f, by go_num, rfl, rfl, rfl, rfl, by omega, by omega, hlm, HR, Lib.hid (Chg.refl _ _), Lib.hid (Sg.start HI.out), HLM⟩
  case round =>
    clear HR HI HLM hlm
    obtain ⟨a, b, lim, wb, wp, fs, rfl, rfl, rfl, rfl, rfl, hab, hbn, hlm, HR, HC, HG, HL⟩ := hrel
    by_cases h12 : (b : Int) - (a : Int) ≤ 12
    · go_wp2_with fail
      refine (insertion_any wr g off cap c n a b fs HR.out hab hbn (by omega)).mono ?_
      rintro e w2 ⟨rfl, k, f', h1, h2, h3⟩
      have HC2 := Lib.hid (HC.out.trans k (fun _ e => .inl e))
      clear k
      go_wp2_with fail
      (try simp only [Exit.inBlock, Exit.then])
      refine bodyPost_ret (results_none rfl _ _ _) rfl ?_
      have hg := HG.out.turn h2.out
      exact ⟨rfl, HC2.out, f', h1, Lib.hid hg.perm, Lib.hid (hg.fin h3.out)⟩
    · obtain ⟨l, hl⟩ : ∃ l, b - a = l := ⟨_, rfl⟩
      rw [hl] at HL
      have hl1 : b ≤ a + l := by omega
      have hl2 : a + l ≤ b := by omega
      have h13 : 13 ≤ l := by omega
      have h20 : l ≤ 20 := by omega
      have hl0 : ¬ (lim : Int) = 0 := by
        have h1 := HL.out.yes
        have h2 := HL.out.no
        cases wb
        · have := h2 rfl h13; omega
        · have := h1 rfl h13; omega
      have hll : 1 + (l - 12) / 2 ≤ lim := by
        have h1 := HL.out.yes
        have h2 := HL.out.no
        cases wb
        · have := h2 rfl h13; omega
        · have := h1 rfl h13; omega
      have hli : (b : Int) - (a : Int) = (l : Int) := by omega
      clear hl
      go_upto_if 35 with (fail)
      rw [show ((lim : Int) == 0) = false from by simpa using hl0]
      generalize hnb : (!wb) = nb
      have HNB := Lib.hid hnb
      clear hnb
      go_cut [3] from 36 to 41 (fun s3 wx => ∃ (lim' : Nat) (f1 : Nat → Int), s3 = .int .i64 lim' ∧ lim' ≤ 100 ∧ 1 + (l - 12) / 2 ≤ lim' ∧ Hid (Rk wx g off cap n f1) ∧ Hid (Chg (· = g) w wx) ∧ Hid (Sg n a b f f1))
      case first =>
        cases nb with
        | true =>
          have h2 := HL.out.no (by simpa using HNB.out) h13
          go_wp2_with fail
          refine (breakPatterns_any wr g off cap c n a b l fs HR.out (by omega) hbn (by omega) h13 h20).mono ?_
          rintro e w2 ⟨rfl, k, f1, r1, p1⟩
          have HC2 := Lib.hid (HC.out.trans k.out (fun _ e => .inl e))
          have HG2 := Lib.hid (HG.out.turn p1.out)
          clear k p1
          go_wp2_with fail
          go_meet
          exact ⟨lim - 1, f1, by congr 1; omega, by omega, by omega, r1, HC2, HG2⟩
        | false =>
          go_wp2_with fail
          go_meet
          exact ⟨lim, fs, rfl, hlm, hll, HR, HC, HG⟩
      case rest =>
      clear HR HC HG HL hlm hl0 hll
      obtain ⟨lim', f1, rfl, hlm, hll, HR, HC, HG⟩ := hcut
      go_wp2_with fail
      refine (pivot_any wc g off cap c n a b l f1 HR.out (by omega) hbn (by omega) (by omega) (by omega)).mono ?_
      rintro e w2 ⟨m, t, rfl, k, ht, ham, hmb, hlo, hhi⟩
      have HR2 := Lib.hid (HR.out.chg k.out (fun e => e))
      have HC2 := Lib.hid (HC.out.trans k.out (fun _ e => e.elim))
      have HLO := Lib.hid hlo
      have HHI := Lib.hid hhi
      have ht2 : ¬ (t : Int) = 2 := by omega
      clear k hlo hhi HR HC ht
      go_upto_region 15 with (fail)
      rw [show ((t : Int) == 2) = false from by simpa using ht2]
      go_cut [68] from 61 to 68 (fun s68 wx => ∃ q : Bool, s68 = .bool q ∧ wx = w2)
      case first =>
        cases wb <;> cases wp
        all_goals
          go_wp2_with fail
          go_meet
          exact ⟨_, rfl, rfl⟩
      case rest =>
      obtain ⟨q, rfl, hw⟩ := hcut
      obtain rfl : w2 = wc := hw.symm
      clear hw
      go_upto_if 68 with (fail)
      go_cut [72] from 69 to 72 (fun _ wx => ∃ m : Nat, wx = w2.drewN m)
      case first =>
        cases q with
        | false =>
          go_wp2_with fail
          go_meet
          exact ⟨0, rfl⟩
        | true =>
          go_wp2_with fail
          refine (partial_any w2 g off cap c n a b f1 HR2.out (by omega) hbn (by omega) (by omega)).mono ?_
          rintro e w3 ⟨r, rfl, ⟨m', hw3⟩, hr⟩
          cases r with
          | false =>
            have HW3 := Lib.hid hw3
            clear hw3 hr
            go_wp2_with fail
            go_meet
            exact ⟨m', HW3.out⟩
          | true =>
            have HF : Hid (Chg (· = g) w w3 ∧ ∃ f', Hid (Rk w3 g off cap n f') ∧ Hid (PermIn 0 n f f') ∧ Hid (Srt 0 n f')) := Lib.hid ⟨by rw [hw3]; exact HC2.out.drewN m', f1, Lib.hid (by rw [hw3]; exact HR2.out.drewN m'), Lib.hid HG.out.perm, Lib.hid (HG.out.fin (hr rfl))⟩
            clear hw3 hr
            go_wp2_with fail
            (try simp only [Exit.inBlock, Exit.then])
            refine bodyPost_ret (results_none rfl _ _ _) rfl ?_
            exact ⟨rfl, HF.out⟩
      case rest =>
      obtain ⟨m3, hw⟩ := hcut
      have HR3 : Hid (Rk wc g off cap n f1) := Lib.hid (by rw [hw]; exact HR2.out.drewN m3)
      have HC3 : Hid (Chg (· = g) w wc) := Lib.hid (by rw [hw]; exact HC2.out.drewN m3)
      clear hw HR2 HC2
      generalize wc = W5 at HR3 HC3 ⊢
      go_upto_region 17 with (fail)
      go_cut [87] from 73 to 87 (fun s87 wx => s87 = .bool false ∧ ∃ q : Nat, wx = W5.drewN q)
      case first =>
        by_cases ha : 0 < a
        · have hle := HG.out.out (a - 1) m (by omega) (by omega) (.inl (by omega))
          have hlt : f1 (a - 1) < f1 m := by
            have hne : f1 (a - 1) ≠ f1 m := fun e => by have := HG.out.inj _ _ (by omega) (by omega) e; omega
            omega
          have hcw := HR3.out.cell
          clear hle
          go_quiet (first | (go_at_call 35; refine Calls.quiet_of_same (less_any _ _ _)))
          go_wp2_with fail
          go_meet
          exact ⟨by simp [hlt], nq, rfl⟩
        · have hcw := HR3.out.cell
          go_quiet (first | (go_at_call 35; refine Calls.quiet_of_same (less_any _ _ _)))
          go_wp2_with fail
          go_meet
          exact ⟨by simp, nq, rfl⟩
      case rest =>
      obtain ⟨rfl, m4, hw⟩ := hcut
      have HR4 : Hid (Rk wc g off cap n f1) := Lib.hid (by rw [hw]; exact HR3.out.drewN m4)
      have HC4 : Hid (Chg (· = g) w wc) := Lib.hid (by rw [hw]; exact HC3.out.drewN m4)
      clear hw HR3 HC3
      generalize wc = W6 at HR4 HC4 ⊢
      go_wp2_with fail
      refine (partition_any W6 g off cap c n a b m f1 HR4.out ham hmb hbn (by omega)).mono ?_
      rintro e W7 ⟨mid, tp, f2, rfl, k, HR7, HD⟩
      have HC7 := Lib.hid (HC4.out.trans k.out (fun _ e => .inl e))
      have hm1 : a < mid := HD.out.some_left HG.out.inj hbn ⟨ham, hmb⟩ HLO.out
      have hm2 : mid + 1 < b := HD.out.some_right HG.out.inj hbn ⟨ham, hmb⟩ HHI.out
      clear k HR4 HC4 HLO HHI ham hmb
      by_cases hcmp : (mid : Int) - (a : Int) < (b : Int) - (mid : Int)
      · go_wp2_with fail
        refine (pdq_small W7 g off cap c n a mid lim' f2 HR7.out (by omega) (by omega) (by omega) (by omega)).mono ?_
        rintro e W8 ⟨rfl, k, f3, HR8, HP8, HS8⟩
        have HC8 := Lib.hid (HC7.out.trans k (fun _ e => .inl e))
        have HG8 := Lib.hid (HG.out.left HD.out HP8.out HS8.out)
        have HL8 : Hid (Lm (b - (mid + 1)) lim' (decide ((l : Int) / 8 ≤ (mid : Int) - (a : Int)))) := Lib.hid ⟨fun _ h => by omega, fun e h => by
          have e1 : ¬ ((l : Int) / 8 ≤ (mid : Int) - (a : Int)) := by simpa using e
          omega⟩
        clear k HC7 HR7 HD HG HP8 HS8
        go_wp2_with fail
        go_roundw
        case rel => exact ⟨mid + 1, b, lim', _, tp, f3, by go_num, rfl, rfl, rfl, rfl, by omega, hbn, hlm, HR8, HC8, HG8, HL8⟩
        case measure => simp [numV]; omega
      · go_wp2_with fail
        rw [show (mid : Int) + 1 = ((mid + 1 : Nat) : Int) from rfl]
        refine (pdq_small W7 g off cap c n (mid + 1) b lim' f2 HR7.out (by omega) (by omega) (by omega) (by omega)).mono ?_
        rintro e W8 ⟨rfl, k, f3, HR8, HP8, HS8⟩
        have HC8 := Lib.hid (HC7.out.trans k (fun _ e => .inl e))
        have HG8 := Lib.hid (HG.out.right HD.out HP8.out HS8.out)
        have HL8 : Hid (Lm (mid - a) lim' (decide ((l : Int) / 8 ≤ (b : Int) - (mid : Int)))) := Lib.hid ⟨fun _ h => by omega, fun e h => by
          have e1 : ¬ ((l : Int) / 8 ≤ (b : Int) - (mid : Int)) := by simpa using e
          omega⟩
        clear k HC7 HR7 HD HG HP8 HS8
        go_wp2_with fail
        go_roundw
        case rel => exact ⟨a, mid, lim', _, tp, f3, rfl, rfl, rfl, rfl, rfl, by omega, by omega, hlm, HR8, HC8, HG8, HL8⟩
        case measure => simp [numV]; omega
end Go.Proofs.Ytflellcbfcakhaa
