/- slices.Sort at []uint64: pdqsort. -/
import Derived.Test.YtflellcbfcakhaaChecked
import Derived.WalkKit
import Derived.WalkLawsBesides
import Derived.Lib.Hide
import Derived.IntWalk
import Derived.BigGuard
import Derived.Deep.Cut
import Derived.Deep.CutRange
import Derived.Deep.CutBlock
import Derived.BigCall
import Derived.CellFam
import Derived.Deep.Draws
import Derived.Deep.QuietTactic
import Derived.BigQuiet
import Derived.Test.YtflellcbfcakhaaZd
import Derived.Test.YtflellcbfcakhaaZe
import Derived.Test.YtflellcbfcakhaaZf
import Derived.Test.YtflellcbfcakhaaZh
namespace Go.Proofs.Ytflellcbfcakhaa
open Go.RowKit
set_option linter.unusedVariables false
set_option linter.unusedSimpArgs false
set_option maxRecDepth 20000

/-- Under way: outside of a to b every key is where it belongs. -/
structure Sg (n a b : Nat) (f fs : Nat → Int) : Prop where
  ab : a ≤ b
  bn : b ≤ n
  perm : PermIn 0 n f fs
  inj : Inj n fs
  out : ∀ p q, p < q → q < n → (p < a ∨ b ≤ q) → fs p ≤ fs q
section
variable {n a b m p : Nat} {f fs f2 f3 : Nat → Int}
theorem Sg.start (hi : Inj n f) : Sg n 0 n f f := ⟨Nat.zero_le _, Nat.le_refl _, PermIn.refl _ _ _, hi, fun p q h1 h2 h3 => by omega⟩
theorem Sg.turn (h : Sg n a b f fs) (k : PermIn a b fs f2) : Sg n a b f f2 := by
  have hb := h.bn
  refine ⟨h.ab, h.bn, h.perm.trans (k.mono (Nat.zero_le _) h.bn), k.inj h.bn h.inj, fun p q h1 h2 h3 => ?_⟩
  by_cases hp : a ≤ p ∧ p < b
  · obtain ⟨j, hj, e⟩ := k.mem hp
    have hq : ¬ (a ≤ q ∧ q < b) := by omega
    rw [e, k.away hq]
    exact h.out j q (by omega) h2 (.inr (by omega))
  · by_cases hq : a ≤ q ∧ q < b
    · obtain ⟨j, hj, e⟩ := k.mem hq
      rw [e, k.away hp]
      exact h.out p j (by omega) (by omega) (.inl (by omega))
    · rw [k.away hp, k.away hq]
      exact h.out p q h1 h2 h3
theorem Sg.fin (h : Sg n a b f fs) (hs : Srt a b fs) : Srt 0 n fs := by
  intro p q _ h2 h3
  by_cases e : p < a ∨ b ≤ q
  · exact h.out p q h2 h3 e
  · exact hs p q (by omega) h2 (by omega)
theorem Sg.left (h : Sg n a b f fs) (d : Pd a b p fs m f2) (k : PermIn a m f2 f3) (hs : Srt a m f3) : Sg n (m + 1) b f f3 := by
  have h2 := h.turn d.perm
  have am := d.am
  have mb := d.mb
  have h3 := h2.turn (k.mono (Nat.le_refl _) (by omega))
  refine ⟨by omega, h.bn, h3.perm, h3.inj, fun x y hxy hy hh => ?_⟩
  by_cases e : x < a ∨ b ≤ y
  · exact h3.out x y hxy hy e
  · have em : f3 m = f2 m := k.away (by omega)
    have lo : ∀ z, a ≤ z → z < m → f3 z < f2 m := fun z h1 h2 => by
      obtain ⟨j, hj, e⟩ := k.mem ⟨h1, h2⟩
      rw [e]
      exact d.lo j hj.1 hj.2
    have hi : ∀ z, m < z → z < b → f2 m ≤ f3 z := fun z h1 h2 => by
      rw [k.away (by omega)]
      exact d.hi z h1 h2
    by_cases e1 : y < m
    · exact hs x y (by omega) hxy e1
    · by_cases e2 : y = m
      · subst e2
        rw [em]
        exact Int.le_of_lt (lo x (by omega) hxy)
      · have k1 := hi y (by omega) (by omega)
        by_cases e3 : x = m
        · subst e3; rw [em]; exact k1
        · have := lo x (by omega) (by omega)
          omega
theorem Sg.right (h : Sg n a b f fs) (d : Pd a b p fs m f2) (k : PermIn (m + 1) b f2 f3) (hs : Srt (m + 1) b f3) : Sg n a m f f3 := by
  have h2 := h.turn d.perm
  have am := d.am
  have mb := d.mb
  have hbn := h.bn
  have h3 := h2.turn (k.mono (by omega) (Nat.le_refl _))
  refine ⟨by omega, by omega, h3.perm, h3.inj, fun x y hxy hy hh => ?_⟩
  by_cases e : x < a ∨ b ≤ y
  · exact h3.out x y hxy hy e
  · have em : f3 m = f2 m := k.away (by omega)
    have lo : ∀ z, a ≤ z → z < m → f3 z < f2 m := fun z h1 h2 => by
      rw [k.away (by omega)]
      exact d.lo z h1 h2
    have hi : ∀ z, m < z → z < b → f2 m ≤ f3 z := fun z h1 h2 => by
      obtain ⟨j, hj, e⟩ := k.mem ⟨by omega, h2⟩
      rw [e]
      exact d.hi j (by omega) hj.2
    by_cases e1 : m < x
    · exact hs x y (by omega) hxy (by omega)
    · by_cases e2 : x = m
      · subst e2
        rw [em]
        exact hi y (by omega) (by omega)
      · have k1 := lo x (by omega) (by omega)
        by_cases e3 : y = m
        · subst e3; rw [em]; omega
        · have := hi y (by omega) (by omega)
          omega
theorem Pd.some_left (d : Pd a b p fs m f2) (hi : Inj n fs) (hn : b ≤ n) (hp : a ≤ p ∧ p < b) (h : ∃ lo, a ≤ lo ∧ lo < b ∧ lo ≠ p ∧ fs lo ≤ fs p) : a < m := by
  obtain ⟨lo, h1, h2, h3, h4⟩ := h
  have hne : fs lo ≠ fs p := fun e => h3 (hi _ _ (by omega) (by omega) e)
  obtain ⟨x, hx, e⟩ := d.perm.back (j := lo) ⟨h1, h2⟩
  have hpiv := d.piv
  by_cases e1 : x < m
  · omega
  · by_cases e2 : x = m
    · subst e2; omega
    · have := d.hi x (by omega) hx.2; omega
theorem Pd.some_right (d : Pd a b p fs m f2) (hi : Inj n fs) (hn : b ≤ n) (hp : a ≤ p ∧ p < b) (h : ∃ hi, a ≤ hi ∧ hi < b ∧ hi ≠ p ∧ fs p ≤ fs hi) : m + 1 < b := by
  obtain ⟨lo, h1, h2, h3, h4⟩ := h
  have hne : fs lo ≠ fs p := fun e => h3 (hi _ _ (by omega) (by omega) e)
  obtain ⟨x, hx, e⟩ := d.perm.back (j := lo) ⟨h1, h2⟩
  have hpiv := d.piv
  by_cases e1 : m < x
  · omega
  · by_cases e2 : x = m
    · subst e2; omega
    · have := d.lo x hx.1 (by omega); omega
end
set_option maxHeartbeats 3200000 in
theorem pdq_small (w : World) (g off cap c n a b lim : Nat) (f : Nat → Int) (hR : Rk w g off cap n f) (hab : a ≤ b) (hb : b ≤ n) (hn : n ≤ 1000) (h12 : b ≤ a + 12) :
    Calls Try.prog 27 #[.slice (some ⟨g, off, none⟩) n c, .int .i64 a, .int .i64 b, .int .i64 lim] w fun e w' =>
      e = .returned (.tuple #[]) ∧ Chg (· = g) w w' ∧ ∃ f', Hid (Rk w' g off cap n f') ∧ Hid (PermIn a b f f') ∧ Hid (Srt a b f') := by
  have HI := Lib.hid (insertion_any w g off cap c n a b f hR hab hb hn)
  clear hR
  go_enter Try.func27, Try.ntmps27
  go_wp2_with fail
  go_loopw [1, 2] (fun va vb wr => va = .int .i64 a ∧ vb = .int .i64 b ∧ wr = w) (fun _ _ _ => 0)
  case atStart => exact ⟨rfl, rfl, rfl⟩
  case round =>
    obtain ⟨rfl, rfl, hw⟩ := hrel
    replace hw := hw.symm
    subst hw
    have h12i : (b : Int) - (a : Int) ≤ 12 := by omega
    go_wp2_with fail
    refine HI.out.mono ?_
    rintro e w2 ⟨rfl, k, f', h1, h2, h3⟩
    go_wp2_with fail
    (try simp only [Exit.inBlock, Exit.then])
    refine bodyPost_ret (results_none rfl _ _ _) rfl ?_
    exact ⟨rfl, k, f', h1, h2, h3⟩
end Go.Proofs.Ytflellcbfcakhaa
