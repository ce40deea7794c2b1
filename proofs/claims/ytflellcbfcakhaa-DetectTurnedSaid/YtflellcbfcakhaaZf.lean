/- slices.Sort at []uint64: partition. -/
import Derived.Test.YtflellcbfcakhaaChecked
import Derived.WalkKit
import Derived.WalkLawsBesides
import Derived.Lib.Hide
import Derived.IntWalk
import Derived.BigGuard
import Derived.Deep.Cut
import Derived.Deep.CutRange
import Derived.Deep.CutBlock
import Derived.BigCall
import Derived.CellFam
import Derived.Deep.Draws
import Derived.Deep.QuietTactic
import Derived.BigQuiet
import Derived.Test.YtflellcbfcakhaaZb
namespace Go.Proofs.Ytflellcbfcakhaa
open Go.RowKit
set_option linter.unusedVariables false
set_option linter.unusedSimpArgs false
set_option maxRecDepth 20000

/-- Behind some steps of a partition by the key at p. -/
structure Pt (a b p : Nat) (f : Nat → Int) (i j : Nat) (fs : Nat → Int) : Prop where
  ai : a < i
  ij : i ≤ j + 1
  jb : j < b
  perm : PermIn a b f fs
  piv : fs a = f p
  lo : ∀ x, a < x → x < i → fs x < fs a
  hi : ∀ x, j < x → x < b → fs a ≤ fs x
/-- Parted: the key of the place p is at m, what is less lies left of it, the rest right. -/
structure Pd (a b p : Nat) (f : Nat → Int) (m : Nat) (f' : Nat → Int) : Prop where
  am : a ≤ m
  mb : m < b
  perm : PermIn a b f f'
  piv : f' m = f p
  lo : ∀ x, a ≤ x → x < m → f' x < f' m
  hi : ∀ x, m < x → x < b → f' m ≤ f' x
section
variable {a b p i j : Nat} {f fs : Nat → Int}
theorem Pt.start (hp : a ≤ p) (hpb : p < b) : Pt a b p f (a + 1) (b - 1) (swf f a p) := by
  refine ⟨by omega, by omega, by omega, PermIn.swf ⟨by omega, by omega⟩ ⟨by omega, by omega⟩, ?_, fun x h1 h2 => by omega, fun x h1 h2 => by omega⟩
  unfold swf
  rw [if_pos rfl]
theorem Pt.up (h : Pt a b p f i j fs) (hij : i ≤ j) (hl : fs i < fs a) : Pt a b p f (i + 1) j fs :=
  ⟨by have := h.ai; omega, by omega, h.jb, h.perm, h.piv, fun x h1 h2 => by
    by_cases e : x = i
    · subst e; exact hl
    · exact h.lo x h1 (by omega), h.hi⟩
theorem Pt.down (h : Pt a b p f i j fs) (hij : i ≤ j) (hl : ¬ fs j < fs a) : Pt a b p f i (j - 1) fs := by
  have h1 := h.ai
  have h2 := h.jb
  refine ⟨h.ai, by omega, by omega, h.perm, h.piv, h.lo, fun x k1 k2 => ?_⟩
  by_cases e : x = j
  · subst e; omega
  · exact h.hi x (by omega) k2
theorem Pt.lt (h : Pt a b p f i j fs) (hij : i ≤ j) (h1 : ¬ (i ≤ j ∧ fs i < fs a)) (h2 : ¬ (i ≤ j ∧ fs a ≤ fs j)) : i < j := by
  by_cases e : i = j
  · subst e
    exact absurd (Decidable.byContradiction fun k => h2 ⟨hij, by omega⟩) (fun k => h1 ⟨hij, k⟩)
  · omega
theorem Pt.swap (h : Pt a b p f i j fs) (hij : i ≤ j) (h1 : ¬ (i ≤ j ∧ fs i < fs a)) (h2 : ¬ (i ≤ j ∧ fs a ≤ fs j)) : Pt a b p f (i + 1) (j - 1) (swf fs i j) := by
  have hlt := h.lt hij h1 h2
  have e1 : ¬ fs i < fs a := fun k => h1 ⟨hij, k⟩
  have e2 : fs j < fs a := Decidable.byContradiction fun k => h2 ⟨hij, by omega⟩
  obtain ⟨ai, ij, jb, perm, piv, lo, hi⟩ := h
  refine ⟨by omega, by omega, by omega, perm.trans (PermIn.swf ⟨by omega, by omega⟩ ⟨by omega, by omega⟩), ?_, fun x k1 k2 => ?_, fun x k1 k2 => ?_⟩
  · unfold swf; grind
  · have := lo x; unfold swf; grind
  · have := hi x; unfold swf; grind
theorem Pt.done (h : Pt a b p f i j fs) (hij : ¬ i ≤ j) : Pd a b p f j (swf fs j a) := by
  obtain ⟨ai, ij, jb, perm, piv, lo, hi⟩ := h
  refine ⟨by omega, by omega, perm.trans (PermIn.swf ⟨by omega, by omega⟩ ⟨by omega, by omega⟩), ?_, fun x k1 k2 => ?_, fun x k1 k2 => ?_⟩
  · unfold swf; grind
  · have := lo x; have := lo j; unfold swf; grind
  · have := hi x; unfold swf; grind
end
set_option maxHeartbeats 6400000 in
theorem partition_any (w : World) (g off cap c n a b p : Nat) (f : Nat → Int) (hR : Rk w g off cap n f) (hap : a ≤ p) (hpb : p < b) (hb : b ≤ n) (hn : n ≤ 1000) :
    Calls Try.prog 37 #[.slice (some ⟨g, off, none⟩) n c, .int .i64 a, .int .i64 b, .int .i64 p] w fun e w' =>
      ∃ (m : Nat) (t : Bool) (f' : Nat → Int), e = .returned (.tuple #[.int .i64 m, .bool t]) ∧ Hid (Chg (· = g) w w') ∧ Hid (Rk w' g off cap n f') ∧ Hid (Pd a b p f m f') := by
  have hcw := hR.cell
  have hfw := hR.frozen
  obtain ⟨v', hy'⟩ := cell?_setCell_some (w := w) (p := ⟨g, off + a, none⟩) (x := .int .u64 (f p)) (q := ⟨g, off + p, none⟩) (hcw p (by omega))
  have HR := Lib.hid hR
  have HP1 : Hid (Pt a b p f (a + 1) (b - 1) (swf f a p)) := Lib.hid (Pt.start hap hpb)
  clear hR
  go_enter Try.func37, Try.ntmps37
  go_wp2
  go_region
  go_upto_block 0 with (fail)
  obtain ⟨w1, hw1, HR1, HC1⟩ : ∃ w1, ((w.setCell ⟨g, off + a, none⟩ (.int .u64 (f p))).setCell ⟨g, off + p, none⟩ (.int .u64 (f a))).drew = w1 ∧ Hid (Rk w1 g off cap n (swf f a p)) ∧ Hid (Chg (· = g) w w1) := ⟨_, rfl, Lib.hid (HR.out.swap 1 a p), Lib.hid (Rk.swapC w g off 1 a p _ _)⟩
  rw [hw1]
  clear hw1 hcw hfw hy' HR
  obtain ⟨j0, hj⟩ : ∃ j0, b - 1 = j0 := ⟨_, rfl⟩
  have hjn : (b : Int) - 1 = (j0 : Int) := by omega
  rw [hj] at HP1
  rw [hjn]
  clear hjn hj
  generalize hfs : swf f a p = fs at HP1 HR1
  clear hfs
  have hj1 := HP1.out.jb
  go_cut [10] from 30 to 45 (fun s10 wx => ∃ (i m : Nat), s10 = .int .i64 i ∧ wx = w1.drewN m ∧ i ≤ j0 + 1 ∧ a + 1 ≤ i ∧ Hid (Pt a b p f i j0 fs) ∧ Hid (¬ (i ≤ j0 ∧ fs i < fs a)))
  case first =>
    go_wp2
    go_loopw [10] (fun vi wr => ∃ (i m : Nat), vi = .int .i64 i ∧ wr = w1.drewN m ∧ i ≤ j0 + 1 ∧ a + 1 ≤ i ∧ a < i ∧ Hid (Pt a b p f i j0 fs)) (fun vi _ => j0 + 1 - (numV vi).toNat)
    case atStart => exact ⟨a + 1, 0, by go_num, by first | exact hwc | rfl, HP1.out.ij, Nat.le_refl _, HP1.out.ai, HP1⟩
    case round =>
      obtain ⟨i, m, rfl, hw, hij, hi0, hai, HPT⟩ := hrel
      have hcw : ∀ t, t < n → wr.cell? ⟨g, off + t, none⟩ = some (.int .u64 (fs t)) := by rw [hw]; exact (HR1.out.drewN m).cell
      have HW := Lib.hid hw
      clear hw
      go_wp2
      by_cases hle : i ≤ j0
      · go_quiet (first | (go_at_call 35; refine Calls.quiet_of_same (less_any _ _ _)))
        go_wp2
        · have hl : fs i < fs a := by assumption
          go_roundw
          case rel => exact ⟨i + 1, m + nq, by go_num, by rw [HW.out, World.drewN_drewN], by omega, by omega, by omega, Lib.hid (HPT.out.up hle hl)⟩
          case measure => simp [numV]; omega
        · have hl : ¬ fs i < fs a := by first | assumption | exact Int.not_lt.2 (by assumption)
          go_meet
          exact ⟨i, m + nq, rfl, by rw [HW.out, World.drewN_drewN], hij, hi0, HPT, Lib.hid (fun e => hl e.2)⟩
      · go_quiet (first | (go_at_call 35; refine Calls.quiet_of_same (less_any _ _ _)))
        go_wp2
        go_meet
        exact ⟨i, m + nq, rfl, by rw [HW.out, World.drewN_drewN], hij, hi0, HPT, Lib.hid (fun e => hle e.1)⟩
  case rest =>
  obtain ⟨i, m, rfl, hwc, hij, hi0, HPA, HXA⟩ := hcut
  subst hwc
  have HRA : Hid (Rk w1 g off cap n fs) := HR1
  clear HP1
  go_upto_block 2 with (fail)
  go_cut [11] from 46 to 62 (fun s11 wx => ∃ (j m : Nat), s11 = .int .i64 j ∧ wx = w1.drewN m ∧ i ≤ j + 1 ∧ Hid (Pt a b p f i j fs) ∧ Hid (¬ (i ≤ j ∧ fs a ≤ fs j)) ∧ j ≤ j0)
  case first =>
    go_wp2
    go_loopw [11] (fun vj wr => ∃ (j m : Nat), vj = .int .i64 j ∧ wr = w1.drewN m ∧ i ≤ j + 1 ∧ a < i ∧ j ≤ j0 ∧ Hid (Pt a b p f i j fs)) (fun vj _ => (numV vj).toNat)
    case atStart => exact ⟨j0, m, by go_num, by first | exact hwc | rfl, HPA.out.ij, HPA.out.ai, Nat.le_refl _, HPA⟩
    case round =>
      obtain ⟨j, m, rfl, hw, hij, hai, hjb, HPT⟩ := hrel
      have hcw : ∀ t, t < n → wr.cell? ⟨g, off + t, none⟩ = some (.int .u64 (fs t)) := by rw [hw]; exact (HR1.out.drewN m).cell
      have HW := Lib.hid hw
      clear hw
      go_wp2
      by_cases hle : i ≤ j
      · go_quiet (first | (go_at_call 35; refine Calls.quiet_of_same (less_any _ _ _)))
        go_wp2
        · have hl0 : (!decide (fs j < fs a)) = true := by assumption
          have hl : ¬ fs j < fs a := by simpa using hl0
          go_roundw
          case rel => exact ⟨j - 1, m + nq, by go_num, by rw [HW.out, World.drewN_drewN], by omega, by omega, by omega, Lib.hid (HPT.out.down hle hl)⟩
          case measure => simp [numV]; omega
        · have hl0 : ¬ ((!decide (fs j < fs a)) = true) := by first | assumption | simp_all
          have hl : fs j < fs a := by simpa using hl0
          go_meet
          exact ⟨j, m + nq, rfl, by rw [HW.out, World.drewN_drewN], hij, HPT, Lib.hid (fun e => by have := e.2; omega), hjb⟩
      · go_quiet (first | (go_at_call 35; refine Calls.quiet_of_same (less_any _ _ _)))
        go_wp2
        go_meet
        exact ⟨j, m + nq, rfl, by rw [HW.out, World.drewN_drewN], hij, HPT, Lib.hid (fun e => hle e.1), hjb⟩
  case rest =>
  obtain ⟨j, mj, rfl, hwd, hij', HPB, HXB, hjb⟩ := hcut
  subst hwd
  clear HRA
  have hja : a ≤ j := by have := HPA.out.ai; omega
  have HRW : Hid (Rk (w1.drewN mj) g off cap n fs) := Lib.hid (HR1.out.drewN mj)
  have HCW : Hid (Chg (· = g) w (w1.drewN mj)) := Lib.hid (HC1.out.drewN mj)
  generalize w1.drewN mj = W at *
  have hcw := HRW.out.cell
  have hfw := HRW.out.frozen
  have HXC : Hid (¬ (i ≤ j ∧ fs i < fs a)) := Lib.hid (fun e => HXA.out ⟨by omega, e.2⟩)
  have hai : a < i := HPA.out.ai
  clear HXA HPA HR1
  by_cases hle : i ≤ j
  · have hlt := HPB.out.lt hle HXC.out HXB.out
    obtain ⟨vj, hyj⟩ := cell?_setCell_some (w := W) (p := ⟨g, off + i, none⟩) (x := .int .u64 (fs j)) (q := ⟨g, off + j, none⟩) (hcw j (by omega))
    go_wp2
    go_region
    all_goals go_wp2
    go_loopw [10, 11] (fun vi vj wr => ∃ (i j : Nat) (fs : Nat → Int), vi = .int .i64 i ∧ vj = .int .i64 j ∧ i ≤ j + 1 ∧ j < b ∧ a < i ∧ Hid (Rk wr g off cap n fs) ∧ Hid (Chg (· = g) w wr) ∧ Hid (Pt a b p f i j fs)) (fun vi vj _ => (numV vj).toNat + 1 - (numV vi).toNat)
    case atStart => exact ⟨i + 1, j - 1, swf fs i j, by go_num, by go_num, by omega, by omega, by omega, Lib.hid (HRW.out.swap 1 i j), Lib.hid (HCW.out.trans (Rk.swapC W g off 1 i j (.int .u64 (fs j)) (.int .u64 (fs i))) (fun _ e => .inl e)), Lib.hid (HPB.out.swap hle HXC.out HXB.out)⟩
    case round =>
      clear hcw hfw hyj hle hlt hai hja hij hij' hjb hj1 HRW HCW HXC HXB HPB HC1
      obtain ⟨i0, j0, fs, rfl, rfl, hij0, hj1, hai0, HR1, HC1, HP1⟩ := hrel
      generalize wr = W0 at *
      go_upto_block 6 with (fail)
      go_cut [10] from 99 to 114 (fun s10 wx => ∃ (i m : Nat), s10 = .int .i64 i ∧ wx = W0.drewN m ∧ i ≤ j0 + 1 ∧ i0 ≤ i ∧ Hid (Pt a b p f i j0 fs) ∧ Hid (¬ (i ≤ j0 ∧ fs i < fs a)))
      case first =>
        go_wp2
        go_loopw [10] (fun vi wr => ∃ (i m : Nat), vi = .int .i64 i ∧ wr = W0.drewN m ∧ i ≤ j0 + 1 ∧ i0 ≤ i ∧ a < i ∧ Hid (Pt a b p f i j0 fs)) (fun vi _ => j0 + 1 - (numV vi).toNat)
        case atStart => exact ⟨i0, 0, by go_num, by first | exact hwc | rfl, HP1.out.ij, Nat.le_refl _, HP1.out.ai, HP1⟩
        case round =>
          obtain ⟨i, m, rfl, hw, hij, hi0, hai, HPT⟩ := hrel
          have hcw : ∀ t, t < n → wr.cell? ⟨g, off + t, none⟩ = some (.int .u64 (fs t)) := by rw [hw]; exact (HR1.out.drewN m).cell
          have HW := Lib.hid hw
          clear hw
          go_wp2
          by_cases hle : i ≤ j0
          · go_quiet (first | (go_at_call 35; refine Calls.quiet_of_same (less_any _ _ _)))
            go_wp2
            · have hl : fs i < fs a := by assumption
              go_roundw
              case rel => exact ⟨i + 1, m + nq, by go_num, by rw [HW.out, World.drewN_drewN], by omega, by omega, by omega, Lib.hid (HPT.out.up hle hl)⟩
              case measure => simp [numV]; omega
            · have hl : ¬ fs i < fs a := by first | assumption | exact Int.not_lt.2 (by assumption)
              go_meet
              exact ⟨i, m + nq, rfl, by rw [HW.out, World.drewN_drewN], hij, hi0, HPT, Lib.hid (fun e => hl e.2)⟩
          · go_quiet (first | (go_at_call 35; refine Calls.quiet_of_same (less_any _ _ _)))
            go_wp2
            go_meet
            exact ⟨i, m + nq, rfl, by rw [HW.out, World.drewN_drewN], hij, hi0, HPT, Lib.hid (fun e => hle e.1)⟩
      case rest =>
      obtain ⟨i, m, rfl, hwc, hij, hi0, HPA, HXA⟩ := hcut
      subst hwc
      clear HP1
      go_upto_block 8 with (fail)
      go_cut [11] from 115 to 131 (fun s11 wx => ∃ (j m : Nat), s11 = .int .i64 j ∧ wx = W0.drewN m ∧ i ≤ j + 1 ∧ Hid (Pt a b p f i j fs) ∧ Hid (¬ (i ≤ j ∧ fs a ≤ fs j)) ∧ j ≤ j0)
      case first =>
        go_wp2
        go_loopw [11] (fun vj wr => ∃ (j m : Nat), vj = .int .i64 j ∧ wr = W0.drewN m ∧ i ≤ j + 1 ∧ a < i ∧ j ≤ j0 ∧ Hid (Pt a b p f i j fs)) (fun vj _ => (numV vj).toNat)
        case atStart => exact ⟨j0, m, by go_num, by first | exact hwc | rfl, HPA.out.ij, HPA.out.ai, Nat.le_refl _, HPA⟩
        case round =>
          obtain ⟨j, m, rfl, hw, hij, hai, hjb, HPT⟩ := hrel
          have hcw : ∀ t, t < n → wr.cell? ⟨g, off + t, none⟩ = some (.int .u64 (fs t)) := by rw [hw]; exact (HR1.out.drewN m).cell
          have HW := Lib.hid hw
          clear hw
          go_wp2
          by_cases hle : i ≤ j
          · go_quiet (first | (go_at_call 35; refine Calls.quiet_of_same (less_any _ _ _)))
            go_wp2
            · have hl0 : (!decide (fs j < fs a)) = true := by assumption
              have hl : ¬ fs j < fs a := by simpa using hl0
              go_roundw
              case rel => exact ⟨j - 1, m + nq, by go_num, by rw [HW.out, World.drewN_drewN], by omega, by omega, by omega, Lib.hid (HPT.out.down hle hl)⟩
              case measure => simp [numV]; omega
            · have hl0 : ¬ ((!decide (fs j < fs a)) = true) := by first | assumption | simp_all
              have hl : fs j < fs a := by simpa using hl0
              go_meet
              exact ⟨j, m + nq, rfl, by rw [HW.out, World.drewN_drewN], hij, HPT, Lib.hid (fun e => by have := e.2; omega), hjb⟩
          · go_quiet (first | (go_at_call 35; refine Calls.quiet_of_same (less_any _ _ _)))
            go_wp2
            go_meet
            exact ⟨j, m + nq, rfl, by rw [HW.out, World.drewN_drewN], hij, HPT, Lib.hid (fun e => hle e.1), hjb⟩
      case rest =>
      obtain ⟨j, mj, rfl, hwd, hij', HPB, HXB, hjb⟩ := hcut
      subst hwd
      have hja : a ≤ j := by have := HPA.out.ai; omega
      have HRW : Hid (Rk (W0.drewN mj) g off cap n fs) := Lib.hid (HR1.out.drewN mj)
      have HCW : Hid (Chg (· = g) w (W0.drewN mj)) := Lib.hid (HC1.out.drewN mj)
      generalize W0.drewN mj = W at *
      have hcw := HRW.out.cell
      have hfw := HRW.out.frozen
      have HXC : Hid (¬ (i ≤ j ∧ fs i < fs a)) := Lib.hid (fun e => HXA.out ⟨by omega, e.2⟩)
      have hai : a < i := HPA.out.ai
      clear HXA HPA HR1
      by_cases hle : i ≤ j
      · have hlt := HPB.out.lt hle HXC.out HXB.out
        obtain ⟨vj, hyj⟩ := cell?_setCell_some (w := W) (p := ⟨g, off + i, none⟩) (x := .int .u64 (fs j)) (q := ⟨g, off + j, none⟩) (hcw j (by omega))
        go_wp2
        go_region
        all_goals go_wp2
        go_roundw
        case rel => exact ⟨i + 1, j - 1, swf fs i j, by go_num, by go_num, by omega, by omega, by omega, Lib.hid (HRW.out.swap 1 i j), Lib.hid (HCW.out.trans (Rk.swapC W g off 1 i j (.int .u64 (fs j)) (.int .u64 (fs i))) (fun _ e => .inl e)), Lib.hid (HPB.out.swap hle HXC.out HXB.out)⟩
        case measure => simp [numV]; omega
      · obtain ⟨vj, hyj⟩ := cell?_setCell_some (w := W) (p := ⟨g, off + j, none⟩) (x := .int .u64 (fs a)) (q := ⟨g, off + a, none⟩) (hcw a (by omega))
        go_wp2
        go_region
        all_goals go_wp2
        go_ret2
        exact ⟨j, false, swf fs j a, rfl, Lib.hid (HCW.out.trans (Rk.swapC W g off 1 j a (.int .u64 (fs a)) (.int .u64 (fs j))) (fun _ e => .inl e)), Lib.hid (HRW.out.swap 1 j a), Lib.hid (HPB.out.done hle)⟩
  · obtain ⟨vj, hyj⟩ := cell?_setCell_some (w := W) (p := ⟨g, off + j, none⟩) (x := .int .u64 (fs a)) (q := ⟨g, off + a, none⟩) (hcw a (by omega))
    go_wp2
    go_region
    all_goals go_wp2
    go_ret2
    exact ⟨j, true, swf fs j a, rfl, Lib.hid (HCW.out.trans (Rk.swapC W g off 1 j a (.int .u64 (fs a)) (.int .u64 (fs j))) (fun _ e => .inl e)), Lib.hid (HRW.out.swap 1 j a), Lib.hid (HPB.out.done hle)⟩
end Go.Proofs.Ytflellcbfcakhaa
