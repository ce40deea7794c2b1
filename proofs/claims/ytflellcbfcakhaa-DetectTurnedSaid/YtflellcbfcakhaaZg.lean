/- slices.Sort at []uint64: the numbers of breakPatterns. -/
import Derived.Test.YtflellcbfcakhaaChecked
import Derived.WalkKit
import Derived.WalkLawsBesides
import Derived.Lib.Hide
import Derived.IntWalk
import Derived.BigGuard
import Derived.Deep.Cut
import Derived.Deep.CutRange
import Derived.Deep.CutBlock
import Derived.BigCall
import Derived.CellFam
import Derived.Deep.Draws
import Derived.Deep.QuietTactic
import Derived.BigQuiet
import Derived.Test.YtflellcbfcakhaaZb
namespace Go.Proofs.Ytflellcbfcakhaa
open Go.RowKit
set_option linter.unusedVariables false
set_option linter.unusedSimpArgs false
set_option maxRecDepth 20000

set_option maxHeartbeats 3200000 in
theorem len64_any (w : World) (x : Nat) (h1 : 13 ≤ x) (h2 : x ≤ 20) : Calls Try.prog 39 #[.int .u64 x] w fun e w' => e = .returned (.int .i64 (if x < 16 then 4 else 5)) ∧ w' = w := by
  rcases (show x = 13 ∨ x = 14 ∨ x = 15 ∨ x = 16 ∨ x = 17 ∨ x = 18 ∨ x = 19 ∨ x = 20 by omega) with rfl | rfl | rfl | rfl | rfl | rfl | rfl | rfl
  all_goals
    go_enter Try.func39, Try.ntmps39
    go_wp2
    go_ret
    exact ⟨by first | rfl | (simp; done) | kernel_rfl, rfl⟩
theorem len_any (w : World) (x : Nat) (h1 : 13 ≤ x) (h2 : x ≤ 20) : Calls Try.prog 28 #[.int .u64 x] w fun e w' => e = .returned (.int .i64 (if x < 16 then 4 else 5)) ∧ w' = w := by
  have H := Lib.hid (len64_any w x h1 h2)
  generalize hv : (if x < 16 then (4 : Int) else 5) = v at *
  clear hv
  go_enter Try.func28, Try.ntmps28
  go_wp2_with fail
  refine H.out.mono ?_
  rintro e w1 ⟨rfl, rfl⟩
  go_wp2_with fail
  go_ret
  exact ⟨rfl, rfl⟩
theorem npot_any (w : World) (x : Nat) (h1 : 13 ≤ x) (h2 : x ≤ 20) : Calls Try.prog 41 #[.int .i64 x] w fun e w' => e = .returned (.int .u64 (if x < 16 then 16 else 32)) ∧ w' = w := by
  have H := Lib.hid (len_any w x h1 h2)
  by_cases hx : x < 16
  · rw [if_pos hx] at H ⊢
    go_enter Try.func41, Try.ntmps41
    go_wp2_with fail
    refine H.out.mono ?_
    rintro e w1 ⟨rfl, rfl⟩
    go_wp2_with fail
    go_ret
    exact ⟨by first | rfl | (simp; done) | kernel_rfl, rfl⟩
  · rw [if_neg hx] at H ⊢
    go_enter Try.func41, Try.ntmps41
    go_wp2_with fail
    refine H.out.mono ?_
    rintro e w1 ⟨rfl, rfl⟩
    go_wp2_with fail
    go_ret
    exact ⟨by first | rfl | (simp; done) | kernel_rfl, rfl⟩
/-- A box of one number of the kind of the generator. -/
def Rn (w : World) (h : Nat) : Prop := ∃ x : Int, Hb w h 88 #[.int .u64 x]
set_option maxHeartbeats 3200000 in
theorem next_any (w : World) (h : Nat) (hB : Rn w h) : Calls Try.prog 42 #[.pointer (some ⟨h, 0, none⟩)] w fun e w' =>
    ∃ y : Int, e = .returned (.int .u64 y) ∧ Hid (Chg (· = h) w w') ∧ Hid (Rn w' h) := by
  obtain ⟨x, hB⟩ := hB
  have c0 : w.cell? ⟨h, 0, none⟩ = some (.int .u64 x) := by rw [Hb.cell hB]; rfl
  have f0 := Hb.frozen hB 0
  have HB := Lib.hid hB
  clear hB
  go_enter Try.func42, Try.ntmps42
  go_wp2
  go_region
  generalize bits .xor .u64 x _ = y1
  obtain ⟨w1, hw, HB1, HC1⟩ : ∃ w1, (w.setCell ⟨h, 0, none⟩ (.int .u64 y1)).drew = w1 ∧ Hid (Hb w1 h 88 #[.int .u64 y1]) ∧ Hid (Chg (· = h) w w1) := ⟨_, rfl, Lib.hid (HB.out.set 0 _), Lib.hid (((Chg.refl (· = h) w).setCell (p := ⟨h, 0, none⟩) (.inl rfl) _).drew)⟩
  rw [hw]
  clear hw c0 f0
  have c0 : w1.cell? ⟨h, 0, none⟩ = some (.int .u64 y1) := by rw [Hb.cell HB1.out]; rfl
  have f0 := Hb.frozen HB1.out 0
  go_wp2
  go_region
  generalize bits .xor .u64 y1 _ = y2
  obtain ⟨w2, hw, HB2, HC2⟩ : ∃ w2, (w1.setCell ⟨h, 0, none⟩ (.int .u64 y2)).drew = w2 ∧ Hid (Hb w2 h 88 #[.int .u64 y2]) ∧ Hid (Chg (· = h) w w2) := ⟨_, rfl, Lib.hid (HB1.out.set 0 _), Lib.hid ((HC1.out.setCell (p := ⟨h, 0, none⟩) (.inl rfl) _).drew)⟩
  rw [hw]
  clear hw c0 f0
  have c0 : w2.cell? ⟨h, 0, none⟩ = some (.int .u64 y2) := by rw [Hb.cell HB2.out]; rfl
  have f0 := Hb.frozen HB2.out 0
  go_wp2
  go_region
  generalize bits .xor .u64 y2 _ = y3
  obtain ⟨w3, hw, HB3, HC3⟩ : ∃ w3, (w2.setCell ⟨h, 0, none⟩ (.int .u64 y3)).drew = w3 ∧ Hid (Hb w3 h 88 #[.int .u64 y3]) ∧ Hid (Chg (· = h) w w3) := ⟨_, rfl, Lib.hid (HB2.out.set 0 _), Lib.hid ((HC2.out.setCell (p := ⟨h, 0, none⟩) (.inl rfl) _).drew)⟩
  rw [hw]
  clear hw c0 f0
  have c0 : w3.cell? ⟨h, 0, none⟩ = some (.int .u64 y3) := by rw [Hb.cell HB3.out]; rfl
  have f0 := Hb.frozen HB3.out 0
  go_wp2
  go_ret
  exact ⟨y3, rfl, HC3, Lib.hid ⟨y3, HB3.out⟩⟩
theorem and_lt (x : Int) (m : Nat) (hm : m < 1000) : 0 ≤ bits .and .u64 x (m : Int) ∧ bits .and .u64 x (m : Int) ≤ m := by
  have h1 : (BitVec.ofInt 64 x &&& BitVec.ofInt 64 (m : Int)).toNat ≤ m := by
    rw [BitVec.toNat_and]
    refine Nat.le_trans Nat.and_le_right ?_
    rw [BitVec.toNat_ofInt]
    omega
  have h2 : bits .and .u64 x (m : Int) = IntKind.u64.wrap ((BitVec.ofInt 64 x &&& BitVec.ofInt 64 (m : Int)).toNat : Int) := rfl
  have h3 : IntKind.u64.wrap ((BitVec.ofInt 64 x &&& BitVec.ofInt 64 (m : Int)).toNat : Int) = ((BitVec.ofInt 64 x &&& BitVec.ofInt 64 (m : Int)).toNat : Int) := by
    rw [show IntKind.u64.wrap ((BitVec.ofInt 64 x &&& BitVec.ofInt 64 (m : Int)).toNat : Int) = ((BitVec.ofInt 64 x &&& BitVec.ofInt 64 (m : Int)).toNat : Int) % 18446744073709551616 from rfl]
    omega
  rw [h2, h3]
  omega
end Go.Proofs.Ytflellcbfcakhaa
