/- slices.Sort of no keys. -/
import Derived.Test.YtflellcbfcakhaaChecked
import Derived.WalkKit
import Derived.WalkLawsBesides
import Derived.Lib.Hide
import Derived.Deep.MidRow
import Derived.Test.YtflellcbfcakhaaDo
namespace Go.Proofs.Ytflellcbfcakhaa
open Go.RowKit
set_option linter.unusedVariables false
set_option linter.unusedSimpArgs false
set_option maxRecDepth 20000

set_option maxHeartbeats 1600000 in
theorem ins0_any (w : World) (A : Option Addr) (n c : Nat) : Calls Try.prog 29 #[.slice A n c, .int .i64 0, .int .i64 0] w (Zero w (.tuple #[])) := by
  go_enter Try.func29, Try.ntmps29
  go_wp2_with fail
  go_loopw [6] (fun i wr => i = .int .i64 1 ∧ wr = w) (fun _ _ => 0)
  case atStart => exact ⟨rfl, rfl⟩
  case round =>
    obtain ⟨rfl, rfl⟩ := hrel
    go_wp2_with fail
    first | go_ret | go_end0
    exact ⟨rfl, Chg.refl _ _⟩
set_option maxHeartbeats 1600000 in
theorem pdq0_any (w : World) (A : Option Addr) (n c : Nat) : Calls Try.prog 27 #[.slice A n c, .int .i64 0, .int .i64 0, .int .i64 0] w (Zero w (.tuple #[])) := by
  have HI := Lib.hid (ins0_any w A n c)
  go_enter Try.func27, Try.ntmps27
  go_wp2_with fail
  go_loopw [1, 2, 3, 8, 9, 10, 11, 12, 13, 14, 15, 16, 17, 18] (fun a b l s8 s9 s10 s11 s12 s13 s14 s15 s16 s17 s18 wr => a = .int .i64 0 ∧ b = .int .i64 0 ∧ wr = w) (fun _ _ _ _ _ _ _ _ _ _ _ _ _ _ _ => 0)
  case atStart => exact ⟨rfl, rfl, rfl⟩
  case round =>
    obtain ⟨rfl, rfl, rfl⟩ := hrel
    go_wp2_with fail
    refine HI.out.mono ?_
    rintro e w1 ⟨rfl, k1⟩
    go_wp2_with fail
    first | go_ret | go_end0
    exact ⟨rfl, k1⟩
set_option maxHeartbeats 1600000 in
theorem len0_any (w : World) : Calls Try.prog 28 #[.int .u64 0] w (Zero w (.int .i64 0)) := by
  have H : Calls Try.prog 39 #[.int .u64 0] w (Zero w (.int .i64 0)) := by
    go_enter Try.func39, Try.ntmps39
    go_wp2_with fail
    go_ret
    exact ⟨by first | rfl | (simp; done) | kernel_rfl, Chg.refl _ _⟩
  have HH := Lib.hid H
  clear H
  go_enter Try.func28, Try.ntmps28
  go_wp2_with fail
  refine HH.out.mono ?_
  rintro e w1 ⟨rfl, k1⟩
  go_wp2_with fail
  go_ret
  exact ⟨rfl, k1⟩
set_option maxHeartbeats 1600000 in
theorem sort_0 : SortOK 0 := by
  intro n₀ w v ks hO hl _ _
  obtain rfl : ks = [] := List.eq_nil_of_length_eq_zero (by omega)
  obtain ⟨A, n, c, rfl⟩ := own_slv hO
  obtain rfl : n = 0 := by
    rcases hO.2 with ⟨e, _⟩ | ⟨g, cap, cur, e, _⟩
    · injection e
    · injection e
  have HO := Lib.hid hO
  have HL := Lib.hid (len0_any w)
  have HP : Hid (∀ w, Calls Try.prog 27 #[.slice A 0 c, .int .i64 0, .int .i64 0, .int .i64 0] w (Zero w (.tuple #[]))) := Lib.hid fun w => pdq0_any w A 0 c
  go_enter Try.func24, Try.ntmps24
  go_wp2_with fail
  refine HL.out.mono ?_
  rintro e w1 ⟨rfl, k1⟩
  go_wp2_with fail
  refine (HP.out w1).mono ?_
  rintro e w2 ⟨rfl, k2⟩
  have kk := k1.trans k2 (fun _ f => f.elim)
  go_wp2_with fail
  first | go_ret | go_end0
  exact ⟨rfl, kk.mono (fun _ f => f.elim), [], HO.out.chg kk (fun _ _ f => f), List.Perm.refl _, List.Pairwise.nil⟩
end Go.Proofs.Ytflellcbfcakhaa
