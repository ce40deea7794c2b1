/- All calls on no tape; the live question of nunciolaw10. -/
import Derived.Lib.SlBytesConst
import Derived.Test.YtenhicipgkjckaaJe
namespace Go.Proofs.Ytenhicipgkjckaa
open Go.RowKit
set_option linter.unusedVariables false
set_option linter.unusedSimpArgs false
set_option maxRecDepth 20000

theorem Append_nil (w : World) (A : Option Addr) (n c : Nat) : Calls Try.prog 11 #[.pointer none, .slice A n c] w fun e w' => e = .returned (.int .i64 1) ∧ w' = w := by
  go_enter Try.func11, Try.ntmps11
  go_wp2
  go_ret
  exact ⟨rfl, rfl⟩
theorem Sync_nil (w : World) : Calls Try.prog 8 #[.pointer none] w fun e w' => e = .returned (.int .i64 1) ∧ w' = w := by
  go_enter Try.func8, Try.ntmps8
  go_wp2
  go_ret
  exact ⟨rfl, rfl⟩
theorem Trim_nil (w : World) (n : Int) : Calls Try.prog 17 #[.pointer none, .int .i64 n] w fun e w' => e = .returned (.int .i64 1) ∧ w' = w := by
  go_enter Try.func17, Try.ntmps17
  go_wp2
  go_ret
  exact ⟨rfl, rfl⟩
theorem Read_nil (w : World) : Calls Try.prog 9 #[.pointer none] w fun e w' => e = .returned (.slice none 0 0) ∧ w' = w := by
  go_enter Try.func9, Try.ntmps9
  go_wp2
  go_ret
  exact ⟨rfl, rfl⟩
theorem Safe_nil (w : World) : Calls Try.prog 14 #[.pointer none] w fun e w' => e = .returned (.int .i64 0) ∧ w' = w := by
  go_enter Try.func14, Try.ntmps14
  go_wp2
  go_ret
  exact ⟨rfl, rfl⟩
theorem Calls_nil (w : World) : Calls Try.prog 10 #[.pointer none] w fun e w' => e = .returned (.int .i64 0) ∧ w' = w := by
  go_enter Try.func10, Try.ntmps10
  go_wp2
  go_ret
  exact ⟨rfl, rfl⟩
theorem Cut_nil (w : World) (n m : Int) : Calls Try.prog 12 #[.pointer none, .int .i64 n, .int .i64 m] w fun e w' => e = .returned (.pointer none) ∧ w' = w := by
  go_enter Try.func12, Try.ntmps12
  go_wp2
  go_ret
  exact ⟨rfl, rfl⟩

theorem rd_alloc (w : World) (l : List UInt8) (e : TypeId) (fr : Nat × Nat) : Rd (w.alloc (.cells (bv l).toArray e fr)) (some ⟨w.heap.size, 0, none⟩) l := by
  intro j b hj
  refine ⟨_, rfl, ?_⟩
  rw [Addr.add_mid, Nat.zero_add, cell_of_row _ w.heap.size j _ e fr (heap_alloc_new w _)]
  simpa using bv_get l j b hj
theorem m_xy : mAppend [([], 0)] [120, 121] = (0, [([], 0), ([120, 121], 0)]) := by decide
theorem m_xy2 : mSync [([], 0), ([120, 121], 0)] = (0, [([], 0), ([120, 121], 0), ([120, 121], 2)]) := by decide

set_option maxHeartbeats 1600000 in
/-- The live question. -/
theorem alive_any (w : World) : Calls Try.prog 5 #[] w fun e w' => e = .returned (.bool true) ∧ Chg Non w w' := by
  have hcv := fun (w : World) (C : Array Value) (n c : Nat) => Lib.run_convert_bytes_const (P := Try.prog) w 23 5 C n c Try.underlying23 Try.underlying5
  go_enter Try.func5, Try.ntmps5
  go_wp2_with fail
  refine (New_any _).mono ?_
  rintro e w1 ⟨rfl, t1, k1⟩
  have t2 := t1.chg ((Chg.refl Non w1).alloc (.cells #[.int .u8 120, .int .u8 121] 5 (2, 3))) (fun _ _ f => f)
  have k2 := (k1.alloc (.cells #[.int .u8 120, .int .u8 121] 5 (2, 3)))
  have r2 : Rd (w1.alloc (.cells #[.int .u8 120, .int .u8 121] 5 (2, 3))) (some ⟨w1.heap.size, 0, none⟩) [120, 121] := rd_alloc w1 [120, 121] _ _
  go_wp2_with fail
  refine (Append_any _ _ _ _ t2 _ 2 2 [120, 121] rfl (by decide) r2 (by decide)).mono ?_
  rintro e w2 ⟨rfl, k3, F3, t3, hF3⟩
  rw [m_xy] at t3 ⊢
  go_wp2_with fail
  refine (Sync_any _ _ _ _ t3 (by decide)).mono ?_
  rintro e w3 ⟨rfl, k4, F4, t4, hF4⟩
  rw [m_xy2] at t4 ⊢
  go_wp2_with fail
  refine (Read_any _ _ _ _ t4).mono ?_
  rintro e w4 ⟨v, rfl, o5, b5, k5⟩
  have t5 := t4.chg k5 (fun _ _ f => f)
  have o6 : Own 5 w4 v [120, 121] := o5
  obtain ⟨A, c, hv, hc, hm, hr, _, _⟩ := o6.slice
  have hv' : v = .slice A 2 c := hv
  subst hv'
  have hs5 := run_str byt w4 hr c
  have kk : Chg Non w w4 := by
    refine (((k2.trans k3 ?_).trans k4 ?_).trans k5 (fun _ f => .inl f))
    · rintro j rfl; exact .inr (Nat.le_refl _)
    · intro j hj
      rcases hF3 j hj with h | h
      · exact .inr (by rw [h]; exact Nat.le_refl _)
      · exact .inr (Nat.le_trans k2.size h)
  change (convert 23 9 (.slice A 2 c)).run Try.prog w4 = .ok (.string ⟨[120, 121].toArray⟩) w4 at hs5
  have HK := Lib.hid kk
  clear kk k5 k4 k3 t4 t3 t2 t1 k1 k2 hF3 hF4 o5 o6 b5 hr r2 hv
  go_wp2_with (first
    | (go_at_call 14; refine (Safe_any _ _ _ _ t5).mono ?_; rintro e w5 ⟨rfl, rfl⟩)
    | (go_at_call 10; refine (Calls_any _ _ _ _ t5).mono ?_; rintro e w5 ⟨rfl, rfl⟩))
  go_ret
  exact ⟨rfl, HK.out⟩
end Go.Proofs.Ytenhicipgkjckaa
