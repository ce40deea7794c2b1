/- Of the program at this commit: the law TurnsNext answers true for every height and every round (the next round and the next height have the next turn, modulo MaxTurns; those that may not be have turn 0); no condition. -/
import Derived.Test.YtkjekaklfjginaaRows
import Derived.WalkKit
import Derived.ProofKit
import Derived.Test.YtkjekaklfjginaaTa
namespace Go.Proofs.Ytkjekaklfjginaa.turnsNext
open Go.ChangeShapes Go.WideShapes Go.ChangeAt Go.RowKit
set_option linter.unusedVariables false

set_option maxRecDepth 100000 in
set_option maxHeartbeats 1600000 in
theorem walk (W : World) (v0 v1 : Value) (h0 : Okv Try.prog W 3 v0) (h1 : Okv Try.prog W 3 v1) :
    Calls Try.prog 3 #[v0, v1] W fun e W' => e = .returned (.bool true) ∧ Below W.heap.size W W' := by
  obtain ⟨h, rfl, hh⟩ := int_arg h0
  obtain ⟨r, rfl, hr⟩ := int_arg h1
  clear h0 h1
  have HAL := Lib.hid (fun w => alive_any w)
  have DONE : ∀ w', Chg Non W w' → Below W.heap.size W w' := fun w' k => k.below (Nat.le_refl _) (fun _ f => f.elim)
  have HD := Lib.hid DONE
  clear DONE
  have HT0 := Lib.hid (Turn_any W h r hh hr)
  by_cases c : ¬ (1 ≤ h ∧ h ≤ 1099511627776 ∧ 0 ≤ r ∧ r ≤ 1048576)
  · have e0 : tv h r = 0 := by unfold tv; rw [if_neg c]
    rw [e0] at HT0
    by_cases a1 : 1 ≤ h
    · by_cases a2 : h ≤ 1099511627776
      · by_cases a3 : 0 ≤ r
        · have a4 : decide (r ≤ 1048576) = false := decide_eq_false (by omega)
          clear c e0
          go_enter Try.func3, Try.ntmps3
          go_wp2_with (first | (go_at_call 4; with_reducible refine HT0.out.mono ?_; rintro e w1 ⟨rfl, rfl⟩) | (go_at_call 5; with_reducible refine (HAL.out _).mono ?_; rintro e w2 ⟨k2, rfl⟩))
          go_ret
          exact ⟨rfl, HD.out _ k2⟩
        · have a5 : decide (0 ≤ r) = false := decide_eq_false a3
          clear c e0 a3
          go_enter Try.func3, Try.ntmps3
          go_wp2_with (first | (go_at_call 4; with_reducible refine HT0.out.mono ?_; rintro e w1 ⟨rfl, rfl⟩) | (go_at_call 5; with_reducible refine (HAL.out _).mono ?_; rintro e w2 ⟨k2, rfl⟩))
          go_ret
          exact ⟨rfl, HD.out _ k2⟩
      · have a5 : decide (h ≤ 1099511627776) = false := decide_eq_false a2
        clear c e0 a2
        go_enter Try.func3, Try.ntmps3
        go_wp2_with (first | (go_at_call 4; with_reducible refine HT0.out.mono ?_; rintro e w1 ⟨rfl, rfl⟩) | (go_at_call 5; with_reducible refine (HAL.out _).mono ?_; rintro e w2 ⟨k2, rfl⟩))
        go_ret
        exact ⟨rfl, HD.out _ k2⟩
    · have a5 : decide (1 ≤ h) = false := decide_eq_false a1
      clear c e0 a1
      go_enter Try.func3, Try.ntmps3
      go_wp2_with (first | (go_at_call 4; with_reducible refine HT0.out.mono ?_; rintro e w1 ⟨rfl, rfl⟩) | (go_at_call 5; with_reducible refine (HAL.out _).mono ?_; rintro e w2 ⟨k2, rfl⟩))
      go_ret
      exact ⟨rfl, HD.out _ k2⟩
  · replace c := Classical.not_not.1 c
    have e0 : tv h r = (h + r) % 4096 := by unfold tv; rw [if_pos c]
    rw [e0] at HT0
    obtain ⟨c1, c2, c3, c4⟩ := c
    have H1 : r < 1048576 → Calls Try.prog 4 #[.int .i64 h, .int .i64 (r + 1)] W fun e w' => w' = W ∧ e = .returned (.int .i64 (((h + r) % 4096 + 1) % 4096)) := fun hr1 => by
      have := Turn_any W h (r + 1) hh (by omega)
      have e1 : tv h (r + 1) = ((h + r) % 4096 + 1) % 4096 := by
        unfold tv
        rw [if_pos ⟨c1, c2, by omega, by omega⟩]
        omega
      rw [e1] at this
      exact this
    have H2 : h < 1099511627776 → Calls Try.prog 4 #[.int .i64 (h + 1), .int .i64 r] W fun e w' => w' = W ∧ e = .returned (.int .i64 (((h + r) % 4096 + 1) % 4096)) := fun hr1 => by
      have := Turn_any W (h + 1) r (by omega) hr
      have e1 : tv (h + 1) r = ((h + r) % 4096 + 1) % 4096 := by
        unfold tv
        rw [if_pos ⟨by omega, by omega, c3, c4⟩]
        omega
      rw [e1] at this
      exact this
    have t0 : 0 ≤ (h + r) % 4096 := by omega
    have t1 : (h + r) % 4096 < 4096 := by omega
    have HH1 := Lib.hid H1
    have HH2 := Lib.hid H2
    clear H1 H2 e0
    generalize (h + r) % 4096 = t at *
    by_cases a1 : r < 1048576
    · have K1 := Lib.hid (HH1.out a1)
      by_cases a2 : h < 1099511627776
      · have K2 := Lib.hid (HH2.out a2)
        go_enter Try.func3, Try.ntmps3
        go_wp2_with (first | (go_at_call 4; first | (with_reducible refine HT0.out.mono ?_; rintro e w1 ⟨rfl, rfl⟩) | (with_reducible refine K1.out.mono ?_; rintro e w1 ⟨rfl, rfl⟩) | (with_reducible refine K2.out.mono ?_; rintro e w1 ⟨rfl, rfl⟩)) | (go_at_call 5; with_reducible refine (HAL.out _).mono ?_; rintro e w2 ⟨k2, rfl⟩))
        go_ret
        exact ⟨rfl, HD.out _ k2⟩
      · go_enter Try.func3, Try.ntmps3
        go_wp2_with (first | (go_at_call 4; first | (with_reducible refine HT0.out.mono ?_; rintro e w1 ⟨rfl, rfl⟩) | (with_reducible refine K1.out.mono ?_; rintro e w1 ⟨rfl, rfl⟩)) | (go_at_call 5; with_reducible refine (HAL.out _).mono ?_; rintro e w2 ⟨k2, rfl⟩))
        go_ret
        exact ⟨rfl, HD.out _ k2⟩
    · by_cases a2 : h < 1099511627776
      · have K2 := Lib.hid (HH2.out a2)
        go_enter Try.func3, Try.ntmps3
        go_wp2_with (first | (go_at_call 4; first | (with_reducible refine HT0.out.mono ?_; rintro e w1 ⟨rfl, rfl⟩) | (with_reducible refine K2.out.mono ?_; rintro e w1 ⟨rfl, rfl⟩)) | (go_at_call 5; with_reducible refine (HAL.out _).mono ?_; rintro e w2 ⟨k2, rfl⟩))
        go_ret
        exact ⟨rfl, HD.out _ k2⟩
      · go_enter Try.func3, Try.ntmps3
        go_wp2_with (first | (go_at_call 4; (with_reducible refine HT0.out.mono ?_; rintro e w1 ⟨rfl, rfl⟩)) | (go_at_call 5; with_reducible refine (HAL.out _).mono ?_; rintro e w2 ⟨k2, rfl⟩))
        go_ret
        exact ⟨rfl, HD.out _ k2⟩

/-! ### The row's frame -/
theorem own : ownKnob Try.prog.godebug = none := by kernel_rfl
theorem walkA (W : World) (args : Array Value) (hsz : args.size = Try.f3.params.size) (hok : ∀ (j : Nat) (t : TypeId) (v : Value), Try.f3.params[j]? = some t → args[j]? = some v → Okv Try.prog W t v) :
    Calls Try.prog 3 args W fun e W' => e = .returned (.bool true) ∧ Below W.heap.size W W' := by
  rw [Try.params3] at hsz hok
  obtain ⟨v0, v1, rfl⟩ : ∃ v0 v1 : Value, args = #[v0, v1] := by
    obtain ⟨l⟩ := args
    match l, hsz with
    | [v0, v1], _ => exact ⟨v0, v1, rfl⟩
  exact walk W v0 v1 (hok 0 3 v0 rfl rfl) (hok 1 3 v1 rfl rfl)
set_option maxRecDepth 100000 in
theorem lifted (os : Os) (started : os.Started) (H : Type) (enc : TypeId × Value → H) :
    ReturnsInHanded {} Try.checked os 3 .any (Rows.turnsNextSpec.pre6 enc Try.prog Try.f3 Rows.turnsNextRow.domain false) (Rows.turnsNextSpec.post enc Try.prog Try.f3 false true false false) :=
  lifted_of_walk (C := Try.checked) (s := Rows.turnsNextSpec) (conds := Rows.turnsNextRow.domain) (apart := false) (fresh := true) (T := 4) own started (by kernel_rfl) Try.func3
    (ChangeSpec.witness6 (enc := enc) (C := Try.checked) false ⟨#[], #[.int .i64 0, .int .i64 0], []⟩ 8 (by kernel_rfl) (by kernel_rfl) (by kernel_rfl) (by kernel_rfl))
    rfl (fun ds hd => by
      rw [Try.params3] at hd
      match ds, hd with
      | [d0, d1], _ => exact ⟨rfl, rfl, rfl⟩)
    (by kernel_rfl) Try.underlying4 (by kernel_rfl) (by rw [Try.params3]; intro t ht; simp only [List.mem_cons, List.not_mem_nil, or_false] at ht; rcases ht with rfl | rfl <;> exact ⟨by kernel_rfl, of_decide_eq_true (by kernel_rfl)⟩) walkA

theorem holds : Rows.turnsNextRow.holds Try.pinned (OpenSpec.ofChange Rows.turnsNextSpec) :=
  OpenClaim.holds_of_wide 3 Try.f3 rfl rfl rfl rfl rfl rfl rfl ⟨rfl, rfl, rfl, rfl, rfl⟩ rfl rfl rfl rfl rfl (by kernel_rfl) Try.func3 (by kernel_rfl)
    (of_decide_eq_true (by kernel_rfl)) (by unfold Func.isWrapper; first | (rw [if_pos (by decide +kernel)]; kernel_rfl) | (rw [if_neg (by decide +kernel)]; exact ⟨rfl, rfl⟩))
    (fun os started H enc _ => lifted os started H enc)
end Go.Proofs.Ytkjekaklfjginaa.turnsNext
namespace Go.Proofs.Ytkjekaklfjginaa
/-- The statement. -/
theorem turnsNext_holds : Rows.TurnsNextSaid := turnsNext.holds
end Go.Proofs.Ytkjekaklfjginaa
