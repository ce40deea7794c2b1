/- Of the program at this commit: the law LevelLine answers true for any three numbers, NaNs, infinities and both zeros among them (all numbers stand in one line, and two are one in it just if their bits are); no condition. -/
import Derived.Test.YtkinbknflkenpaaRows
import Derived.WalkKit
import Derived.ProofKit
import Derived.OpenShut
import Derived.WideKeyPair
import Derived.Test.YtkinbknflkenpaaLv
namespace Go.Proofs.Ytkinbknflkenpaa.levelLine
open Go.ChangeShapes Go.WideShapes Go.ChangeAt Go.RowKit Fl
set_option linter.unusedVariables false

theorem place_inj {x y : Nat} (hx : x < 18446744073709551616) (hy : y < 18446744073709551616) (h : place x = place y) : bitsOf x = bitsOf y := by
  unfold bitsOf
  cases a : isNan x <;> cases b : isNan y
  · rw [place_num a, place_num b] at h
    simp only [Bool.false_eq_true, if_false]
    split at h <;> split at h <;> omega
  · have := place_lt hx a
    rw [place_nan b] at h; omega
  · have := place_lt hy b
    rw [place_nan a] at h; omega
  · rfl
theorem zero_iff {x y : Nat} (hx : x < 18446744073709551616) (hy : y < 18446744073709551616) : ordI x y = 0 ↔ bitsOf x = bitsOf y := by
  constructor
  · intro h
    apply place_inj hx hy
    unfold ordI at h
    split at h
    · omega
    · split at h <;> omega
  · intro h
    have := place_bitsOf x
    have := place_bitsOf y
    rw [h] at *
    unfold ordI
    rw [if_neg (by omega), if_neg (by omega)]
theorem three (x y : Nat) : ordI x y = -1 ∨ ordI x y = 0 ∨ ordI x y = 1 := by unfold ordI; split <;> (try split) <;> simp
theorem line1 (x y z : Nat) (h1 : ordI x y ≤ 0) (h2 : ordI y z ≤ 0) : ordI x z ≤ 0 := by
  unfold ordI at *
  repeat' split at h1
  all_goals repeat' split at h2
  all_goals repeat' split
  all_goals omega
theorem line2 (x y z : Nat) (h1 : ordI x y < 0) (h2 : ordI y z ≤ 0) : ordI x z < 0 := by
  unfold ordI at *
  repeat' split at h1
  all_goals repeat' split at h2
  all_goals repeat' split
  all_goals omega

set_option maxHeartbeats 1000000 in
theorem walk (a0 : Nat) (a1 : Nat) (a2 : Nat) (w0 : a0 < 18446744073709551616) (w1 : a1 < 18446744073709551616) (w2 : a2 < 18446744073709551616) (w : World) :
    Calls Try.prog 6 #[.float .f64 a0, .float .f64 a1, .float .f64 a2] w fun e w' => e = .returned (.bool true) ∧ Grown w w' := by
  have HX := order_any a0 a1 w0 w1
  have HY := order_any a1 a0 w1 w0
  have HZ := order_any a1 a2 w1 w2
  have HW := order_any a0 a2 w0 w2
  rw [ord_swap] at HY
  have HA := lbits_any a0 w0
  have HB := lbits_any a1 w1
  have z0 := zero_iff w0 w1
  have l1 := line1 a0 a1 a2
  have l2 := line2 a0 a1 a2
  have t1 := three a0 a1
  have t2 := three a1 a2
  generalize ordI a0 a1 = X at *
  generalize ordI a1 a2 = Z at *
  generalize ordI a0 a2 = W at *
  generalize bitsOf a0 = A at *
  generalize bitsOf a1 = B at *
  rcases t1 with rfl | rfl | rfl
  · have hne : ((A : Int) == (B : Int)) = false := by rw [beq_eq_false_iff_ne]; intro g; have := z0.2 (by omega); omega
    rcases t2 with rfl | rfl | rfl
    · have k1 : W < 0 := l2 (by omega) (by omega)
      clear l1 l2 z0
      go_enter Try.func6, Try.ntmps6
      go_wp2_with (first | (go_at_call 11; refine (alive_any _).mono ?_; rintro e w' ⟨rfl, _, rfl⟩) | ((with_reducible refine (HX _).mono ?_); rintro e w' ⟨rfl, rfl⟩) | ((with_reducible refine (HY _).mono ?_); rintro e w' ⟨rfl, rfl⟩) | ((with_reducible refine (HZ _).mono ?_); rintro e w' ⟨rfl, rfl⟩) | ((with_reducible refine (HW _).mono ?_); rintro e w' ⟨rfl, rfl⟩) | ((with_reducible refine (HA _).mono ?_); rintro e w' ⟨rfl, rfl⟩) | ((with_reducible refine (HB _).mono ?_); rintro e w' ⟨rfl, rfl⟩))
      go_ret
      exact ⟨rfl, grown_drewN _ _⟩
    · have k1 : W < 0 := l2 (by omega) (by omega)
      clear l1 l2 z0
      go_enter Try.func6, Try.ntmps6
      go_wp2_with (first | (go_at_call 11; refine (alive_any _).mono ?_; rintro e w' ⟨rfl, _, rfl⟩) | ((with_reducible refine (HX _).mono ?_); rintro e w' ⟨rfl, rfl⟩) | ((with_reducible refine (HY _).mono ?_); rintro e w' ⟨rfl, rfl⟩) | ((with_reducible refine (HZ _).mono ?_); rintro e w' ⟨rfl, rfl⟩) | ((with_reducible refine (HW _).mono ?_); rintro e w' ⟨rfl, rfl⟩) | ((with_reducible refine (HA _).mono ?_); rintro e w' ⟨rfl, rfl⟩) | ((with_reducible refine (HB _).mono ?_); rintro e w' ⟨rfl, rfl⟩))
      go_ret
      exact ⟨rfl, grown_drewN _ _⟩
    · clear l1 l2 z0
      go_enter Try.func6, Try.ntmps6
      go_wp2_with (first | (go_at_call 11; refine (alive_any _).mono ?_; rintro e w' ⟨rfl, _, rfl⟩) | ((with_reducible refine (HX _).mono ?_); rintro e w' ⟨rfl, rfl⟩) | ((with_reducible refine (HY _).mono ?_); rintro e w' ⟨rfl, rfl⟩) | ((with_reducible refine (HZ _).mono ?_); rintro e w' ⟨rfl, rfl⟩) | ((with_reducible refine (HW _).mono ?_); rintro e w' ⟨rfl, rfl⟩) | ((with_reducible refine (HA _).mono ?_); rintro e w' ⟨rfl, rfl⟩) | ((with_reducible refine (HB _).mono ?_); rintro e w' ⟨rfl, rfl⟩))
      go_ret
      exact ⟨rfl, grown_drewN _ _⟩
  · obtain rfl : A = B := z0.1 rfl
    rcases t2 with rfl | rfl | rfl
    · have k1 : W ≤ 0 := l1 (by omega) (by omega)
      clear l1 l2 z0
      go_enter Try.func6, Try.ntmps6
      go_wp2_with (first | (go_at_call 11; refine (alive_any _).mono ?_; rintro e w' ⟨rfl, _, rfl⟩) | ((with_reducible refine (HX _).mono ?_); rintro e w' ⟨rfl, rfl⟩) | ((with_reducible refine (HY _).mono ?_); rintro e w' ⟨rfl, rfl⟩) | ((with_reducible refine (HZ _).mono ?_); rintro e w' ⟨rfl, rfl⟩) | ((with_reducible refine (HW _).mono ?_); rintro e w' ⟨rfl, rfl⟩) | ((with_reducible refine (HA _).mono ?_); rintro e w' ⟨rfl, rfl⟩) | ((with_reducible refine (HB _).mono ?_); rintro e w' ⟨rfl, rfl⟩))
      go_ret
      exact ⟨rfl, grown_drewN _ _⟩
    · have k1 : W ≤ 0 := l1 (by omega) (by omega)
      clear l1 l2 z0
      go_enter Try.func6, Try.ntmps6
      go_wp2_with (first | (go_at_call 11; refine (alive_any _).mono ?_; rintro e w' ⟨rfl, _, rfl⟩) | ((with_reducible refine (HX _).mono ?_); rintro e w' ⟨rfl, rfl⟩) | ((with_reducible refine (HY _).mono ?_); rintro e w' ⟨rfl, rfl⟩) | ((with_reducible refine (HZ _).mono ?_); rintro e w' ⟨rfl, rfl⟩) | ((with_reducible refine (HW _).mono ?_); rintro e w' ⟨rfl, rfl⟩) | ((with_reducible refine (HA _).mono ?_); rintro e w' ⟨rfl, rfl⟩) | ((with_reducible refine (HB _).mono ?_); rintro e w' ⟨rfl, rfl⟩))
      go_ret
      exact ⟨rfl, grown_drewN _ _⟩
    · clear l1 l2 z0
      go_enter Try.func6, Try.ntmps6
      go_wp2_with (first | (go_at_call 11; refine (alive_any _).mono ?_; rintro e w' ⟨rfl, _, rfl⟩) | ((with_reducible refine (HX _).mono ?_); rintro e w' ⟨rfl, rfl⟩) | ((with_reducible refine (HY _).mono ?_); rintro e w' ⟨rfl, rfl⟩) | ((with_reducible refine (HZ _).mono ?_); rintro e w' ⟨rfl, rfl⟩) | ((with_reducible refine (HW _).mono ?_); rintro e w' ⟨rfl, rfl⟩) | ((with_reducible refine (HA _).mono ?_); rintro e w' ⟨rfl, rfl⟩) | ((with_reducible refine (HB _).mono ?_); rintro e w' ⟨rfl, rfl⟩))
      go_ret
      exact ⟨rfl, grown_drewN _ _⟩
  · have hne : ((A : Int) == (B : Int)) = false := by rw [beq_eq_false_iff_ne]; intro g; have := z0.2 (by omega); omega
    clear l1 l2 z0
    go_enter Try.func6, Try.ntmps6
    go_wp2_with (first | (go_at_call 11; refine (alive_any _).mono ?_; rintro e w' ⟨rfl, _, rfl⟩) | ((with_reducible refine (HX _).mono ?_); rintro e w' ⟨rfl, rfl⟩) | ((with_reducible refine (HY _).mono ?_); rintro e w' ⟨rfl, rfl⟩) | ((with_reducible refine (HZ _).mono ?_); rintro e w' ⟨rfl, rfl⟩) | ((with_reducible refine (HW _).mono ?_); rintro e w' ⟨rfl, rfl⟩) | ((with_reducible refine (HA _).mono ?_); rintro e w' ⟨rfl, rfl⟩) | ((with_reducible refine (HB _).mono ?_); rintro e w' ⟨rfl, rfl⟩))
    go_ret
    exact ⟨rfl, grown_drewN _ _⟩

/-! ### The row's frame -/
theorem own : ownKnob Try.prog.godebug = none := by kernel_rfl
set_option maxRecDepth 100000 in
theorem lifted (os : Os) (started : os.Started) (H : Type) (enc : TypeId × Value → H) :
    ReturnsInHanded {} Try.checked os 6 .any (Rows.levelLineSpec.pre6 enc Try.prog Try.f6 Rows.levelLineRow.domain false) (Rows.levelLineSpec.post enc Try.prog Try.f6 false true false false) := by
  refine returnsInHanded_of_change (C := Try.checked) own started (by kernel_rfl) Try.func6
    (ChangeSpec.witness6 (enc := enc) (C := Try.checked) false ⟨#[], #[.float .f64 0, .float .f64 0, .float .f64 0], []⟩ 8 (by kernel_rfl) (by kernel_rfl) (by kernel_rfl) (by kernel_rfl)) ?_
  intro W base args ds gs before hval0 hW hcnd _
  have hval : ∀ (j : Nat) t v, Try.f6.params[j]? = some t → args[j]? = some v → Value.okWide Try.prog W .any base t v := hval0
  have hW' := hW
  obtain ⟨p, q, hA0, hV, rfl, hfz, hnd⟩ := hW
  have hA : DataW.TrodAll enc Try.prog W 0 (fun _ => true) true Try.f6.params.toList args.toList ds p := hA0
  rw [Try.params6] at hA hval
  obtain ⟨v0, vs0, d0, ds0, p0, q0, hargs, rfl, rfl, h0, r0⟩ := trodAll_cons hA
  obtain ⟨v1, vs1, d1, ds1, p1, q1, rfl, rfl, rfl, h1, r1⟩ := trodAll_cons r0
  obtain ⟨v2, vs2, d2, ds2, p2, q2, rfl, rfl, rfl, h2, r2⟩ := trodAll_cons r1
  obtain ⟨rfl, rfl, rfl⟩ := trodAll_nil r2
  obtain rfl : args = #[v0, v1, v2] := by cases args; simp_all
  obtain ⟨rfl, rfl⟩ := trodVars_none hV
  obtain ⟨a0, rfl, rfl, rfl, w0⟩ := open_float Try.underlying22 (hval 0 22 v0 rfl rfl) h0
  obtain ⟨a1, rfl, rfl, rfl, w1⟩ := open_float Try.underlying22 (hval 1 22 v1 rfl rfl) h1
  obtain ⟨a2, rfl, rfl, rfl, w2⟩ := open_float Try.underlying22 (hval 2 22 v2 rfl rfl) h2
  clear hA0 hval0
  simp only [List.append_nil] at hW'
  refine (walk a0 a1 a2 (by simpa [Lit.wf] using w0) (by simpa [Lit.wf] using w1) (by simpa [Lit.wf] using w2) W).mono fun e W' ⟨he, hg⟩ => ?_
  subst he
  exact ⟨_, rfl, post_of_same (pa := []) (pv := []) hW' (fun _ _ _ => (trodAll_cons_mk (shut_bool Try.underlying4 _) trodAll_mk0)) (fun sp _ => (trodAll_cons_mk (shut_float Try.underlying22 w0) (trodAll_cons_mk (shut_float Try.underlying22 w1) (trodAll_cons_mk (shut_float Try.underlying22 w2) trodAll_mk0)))) (fun _ _ => rfl) rfl
    (hg.frame _) hg.2.1 (ok_one (by kernel_rfl) rfl (okWide_bool_mk Try.underlying4 _))⟩

theorem holds : Rows.levelLineRow.holds Try.pinned (OpenSpec.ofChange Rows.levelLineSpec) :=
  OpenClaim.holds_of_wide 6 Try.f6 rfl rfl rfl rfl rfl rfl rfl ⟨rfl, rfl, rfl, rfl, rfl⟩ rfl rfl rfl rfl rfl (by kernel_rfl) Try.func6 (by kernel_rfl)
    (of_decide_eq_true (by kernel_rfl)) (by unfold Func.isWrapper; first | (rw [if_pos (by decide +kernel)]; kernel_rfl) | (rw [if_neg (by decide +kernel)]; exact ⟨rfl, rfl⟩))
    (fun os started H enc _ => lifted os started H enc)
end Go.Proofs.Ytkinbknflkenpaa.levelLine
namespace Go.Proofs.Ytkinbknflkenpaa
/-- The statement. -/
theorem levelLine_holds : Rows.LevelLineSaid := levelLine.holds
end Go.Proofs.Ytkinbknflkenpaa
