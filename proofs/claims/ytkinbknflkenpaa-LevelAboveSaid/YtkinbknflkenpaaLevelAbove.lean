/- Of the program at this commit: the law LevelAbove answers true for any two numbers and any two whole ones (what is above a whole number is above all lesser ones, and so is each number behind it in the line, but a NaN); no condition. -/
import Derived.Test.YtkinbknflkenpaaRows
import Derived.WalkKit
import Derived.ProofKit
import Derived.OpenShut
import Derived.WideKeyPair
import Derived.Test.YtkinbknflkenpaaAb
namespace Go.Proofs.Ytkinbknflkenpaa.levelAbove
open Go.ChangeShapes Go.WideShapes Go.ChangeAt Go.RowKit Fl
set_option linter.unusedVariables false

theorem nan_abv {x : Nat} {n : Int} (h : isNan x = true) : abv x n = false := by unfold abv; rw [h]; rfl
theorem less_abv {x : Nat} {n m : Int} (h : abv x n = true) (hm : m ≤ n) : abv x m = true := by
  unfold abv at *
  cases g : isNan x <;> rw [g] at h
  · simp only [Bool.not_false, Bool.true_and] at h ⊢
    have h := of_decide_eq_true h
    have : m * (Un : Int) ≤ n * (Un : Int) := Int.mul_le_mul_of_nonneg_right hm (by omega)
    exact decide_eq_true (by omega)
  · simp at h
theorem SV_le {x y : Nat} (hx : isNan x = false) (hy : isNan y = false) (h : place x ≤ place y) : SV x ≤ SV y := by
  rw [place_num hx, place_num hy] at h
  unfold SV
  by_cases a : x < 9223372036854775808 <;> by_cases b : y < 9223372036854775808
  · rw [if_pos a, if_pos b] at *
    have := (V_le (r := x) (s := y)).2 (by omega); omega
  · rw [if_pos a, if_neg b] at h; omega
  · rw [if_neg a, if_pos b]; omega
  · rw [if_neg a, if_neg b] at *
    have := (V_le (r := y - 9223372036854775808) (s := x - 9223372036854775808)).2 (by omega); omega
theorem more_abv {x y : Nat} {n : Int} (h : abv x n = true) (ho : ordI x y ≤ 0) (hy : isNan y = false) : abv y n = true := by
  have hp : place x ≤ place y := by
    unfold ordI at ho
    split at ho
    · omega
    · split at ho
      · exact absurd ho (by decide)
      · omega
  unfold abv at *
  cases g : isNan x <;> rw [g] at h
  · simp only [Bool.not_false, Bool.true_and] at h
    have h := of_decide_eq_true h
    have := SV_le g hy hp
    rw [hy]
    simp only [Bool.not_false, Bool.true_and]
    exact decide_eq_true (by omega)
  · simp at h
theorem neq_self {x : Nat} (hx : x < 18446744073709551616) : (FloatKind.f64.format.order x x != some .eq) = isNan x := by
  cases h : isNan x
  · rw [show FloatKind.f64.format = Ieee.double from rfl, order_key hx hx h h, Int.compare_eq_eq.2 rfl]; rfl
  · rw [show FloatKind.f64.format = Ieee.double from rfl, order_nan hx hx (.inl h)]; rfl
theorem eq_self {x : Nat} (hx : x < 18446744073709551616) : (FloatKind.f64.format.order x x == some .eq) = !isNan x := by
  have := neq_self hx
  rw [← this]; simp [bne]
theorem Grown.drewN {w w' : World} (h : Go.RowKit.Grown w w') (n : Nat) : Go.RowKit.Grown w (w'.drewN n) := h

set_option maxHeartbeats 1000000 in
theorem walk (a0 : Nat) (a1 : Nat) (a2 ba2 : Int) (w0 : a0 < 18446744073709551616) (w1 : a1 < 18446744073709551616) (w2 : (Lit.int .i64 a2).wf = true) (uw2 : (Lit.int .i64 ba2).wf = true) (w : World) :
    Calls Try.prog 9 #[.float .f64 a0, .float .f64 a1, .agg #[.int .i64 a2, .int .i64 ba2]] w fun e w' => e = .returned (.bool true) ∧ Grown w w' := by
  have HA := above_any a0 a2 w0 w2
  have HL := above_any a0 ba2 w0 uw2
  have HB := above_any a1 a2 w1 w2
  have HO := order_any a0 a1 w0 w1
  have nA := neq_self w0
  have nB := eq_self w1
  cases x : abv a0 a2
  · rw [x] at HA
    clear x
    generalize isNan a0 = N at *
    go_enter Try.func9, Try.ntmps9
    go_wp2_with (first | (go_at_call 11; refine (alive_any _).mono ?_; rintro e w' ⟨rfl, _, rfl⟩) | ((with_reducible refine (HA _).mono ?_); rintro e w' ⟨rfl, rfl⟩))
    all_goals
      go_ret
      exact ⟨rfl, Grown.drewN ((Go.RowKit.Grown.refl _).alloc _ _) _⟩
  · have nn : isNan a0 = false := by
      cases g : isNan a0
      · rfl
      · rw [nan_abv g] at x; exact absurd x (by decide)
    rw [nn] at nA
    rw [x] at HA
    have l1 := fun h : ba2 ≤ a2 => less_abv x h
    have l2 := fun (h : ordI a0 a1 ≤ 0) (g : isNan a1 = false) => more_abv x h g
    by_cases c1 : ba2 ≤ a2
    · rw [l1 c1] at HL
      by_cases c2 : ordI a0 a1 ≤ 0
      · cases c3 : isNan a1 <;> rw [c3] at nB
        · rw [l2 c2 c3] at HB
          clear l1 l2 x nn c3
          generalize ordI a0 a1 = O at *
          go_enter Try.func9, Try.ntmps9
          go_wp2_with (first | (go_at_call 11; refine (alive_any _).mono ?_; rintro e w' ⟨rfl, _, rfl⟩) | ((with_reducible refine (HA _).mono ?_); rintro e w' ⟨rfl, rfl⟩) | ((with_reducible refine (HL _).mono ?_); rintro e w' ⟨rfl, rfl⟩) | ((with_reducible refine (HB _).mono ?_); rintro e w' ⟨rfl, rfl⟩) | ((with_reducible refine (HO _).mono ?_); rintro e w' ⟨rfl, rfl⟩))
          all_goals
            go_ret
            exact ⟨rfl, Grown.drewN ((Go.RowKit.Grown.refl _).alloc _ _) _⟩
        · clear l1 l2 x nn c3
          generalize ordI a0 a1 = O at *
          go_enter Try.func9, Try.ntmps9
          go_wp2_with (first | (go_at_call 11; refine (alive_any _).mono ?_; rintro e w' ⟨rfl, _, rfl⟩) | ((with_reducible refine (HA _).mono ?_); rintro e w' ⟨rfl, rfl⟩) | ((with_reducible refine (HL _).mono ?_); rintro e w' ⟨rfl, rfl⟩) | ((with_reducible refine (HB _).mono ?_); rintro e w' ⟨rfl, rfl⟩) | ((with_reducible refine (HO _).mono ?_); rintro e w' ⟨rfl, rfl⟩))
          all_goals
            go_ret
            exact ⟨rfl, Grown.drewN ((Go.RowKit.Grown.refl _).alloc _ _) _⟩
      · clear l1 l2 x nn
        generalize ordI a0 a1 = O at *
        go_enter Try.func9, Try.ntmps9
        go_wp2_with (first | (go_at_call 11; refine (alive_any _).mono ?_; rintro e w' ⟨rfl, _, rfl⟩) | ((with_reducible refine (HA _).mono ?_); rintro e w' ⟨rfl, rfl⟩) | ((with_reducible refine (HL _).mono ?_); rintro e w' ⟨rfl, rfl⟩) | ((with_reducible refine (HB _).mono ?_); rintro e w' ⟨rfl, rfl⟩) | ((with_reducible refine (HO _).mono ?_); rintro e w' ⟨rfl, rfl⟩))
        all_goals
          go_ret
          exact ⟨rfl, Grown.drewN ((Go.RowKit.Grown.refl _).alloc _ _) _⟩
    · by_cases c2 : ordI a0 a1 ≤ 0
      · cases c3 : isNan a1 <;> rw [c3] at nB
        · rw [l2 c2 c3] at HB
          clear l1 l2 x nn c3
          generalize ordI a0 a1 = O at *
          go_enter Try.func9, Try.ntmps9
          go_wp2_with (first | (go_at_call 11; refine (alive_any _).mono ?_; rintro e w' ⟨rfl, _, rfl⟩) | ((with_reducible refine (HA _).mono ?_); rintro e w' ⟨rfl, rfl⟩) | ((with_reducible refine (HL _).mono ?_); rintro e w' ⟨rfl, rfl⟩) | ((with_reducible refine (HB _).mono ?_); rintro e w' ⟨rfl, rfl⟩) | ((with_reducible refine (HO _).mono ?_); rintro e w' ⟨rfl, rfl⟩))
          all_goals
            go_ret
            exact ⟨rfl, Grown.drewN ((Go.RowKit.Grown.refl _).alloc _ _) _⟩
        · clear l1 l2 x nn c3
          generalize ordI a0 a1 = O at *
          go_enter Try.func9, Try.ntmps9
          go_wp2_with (first | (go_at_call 11; refine (alive_any _).mono ?_; rintro e w' ⟨rfl, _, rfl⟩) | ((with_reducible refine (HA _).mono ?_); rintro e w' ⟨rfl, rfl⟩) | ((with_reducible refine (HL _).mono ?_); rintro e w' ⟨rfl, rfl⟩) | ((with_reducible refine (HB _).mono ?_); rintro e w' ⟨rfl, rfl⟩) | ((with_reducible refine (HO _).mono ?_); rintro e w' ⟨rfl, rfl⟩))
          all_goals
            go_ret
            exact ⟨rfl, Grown.drewN ((Go.RowKit.Grown.refl _).alloc _ _) _⟩
      · clear l1 l2 x nn
        generalize ordI a0 a1 = O at *
        go_enter Try.func9, Try.ntmps9
        go_wp2_with (first | (go_at_call 11; refine (alive_any _).mono ?_; rintro e w' ⟨rfl, _, rfl⟩) | ((with_reducible refine (HA _).mono ?_); rintro e w' ⟨rfl, rfl⟩) | ((with_reducible refine (HL _).mono ?_); rintro e w' ⟨rfl, rfl⟩) | ((with_reducible refine (HB _).mono ?_); rintro e w' ⟨rfl, rfl⟩) | ((with_reducible refine (HO _).mono ?_); rintro e w' ⟨rfl, rfl⟩))
        all_goals
          go_ret
          exact ⟨rfl, Grown.drewN ((Go.RowKit.Grown.refl _).alloc _ _) _⟩

/-! ### The row's frame -/
theorem own : ownKnob Try.prog.godebug = none := by kernel_rfl
theorem arr2 : Go.WideMaps.ArrKey Try.prog 39 3 2 := ⟨Try.underlying39, by kernel_rfl, by kernel_rfl, by kernel_rfl⟩
set_option maxRecDepth 100000 in
theorem lifted (os : Os) (started : os.Started) (H : Type) (enc : TypeId × Value → H) :
    ReturnsInHanded {} Try.checked os 9 .any (Rows.levelAboveSpec.pre6 enc Try.prog Try.f9 Rows.levelAboveRow.domain false) (Rows.levelAboveSpec.post enc Try.prog Try.f9 false true false false) := by
  refine returnsInHanded_of_change (C := Try.checked) own started (by kernel_rfl) Try.func9
    (ChangeSpec.witness6 (enc := enc) (C := Try.checked) false ⟨#[], #[.float .f64 0, .float .f64 0, .agg #[.int .i64 0, .int .i64 0]], []⟩ 8 (by kernel_rfl) (by kernel_rfl) (by kernel_rfl) (by kernel_rfl)) ?_
  intro W base args ds gs before hval0 hW hcnd _
  have hval : ∀ (j : Nat) t v, Try.f9.params[j]? = some t → args[j]? = some v → Value.okWide Try.prog W .any base t v := hval0
  have hW' := hW
  obtain ⟨p, q, hA0, hV, rfl, hfz, hnd⟩ := hW
  have hA : DataW.TrodAll enc Try.prog W 0 (fun _ => true) true Try.f9.params.toList args.toList ds p := hA0
  rw [Try.params9] at hA hval
  obtain ⟨v0, vs0, d0, ds0, p0, q0, hargs, rfl, rfl, h0, r0⟩ := trodAll_cons hA
  obtain ⟨v1, vs1, d1, ds1, p1, q1, rfl, rfl, rfl, h1, r1⟩ := trodAll_cons r0
  obtain ⟨v2, vs2, d2, ds2, p2, q2, rfl, rfl, rfl, h2, r2⟩ := trodAll_cons r1
  obtain ⟨rfl, rfl, rfl⟩ := trodAll_nil r2
  obtain rfl : args = #[v0, v1, v2] := by cases args; simp_all
  obtain ⟨rfl, rfl⟩ := trodVars_none hV
  obtain ⟨a0, rfl, rfl, rfl, w0⟩ := open_float Try.underlying22 (hval 0 22 v0 rfl rfl) h0
  obtain ⟨a1, rfl, rfl, rfl, w1⟩ := open_float Try.underlying22 (hval 1 22 v1 rfl rfl) h1
  obtain ⟨a2, ba2, rfl, rfl, rfl, w2, uw2⟩ := Go.WideMaps.open_pair arr2 Try.underlying3 (hval 2 39 v2 rfl rfl) h2
  clear hA0 hval0
  simp only [List.append_nil] at hW'
  refine (walk a0 a1 a2 ba2 (by simpa [Lit.wf] using w0) (by simpa [Lit.wf] using w1) w2 uw2 W).mono fun e W' ⟨he, hg⟩ => ?_
  subst he
  exact ⟨_, rfl, post_of_same (pa := []) (pv := []) hW' (fun _ _ _ => (trodAll_cons_mk (shut_bool Try.underlying4 _) trodAll_mk0)) (fun sp _ => (trodAll_cons_mk (shut_float Try.underlying22 w0) (trodAll_cons_mk (shut_float Try.underlying22 w1) (trodAll_cons_mk (Go.WideMaps.shut_pair arr2 Try.underlying3 w2 uw2) trodAll_mk0)))) (fun _ _ => rfl) rfl
    (hg.frame _) hg.2.1 (ok_one (by kernel_rfl) rfl (okWide_bool_mk Try.underlying4 _))⟩

theorem holds : Rows.levelAboveRow.holds Try.pinned (OpenSpec.ofChange Rows.levelAboveSpec) :=
  OpenClaim.holds_of_wide 9 Try.f9 rfl rfl rfl rfl rfl rfl rfl ⟨rfl, rfl, rfl, rfl, rfl⟩ rfl rfl rfl rfl rfl (by kernel_rfl) Try.func9 (by kernel_rfl)
    (of_decide_eq_true (by kernel_rfl)) (by unfold Func.isWrapper; first | (rw [if_pos (by decide +kernel)]; kernel_rfl) | (rw [if_neg (by decide +kernel)]; exact ⟨rfl, rfl⟩))
    (fun os started H enc _ => lifted os started H enc)
end Go.Proofs.Ytkinbknflkenpaa.levelAbove
namespace Go.Proofs.Ytkinbknflkenpaa
/-- The statement. -/
theorem levelAbove_holds : Rows.LevelAboveSaid := levelAbove.holds
end Go.Proofs.Ytkinbknflkenpaa
