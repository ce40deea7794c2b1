/- What the functions 'Above' of package level answers, against plain mathematics. -/
import Derived.Test.YtkinbknflkenpaaLv
import Derived.Test.YtkinbknflkenpaaFa
namespace Go.Proofs.Ytkinbknflkenpaa
open Go.RowKit Fl

theorem conv_i64 {x : Nat} (hx : x < 18446744073709551616) (hf : x % 9223372036854775808 < 9218868437227405312) (b1 : -9223372036854775808 ≤ whole x) (b2 : whole x ≤ 9223372036854775807) (w : World) :
    (convert 22 2 (.float .f64 x)).run Try.prog w = .ok (.int .i64 (whole x)) w := by
  refine run_convert_float_int w _ _ .f64 .i64 x (whole x) (by rw [Try.underlying22]; rfl) Try.underlying2 ?_
  unfold floatToIntVal
  have e : (FloatKind.f64.decode x).toInt .zero = some (whole x) := toInt_fin hx hf
  rw [e]
  have m1 : IntKind.i64.min = -9223372036854775808 := by decide
  have m2 : IntKind.i64.max = 9223372036854775807 := by decide
  simp only [m1, m2]
  rw [if_pos ⟨b1, b2⟩]

theorem back_f64 {n : Int} {y : Nat} (h : Ieee.double.write (.number (decide (n < 0)) n.natAbs 0) = y) : floatOfInt .f64 n = y := h

theorem above_any (x : Nat) (n : Int) (hx : x < 18446744073709551616) (hn : (Lit.int .i64 n).wf = true) (w : World) :
    Calls Try.prog 14 #[.float .f64 x, .int .i64 n] w fun e w' => e = .returned (.bool (abv x n)) ∧ w = w' := by
  have hn := i64_of_wf hn
  have HN := isnan_any x hx
  unfold abv
  cases hq : isNan x <;> rw [hq] at HN
  · have hk := of_decide_eq_false hq
    by_cases g1 : 4890909195324358656 ≤ x ∧ x < 9223372036854775808
    · have H : (FloatKind.f64.format.order x 4890909195324358656 == some .gt || FloatKind.f64.format.order x 4890909195324358656 == some .eq) = true := by
        rcases Nat.eq_or_lt_of_le g1.1 with h | h
        · rw [ord_eq (by omega) h.symm]; rfl
        · rw [ord_gt (by omega) h]; rfl
      rw [decide_eq_true (above_top g1.1 g1.2 n hn.2)]
      go_enter Try.func14, Try.ntmps14
      go_wp2_with ((with_reducible refine (HN _).mono ?_); rintro e w' ⟨rfl, rfl⟩)
      go_ret
      exact ⟨rfl, rfl⟩
    · have HO : FloatKind.f64.format.order x 4890909195324358656 = some .lt := by
        rw [show FloatKind.f64.format = Ieee.double from rfl, order_key hx (by omega) hq (by decide), Int.compare_eq_lt.2]
        unfold key; rw [if_pos (by omega : (4890909195324358656 : Nat) < 9223372036854775808)]; split <;> omega
      have H : (FloatKind.f64.format.order x 4890909195324358656 == some .gt || FloatKind.f64.format.order x 4890909195324358656 == some .eq) = false := by rw [HO]; rfl
      clear HO
      have hok : FloatKind.f64.format.order x 14114281232179134464 = some (compare (key x) (-4890909195324358656)) := by
        rw [show FloatKind.f64.format = Ieee.double from rfl, order_key hx (by omega) hq (by decide)]; rfl
      by_cases g2 : 14114281232179134464 < x
      · have H2 : (FloatKind.f64.format.order x 14114281232179134464 == some .lt) = true := by
          rw [hok, Int.compare_eq_lt.2]; · rfl
          unfold key; rw [if_neg (by omega)]; omega
        clear hok
        rw [decide_eq_false (above_low g2 n hn.1)]
        go_enter Try.func14, Try.ntmps14
        go_wp2_with ((with_reducible refine (HN _).mono ?_); rintro e w' ⟨rfl, rfl⟩)
        go_ret
        exact ⟨rfl, rfl⟩
      · have H2 : (FloatKind.f64.format.order x 14114281232179134464 == some .lt) = false := by
          rw [hok]
          have : -4890909195324358656 ≤ key x := by unfold key; split <;> omega
          rcases Int.lt_or_eq_of_le this with h | h
          · rw [Int.compare_eq_gt.2 h]; rfl
          · rw [Int.compare_eq_eq.2 h.symm]; rfl
        clear hok
        have hf : x % 9223372036854775808 < 9218868437227405312 := by omega
        obtain ⟨b1, b2⟩ := whole_fits hx (fun h => by omega) (fun _ => by omega)
        have CV := conv_i64 hx hf b1 b2
        obtain ⟨y, hy, y1, y2, y3⟩ := whole_exact hx hf
        have HG : (FloatKind.f64.format.order x y == some .gt) = decide (whole x * (Un : Int) < SV x) := by
          rw [← y3]; exact order_gt hx y1 hf y2
        have hs := split_abv hx n
        rw [show decide (n * (Un : Int) < SV x) = decide (whole x > n ∨ whole x = n ∧ whole x * (Un : Int) < SV x) from decide_eq_decide.2 hs.symm]
        clear hs y3
        generalize whole x = z at *
        have hy := back_f64 hy
        by_cases c1 : z > n
        · rw [decide_eq_true (Or.inl c1)]
          clear HG
          go_enter Try.func14, Try.ntmps14
          go_wp2_with ((with_reducible refine (HN _).mono ?_); rintro e w' ⟨rfl, rfl⟩)
          go_ret
          exact ⟨rfl, rfl⟩
        · by_cases c2 : z = n
          · subst c2
            by_cases hd : z * (Un : Int) < SV x
            · rw [decide_eq_true hd] at HG
              rw [decide_eq_true (Or.inr ⟨rfl, hd⟩)]
              clear hd
              go_enter Try.func14, Try.ntmps14
              go_wp2_with ((with_reducible refine (HN _).mono ?_); rintro e w' ⟨rfl, rfl⟩)
              go_ret
              exact ⟨rfl, rfl⟩
            · rw [decide_eq_false hd] at HG
              rw [decide_eq_false (show ¬ (z > z ∨ z = z ∧ z * (Un : Int) < SV x) from fun h => h.elim (fun g => c1 g) (fun g => hd g.2))]
              clear hd
              go_enter Try.func14, Try.ntmps14
              go_wp2_with ((with_reducible refine (HN _).mono ?_); rintro e w' ⟨rfl, rfl⟩)
              go_ret
              exact ⟨rfl, rfl⟩
          · rw [decide_eq_false (show ¬ (z > n ∨ z = n ∧ z * (Un : Int) < SV x) from fun h => h.elim (fun g => c1 g) (fun g => c2 g.1))]
            clear HG
            have c3 : z < n := by omega
            clear c1 c2
            go_enter Try.func14, Try.ntmps14
            go_wp2_with ((with_reducible refine (HN _).mono ?_); rintro e w' ⟨rfl, rfl⟩)
            go_ret
            exact ⟨by rw [show (decide (n < z)) = false from decide_eq_false (by omega)]; rfl, rfl⟩
  · have HO : FloatKind.f64.format.order x 4890909195324358656 = none := order_nan hx (by omega) (.inl hq)
    have H : (FloatKind.f64.format.order x 4890909195324358656 == some .gt || FloatKind.f64.format.order x 4890909195324358656 == some .eq) = false := by rw [HO]; rfl
    clear HO
    go_enter Try.func14, Try.ntmps14
    go_wp2_with ((with_reducible refine (HN _).mono ?_); rintro e w' ⟨rfl, rfl⟩)
    go_ret
    exact ⟨rfl, rfl⟩

end Go.Proofs.Ytkinbknflkenpaa
