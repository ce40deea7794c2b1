/- Of the program at this commit: the law LevelMore answers true for any part, total and two levels (what is more than a share stays so with one more part, with a lesser total, of a lesser level; a whole is more than no share of itself but one below 1); no condition. -/
import Derived.Test.YtkinbknflkenpaaRows
import Derived.WalkKit
import Derived.ProofKit
import Derived.OpenShut
import Derived.WideKeyPair
import Derived.Test.YtkinbknflkenpaaLv
import Derived.Test.YtkinbknflkenpaaFp
namespace Go.Proofs.Ytkinbknflkenpaa.levelMore
open Go.ChangeShapes Go.WideShapes Go.ChangeAt Go.RowKit Fl
set_option linter.unusedVariables false

theorem place_pos {x : Nat} (h : x ≤ 4607182418800017408) : place x = (x : Int) := by
  rw [place_num (isnan_pos (by omega)), if_pos (by omega)]
theorem ex_ok {p t : Int} {f : Nat} (h : exE p t f = 0) : lvOk f = true ∧ 0 ≤ p ∧ 0 ≤ t ∧ t ≤ 1125899906842624 := by
  unfold exE at h
  cases a : lvOk f
  · simp [a] at h
  · cases b : ptOk p t
    · simp [a, b] at h
    · exact ⟨rfl, of_decide_eq_true b⟩
theorem ex_of {p t : Int} {f : Nat} (h : lvOk f = true) (h1 : 0 ≤ p) (h2 : 0 ≤ t) (h3 : t ≤ 1125899906842624) : exE p t f = 0 ∧ exB p t f = decide (t.toNat * V f / Un < p.toNat) := by
  have b : ptOk p t = true := decide_eq_true ⟨h1, h2, h3⟩
  unfold exE exB
  rw [h, b]; exact ⟨rfl, by simp⟩
theorem ex_no {p t : Int} {f : Nat} (h : exE p t f ≠ 0) : exB p t f = false := by
  unfold exE at h
  unfold exB
  cases a : lvOk f
  · rfl
  · cases b : ptOk p t
    · rfl
    · rw [a, b] at h; exact absurd rfl h
theorem lv_le {f g : Nat} (hf : lvOk f = true) (hg : lvOk g = true) (h : ordI g f ≤ 0) : g ≤ f := by
  have hf := of_decide_eq_true hf
  have hg := of_decide_eq_true hg
  unfold ordI at h
  rw [place_pos hf.2, place_pos hg.2] at h
  split at h
  · omega
  · split at h
    · exact absurd h (by decide)
    · omega
theorem lv_one {f : Nat} (hf : lvOk f = true) : ordI f 4607182418800017408 < 0 ↔ V f < Un := by
  have hf := of_decide_eq_true hf
  rw [← V_one, V_lt_iff]
  unfold ordI
  rw [place_pos hf.2, place_pos (Nat.le_refl _)]
  constructor
  · intro h
    split at h
    · omega
    · split at h <;> exact absurd h (by decide)
  · intro h
    rw [if_pos (by omega)]; decide
theorem whole_share {t : Int} {f : Nat} (h : lvOk f = true) (h2 : 0 ≤ t) (h3 : t ≤ 1125899906842624) : exB t t f = (decide (0 < t) && decide (ordI f 4607182418800017408 < 0)) := by
  rw [(ex_of h h2 h2 h3).2]
  by_cases a : 0 < t
  · rw [decide_eq_true a, Bool.true_and]
    apply decide_eq_decide.2
    rw [lv_one h, Nat.div_lt_iff_lt_mul Un_pos]
    exact Nat.mul_lt_mul_left (by omega)
  · have : t.toNat = 0 := by omega
    rw [decide_eq_false a, Bool.false_and, this]; simp
theorem ret_any {a : Bool} (h : a = true) : Ending.returned (.bool a) = Ending.returned (.bool true) := by rw [h]
theorem Grown.drewN {w w' : World} (h : Go.RowKit.Grown w w') (n : Nat) : Go.RowKit.Grown w (w'.drewN n) := h

set_option maxRecDepth 100000 in
set_option maxHeartbeats 4000000 in
theorem walk (a0 : Int) (a1 : Int) (a2 ba2 : Nat) (w0 : (Lit.int .i64 a0).wf = true) (w1 : (Lit.int .i64 a1).wf = true) (w2 : a2 < 18446744073709551616) (uw2 : ba2 < 18446744073709551616) (w : World) :
    Calls Try.prog 8 #[.int .i64 a0, .int .i64 a1, .agg #[.float .f64 a2, .float .f64 ba2]] w fun e w' => e = .returned (.bool true) ∧ Grown w w' := by
  have b0 := i64_of_wf w0
  have HF := exceeds_any a0 a1 a2 w2 b0.2
  by_cases hz : exE a0 a1 a2 = 0
  · obtain ⟨g1, g2, g3, g4⟩ := ex_ok hz
    obtain ⟨-, eB⟩ := ex_of g1 g2 g3 g4
    have HP1 := fun h : a0 < 1125899906842624 => exceeds_any (a0 + 1) a1 a2 w2 (by omega)
    have HT1 := fun h : 0 < a1 => exceeds_any a0 (a1 - 1) a2 w2 b0.2
    have HG := exceeds_any a0 a1 ba2 uw2 b0.2
    have HO := order_any ba2 a2 uw2 w2
    have HO1 := order_any a2 4607182418800017408 w2 (by omega)
    have HC := exceeds_any a1 a1 a2 w2 (by omega)
    rw [(ex_of g1 g3 g3 g4).1, whole_share g1 g3 g4] at HC
    have q1 : exE (a0 + 1) a1 a2 = 0 := (ex_of g1 (by omega) g3 g4).1
    have q1' : exB a0 a1 a2 = true → exB (a0 + 1) a1 a2 = true := by
      intro h
      rw [eB] at h
      rw [(ex_of g1 (by omega) g3 g4).2]
      have := of_decide_eq_true h
      exact decide_eq_true (by omega)
    have q2 : 0 < a1 → exE a0 (a1 - 1) a2 = 0 := fun h => (ex_of g1 g2 (by omega) (by omega)).1
    have q2' : 0 < a1 → exB a0 a1 a2 = true → exB a0 (a1 - 1) a2 = true := by
      intro h0 h
      rw [eB] at h
      rw [(ex_of g1 g2 (by omega) (by omega)).2]
      have h := of_decide_eq_true h
      refine decide_eq_true (Nat.lt_of_le_of_lt (Nat.div_le_div_right (Nat.mul_le_mul_right _ ?_)) h)
      omega
    have q3 : exE a0 a1 ba2 = 0 → ordI ba2 a2 ≤ 0 → exB a0 a1 a2 = true → exB a0 a1 ba2 = true := by
      intro h0 h1 h
      obtain ⟨k1, -⟩ := ex_ok h0
      rw [eB] at h
      rw [(ex_of k1 g2 g3 g4).2]
      have h := of_decide_eq_true h
      have := V_le.2 (lv_le g1 k1 h1)
      exact decide_eq_true (Nat.lt_of_le_of_lt (Nat.div_le_div_right (Nat.mul_le_mul_left _ this)) h)
    rw [q1] at HP1
    rw [hz] at HF
    clear eB q1 hz g1
    generalize exB (a0 + 1) a1 a2 = B1 at *
    generalize exE a0 a1 ba2 = Z3 at *
    generalize exB a0 a1 ba2 = B3 at *
    generalize ordI ba2 a2 = O at *
    generalize ordI a2 4607182418800017408 = O1 at *
    cases hA : exB a0 a1 a2
    · rw [hA] at HF
      clear q1' q2' q3 hA
      by_cases c1 : a0 < 1125899906842624
      · have HP := HP1 c1
        by_cases c2 : 0 < a1
        · have HT := HT1 c2
          rw [q2 c2] at HT
          rw [decide_eq_true c2, Bool.true_and] at HC
          generalize exB a0 (a1 - 1) a2 = B2 at *
          clear HP1 HT1 q2
          go_enter Try.func8, Try.ntmps8
          go_wp2_with (first | (go_at_call 11; refine (alive_any _).mono ?_; rintro e w' ⟨rfl, _, rfl⟩) | ((with_reducible refine (HF _).mono ?_); rintro e w' ⟨rfl, _, rfl⟩) | ((with_reducible refine (HP _).mono ?_); rintro e w' ⟨rfl, _, rfl⟩) | ((with_reducible refine (HT _).mono ?_); rintro e w' ⟨rfl, _, rfl⟩) | ((with_reducible refine (HG _).mono ?_); rintro e w' ⟨rfl, _, rfl⟩) | ((with_reducible refine (HO _).mono ?_); rintro e w' ⟨rfl, rfl⟩) | ((with_reducible refine (HO1 _).mono ?_); rintro e w' ⟨rfl, rfl⟩) | ((with_reducible refine (HC _).mono ?_); rintro e w' ⟨rfl, _, rfl⟩))
          all_goals
            go_ret
            exact ⟨ret_any (by first | rfl | (simp; done)), Grown.drewN ((Go.RowKit.Grown.refl _).alloc _ _) _⟩
        · rw [decide_eq_false c2, Bool.false_and] at HC
          clear HP1 HT1 q2
          go_enter Try.func8, Try.ntmps8
          go_wp2_with (first | (go_at_call 11; refine (alive_any _).mono ?_; rintro e w' ⟨rfl, _, rfl⟩) | ((with_reducible refine (HF _).mono ?_); rintro e w' ⟨rfl, _, rfl⟩) | ((with_reducible refine (HP _).mono ?_); rintro e w' ⟨rfl, _, rfl⟩) | ((with_reducible refine (HG _).mono ?_); rintro e w' ⟨rfl, _, rfl⟩) | ((with_reducible refine (HO _).mono ?_); rintro e w' ⟨rfl, rfl⟩) | ((with_reducible refine (HO1 _).mono ?_); rintro e w' ⟨rfl, rfl⟩) | ((with_reducible refine (HC _).mono ?_); rintro e w' ⟨rfl, _, rfl⟩))
          all_goals
            go_ret
            exact ⟨ret_any (by first | rfl | (simp; done)), Grown.drewN ((Go.RowKit.Grown.refl _).alloc _ _) _⟩
      · by_cases c2 : 0 < a1
        · have HT := HT1 c2
          rw [q2 c2] at HT
          rw [decide_eq_true c2, Bool.true_and] at HC
          generalize exB a0 (a1 - 1) a2 = B2 at *
          clear HP1 HT1 q2
          go_enter Try.func8, Try.ntmps8
          go_wp2_with (first | (go_at_call 11; refine (alive_any _).mono ?_; rintro e w' ⟨rfl, _, rfl⟩) | ((with_reducible refine (HF _).mono ?_); rintro e w' ⟨rfl, _, rfl⟩) | ((with_reducible refine (HT _).mono ?_); rintro e w' ⟨rfl, _, rfl⟩) | ((with_reducible refine (HG _).mono ?_); rintro e w' ⟨rfl, _, rfl⟩) | ((with_reducible refine (HO _).mono ?_); rintro e w' ⟨rfl, rfl⟩) | ((with_reducible refine (HO1 _).mono ?_); rintro e w' ⟨rfl, rfl⟩) | ((with_reducible refine (HC _).mono ?_); rintro e w' ⟨rfl, _, rfl⟩))
          all_goals
            go_ret
            exact ⟨ret_any (by first | rfl | (simp; done)), Grown.drewN ((Go.RowKit.Grown.refl _).alloc _ _) _⟩
        · rw [decide_eq_false c2, Bool.false_and] at HC
          clear HP1 HT1 q2
          go_enter Try.func8, Try.ntmps8
          go_wp2_with (first | (go_at_call 11; refine (alive_any _).mono ?_; rintro e w' ⟨rfl, _, rfl⟩) | ((with_reducible refine (HF _).mono ?_); rintro e w' ⟨rfl, _, rfl⟩) | ((with_reducible refine (HG _).mono ?_); rintro e w' ⟨rfl, _, rfl⟩) | ((with_reducible refine (HO _).mono ?_); rintro e w' ⟨rfl, rfl⟩) | ((with_reducible refine (HO1 _).mono ?_); rintro e w' ⟨rfl, rfl⟩) | ((with_reducible refine (HC _).mono ?_); rintro e w' ⟨rfl, _, rfl⟩))
          all_goals
            go_ret
            exact ⟨ret_any (by first | rfl | (simp; done)), Grown.drewN ((Go.RowKit.Grown.refl _).alloc _ _) _⟩
    · rw [hA] at HF
      have q1 := q1' hA
      subst q1
      clear q1'
      have q3 := fun a b => q3 a b hA
      have q2' := fun a => q2' a hA
      clear hA
      by_cases c1 : a0 < 1125899906842624
      · have HP := HP1 c1
        by_cases c2 : 0 < a1
        · have HT := HT1 c2
          rw [q2 c2] at HT
          rw [decide_eq_true c2, Bool.true_and] at HC
          rw [q2' c2] at HT
          clear q2'
          clear HP1 HT1 q2
          by_cases z : Z3 = 0
          · by_cases o : O ≤ 0
            · have q3 := q3 z o
              subst q3
              subst z
              go_enter Try.func8, Try.ntmps8
              go_wp2_with (first | (go_at_call 11; refine (alive_any _).mono ?_; rintro e w' ⟨rfl, _, rfl⟩) | ((with_reducible refine (HF _).mono ?_); rintro e w' ⟨rfl, _, rfl⟩) | ((with_reducible refine (HP _).mono ?_); rintro e w' ⟨rfl, _, rfl⟩) | ((with_reducible refine (HT _).mono ?_); rintro e w' ⟨rfl, _, rfl⟩) | ((with_reducible refine (HG _).mono ?_); rintro e w' ⟨rfl, _, rfl⟩) | ((with_reducible refine (HO _).mono ?_); rintro e w' ⟨rfl, rfl⟩) | ((with_reducible refine (HO1 _).mono ?_); rintro e w' ⟨rfl, rfl⟩) | ((with_reducible refine (HC _).mono ?_); rintro e w' ⟨rfl, _, rfl⟩))
              all_goals
                go_ret
                exact ⟨ret_any (by first | rfl | (simp; done)), Grown.drewN ((Go.RowKit.Grown.refl _).alloc _ _) _⟩
            · subst z
              clear q3
              go_enter Try.func8, Try.ntmps8
              go_wp2_with (first | (go_at_call 11; refine (alive_any _).mono ?_; rintro e w' ⟨rfl, _, rfl⟩) | ((with_reducible refine (HF _).mono ?_); rintro e w' ⟨rfl, _, rfl⟩) | ((with_reducible refine (HP _).mono ?_); rintro e w' ⟨rfl, _, rfl⟩) | ((with_reducible refine (HT _).mono ?_); rintro e w' ⟨rfl, _, rfl⟩) | ((with_reducible refine (HG _).mono ?_); rintro e w' ⟨rfl, _, rfl⟩) | ((with_reducible refine (HO _).mono ?_); rintro e w' ⟨rfl, rfl⟩) | ((with_reducible refine (HO1 _).mono ?_); rintro e w' ⟨rfl, rfl⟩) | ((with_reducible refine (HC _).mono ?_); rintro e w' ⟨rfl, _, rfl⟩))
              all_goals
                go_ret
                exact ⟨ret_any (by first | rfl | (simp; done)), Grown.drewN ((Go.RowKit.Grown.refl _).alloc _ _) _⟩
          · clear q3
            go_enter Try.func8, Try.ntmps8
            go_wp2_with (first | (go_at_call 11; refine (alive_any _).mono ?_; rintro e w' ⟨rfl, _, rfl⟩) | ((with_reducible refine (HF _).mono ?_); rintro e w' ⟨rfl, _, rfl⟩) | ((with_reducible refine (HP _).mono ?_); rintro e w' ⟨rfl, _, rfl⟩) | ((with_reducible refine (HT _).mono ?_); rintro e w' ⟨rfl, _, rfl⟩) | ((with_reducible refine (HG _).mono ?_); rintro e w' ⟨rfl, _, rfl⟩) | ((with_reducible refine (HO _).mono ?_); rintro e w' ⟨rfl, rfl⟩) | ((with_reducible refine (HO1 _).mono ?_); rintro e w' ⟨rfl, rfl⟩) | ((with_reducible refine (HC _).mono ?_); rintro e w' ⟨rfl, _, rfl⟩))
            all_goals
              go_ret
              exact ⟨ret_any (by first | rfl | (simp; done)), Grown.drewN ((Go.RowKit.Grown.refl _).alloc _ _) _⟩
        · rw [decide_eq_false c2, Bool.false_and] at HC
          clear HP1 HT1 q2
          clear q2'
          by_cases z : Z3 = 0
          · by_cases o : O ≤ 0
            · have q3 := q3 z o
              subst q3
              subst z
              go_enter Try.func8, Try.ntmps8
              go_wp2_with (first | (go_at_call 11; refine (alive_any _).mono ?_; rintro e w' ⟨rfl, _, rfl⟩) | ((with_reducible refine (HF _).mono ?_); rintro e w' ⟨rfl, _, rfl⟩) | ((with_reducible refine (HP _).mono ?_); rintro e w' ⟨rfl, _, rfl⟩) | ((with_reducible refine (HG _).mono ?_); rintro e w' ⟨rfl, _, rfl⟩) | ((with_reducible refine (HO _).mono ?_); rintro e w' ⟨rfl, rfl⟩) | ((with_reducible refine (HO1 _).mono ?_); rintro e w' ⟨rfl, rfl⟩) | ((with_reducible refine (HC _).mono ?_); rintro e w' ⟨rfl, _, rfl⟩))
              all_goals
                go_ret
                exact ⟨ret_any (by first | rfl | (simp; done)), Grown.drewN ((Go.RowKit.Grown.refl _).alloc _ _) _⟩
            · subst z
              clear q3
              go_enter Try.func8, Try.ntmps8
              go_wp2_with (first | (go_at_call 11; refine (alive_any _).mono ?_; rintro e w' ⟨rfl, _, rfl⟩) | ((with_reducible refine (HF _).mono ?_); rintro e w' ⟨rfl, _, rfl⟩) | ((with_reducible refine (HP _).mono ?_); rintro e w' ⟨rfl, _, rfl⟩) | ((with_reducible refine (HG _).mono ?_); rintro e w' ⟨rfl, _, rfl⟩) | ((with_reducible refine (HO _).mono ?_); rintro e w' ⟨rfl, rfl⟩) | ((with_reducible refine (HO1 _).mono ?_); rintro e w' ⟨rfl, rfl⟩) | ((with_reducible refine (HC _).mono ?_); rintro e w' ⟨rfl, _, rfl⟩))
              all_goals
                go_ret
                exact ⟨ret_any (by first | rfl | (simp; done)), Grown.drewN ((Go.RowKit.Grown.refl _).alloc _ _) _⟩
          · clear q3
            go_enter Try.func8, Try.ntmps8
            go_wp2_with (first | (go_at_call 11; refine (alive_any _).mono ?_; rintro e w' ⟨rfl, _, rfl⟩) | ((with_reducible refine (HF _).mono ?_); rintro e w' ⟨rfl, _, rfl⟩) | ((with_reducible refine (HP _).mono ?_); rintro e w' ⟨rfl, _, rfl⟩) | ((with_reducible refine (HG _).mono ?_); rintro e w' ⟨rfl, _, rfl⟩) | ((with_reducible refine (HO _).mono ?_); rintro e w' ⟨rfl, rfl⟩) | ((with_reducible refine (HO1 _).mono ?_); rintro e w' ⟨rfl, rfl⟩) | ((with_reducible refine (HC _).mono ?_); rintro e w' ⟨rfl, _, rfl⟩))
            all_goals
              go_ret
              exact ⟨ret_any (by first | rfl | (simp; done)), Grown.drewN ((Go.RowKit.Grown.refl _).alloc _ _) _⟩
      · by_cases c2 : 0 < a1
        · have HT := HT1 c2
          rw [q2 c2] at HT
          rw [decide_eq_true c2, Bool.true_and] at HC
          rw [q2' c2] at HT
          clear q2'
          clear HP1 HT1 q2
          by_cases z : Z3 = 0
          · by_cases o : O ≤ 0
            · have q3 := q3 z o
              subst q3
              subst z
              go_enter Try.func8, Try.ntmps8
              go_wp2_with (first | (go_at_call 11; refine (alive_any _).mono ?_; rintro e w' ⟨rfl, _, rfl⟩) | ((with_reducible refine (HF _).mono ?_); rintro e w' ⟨rfl, _, rfl⟩) | ((with_reducible refine (HT _).mono ?_); rintro e w' ⟨rfl, _, rfl⟩) | ((with_reducible refine (HG _).mono ?_); rintro e w' ⟨rfl, _, rfl⟩) | ((with_reducible refine (HO _).mono ?_); rintro e w' ⟨rfl, rfl⟩) | ((with_reducible refine (HO1 _).mono ?_); rintro e w' ⟨rfl, rfl⟩) | ((with_reducible refine (HC _).mono ?_); rintro e w' ⟨rfl, _, rfl⟩))
              all_goals
                go_ret
                exact ⟨ret_any (by first | rfl | (simp; done)), Grown.drewN ((Go.RowKit.Grown.refl _).alloc _ _) _⟩
            · subst z
              clear q3
              go_enter Try.func8, Try.ntmps8
              go_wp2_with (first | (go_at_call 11; refine (alive_any _).mono ?_; rintro e w' ⟨rfl, _, rfl⟩) | ((with_reducible refine (HF _).mono ?_); rintro e w' ⟨rfl, _, rfl⟩) | ((with_reducible refine (HT _).mono ?_); rintro e w' ⟨rfl, _, rfl⟩) | ((with_reducible refine (HG _).mono ?_); rintro e w' ⟨rfl, _, rfl⟩) | ((with_reducible refine (HO _).mono ?_); rintro e w' ⟨rfl, rfl⟩) | ((with_reducible refine (HO1 _).mono ?_); rintro e w' ⟨rfl, rfl⟩) | ((with_reducible refine (HC _).mono ?_); rintro e w' ⟨rfl, _, rfl⟩))
              all_goals
                go_ret
                exact ⟨ret_any (by first | rfl | (simp; done)), Grown.drewN ((Go.RowKit.Grown.refl _).alloc _ _) _⟩
          · clear q3
            go_enter Try.func8, Try.ntmps8
            go_wp2_with (first | (go_at_call 11; refine (alive_any _).mono ?_; rintro e w' ⟨rfl, _, rfl⟩) | ((with_reducible refine (HF _).mono ?_); rintro e w' ⟨rfl, _, rfl⟩) | ((with_reducible refine (HT _).mono ?_); rintro e w' ⟨rfl, _, rfl⟩) | ((with_reducible refine (HG _).mono ?_); rintro e w' ⟨rfl, _, rfl⟩) | ((with_reducible refine (HO _).mono ?_); rintro e w' ⟨rfl, rfl⟩) | ((with_reducible refine (HO1 _).mono ?_); rintro e w' ⟨rfl, rfl⟩) | ((with_reducible refine (HC _).mono ?_); rintro e w' ⟨rfl, _, rfl⟩))
            all_goals
              go_ret
              exact ⟨ret_any (by first | rfl | (simp; done)), Grown.drewN ((Go.RowKit.Grown.refl _).alloc _ _) _⟩
        · rw [decide_eq_false c2, Bool.false_and] at HC
          clear HP1 HT1 q2
          clear q2'
          by_cases z : Z3 = 0
          · by_cases o : O ≤ 0
            · have q3 := q3 z o
              subst q3
              subst z
              go_enter Try.func8, Try.ntmps8
              go_wp2_with (first | (go_at_call 11; refine (alive_any _).mono ?_; rintro e w' ⟨rfl, _, rfl⟩) | ((with_reducible refine (HF _).mono ?_); rintro e w' ⟨rfl, _, rfl⟩) | ((with_reducible refine (HG _).mono ?_); rintro e w' ⟨rfl, _, rfl⟩) | ((with_reducible refine (HO _).mono ?_); rintro e w' ⟨rfl, rfl⟩) | ((with_reducible refine (HO1 _).mono ?_); rintro e w' ⟨rfl, rfl⟩) | ((with_reducible refine (HC _).mono ?_); rintro e w' ⟨rfl, _, rfl⟩))
              all_goals
                go_ret
                exact ⟨ret_any (by first | rfl | (simp; done)), Grown.drewN ((Go.RowKit.Grown.refl _).alloc _ _) _⟩
            · subst z
              clear q3
              go_enter Try.func8, Try.ntmps8
              go_wp2_with (first | (go_at_call 11; refine (alive_any _).mono ?_; rintro e w' ⟨rfl, _, rfl⟩) | ((with_reducible refine (HF _).mono ?_); rintro e w' ⟨rfl, _, rfl⟩) | ((with_reducible refine (HG _).mono ?_); rintro e w' ⟨rfl, _, rfl⟩) | ((with_reducible refine (HO _).mono ?_); rintro e w' ⟨rfl, rfl⟩) | ((with_reducible refine (HO1 _).mono ?_); rintro e w' ⟨rfl, rfl⟩) | ((with_reducible refine (HC _).mono ?_); rintro e w' ⟨rfl, _, rfl⟩))
              all_goals
                go_ret
                exact ⟨ret_any (by first | rfl | (simp; done)), Grown.drewN ((Go.RowKit.Grown.refl _).alloc _ _) _⟩
          · clear q3
            go_enter Try.func8, Try.ntmps8
            go_wp2_with (first | (go_at_call 11; refine (alive_any _).mono ?_; rintro e w' ⟨rfl, _, rfl⟩) | ((with_reducible refine (HF _).mono ?_); rintro e w' ⟨rfl, _, rfl⟩) | ((with_reducible refine (HG _).mono ?_); rintro e w' ⟨rfl, _, rfl⟩) | ((with_reducible refine (HO _).mono ?_); rintro e w' ⟨rfl, rfl⟩) | ((with_reducible refine (HO1 _).mono ?_); rintro e w' ⟨rfl, rfl⟩) | ((with_reducible refine (HC _).mono ?_); rintro e w' ⟨rfl, _, rfl⟩))
            all_goals
              go_ret
              exact ⟨ret_any (by first | rfl | (simp; done)), Grown.drewN ((Go.RowKit.Grown.refl _).alloc _ _) _⟩
  · rw [ex_no hz] at HF
    generalize exE a0 a1 a2 = Z at *
    go_enter Try.func8, Try.ntmps8
    go_wp2_with (first | (go_at_call 11; refine (alive_any _).mono ?_; rintro e w' ⟨rfl, _, rfl⟩) | ((with_reducible refine (HF _).mono ?_); rintro e w' ⟨rfl, _, rfl⟩))
    all_goals
      go_ret
      exact ⟨rfl, Grown.drewN ((Go.RowKit.Grown.refl _).alloc _ _) _⟩

/-! ### The row's frame -/
theorem own : ownKnob Try.prog.godebug = none := by kernel_rfl
theorem arr2 : FArr Try.prog 37 22 := ⟨Try.underlying37, by kernel_rfl, by kernel_rfl⟩
set_option maxRecDepth 100000 in
theorem lifted (os : Os) (started : os.Started) (H : Type) (enc : TypeId × Value → H) :
    ReturnsInHanded {} Try.checked os 8 .any (Rows.levelMoreSpec.pre6 enc Try.prog Try.f8 Rows.levelMoreRow.domain false) (Rows.levelMoreSpec.post enc Try.prog Try.f8 false true false false) := by
  refine returnsInHanded_of_change (C := Try.checked) own started (by kernel_rfl) Try.func8
    (ChangeSpec.witness6 (enc := enc) (C := Try.checked) false ⟨#[], #[.int .i64 0, .int .i64 0, .agg #[.float .f64 0, .float .f64 0]], []⟩ 8 (by kernel_rfl) (by kernel_rfl) (by kernel_rfl) (by kernel_rfl)) ?_
  intro W base args ds gs before hval0 hW hcnd _
  have hval : ∀ (j : Nat) t v, Try.f8.params[j]? = some t → args[j]? = some v → Value.okWide Try.prog W .any base t v := hval0
  have hW' := hW
  obtain ⟨p, q, hA0, hV, rfl, hfz, hnd⟩ := hW
  have hA : DataW.TrodAll enc Try.prog W 0 (fun _ => true) true Try.f8.params.toList args.toList ds p := hA0
  rw [Try.params8] at hA hval
  obtain ⟨v0, vs0, d0, ds0, p0, q0, hargs, rfl, rfl, h0, r0⟩ := trodAll_cons hA
  obtain ⟨v1, vs1, d1, ds1, p1, q1, rfl, rfl, rfl, h1, r1⟩ := trodAll_cons r0
  obtain ⟨v2, vs2, d2, ds2, p2, q2, rfl, rfl, rfl, h2, r2⟩ := trodAll_cons r1
  obtain ⟨rfl, rfl, rfl⟩ := trodAll_nil r2
  obtain rfl : args = #[v0, v1, v2] := by cases args; simp_all
  obtain ⟨rfl, rfl⟩ := trodVars_none hV
  obtain ⟨a0, rfl, rfl, rfl, w0⟩ := open_int Try.underlying3 (hval 0 3 v0 rfl rfl) h0
  obtain ⟨a1, rfl, rfl, rfl, w1⟩ := open_int Try.underlying3 (hval 1 3 v1 rfl rfl) h1
  obtain ⟨a2, ba2, rfl, rfl, rfl, w2, uw2⟩ := open_fpair arr2 Try.underlying22 (hval 2 37 v2 rfl rfl) h2
  clear hA0 hval0
  simp only [List.append_nil] at hW'
  refine (walk a0 a1 a2 ba2 w0 w1 (by simpa [Lit.wf] using w2) (by simpa [Lit.wf] using uw2) W).mono fun e W' ⟨he, hg⟩ => ?_
  subst he
  exact ⟨_, rfl, post_of_same (pa := []) (pv := []) hW' (fun _ _ _ => (trodAll_cons_mk (shut_bool Try.underlying4 _) trodAll_mk0)) (fun sp _ => (trodAll_cons_mk (shut_int Try.underlying3 w0) (trodAll_cons_mk (shut_int Try.underlying3 w1) (trodAll_cons_mk (shut_fpair arr2 Try.underlying22 w2 uw2) trodAll_mk0)))) (fun _ _ => rfl) rfl
    (hg.frame _) hg.2.1 (ok_one (by kernel_rfl) rfl (okWide_bool_mk Try.underlying4 _))⟩

theorem holds : Rows.levelMoreRow.holds Try.pinned (OpenSpec.ofChange Rows.levelMoreSpec) :=
  OpenClaim.holds_of_wide 8 Try.f8 rfl rfl rfl rfl rfl rfl rfl ⟨rfl, rfl, rfl, rfl, rfl⟩ rfl rfl rfl rfl rfl (by kernel_rfl) Try.func8 (by kernel_rfl)
    (of_decide_eq_true (by kernel_rfl)) (by unfold Func.isWrapper; first | (rw [if_pos (by decide +kernel)]; kernel_rfl) | (rw [if_neg (by decide +kernel)]; exact ⟨rfl, rfl⟩))
    (fun os started H enc _ => lifted os started H enc)
end Go.Proofs.Ytkinbknflkenpaa.levelMore
namespace Go.Proofs.Ytkinbknflkenpaa
/-- The statement. -/
theorem levelMore_holds : Rows.LevelMoreSaid := levelMore.holds
end Go.Proofs.Ytkinbknflkenpaa
