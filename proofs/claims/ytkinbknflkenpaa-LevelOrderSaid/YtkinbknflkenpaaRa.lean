/- What 'Above' of the document's own answer answers. -/
import Derived.Test.YtkinbknflkenpaaRf
import Derived.Test.YtkinbknflkenpaaFa
namespace Go.Proofs.Ytkinbknflkenpaa
open Go.RowKit Fl

theorem against_top (m k : Nat) (e : Int) (h : 12 ≤ e) (w : World) :
    Calls Try.prog 27 #[.int .u64 m, .int .i64 e, .int .u64 k] w fun e w' => e = .returned (.tuple #[.bool (decide (0 < m)), .bool false]) ∧ w = w' := by
  go_enter Try.func27, Try.ntmps27
  go_wp2
  go_ret2
  exact ⟨ret_bb (by simp) rfl, rfl⟩

theorem against_low (m k : Nat) (e : Int) (h : e < -63) (h0 : 0 < m) (w : World) :
    Calls Try.prog 27 #[.int .u64 m, .int .i64 e, .int .u64 k] w fun e w' => e = .returned (.tuple #[.bool (decide (k = 0)), .bool (decide (0 < k))]) ∧ w = w' := by
  by_cases hk : k = 0
  · subst hk
    go_enter Try.func27, Try.ntmps27
    go_wp2
    go_ret2
    exact ⟨ret_bb rfl rfl, rfl⟩
  · go_enter Try.func27, Try.ntmps27
    go_wp2
    go_ret2
    exact ⟨ret_bb (by simp [hk]) (by simp), rfl⟩

theorem against_up (m k j : Nat) (h : j ≤ 11) (hm : m < 9007199254740992) (w : World) :
    Calls Try.prog 27 #[.int .u64 m, .int .i64 (j : Int), .int .u64 k] w fun e w' => e = .returned (.tuple #[.bool (decide (k < m * 2 ^ j)), .bool (decide (m * 2 ^ j < k))]) ∧ w = w' := by
  have b1 : m * 2 ^ j < 18446744073709551616 := by
    calc m * 2 ^ j ≤ m * 2 ^ 11 := Nat.mul_le_mul_left _ (Nat.pow_le_pow_right (by decide) h)
      _ < _ := by omega
  have b2 : m / 2 ^ (64 - j) = 0 := by
    apply Nat.div_eq_of_lt
    calc m < 9007199254740992 := hm
      _ = 2 ^ 53 := by decide
      _ ≤ _ := Nat.pow_le_pow_right (by decide) (by omega)
  have H1 : IntKind.u64.wrap ((m : Int) * 2 ^ j) = ((m * 2 ^ j : Nat) : Int) := by
    rw [← Mul64.wrapN _ b1, Int.natCast_mul, Int.natCast_pow]; rfl
  have H2 : (m : Int) / 2 ^ (64 - j) = 0 := by
    have : ((m / 2 ^ (64 - j) : Nat) : Int) = 0 := by rw [b2]; rfl
    rw [Int.natCast_ediv, Int.natCast_pow] at this
    exact this
  generalize hX : m * 2 ^ j = X at *
  clear hX b2
  by_cases c : k < X
  · go_enter Try.func27, Try.ntmps27
    go_wp2
    go_ret2
    exact ⟨ret_bb (by first | rfl | (simp; done) | (simp; omega)) (by first | rfl | (simp; done) | (simp; omega)), rfl⟩
  · go_enter Try.func27, Try.ntmps27
    go_wp2
    go_ret2
    exact ⟨ret_bb (by first | rfl | (simp; done) | (simp; omega)) (by first | rfl | (simp; done) | (simp; omega)), rfl⟩

theorem against_mid (m k s : Nat) (h : s ≤ 63) (h1 : 1 ≤ s) (w : World) :
    Calls Try.prog 27 #[.int .u64 m, .int .i64 (-(s : Int)), .int .u64 k] w fun e w' => e = .returned (.tuple #[.bool (decide (k < m / 2 ^ s ∨ m / 2 ^ s = k ∧ 0 < m % 2 ^ s)), .bool (decide (m / 2 ^ s < k))]) ∧ w = w' := by
  have hp : 2 ^ s < 18446744073709551616 := by
    calc 2 ^ s ≤ 2 ^ 63 := Nat.pow_le_pow_right (by decide) h
      _ < _ := by decide
  have hp0 : 0 < 2 ^ s := Nat.two_pow_pos s
  have hW : IntKind.u64.wrap (2 ^ s) = ((2 ^ s : Nat) : Int) := by rw [← Mul64.wrapN _ hp, Int.natCast_pow]; rfl
  have hD : (m : Int) / 2 ^ s = ((m / 2 ^ s : Nat) : Int) := by rw [Int.natCast_ediv, Int.natCast_pow]; rfl
  have hR : (m : Int) % ((2 ^ s : Nat) : Int) = ((m % 2 ^ s : Nat) : Int) := (Int.natCast_emod _ _).symm
  generalize m % 2 ^ s = R at *
  generalize m / 2 ^ s = D at *
  generalize (2 ^ s : Nat) = P at *
  rcases Nat.lt_trichotomy D k with c | c | c
  · go_enter Try.func27, Try.ntmps27
    go_wp2
    all_goals
      go_ret2
      exact ⟨ret_bb (by first | rfl | (simp; done) | (simp; omega)) (by first | rfl | (simp; done) | (simp; omega)), rfl⟩
  · subst c
    by_cases r : 0 < R
    · go_enter Try.func27, Try.ntmps27
      go_wp2
      all_goals
        go_ret2
        exact ⟨ret_bb (by first | rfl | (simp; done) | (simp; omega)) (by first | rfl | (simp; done) | (simp; omega)), rfl⟩
    · go_enter Try.func27, Try.ntmps27
      go_wp2
      all_goals
        go_ret2
        exact ⟨ret_bb (by first | rfl | (simp; done) | (simp; omega)) (by first | rfl | (simp; done) | (simp; omega)), rfl⟩
  · go_enter Try.func27, Try.ntmps27
    go_wp2
    all_goals
      go_ret2
      exact ⟨ret_bb (by first | rfl | (simp; done) | (simp; omega)) (by first | rfl | (simp; done) | (simp; omega)), rfl⟩

theorem parts_V {x : Nat} (hf : x % 9223372036854775808 < 9218868437227405312) :
    ∃ a : Nat, pE x = (a : Int) - 1074 ∧ a ≤ 2045 ∧ V (x % 9223372036854775808) = pM x * 2 ^ a ∧ pM x < 9007199254740992 ∧ (1 ≤ a → 4503599627370496 ≤ pM x) := by
  unfold pE pM
  rw [if_neg (by omega : ¬ x / 4503599627370496 % 2048 = 2047)]
  by_cases q : x / 4503599627370496 % 2048 = 0
  · rw [if_pos q, if_pos (.inl q)]
    refine ⟨0, by omega, by omega, ?_, by omega, fun h => absurd h (by omega)⟩
    unfold V
    rw [if_pos (by omega), Nat.pow_zero, Nat.mul_one]; omega
  · rw [if_neg q, if_neg (by omega)]
    refine ⟨x % 9223372036854775808 / 4503599627370496 - 1, by omega, by omega, ?_, by omega, fun _ => by omega⟩
    unfold V
    rw [if_neg (by omega)]
    congr 1; omega

theorem against_any (m a k : Nat) (hm0 : 0 < m) (hm : m < 9007199254740992) (ha : 1 ≤ a → 4503599627370496 ≤ m) (hk : k < 18446744073709551616) (w : World) :
    Calls Try.prog 27 #[.int .u64 m, .int .i64 ((a : Int) - 1074), .int .u64 k] w fun e w' => e = .returned (.tuple #[.bool (decide (k * Un < m * 2 ^ a)), .bool (decide (m * 2 ^ a < k * Un))]) ∧ w = w' := by
  obtain ⟨c, hc, hU⟩ := Un_ex
  by_cases h1 : c + 12 ≤ a
  · have big : k * Un < m * 2 ^ a := by
      rw [hU]
      have e64 : (2 : Nat) ^ 64 = 18446744073709551616 := by decide
      have e52 : (2 : Nat) ^ 52 = 4503599627370496 := by decide
      calc k * 2 ^ c < 2 ^ 64 * 2 ^ c := Nat.mul_lt_mul_of_pos_right (by omega) (Nat.two_pow_pos _)
        _ = 2 ^ (64 + c) := by rw [← Nat.pow_add]
        _ ≤ 2 ^ (52 + a) := Nat.pow_le_pow_right (by decide) (by omega)
        _ = 4503599627370496 * 2 ^ a := by rw [Nat.pow_add, e52]
        _ ≤ m * 2 ^ a := Nat.mul_le_mul_right _ (ha (by omega))
    refine (against_top m k ((a : Int) - 1074) (by omega) w).mono ?_
    rintro e w' ⟨rfl, rfl⟩
    refine ⟨ret_bb ?_ ?_, rfl⟩
    · rw [decide_eq_true hm0, decide_eq_true big]
    · rw [decide_eq_false (by omega)]
  · by_cases h2 : c ≤ a
    · have e : m * 2 ^ a = (m * 2 ^ (a - c)) * Un := by
        rw [hU, Nat.mul_assoc, ← Nat.pow_add]; congr 2; omega
      rw [e, show ((a : Int) - 1074) = ((a - c : Nat) : Int) by omega]
      refine (against_up m k (a - c) (by omega) hm w).mono ?_
      rintro e w' ⟨rfl, rfl⟩
      refine ⟨ret_bb ?_ ?_, rfl⟩
      · exact decide_eq_decide.2 (Nat.mul_lt_mul_right Un_pos).symm
      · exact decide_eq_decide.2 (Nat.mul_lt_mul_right Un_pos).symm
    · by_cases h3 : c ≤ a + 63
      · have e : Un = 2 ^ (c - a) * 2 ^ a := by rw [hU, ← Nat.pow_add]; congr 1; omega
        have p : 0 < 2 ^ a := Nat.two_pow_pos a
        have q : 0 < 2 ^ (c - a) := Nat.two_pow_pos _
        have c1 : k * Un < m * 2 ^ a ↔ k < m / 2 ^ (c - a) ∨ m / 2 ^ (c - a) = k ∧ 0 < m % 2 ^ (c - a) := by
          rw [e, ← Nat.mul_assoc, Nat.mul_lt_mul_right p]
          have d := Nat.div_add_mod m (2 ^ (c - a))
          have r := Nat.mod_lt m q
          generalize m % 2 ^ (c - a) = R at *
          generalize m / 2 ^ (c - a) = D at *
          generalize 2 ^ (c - a) = Q at *
          rw [← d]
          constructor
          · intro h
            rcases Nat.lt_trichotomy k D with g | g | g
            · exact .inl g
            · right; subst g; exact ⟨rfl, by rw [Nat.mul_comm] at h; omega⟩
            · exfalso
              have : (D + 1) * Q ≤ k * Q := Nat.mul_le_mul_right _ g
              rw [Nat.add_mul, Nat.mul_comm D] at this; omega
          · rintro (g | ⟨rfl, g⟩)
            · have : k * Q < D * Q := (Nat.mul_lt_mul_right q).2 g
              rw [Nat.mul_comm D] at this; omega
            · rw [Nat.mul_comm]; omega
        have c2 : m * 2 ^ a < k * Un ↔ m / 2 ^ (c - a) < k := by
          rw [e, ← Nat.mul_assoc, Nat.mul_lt_mul_right p, Nat.div_lt_iff_lt_mul q]
        rw [show ((a : Int) - 1074) = -((c - a : Nat) : Int) by omega]
        refine (against_mid m k (c - a) (by omega) (by omega) w).mono ?_
        rintro e w' ⟨rfl, rfl⟩
        exact ⟨ret_bb (decide_eq_decide.2 c1.symm) (decide_eq_decide.2 c2.symm), rfl⟩
      · have small : m * 2 ^ a < Un := by
          rw [hU]
          calc m * 2 ^ a < 9007199254740992 * 2 ^ a := Nat.mul_lt_mul_of_pos_right hm (Nat.two_pow_pos _)
            _ = 2 ^ (53 + a) := by rw [Nat.pow_add]
            _ ≤ 2 ^ c := Nat.pow_le_pow_right (by decide) (by omega)
        have pos : 0 < m * 2 ^ a := Nat.mul_pos hm0 (Nat.two_pow_pos _)
        refine (against_low m k ((a : Int) - 1074) (by omega) hm0 w).mono ?_
        rintro e w' ⟨rfl, rfl⟩
        by_cases z : k = 0
        · subst z
          refine ⟨ret_bb ?_ ?_, rfl⟩
          · rw [decide_eq_true rfl, decide_eq_true (by omega)]
          · rw [decide_eq_false (by omega), decide_eq_false (by omega)]
        · have : 1 * Un ≤ k * Un := Nat.mul_le_mul_right _ (by omega)
          refine ⟨ret_bb ?_ ?_, rfl⟩
          · rw [decide_eq_false z, decide_eq_false (by omega)]
          · rw [decide_eq_true (by omega), decide_eq_true (by omega)]

theorem parts_inf {x : Nat} (hf : ¬ x % 9223372036854775808 < 9218868437227405312) : pE x = 2047 ∧ pM x = x % 4503599627370496 := by
  unfold pE pM
  have : x / 4503599627370496 % 2048 = 2047 := by omega
  rw [if_pos this, if_pos (.inr this)]; exact ⟨rfl, rfl⟩

theorem rabove_any (x : Nat) (n : Int) (hx : x < 18446744073709551616) (hn : (Lit.int .i64 n).wf = true) (w : World) :
    Calls Try.prog 15 #[.float .f64 x, .int .i64 n] w fun e w' => e = .returned (.bool (abv x n)) ∧ w = w' := by
  have hn := i64_of_wf hn
  have HP := parts_any x hx
  have p := Un_pos
  by_cases hf : x % 9223372036854775808 < 9218868437227405312
  · obtain ⟨a, ha, a1, hV, m1, m2⟩ := parts_V hf
    rw [ha] at HP
    have hnn : isNan x = false := by unfold isNan; exact decide_eq_false (by omega)
    have hlt : ((a : Int) - 1074 == 2047) = false := by rw [beq_eq_false_iff_ne]; omega
    unfold abv
    rw [hnn]
    simp only [Bool.not_false, Bool.true_and]
    generalize pM x = m at *
    by_cases s : x < 9223372036854775808
    · have hSV : SV x = ((m * 2 ^ a : Nat) : Int) := by rw [SV_pos s, ← hV, Nat.mod_eq_of_lt s]
      rw [decide_eq_false (by omega)] at HP
      rw [hSV]
      by_cases m0 : m = 0
      · subst m0
        have e : decide (n * (Un : Int) < ((0 * 2 ^ a : Nat) : Int)) = decide (n < 0) := by
          apply decide_eq_decide.2
          rw [Nat.zero_mul]
          constructor
          · intro h
            rcases Int.lt_or_le n 0 with g | g
            · exact g
            · have := Int.mul_nonneg g (show (0 : Int) ≤ Un by omega); omega
          · intro h
            have := Int.mul_lt_mul_of_pos_right h (show (0 : Int) < Un by omega)
            omega
        rw [e]
        clear e
        by_cases g : n < 0
        · go_enter Try.func15, Try.ntmps15
          go_wp2_with ((with_reducible refine (HP _).mono ?_); rintro e w' ⟨rfl, rfl⟩)
          go_ret
          exact ⟨ret_b (by first | rfl | (simp; done) | (simp; omega)), rfl⟩
        · go_enter Try.func15, Try.ntmps15
          go_wp2_with ((with_reducible refine (HP _).mono ?_); rintro e w' ⟨rfl, rfl⟩)
          go_ret
          exact ⟨ret_b (by first | rfl | (simp; done) | (simp; omega)), rfl⟩
      · have mp : 0 < m := by omega
        have mz : ((m : Int) == 0) = false := by rw [beq_eq_false_iff_ne]; omega
        have mz' : ((m : Int) != 0) = true := by rw [bne_iff_ne]; omega
        have vp : 0 < m * 2 ^ a := Nat.mul_pos mp (Nat.two_pow_pos _)
        by_cases g : n < 0
        · have e : decide (n * (Un : Int) < ((m * 2 ^ a : Nat) : Int)) = true := by
            apply decide_eq_true
            have := Int.mul_lt_mul_of_pos_right g (show (0 : Int) < Un by omega)
            omega
          rw [e]
          clear e
          go_enter Try.func15, Try.ntmps15
          go_wp2_with ((with_reducible refine (HP _).mono ?_); rintro e w' ⟨rfl, rfl⟩)
          go_ret
          exact ⟨ret_b (by first | rfl | (simp; done) | (simp; omega)), rfl⟩
        · obtain ⟨k, rfl⟩ := Int.eq_ofNat_of_zero_le (show 0 ≤ n by omega)
          have HA := against_any m a k mp m1 m2 (by omega)
          have e : decide ((k : Int) * (Un : Int) < ((m * 2 ^ a : Nat) : Int)) = decide (k * Un < m * 2 ^ a) := by
            apply decide_eq_decide.2
            rw [← Int.natCast_mul]; omega
          rw [e]
          clear e hV hSV vp
          generalize decide (k * Un < m * 2 ^ a) = b1 at *
          generalize decide (m * 2 ^ a < k * Un) = b2 at *
          have g' : decide ((k : Int) < 0) = false := decide_eq_false g
          go_enter Try.func15, Try.ntmps15
          go_wp2_with (first | (with_reducible refine (HP _).mono ?_; rintro e w' ⟨rfl, rfl⟩) | (with_reducible refine (HA _).mono ?_; rintro e w' ⟨rfl, rfl⟩))
          go_ret
          exact ⟨rfl, rfl⟩
    · have hSV : SV x = -((m * 2 ^ a : Nat) : Int) := by
        rw [SV_neg s, ← hV, show x % 9223372036854775808 = x - 9223372036854775808 by omega]
      rw [decide_eq_true (by omega)] at HP
      rw [hSV]
      by_cases m0 : m = 0
      · subst m0
        have e : decide (n * (Un : Int) < -((0 * 2 ^ a : Nat) : Int)) = decide (n < 0) := by
          apply decide_eq_decide.2
          rw [Nat.zero_mul]
          constructor
          · intro h
            rcases Int.lt_or_le n 0 with g | g
            · exact g
            · have := Int.mul_nonneg g (show (0 : Int) ≤ Un by omega); omega
          · intro h
            have := Int.mul_lt_mul_of_pos_right h (show (0 : Int) < Un by omega)
            omega
        rw [e]
        clear e
        by_cases g : n < 0
        · go_enter Try.func15, Try.ntmps15
          go_wp2_with ((with_reducible refine (HP _).mono ?_); rintro e w' ⟨rfl, rfl⟩)
          go_ret
          exact ⟨ret_b (by first | rfl | (simp; done) | (simp; omega)), rfl⟩
        · go_enter Try.func15, Try.ntmps15
          go_wp2_with ((with_reducible refine (HP _).mono ?_); rintro e w' ⟨rfl, rfl⟩)
          go_ret
          exact ⟨ret_b (by first | rfl | (simp; done) | (simp; omega)), rfl⟩
      · have mp : 0 < m := by omega
        have mz : ((m : Int) == 0) = false := by rw [beq_eq_false_iff_ne]; omega
        have mz' : ((m : Int) != 0) = true := by rw [bne_iff_ne]; omega
        have vp : 0 < m * 2 ^ a := Nat.mul_pos mp (Nat.two_pow_pos _)
        by_cases g : n < 0
        · obtain ⟨k, rfl⟩ : ∃ k : Nat, n = -(k : Int) := ⟨n.natAbs, by omega⟩
          have HA := against_any m a k mp m1 m2 (by omega)
          have e : decide (-(k : Int) * (Un : Int) < -((m * 2 ^ a : Nat) : Int)) = decide (m * 2 ^ a < k * Un) := by
            apply decide_eq_decide.2
            rw [Int.neg_mul, ← Int.natCast_mul]; omega
          rw [e]
          clear e hV hSV vp
          generalize decide (k * Un < m * 2 ^ a) = b1 at *
          generalize decide (m * 2 ^ a < k * Un) = b2 at *
          have g' : decide (0 < k) = true := decide_eq_true (by omega)
          have KN : IntKind.u64.wrap (-(IntKind.u64.wrap (-(k : Int)))) = (k : Int) := by rw [IntKind.wrap_u64, IntKind.wrap_u64]; omega
          go_enter Try.func15, Try.ntmps15
          go_wp2_with (first | (with_reducible refine (HP _).mono ?_; rintro e w' ⟨rfl, rfl⟩) | (with_reducible refine (HA _).mono ?_; rintro e w' ⟨rfl, rfl⟩))
          go_ret
          exact ⟨rfl, rfl⟩
        · have e : decide (n * (Un : Int) < -((m * 2 ^ a : Nat) : Int)) = false := by
            apply decide_eq_false
            have := Int.mul_nonneg (show 0 ≤ n by omega) (show (0 : Int) ≤ Un by omega)
            omega
          rw [e]
          have g' : decide (n < 0) = false := decide_eq_false g
          clear e
          go_enter Try.func15, Try.ntmps15
          go_wp2_with ((with_reducible refine (HP _).mono ?_); rintro e w' ⟨rfl, rfl⟩)
          go_ret
          exact ⟨ret_b (by first | rfl | (simp; done) | (simp; omega)), rfl⟩
  · obtain ⟨e1, e2⟩ := parts_inf hf
    rw [e1] at HP
    by_cases m0 : pM x = 0
    · have hnn : isNan x = false := by unfold isNan; exact decide_eq_false (by omega)
      rw [m0] at HP
      unfold abv
      rw [hnn]
      by_cases s : x < 9223372036854775808
      · rw [decide_eq_false (by omega)] at HP
        rw [decide_eq_true (above_top (by omega) s n hn.2)]
        go_enter Try.func15, Try.ntmps15
        go_wp2_with ((with_reducible refine (HP _).mono ?_); rintro e w' ⟨rfl, rfl⟩)
        go_ret
        exact ⟨rfl, rfl⟩
      · rw [decide_eq_true (by omega)] at HP
        rw [decide_eq_false (above_low (by omega) n hn.1)]
        go_enter Try.func15, Try.ntmps15
        go_wp2_with ((with_reducible refine (HP _).mono ?_); rintro e w' ⟨rfl, rfl⟩)
        go_ret
        exact ⟨rfl, rfl⟩
    · have hnn : isNan x = true := by unfold isNan; exact decide_eq_true (by omega)
      unfold abv
      rw [hnn]
      generalize pM x = m at *
      have mz : ((m : Int) == 0) = false := by rw [beq_eq_false_iff_ne]; omega
      clear e2
      go_enter Try.func15, Try.ntmps15
      go_wp2_with ((with_reducible refine (HP _).mono ?_); rintro e w' ⟨rfl, rfl⟩)
      go_ret
      exact ⟨rfl, rfl⟩
end Go.Proofs.Ytkinbknflkenpaa
