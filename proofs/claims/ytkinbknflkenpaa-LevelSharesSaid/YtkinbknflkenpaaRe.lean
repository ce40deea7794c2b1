/- What 'Exceeds' of the document's own answer answers. -/
import Derived.Test.YtkinbknflkenpaaRf
namespace Go.Proofs.Ytkinbknflkenpaa
open Go.RowKit Fl

theorem right_any (x : Nat) (hx : x < 18446744073709551616) (w : World) :
    Calls Try.prog 29 #[.float .f64 x] w fun e w' => e = .returned (.bool (lvOk x)) ∧ w = w' := by
  have HN := rnan_any x hx
  have H0 := rorder_any x 0 hx (by omega)
  have H1 := rorder_any x 4607182418800017408 hx (by omega)
  unfold lvOk
  cases hn : isNan x <;> rw [hn] at HN
  · have p0 : place 0 = 0 := by decide
    have p1 : place 4607182418800017408 = 4607182418800017408 := by decide
    have px := place_num hn
    have hk := of_decide_eq_false hn
    by_cases c0 : 0 < x ∧ x < 9223372036854775808
    · rw [if_pos c0.2] at px
      have e0 : ordI x 0 = 1 := by unfold ordI; rw [p0, px, if_neg (by omega), if_pos (by omega)]
      by_cases c1 : x ≤ 4607182418800017408
      · have e1 : ordI x 4607182418800017408 ≤ 0 := by unfold ordI; rw [p1, px]; split; · omega
                                                       rw [if_neg (by omega)]; omega
        rw [e0] at H0
        generalize ordI x 4607182418800017408 = Z at *
        rw [decide_eq_true ⟨c0.1, c1⟩]
        clear e0 px p0 p1
        go_enter Try.func29, Try.ntmps29
        go_wp2_with (first | (with_reducible refine (HN _).mono ?_; rintro e w' ⟨rfl, rfl⟩) | (with_reducible refine (H0 _).mono ?_; rintro e w' ⟨rfl, rfl⟩) | (with_reducible refine (H1 _).mono ?_; rintro e w' ⟨rfl, rfl⟩))
        go_ret
        exact ⟨ret_b (by first | rfl | (simp; done) | (simp; omega)), rfl⟩
      · have e1 : ordI x 4607182418800017408 = 1 := by unfold ordI; rw [p1, px, if_neg (by omega), if_pos (by omega)]
        rw [e0] at H0
        rw [e1] at H1
        rw [decide_eq_false (by omega)]
        clear e0 e1 px p0 p1
        go_enter Try.func29, Try.ntmps29
        go_wp2_with (first | (with_reducible refine (HN _).mono ?_; rintro e w' ⟨rfl, rfl⟩) | (with_reducible refine (H0 _).mono ?_; rintro e w' ⟨rfl, rfl⟩) | (with_reducible refine (H1 _).mono ?_; rintro e w' ⟨rfl, rfl⟩))
        go_ret
        exact ⟨ret_b (by first | rfl | (simp; done) | (simp; omega)), rfl⟩
    · have e0 : ordI x 0 ≤ 0 := by
        unfold ordI; rw [p0, px]
        by_cases g : x < 9223372036854775808
        · rw [if_pos g, if_neg (by omega), if_neg (by omega)]; omega
        · rw [if_neg g, if_pos (by omega)]; omega
      generalize ordI x 0 = Z at *
      rw [decide_eq_false (by omega)]
      clear px p0 p1
      go_enter Try.func29, Try.ntmps29
      go_wp2_with (first | (with_reducible refine (HN _).mono ?_; rintro e w' ⟨rfl, rfl⟩) | (with_reducible refine (H0 _).mono ?_; rintro e w' ⟨rfl, rfl⟩) | (with_reducible refine (H1 _).mono ?_; rintro e w' ⟨rfl, rfl⟩))
      go_ret
      exact ⟨ret_b (by first | rfl | (simp; done) | (simp; omega)), rfl⟩
  · have hk := of_decide_eq_true hn
    rw [decide_eq_false (by omega)]
    go_enter Try.func29, Try.ntmps29
    go_wp2_with (first | (with_reducible refine (HN _).mono ?_; rintro e w' ⟨rfl, rfl⟩) | (with_reducible refine (H0 _).mono ?_; rintro e w' ⟨rfl, rfl⟩) | (with_reducible refine (H1 _).mono ?_; rintro e w' ⟨rfl, rfl⟩))
    go_ret
    exact ⟨ret_b (by first | rfl | (simp; done) | (simp; omega)), rfl⟩

theorem rex_bad (part total : Int) (x : Nat) (hx : x < 18446744073709551616) (hb : lvOk x = false) (w : World) :
    Calls Try.prog 17 #[.int .i64 part, .int .i64 total, .float .f64 x] w fun e w' => e = .returned (.tuple #[.bool false, .int .i64 11]) ∧ w = w' := by
  have HR := right_any x hx
  rw [hb] at HR
  go_enter Try.func17, Try.ntmps17
  go_wp2_with (with_reducible refine (HR _).mono ?_; rintro e w' ⟨rfl, rfl⟩)
  go_ret2
  exact ⟨rfl, rfl⟩

theorem rex_arg (part total : Int) (x : Nat) (hx : x < 18446744073709551616) (hb : lvOk x = true) (hp : ptOk part total = false) (w : World) :
    Calls Try.prog 17 #[.int .i64 part, .int .i64 total, .float .f64 x] w fun e w' => e = .returned (.tuple #[.bool false, .int .i64 1]) ∧ w = w' := by
  have HR := right_any x hx
  rw [hb] at HR
  have hp := of_decide_eq_false hp
  by_cases p1 : part < 0
  · go_enter Try.func17, Try.ntmps17
    go_wp2_with (with_reducible refine (HR _).mono ?_; rintro e w' ⟨rfl, rfl⟩)
    go_ret2
    exact ⟨rfl, rfl⟩
  · by_cases p2 : total < 0
    · go_enter Try.func17, Try.ntmps17
      go_wp2_with (with_reducible refine (HR _).mono ?_; rintro e w' ⟨rfl, rfl⟩)
      go_ret2
      exact ⟨rfl, rfl⟩
    · have p3 : 1125899906842624 < total := by omega
      clear hp
      go_enter Try.func17, Try.ntmps17
      go_wp2_with (with_reducible refine (HR _).mono ?_; rintro e w' ⟨rfl, rfl⟩)
      go_ret2
      exact ⟨rfl, rfl⟩

theorem words_of {T M A B1 B2 C L : Nat} (hM : M < 9007199254740992) (hT : T ≤ 1125899906842624) (hA : A = T / 4294967296 * (M / 4294967296)) (hB1 : B1 = T / 4294967296 * (M % 4294967296))
    (hB2 : B2 = T % 4294967296 * (M / 4294967296)) (hC : C = T % 4294967296 * (M % 4294967296)) (hL : L = (C + (B1 + B2) * 4294967296 % 18446744073709551616) % 18446744073709551616) :
    A < 549755813888 ∧ B1 < 1125899906842624 + 4294967296 ∧ B2 < 9007199254740992 + 4294967296 ∧ C < 18446744073709551616 ∧ T * M % 18446744073709551616 = L ∧
      (L < C → T * M / 18446744073709551616 = A + (B1 + B2) / 4294967296 + 1) ∧ (¬ L < C → T * M / 18446744073709551616 = A + (B1 + B2) / 4294967296) := by
  have e : T * M = A * 18446744073709551616 + (B1 + B2) * 4294967296 + C := by
    have e1 := Lib.split_mul (T / 4294967296) (T % 4294967296) (M / 4294967296) (M % 4294967296) 4294967296
    rw [Nat.div_add_mod', Nat.div_add_mod'] at e1
    rw [e1, hA, hB1, hB2, hC, Nat.add_mul]
  have a : A < 549755813888 := by
    rw [hA]
    calc T / 4294967296 * (M / 4294967296) ≤ 262144 * 2097151 := Nat.mul_le_mul (by omega) (by omega)
      _ < _ := by decide
  have b1 : B1 < 1125899906842624 + 4294967296 := by
    rw [hB1]
    calc T / 4294967296 * (M % 4294967296) ≤ 262144 * 4294967295 := Nat.mul_le_mul (by omega) (by omega)
      _ < _ := by decide
  have b2 : B2 < 9007199254740992 + 4294967296 := by
    rw [hB2]
    calc T % 4294967296 * (M / 4294967296) ≤ 4294967295 * 2097151 := Nat.mul_le_mul (by omega) (by omega)
      _ < _ := by decide
  have c : C < 18446744073709551616 := by
    rw [hC]
    calc T % 4294967296 * (M % 4294967296) ≤ 4294967295 * 4294967295 := Nat.mul_le_mul (by omega) (by omega)
      _ < _ := by decide
  clear hA hB1 hB2 hC
  generalize T * M = P at *
  refine ⟨a, b1, b2, c, by omega, fun _ => by omega, fun _ => by omega⟩

theorem less_big {P S part : Nat} (hP : P < 340282366920938463463374607431768211456) (h : 128 ≤ S) : decide (P / 2 ^ S < part) = decide (0 < part) := by
  have : P / 2 ^ S = 0 := by
    apply Nat.div_eq_of_lt
    calc P < _ := hP
      _ = 2 ^ 128 := by decide
      _ ≤ 2 ^ S := Nat.pow_le_pow_right (by decide) h
  rw [this]
theorem less_two {P S part H : Nat} (h : 64 ≤ S) (h3 : P / 18446744073709551616 = H) : P / 2 ^ S < part ↔ H < part * 2 ^ (S - 64) := by
  have e : (2 : Nat) ^ S = 2 ^ (S - 64) * 18446744073709551616 := by
    rw [show (18446744073709551616 : Nat) = 2 ^ 64 by decide, ← Nat.pow_add]; congr 1; omega
  rw [Nat.div_lt_iff_lt_mul (Nat.two_pow_pos S), e, ← h3, ← Nat.mul_assoc]
  generalize part * 2 ^ (S - 64) = Q
  omega
theorem less_one {P S part H L : Nat} (h : S < 64) (h3 : P / 18446744073709551616 = H) (h4 : P % 18446744073709551616 = L) :
    P / 2 ^ S < part ↔ H < part / 2 ^ (64 - S) ∨ part / 2 ^ (64 - S) = H ∧ L < part * 2 ^ S % 18446744073709551616 := by
  have e : (18446744073709551616 : Nat) = 2 ^ (64 - S) * 2 ^ S := by
    rw [← Nat.pow_add, show 64 - S + S = 64 by omega]
  have q : 0 < 2 ^ S := Nat.two_pow_pos S
  rw [Nat.div_lt_iff_lt_mul q]
  have e1 : part * 2 ^ S / 18446744073709551616 = part / 2 ^ (64 - S) := by
    conv => lhs; rw [e]
    rw [Nat.mul_div_mul_right _ _ q]
  rw [← e1, ← h3, ← h4]
  generalize part * 2 ^ S = Q
  omega

set_option maxRecDepth 100000 in
set_option maxHeartbeats 1000000 in
theorem rex_ok (part total x M S : Nat) (b : Bool) (hx : x < 18446744073709551616) (hb : lvOk x = true) (hp : part < 9223372036854775808) (ht : total ≤ 1125899906842624)
    (HP : ∀ w : World, Calls Try.prog 26 #[.float .f64 x] w fun e w' => e = .returned (.tuple #[.bool b, .int .u64 M, .int .i64 (-(S : Int))]) ∧ w = w')
    (hM : M < 9007199254740992) (h1 : 52 ≤ S) (h2 : S ≤ 1074) (w : World) :
    Calls Try.prog 17 #[.int .i64 part, .int .i64 total, .float .f64 x] w fun e w' => e = .returned (.tuple #[.bool (decide (total * M / 2 ^ S < part)), .int .i64 0]) ∧ w = w' := by
  have HR := right_any x hx
  rw [hb] at HR
  clear hb hx
  obtain ⟨a0, b10, b20, c0, lo, hi1, hi2⟩ := words_of hM ht rfl rfl rfl rfl rfl
  have hP : total * M < 340282366920938463463374607431768211456 := by
    calc total * M ≤ 1125899906842624 * 9007199254740992 := Nat.mul_le_mul ht (by omega)
      _ < _ := by decide
  have hA : IntKind.u64.wrap ((total : Int) / 4294967296 * ((M : Int) / 4294967296)) = ((total / 4294967296 * (M / 4294967296) : Nat) : Int) := by
    rw [← Mul64.wrapN _ (by omega : total / 4294967296 * (M / 4294967296) < 18446744073709551616), Int.natCast_mul]; rfl
  have hB1 : IntKind.u64.wrap ((total : Int) / 4294967296 * ((M : Int) % 4294967296)) = ((total / 4294967296 * (M % 4294967296) : Nat) : Int) := by
    rw [← Mul64.wrapN _ (by omega : total / 4294967296 * (M % 4294967296) < 18446744073709551616), Int.natCast_mul]; rfl
  have hB2 : IntKind.u64.wrap ((total : Int) % 4294967296 * ((M : Int) / 4294967296)) = ((total % 4294967296 * (M / 4294967296) : Nat) : Int) := by
    rw [← Mul64.wrapN _ (by omega : total % 4294967296 * (M / 4294967296) < 18446744073709551616), Int.natCast_mul]; rfl
  have hC : IntKind.u64.wrap ((total : Int) % 4294967296 * ((M : Int) % 4294967296)) = ((total % 4294967296 * (M % 4294967296) : Nat) : Int) := by
    rw [← Mul64.wrapN _ c0, Int.natCast_mul]; rfl
  generalize total / 4294967296 * (M / 4294967296) = A at *
  generalize total / 4294967296 * (M % 4294967296) = B1 at *
  generalize total % 4294967296 * (M / 4294967296) = B2 at *
  generalize total % 4294967296 * (M % 4294967296) = C at *
  have hL : IntKind.u64.wrap ((C : Int) + IntKind.u64.wrap (((B1 : Int) + (B2 : Int)) * 4294967296)) = (((C + (B1 + B2) * 4294967296 % 18446744073709551616) % 18446744073709551616 : Nat) : Int) := by
    rw [IntKind.wrap_u64, IntKind.wrap_u64]; omega
  generalize (C + (B1 + B2) * 4294967296 % 18446744073709551616) % 18446744073709551616 = L at *
  generalize total * M = P at *
  by_cases hs : 128 ≤ S
  · rw [less_big hP hs]
    by_cases hc : L < C
    · go_enter Try.func17, Try.ntmps17
      go_wp2_with (first | (with_reducible refine (HR _).mono ?_; rintro e w' ⟨rfl, rfl⟩) | (with_reducible refine (HP _).mono ?_; rintro e w' ⟨rfl, rfl⟩))
      go_ret2
      exact ⟨rfl, rfl⟩
    · go_enter Try.func17, Try.ntmps17
      go_wp2_with (first | (with_reducible refine (HR _).mono ?_; rintro e w' ⟨rfl, rfl⟩) | (with_reducible refine (HP _).mono ?_; rintro e w' ⟨rfl, rfl⟩))
      go_ret2
      exact ⟨rfl, rfl⟩
  · generalize hHd : P / 18446744073709551616 = H at *
    have hH64 : H < 18446744073709551616 := by omega
    by_cases h64 : 64 ≤ S
    · have key := less_two (part := part) h64 hHd
      have hO : (part : Int) / 2 ^ (128 - S) = ((part / 2 ^ (128 - S) : Nat) : Int) := by rw [Int.natCast_ediv, Int.natCast_pow]; rfl
      have hU : IntKind.u64.wrap ((part : Int) * 2 ^ (S - 64)) = ((part * 2 ^ (S - 64) % 18446744073709551616 : Nat) : Int) := by
        rw [IntKind.wrap_u64, Int.natCast_emod, Int.natCast_mul, Int.natCast_pow]; rfl
      have q : 0 < 2 ^ (128 - S) := Nat.two_pow_pos _
      have e : (18446744073709551616 : Nat) = 2 ^ (128 - S) * 2 ^ (S - 64) := by
        rw [← Nat.pow_add, show 128 - S + (S - 64) = 64 by omega]
      by_cases o : 0 < part / 2 ^ (128 - S)
      · have big : H < part * 2 ^ (S - 64) := by
          have : 2 ^ (128 - S) ≤ part := by
            have h := Nat.div_mul_le_self part (2 ^ (128 - S))
            have h' : 1 * 2 ^ (128 - S) ≤ part / 2 ^ (128 - S) * 2 ^ (128 - S) := Nat.mul_le_mul_right _ o
            omega
          calc H < 18446744073709551616 := hH64
            _ = 2 ^ (128 - S) * 2 ^ (S - 64) := e
            _ ≤ _ := Nat.mul_le_mul_right _ this
        rw [decide_eq_true (key.2 big)]
        clear key big q e hHd
        generalize part / 2 ^ (128 - S) = O at *
        generalize part * 2 ^ (S - 64) % 18446744073709551616 = U at *
        by_cases hc : L < C
        · have hH : (A : Int) + ((B1 : Int) + (B2 : Int)) / 4294967296 + 1 = (H : Int) := by have := hi1 hc; omega
          clear hi1 hi2
          go_enter Try.func17, Try.ntmps17
          go_wp2_with (first | (with_reducible refine (HR _).mono ?_; rintro e w' ⟨rfl, rfl⟩) | (with_reducible refine (HP _).mono ?_; rintro e w' ⟨rfl, rfl⟩))
          go_ret2
          exact ⟨ret_be (by first | rfl | (simp; done) | (simp; omega)) rfl, rfl⟩
        · have hH : (A : Int) + ((B1 : Int) + (B2 : Int)) / 4294967296 = (H : Int) := by have := hi2 hc; omega
          clear hi1 hi2
          go_enter Try.func17, Try.ntmps17
          go_wp2_with (first | (with_reducible refine (HR _).mono ?_; rintro e w' ⟨rfl, rfl⟩) | (with_reducible refine (HP _).mono ?_; rintro e w' ⟨rfl, rfl⟩))
          go_ret2
          exact ⟨ret_be (by first | rfl | (simp; done) | (simp; omega)) rfl, rfl⟩
      · have small : part * 2 ^ (S - 64) < 18446744073709551616 := by
          have : part < 2 ^ (128 - S) := by
            rcases Nat.lt_or_ge part (2 ^ (128 - S)) with g | g
            · exact g
            · exact absurd (Nat.div_pos g q) o
          calc part * 2 ^ (S - 64) < 2 ^ (128 - S) * 2 ^ (S - 64) := Nat.mul_lt_mul_of_pos_right this (Nat.two_pow_pos _)
            _ = _ := e.symm
        rw [Nat.mod_eq_of_lt small] at hU
        rw [show decide (P / 2 ^ S < part) = decide (H < part * 2 ^ (S - 64)) from decide_eq_decide.2 key]
        clear key small q e hHd
        have o0 : part / 2 ^ (128 - S) = 0 := Nat.eq_zero_of_not_pos o
        rw [o0] at hO
        clear o o0
        generalize part * 2 ^ (S - 64) = U at *
        by_cases hk : H < U
        · by_cases hc : L < C
          · have hH : (A : Int) + ((B1 : Int) + (B2 : Int)) / 4294967296 + 1 = (H : Int) := by have := hi1 hc; omega
            clear hi1 hi2
            go_enter Try.func17, Try.ntmps17
            go_wp2_with (first | (with_reducible refine (HR _).mono ?_; rintro e w' ⟨rfl, rfl⟩) | (with_reducible refine (HP _).mono ?_; rintro e w' ⟨rfl, rfl⟩))
            go_ret2
            exact ⟨ret_be (by first | rfl | (simp; done) | (simp; omega)) rfl, rfl⟩
          · have hH : (A : Int) + ((B1 : Int) + (B2 : Int)) / 4294967296 = (H : Int) := by have := hi2 hc; omega
            clear hi1 hi2
            go_enter Try.func17, Try.ntmps17
            go_wp2_with (first | (with_reducible refine (HR _).mono ?_; rintro e w' ⟨rfl, rfl⟩) | (with_reducible refine (HP _).mono ?_; rintro e w' ⟨rfl, rfl⟩))
            go_ret2
            exact ⟨ret_be (by first | rfl | (simp; done) | (simp; omega)) rfl, rfl⟩
        · by_cases hc : L < C
          · have hH : (A : Int) + ((B1 : Int) + (B2 : Int)) / 4294967296 + 1 = (H : Int) := by have := hi1 hc; omega
            clear hi1 hi2
            go_enter Try.func17, Try.ntmps17
            go_wp2_with (first | (with_reducible refine (HR _).mono ?_; rintro e w' ⟨rfl, rfl⟩) | (with_reducible refine (HP _).mono ?_; rintro e w' ⟨rfl, rfl⟩))
            go_ret2
            exact ⟨ret_be (by first | rfl | (simp; done) | (simp; omega)) rfl, rfl⟩
          · have hH : (A : Int) + ((B1 : Int) + (B2 : Int)) / 4294967296 = (H : Int) := by have := hi2 hc; omega
            clear hi1 hi2
            go_enter Try.func17, Try.ntmps17
            go_wp2_with (first | (with_reducible refine (HR _).mono ?_; rintro e w' ⟨rfl, rfl⟩) | (with_reducible refine (HP _).mono ?_; rintro e w' ⟨rfl, rfl⟩))
            go_ret2
            exact ⟨ret_be (by first | rfl | (simp; done) | (simp; omega)) rfl, rfl⟩
    · have key := less_one (part := part) (by omega : S < 64) hHd lo
      have hO : (part : Int) / 2 ^ (64 - S) = ((part / 2 ^ (64 - S) : Nat) : Int) := by rw [Int.natCast_ediv, Int.natCast_pow]; rfl
      have hU : IntKind.u64.wrap ((part : Int) * 2 ^ S) = ((part * 2 ^ S % 18446744073709551616 : Nat) : Int) := by
        rw [IntKind.wrap_u64, Int.natCast_emod, Int.natCast_mul, Int.natCast_pow]; rfl
      rw [show decide (P / 2 ^ S < part) = decide (H < part / 2 ^ (64 - S) ∨ part / 2 ^ (64 - S) = H ∧ L < part * 2 ^ S % 18446744073709551616) from decide_eq_decide.2 key]
      clear key hHd
      generalize part / 2 ^ (64 - S) = O at *
      generalize part * 2 ^ S % 18446744073709551616 = U at *
      rcases Nat.lt_trichotomy H O with g | g | g
      · by_cases hc : L < C
        · have hH : (A : Int) + ((B1 : Int) + (B2 : Int)) / 4294967296 + 1 = (H : Int) := by have := hi1 hc; omega
          clear hi1 hi2
          go_enter Try.func17, Try.ntmps17
          go_wp2_with (first | (with_reducible refine (HR _).mono ?_; rintro e w' ⟨rfl, rfl⟩) | (with_reducible refine (HP _).mono ?_; rintro e w' ⟨rfl, rfl⟩))
          go_ret2
          exact ⟨ret_be (by first | rfl | (simp; done) | (simp; omega)) rfl, rfl⟩
        · have hH : (A : Int) + ((B1 : Int) + (B2 : Int)) / 4294967296 = (H : Int) := by have := hi2 hc; omega
          clear hi1 hi2
          go_enter Try.func17, Try.ntmps17
          go_wp2_with (first | (with_reducible refine (HR _).mono ?_; rintro e w' ⟨rfl, rfl⟩) | (with_reducible refine (HP _).mono ?_; rintro e w' ⟨rfl, rfl⟩))
          go_ret2
          exact ⟨ret_be (by first | rfl | (simp; done) | (simp; omega)) rfl, rfl⟩
      · subst g
        by_cases hk : L < U
        · by_cases hc : L < C
          · have hH : (A : Int) + ((B1 : Int) + (B2 : Int)) / 4294967296 + 1 = (H : Int) := by have := hi1 hc; omega
            clear hi1 hi2
            go_enter Try.func17, Try.ntmps17
            go_wp2_with (first | (with_reducible refine (HR _).mono ?_; rintro e w' ⟨rfl, rfl⟩) | (with_reducible refine (HP _).mono ?_; rintro e w' ⟨rfl, rfl⟩))
            go_ret2
            exact ⟨ret_be (by first | rfl | (simp; done) | (simp; omega)) rfl, rfl⟩
          · have hH : (A : Int) + ((B1 : Int) + (B2 : Int)) / 4294967296 = (H : Int) := by have := hi2 hc; omega
            clear hi1 hi2
            go_enter Try.func17, Try.ntmps17
            go_wp2_with (first | (with_reducible refine (HR _).mono ?_; rintro e w' ⟨rfl, rfl⟩) | (with_reducible refine (HP _).mono ?_; rintro e w' ⟨rfl, rfl⟩))
            go_ret2
            exact ⟨ret_be (by first | rfl | (simp; done) | (simp; omega)) rfl, rfl⟩
        · by_cases hc : L < C
          · have hH : (A : Int) + ((B1 : Int) + (B2 : Int)) / 4294967296 + 1 = (H : Int) := by have := hi1 hc; omega
            clear hi1 hi2
            go_enter Try.func17, Try.ntmps17
            go_wp2_with (first | (with_reducible refine (HR _).mono ?_; rintro e w' ⟨rfl, rfl⟩) | (with_reducible refine (HP _).mono ?_; rintro e w' ⟨rfl, rfl⟩))
            go_ret2
            exact ⟨ret_be (by first | rfl | (simp; done) | (simp; omega)) rfl, rfl⟩
          · have hH : (A : Int) + ((B1 : Int) + (B2 : Int)) / 4294967296 = (H : Int) := by have := hi2 hc; omega
            clear hi1 hi2
            go_enter Try.func17, Try.ntmps17
            go_wp2_with (first | (with_reducible refine (HR _).mono ?_; rintro e w' ⟨rfl, rfl⟩) | (with_reducible refine (HP _).mono ?_; rintro e w' ⟨rfl, rfl⟩))
            go_ret2
            exact ⟨ret_be (by first | rfl | (simp; done) | (simp; omega)) rfl, rfl⟩
      · by_cases hc : L < C
        · have hH : (A : Int) + ((B1 : Int) + (B2 : Int)) / 4294967296 + 1 = (H : Int) := by have := hi1 hc; omega
          clear hi1 hi2
          go_enter Try.func17, Try.ntmps17
          go_wp2_with (first | (with_reducible refine (HR _).mono ?_; rintro e w' ⟨rfl, rfl⟩) | (with_reducible refine (HP _).mono ?_; rintro e w' ⟨rfl, rfl⟩))
          go_ret2
          exact ⟨ret_be (by first | rfl | (simp; done) | (simp; omega)) rfl, rfl⟩
        · have hH : (A : Int) + ((B1 : Int) + (B2 : Int)) / 4294967296 = (H : Int) := by have := hi2 hc; omega
          clear hi1 hi2
          go_enter Try.func17, Try.ntmps17
          go_wp2_with (first | (with_reducible refine (HR _).mono ?_; rintro e w' ⟨rfl, rfl⟩) | (with_reducible refine (HP _).mono ?_; rintro e w' ⟨rfl, rfl⟩))
          go_ret2
          exact ⟨ret_be (by first | rfl | (simp; done) | (simp; omega)) rfl, rfl⟩

theorem level_parts {x : Nat} (h : lvOk x = true) :
    ∃ S : Nat, pE x = -(S : Int) ∧ 52 ≤ S ∧ S ≤ 1074 ∧ pM x < 9007199254740992 ∧ pM x * Un = V x * 2 ^ S := by
  have h := of_decide_eq_true h
  obtain ⟨c, hc, hU⟩ := Un_ex
  unfold pE pM
  rw [if_neg (by omega : ¬ x / 4503599627370496 % 2048 = 2047)]
  by_cases q : x / 4503599627370496 % 2048 = 0
  · rw [if_pos q, if_pos (.inl q)]
    refine ⟨c, by omega, by omega, by omega, by omega, ?_⟩
    unfold V
    rw [if_pos (by omega), hU]; congr 1; omega
  · rw [if_neg q, if_neg (by omega)]
    refine ⟨1075 - x / 4503599627370496, by omega, by omega, by omega, by omega, ?_⟩
    unfold V
    rw [if_neg (by omega), hU, Nat.mul_assoc, ← Nat.pow_add, Nat.add_comm (x % 4503599627370496)]
    congr 2; omega

theorem rex_any (part total : Int) (x : Nat) (hx : x < 18446744073709551616) (hp : part < 9223372036854775808) (w : World) :
    Calls Try.prog 17 #[.int .i64 part, .int .i64 total, .float .f64 x] w fun e w' => e = .returned (.tuple #[.bool (exB part total x), .int .i64 (exE part total x)]) ∧ w = w' := by
  unfold exB exE
  cases hb : lvOk x
  · refine (rex_bad part total x hx hb w).mono ?_
    rintro e w' ⟨rfl, rfl⟩
    exact ⟨ret_be (by simp) (by simp), rfl⟩
  · cases hq : ptOk part total
    · refine (rex_arg part total x hx hb hq w).mono ?_
      rintro e w' ⟨rfl, rfl⟩
      exact ⟨ret_be (by simp) (by simp), rfl⟩
    · have h := of_decide_eq_true hq
      obtain ⟨p, rfl⟩ := Int.eq_ofNat_of_zero_le h.1
      obtain ⟨t, rfl⟩ := Int.eq_ofNat_of_zero_le h.2.1
      obtain ⟨S, e1, e2, e3, e4, e5⟩ := level_parts hb
      have HP := parts_any x hx
      rw [e1] at HP
      refine (rex_ok p t x (pM x) S _ hx hb (by omega) (by omega) HP e4 e2 e3 w).mono ?_
      rintro e w' ⟨rfl, hd⟩
      rw [← share_eq e5]
      exact ⟨ret_be (by simp) (by simp), hd⟩
end Go.Proofs.Ytkinbknflkenpaa
