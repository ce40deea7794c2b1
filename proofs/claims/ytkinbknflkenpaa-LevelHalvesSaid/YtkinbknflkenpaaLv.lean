/- What the functions of package level, and those of math that they call, answer: contracts, function by function. -/
import Derived.Test.YtkinbknflkenpaaChecked
import Derived.WalkKit
import Derived.RowKit3
import Derived.WalkLawsBesides
import Derived.Laws.BitsAllLaws
import Derived.Lib.Hide
import Derived.Deep.QuietTactic
import Derived.BigQuiet
import Derived.Shelf.Bits.Mul64
import Derived.Test.YtkinbknflkenpaaFl
namespace Go.Proofs.Ytkinbknflkenpaa
open Go.RowKit Fl

@[go_sem] theorem f64bits (x : Nat) (w : World) : (callFunc 31 #[.float .f64 x]).run Try.prog w = .ok (.value (.int .u64 x)) w := by
  rw [run_callFunc_extern Try.func31 (e := Extern.MathFloatBits.float64bits) (by kernel_rfl) (by kernel_rfl) (by kernel_rfl) (by kernel_rfl)]; rfl
@[go_sem] theorem f64of (n : Int) (w : World) : (callFunc 30 #[.int .u64 n]).run Try.prog w = .ok (.value (.float .f64 n.toNat)) w := by
  rw [run_callFunc_extern Try.func30 (e := Extern.MathFloatBits.float64frombits) (by kernel_rfl) (by kernel_rfl) (by kernel_rfl) (by kernel_rfl)]; rfl

/-- The world behind is the world ahead, but for orders that were drawn. -/
def Dr (w w' : World) : Prop := ∃ n, w' = w.drewN n

theorem isnan_any (x : Nat) (hx : x < 18446744073709551616) (w : World) : Calls Try.prog 22 #[.float .f64 x] w fun e w' => e = .returned (.bool (isNan x)) ∧ w = w' := by
  have H : ((FloatKind.f64.format.order x x != some .eq)) = isNan x := by
    cases h : isNan x
    · rw [show FloatKind.f64.format = Ieee.double from rfl, order_key hx hx h h, Int.compare_eq_eq.2 rfl]; rfl
    · rw [show FloatKind.f64.format = Ieee.double from rfl, order_nan hx hx (.inl h)]; rfl
  rw [← H]
  clear H
  go_enter Try.func22, Try.ntmps22
  go_wp2
  go_ret
  exact ⟨rfl, rfl⟩

theorem toint_any (b : Bool) (w : World) : Calls Try.prog 23 #[.bool b] w fun e w' => e = .returned (.int .i64 (if b then 1 else 0)) ∧ w = w' := by
  cases b <;>
  · go_enter Try.func23, Try.ntmps23
    go_wp2
    go_ret
    exact ⟨rfl, rfl⟩

theorem wrap64_u (x : Nat) (hx : x < 18446744073709551616) : wrap64 (x : Int) = if x < 9223372036854775808 then (x : Int) else (x : Int) - 18446744073709551616 := by
  unfold wrap64; split <;> omega

theorem signbit_any (x : Nat) (hx : x < 18446744073709551616) (w : World) : Calls Try.prog 24 #[.float .f64 x] w fun e w' => e = .returned (.bool (decide (9223372036854775808 ≤ x))) ∧ w = w' := by
  have H : decide (wrap64 (x : Int) < 0) = decide (9223372036854775808 ≤ x) := by
    rw [wrap64_u x hx]; split <;> simp <;> omega
  rw [← H]
  clear H
  go_enter Try.func24, Try.ntmps24
  go_wp2
  go_ret
  exact ⟨rfl, rfl⟩

theorem low63 (x : Nat) (hx : x < 18446744073709551616) : (bits .andNot .u64 (x : Int) 9223372036854775808).toNat = x % 9223372036854775808 := by
  have h := u64_andNot_nat x 9223372036854775808 hx (by omega)
  have e : x &&& (18446744073709551615 - 9223372036854775808) = x % 9223372036854775808 := Nat.and_two_pow_sub_one_eq_mod x 63
  rw [e] at h
  have h' : bits .andNot .u64 (x : Int) 9223372036854775808 = ((x % 9223372036854775808 : Nat) : Int) := h
  rw [h', Int.toNat_natCast]

theorem abs_any (x : Nat) (hx : x < 18446744073709551616) (w : World) : Calls Try.prog 39 #[.float .f64 x] w fun e w' => e = .returned (.float .f64 (x % 9223372036854775808)) ∧ w = w' := by
  have H := low63 x hx
  go_enter Try.func39, Try.ntmps39
  go_wp2
  go_ret
  exact ⟨rfl, rfl⟩

theorem mul64_any (x y : Nat) (hx : x < 18446744073709551616) (hy : y < 18446744073709551616) (w : World) : Calls Try.prog 34 #[.int .u64 x, .int .u64 y] w fun e w' => e = .returned (.tuple #[.int .u64 ((x * y / 18446744073709551616 : Nat) : Int), .int .u64 ((x * y % 18446744073709551616 : Nat) : Int)]) ∧ w = w' := by
  obtain ⟨bd, bt, bw, hhi⟩ := Lib.mul64_hi x y hx hy
  have ba := Lib.half_mul_le (a := x / 4294967296) (b := y / 4294967296) (by omega) (by omega)
  have bb := Lib.half_mul_le (a := x / 4294967296) (b := y % 4294967296) (by omega) (by omega)
  have bc := Lib.half_mul_le (a := x % 4294967296) (b := y / 4294967296) (by omega) (by omega)
  have k1 : x / 4294967296 * (y / 4294967296) < 18446744073709551616 := by omega
  have k2 : x / 4294967296 * (y % 4294967296) < 18446744073709551616 := by omega
  have k3 : x % 4294967296 * (y / 4294967296) < 18446744073709551616 := by omega
  have k4 : x / 4294967296 * (y / 4294967296) + (x / 4294967296 * (y % 4294967296) + x % 4294967296 * (y % 4294967296) / 4294967296) / 4294967296 < 18446744073709551616 := by omega
  have k5 : x / 4294967296 * (y / 4294967296) + (x / 4294967296 * (y % 4294967296) + x % 4294967296 * (y % 4294967296) / 4294967296) / 4294967296 + ((x / 4294967296 * (y % 4294967296) + x % 4294967296 * (y % 4294967296) / 4294967296) % 4294967296 + x % 4294967296 * (y / 4294967296)) / 4294967296 < 18446744073709551616 := by omega
  go_enter Try.func34, Try.ntmps34
  go_wp2
  simp only [Mul64.maskN x hx, Mul64.maskN y hy, Mul64.divN, Mul64.mulN, Mul64.addN, Mul64.wrapN _ bd, Mul64.wrapN _ k2, Mul64.wrapN _ bt, Mul64.maskN _ bt, Mul64.wrapN _ k3, Mul64.wrapN _ bw, Mul64.wrapN _ k1, Mul64.wrapN _ k4, Mul64.wrapN _ k5, Mul64.wrapM (x * y)]
  rw [hhi]
  go_ret2
  exact ⟨rfl, rfl⟩

/-- A number with no sign, neither above all nor none. -/
theorem ord_pos {x y : Nat} (hx : x < 9218868437227405313) (hy : y < 9218868437227405313) : FloatKind.f64.format.order x y = some (compare (x : Int) (y : Int)) := by
  rw [show FloatKind.f64.format = Ieee.double from rfl, order_key (by omega) (by omega) (by simp [isNan]; omega) (by simp [isNan]; omega)]
  unfold key
  rw [if_pos (by omega), if_pos (by omega)]

theorem ord_lt {x y : Nat} (hy : y < 9218868437227405313) (h : x < y) : FloatKind.f64.format.order x y = some .lt := by
  rw [ord_pos (by omega) hy, Int.compare_eq_lt.2 (by omega)]
theorem ord_gt {x y : Nat} (hx : x < 9218868437227405313) (h : y < x) : FloatKind.f64.format.order x y = some .gt := by
  rw [ord_pos hx (by omega), Int.compare_eq_gt.2 (by omega)]
theorem ord_eq {x y : Nat} (hx : x < 9218868437227405313) (h : x = y) : FloatKind.f64.format.order x y = some .eq := by
  rw [ord_pos hx (by omega), Int.compare_eq_eq.2 (by omega)]

theorem isinf_any (x : Nat) (hx : x < 9218868437227405312) (w : World) : Calls Try.prog 37 #[.float .f64 x, .int .i64 0] w fun e w' => e = .returned (.bool false) ∧ w = w' := by
  have H : (FloatKind.f64.format.order x 9218868437227405311 == some .gt) = false := by
    rcases Nat.lt_or_eq_of_le (show x ≤ 9218868437227405311 by omega) with h | h
    · rw [ord_lt (by omega) h]; rfl
    · rw [ord_eq (by omega) h]; rfl
  go_enter Try.func37, Try.ntmps37
  go_wp2_with (go_at_call 39; refine (abs_any _ (by omega) _).mono ?_; rw [Nat.mod_eq_of_lt (by omega : x < 9223372036854775808)]; rintro e w' ⟨rfl, rfl⟩)
  go_ret
  exact ⟨rfl, rfl⟩

theorem normalize_any (x : Nat) (hx : x < 9218868437227405312) (h0 : 0 < x) (w : World) :
    Calls Try.prog 38 #[.float .f64 x] w fun e w' => e = .returned (.tuple #[.float .f64 (fxN x), .int .i64 (if x < 4503599627370496 then -52 else 0)]) ∧ w = w' := by
  by_cases hs : x < 4503599627370496
  · have H : (FloatKind.f64.format.order x 4503599627370496 == some .lt) = true := by
      rw [ord_lt (by omega) hs]; rfl
    obtain ⟨r, hr, -⟩ := sub_up h0 hs
    have hn : fxN x = r := by unfold fxN; rw [if_pos hs, hr]; rfl
    rw [if_pos hs, hn]
    clear hn
    have M : ∀ (t : TypeId) (w : World), (binOp .mul t (.float .f64 x) (.float .f64 4841369599423283200)).run Try.prog w = .ok (.float .f64 r) w := fun t w => run_float_arith w .mul t .f64 _ _ r hr
    clear hr
    go_enter Try.func38, Try.ntmps38
    go_wp2_with (go_at_call 39; refine (abs_any _ (by omega) _).mono ?_; rw [Nat.mod_eq_of_lt (by omega : x < 9223372036854775808)]; rintro e w' ⟨rfl, rfl⟩)
    go_ret2
    exact ⟨rfl, rfl⟩
  · have H : (FloatKind.f64.format.order x 4503599627370496 == some .lt) = false := by
      rcases Nat.lt_or_eq_of_le (show 4503599627370496 ≤ x by omega) with h | h
      · rw [ord_gt (by omega) h]; rfl
      · rw [ord_eq (by omega) h.symm]; rfl
    have hn : fxN x = x := by unfold fxN; rw [if_neg hs]
    rw [if_neg hs, hn]
    clear hn
    go_enter Try.func38, Try.ntmps38
    go_wp2_with (go_at_call 39; refine (abs_any _ (by omega) _).mono ?_; rw [Nat.mod_eq_of_lt (by omega : x < 9223372036854775808)]; rintro e w' ⟨rfl, rfl⟩)
    go_ret2
    exact ⟨rfl, rfl⟩

theorem and11 (n : Nat) (h : n < 18446744073709551616) : bits .and .u64 ((n : Int) / 4503599627370496) 2047 = ((n / 4503599627370496 % 2048 : Nat) : Int) := by
  have h1 := u64_and_nat (n / 4503599627370496) 2047 (by omega) (by omega)
  have e : n / 4503599627370496 &&& 2047 = n / 4503599627370496 % 2048 := Nat.and_two_pow_sub_one_eq_mod _ 11
  rw [e] at h1
  exact h1
theorem keep52 (n : Nat) (h : n < 9223372036854775808) : bits .andNot .u64 (n : Int) 9218868437227405312 = ((n % 4503599627370496 : Nat) : Int) := by
  have h1 := u64_andNot_nat n 9218868437227405312 (by omega) (by omega)
  have e1 : n &&& 9223372036854775807 = n := by
    have : n &&& 9223372036854775807 = n % 9223372036854775808 := Nat.and_two_pow_sub_one_eq_mod n 63
    omega
  have e2 : (9223372036854775807 : Nat) &&& (18446744073709551615 - 9218868437227405312) = 4503599627370495 := by decide
  have e3 : n &&& 4503599627370495 = n % 4503599627370496 := Nat.and_two_pow_sub_one_eq_mod n 52
  have e : n &&& (18446744073709551615 - 9218868437227405312) = n % 4503599627370496 := by
    rw [← e3, ← e2, ← Nat.and_assoc, e1]
  rw [e] at h1
  exact h1
theorem half52 (n : Nat) (h : n < 4503599627370496) : bits .or .u64 (n : Int) 4602678819172646912 = ((4602678819172646912 + n : Nat) : Int) := by
  have h1 := u64_or_nat n 4602678819172646912 (by omega) (by omega)
  rw [Nat.or_comm, nat_join 52 _ _ (by decide) (by omega)] at h1
  exact h1

theorem ret_fi {a b : Nat} {c d : Int} (h1 : a = b) (h2 : c = d) : Ending.returned (.tuple #[.float .f64 a, .int .i64 c]) = Ending.returned (.tuple #[.float .f64 b, .int .i64 d]) := by rw [h1, h2]

theorem frexp_any (x : Nat) (hx : x ≤ 4607182418800017408) (h0 : 0 < x) (w : World) :
    Calls Try.prog 36 #[.float .f64 x] w fun e w' => e = .returned (.tuple #[.float .f64 (4602678819172646912 + fxN x % 4503599627370496), .int .i64 (53 - (fxS x : Int))]) ∧ w = w' := by
  obtain ⟨f1, f2, f3, f4, -, f6, f7, f8⟩ := fx_facts h0 hx
  have H0 : (FloatKind.f64.format.order x 0 == some .eq) = false := by rw [ord_gt (by omega) h0]; rfl
  have HN : isNan x = false := by simp [isNan]; omega
  have HS : (x < 4503599627370496 ∧ fxN x / 4503599627370496 ≤ 52 ∧ fxS x = 1127 - fxN x / 4503599627370496) ∨ (¬ x < 4503599627370496 ∧ fxN x / 4503599627370496 ≤ 1023 ∧ fxS x = 1075 - fxN x / 4503599627370496) := by
    unfold fxS
    by_cases h : x < 4503599627370496
    · exact .inl ⟨h, f6 h, if_pos h⟩
    · exact .inr ⟨h, (f7 h).2, if_neg h⟩
  have HC := normalize_any x (by omega) h0
  clear f6 f7 f3 f4
  generalize fxN x = N at *
  generalize fxS x = S at *
  rcases HS with ⟨hs, hq, hS⟩ | ⟨hs, hq, hS⟩
  · simp only [if_pos hs] at HC
    have hS' := Lib.hid hS
    clear hS
    go_enter Try.func36, Try.ntmps36
    go_wp2_with (first | (go_at_call 37; refine (isinf_any _ (by omega) _).mono ?_; rintro e w' ⟨rfl, rfl⟩) | (go_at_call 22; refine (isnan_any _ (by omega) _).mono ?_; rw [HN]; rintro e w' ⟨rfl, rfl⟩) | (go_at_call 38; refine (HC _).mono ?_; rintro e w' ⟨rfl, rfl⟩))
    go_ret2
    refine ⟨ret_fi ?_ ?_, rfl⟩
    · rw [keep52 N (by omega), half52 _ (by omega), Int.toNat_natCast]
    · rw [and11 N (by omega)]
      have := hS'.out
      unfold wrap64; omega
  · simp only [if_neg hs] at HC
    have hS' := Lib.hid hS
    clear hS
    go_enter Try.func36, Try.ntmps36
    go_wp2_with (first | (go_at_call 37; refine (isinf_any _ (by omega) _).mono ?_; rintro e w' ⟨rfl, rfl⟩) | (go_at_call 22; refine (isnan_any _ (by omega) _).mono ?_; rw [HN]; rintro e w' ⟨rfl, rfl⟩) | (go_at_call 38; refine (HC _).mono ?_; rintro e w' ⟨rfl, rfl⟩))
    go_ret2
    refine ⟨ret_fi ?_ ?_, rfl⟩
    · rw [keep52 N (by omega), half52 _ (by omega), Int.toNat_natCast]
    · rw [and11 N (by omega)]
      have := hS'.out
      unfold wrap64; omega

theorem Frexp_any (x : Nat) (hx : x ≤ 4607182418800017408) (h0 : 0 < x) (w : World) :
    Calls Try.prog 33 #[.float .f64 x] w fun e w' => e = .returned (.tuple #[.float .f64 (4602678819172646912 + fxN x % 4503599627370496), .int .i64 (53 - (fxS x : Int))]) ∧ w = w' := by
  go_enter Try.func33, Try.ntmps33
  go_wp2_with (go_at_call 36; refine (frexp_any _ hx h0 _).mono ?_; rintro e w' ⟨rfl, rfl⟩)
  go_ret2
  exact ⟨rfl, rfl⟩

theorem conv_u64 {r n : Nat} (h : r < 9218868437227405312) (hv : V r = n * Un) (hn : n < 18446744073709551616) (w : World) :
    (convert 22 31 (.float .f64 r)).run Try.prog w = .ok (.int .u64 (n : Int)) w := by
  refine run_convert_float_int w _ _ .f64 .u64 r n (by rw [Try.underlying22]; rfl) Try.underlying31 ?_
  unfold floatToIntVal
  have e : (FloatKind.f64.decode r).toInt .zero = some (n : Int) := by
    show (Ieee.double.read r).toInt .zero = _
    rw [toInt_fin (by omega) (by omega), if_neg (by omega), Nat.mod_eq_of_lt (by omega : r < 9223372036854775808), hv, Nat.mul_div_cancel _ Un_pos, Int.one_mul]
  rw [e]
  have m1 : IntKind.u64.min = 0 := by decide
  have m2 : IntKind.u64.max = 18446744073709551615 := by decide
  simp only [m1, m2]
  rw [if_pos (by omega)]

theorem or_words {P S : Nat} (hP : P < 10141204801825835211973625643008) (h1 : 52 ≤ S) (h2 : S < 64) :
    bits .or .u64 (IntKind.u64.wrap ((P / 18446744073709551616 * 2 ^ (64 - S) : Nat) : Int)) ((P % 18446744073709551616 / 2 ^ S : Nat) : Int) = ((P / 2 ^ S : Nat) : Int) := by
  have q : 0 < 2 ^ (64 - S) := Nat.two_pow_pos _
  have b1 : P / 18446744073709551616 * 2 ^ (64 - S) < 18446744073709551616 := by
    calc P / 18446744073709551616 * 2 ^ (64 - S) < 549755813888 * 2 ^ (64 - S) := Nat.mul_lt_mul_of_pos_right (by omega) q
      _ ≤ 549755813888 * 2 ^ 12 := Nat.mul_le_mul_left _ (Nat.pow_le_pow_right (by decide) (by omega))
      _ ≤ _ := by decide
  have b2 : P % 18446744073709551616 / 2 ^ S < 2 ^ (64 - S) := by
    apply Nat.div_lt_of_lt_mul
    rw [← Nat.pow_add, show S + (64 - S) = 64 by omega]
    exact Nat.mod_lt _ (by decide)
  have b3 : P % 18446744073709551616 / 2 ^ S < 18446744073709551616 := Nat.lt_of_le_of_lt (Nat.div_le_self _ _) (Nat.mod_lt _ (by decide))
  rw [Mul64.wrapN _ b1, u64_or_nat _ _ b1 b3, nat_join (64 - S) _ _ (Nat.mul_mod_left _ _) b2, one_word h2]

theorem share_any (total x : Nat) (ht : total ≤ 1125899906842624) (hx : x ≤ 4607182418800017408) (h0 : 0 < x) (w : World) :
    Calls Try.prog 28 #[.int .u64 total, .float .f64 x] w fun e w' => e = .returned (.int .u64 ((total * V x / Un : Nat) : Int)) ∧ Dr w w' := by
  obtain ⟨f1, f2, f3, f4, f5, -, -, f8⟩ := fx_facts h0 hx
  obtain ⟨r, hr, hr1, hr2⟩ := frac_up (t := fxN x % 4503599627370496) (by omega)
  have HC := Frexp_any x hx h0
  have M : ∀ (t : TypeId) (w : World), (binOp .mul t (.float .f64 (4602678819172646912 + fxN x % 4503599627370496)) (.float .f64 4845873199050653696)).run Try.prog w = .ok (.float .f64 r) w := fun t w => run_float_arith w .mul t .f64 _ _ r hr
  clear hr
  have hm : 4503599627370496 + fxN x % 4503599627370496 < 9007199254740992 := by omega
  generalize hT : fxN x % 4503599627370496 = T at *
  have CV := conv_u64 hr1 hr2 (by omega)
  have HM := mul64_any total (4503599627370496 + T) (by omega) (by omega)
  have f5' := Lib.hid f5
  clear f5 hr2 hT
  generalize 4503599627370496 + T = m at *
  generalize hS : fxS x = S at *
  clear hS
  by_cases hs : 64 ≤ S
  · go_enter Try.func28, Try.ntmps28
    go_wp2_with (first | (go_at_call 33; refine (HC _).mono ?_; rintro e w' ⟨rfl, rfl⟩) | (go_at_call 34; refine (HM _).mono ?_; rintro e w' ⟨rfl, rfl⟩))
    go_ret
    refine ⟨?_, ⟨0, rfl⟩⟩
    have hP : total * m < 340282366920938463463374607431768211456 := by
      calc total * m ≤ 1125899906842624 * 9007199254740992 := Nat.mul_le_mul ht (by omega)
        _ < _ := by decide
    have e := two_words hP hs
    rw [share_eq f5'.out, ← e, show (53 - (53 - (S : Int)) - 64).toNat = S - 64 by omega]
    congr 2
  · go_enter Try.func28, Try.ntmps28
    go_wp2_with (first | (go_at_call 33; refine (HC _).mono ?_; rintro e w' ⟨rfl, rfl⟩) | (go_at_call 34; refine (HM _).mono ?_; rintro e w' ⟨rfl, rfl⟩))
    go_quiet (fail)
    go_wp2
    go_ret
    refine ⟨?_, ⟨_, rfl⟩⟩
    have hP : total * m < 10141204801825835211973625643008 := by
      calc total * m ≤ 1125899906842624 * m := Nat.mul_le_mul_right _ ht
        _ < 1125899906842624 * 9007199254740992 := Nat.mul_lt_mul_of_pos_left hm (by omega)
        _ ≤ _ := by decide
    have e := or_words hP f3 (by omega)
    rw [share_eq f5'.out, ← e, show (64 - (53 - (53 - (S : Int)))).toNat = 64 - S by omega, show (53 - (53 - (S : Int))).toNat = S by omega]
    congr 2

theorem lbits_any (x : Nat) (hx : x < 18446744073709551616) (w : World) : Calls Try.prog 20 #[.float .f64 x] w fun e w' => e = .returned (.int .u64 (bitsOf x)) ∧ w = w' := by
  unfold bitsOf
  cases hn : isNan x
  · go_enter Try.func20, Try.ntmps20
    go_wp2_with (go_at_call 22; refine (isnan_any _ hx _).mono ?_; rw [hn]; rintro e w' ⟨rfl, rfl⟩)
    go_ret
    exact ⟨rfl, rfl⟩
  · go_enter Try.func20, Try.ntmps20
    go_wp2_with (go_at_call 22; refine (isnan_any _ hx _).mono ?_; rw [hn]; rintro e w' ⟨rfl, rfl⟩)
    go_ret
    exact ⟨rfl, rfl⟩

theorem isnan_pos {x : Nat} (h : x < 9218868437227405313) : isNan x = false := by simp [isNan]; omega

/-- No level: below, or nothing. -/
theorem low_yes {x : Nat} (hx : x < 18446744073709551616) (hn : isNan x = false) (h : x = 0 ∨ 9223372036854775808 ≤ x) :
    (FloatKind.f64.format.order x 0 == some .lt || FloatKind.f64.format.order x 0 == some .eq) = true := by
  rw [show FloatKind.f64.format = Ieee.double from rfl, order_key hx (by omega) hn (isnan_pos (by omega))]
  unfold key
  rw [if_pos (by omega : (0 : Nat) < 9223372036854775808)]
  by_cases g : x < 9223372036854775808
  · obtain rfl : x = 0 := by omega
    rfl
  · rw [if_neg g]
    rcases Nat.eq_or_lt_of_le (show 0 ≤ x - 9223372036854775808 by omega) with h | h
    · rw [← h]; rfl
    · rw [Int.compare_eq_lt.2 (by omega)]; rfl
theorem low_no {x : Nat} (hx : x < 9218868437227405313) (h : 0 < x) :
    (FloatKind.f64.format.order x 0 == some .lt || FloatKind.f64.format.order x 0 == some .eq) = false := by
  rw [ord_gt hx h]; rfl
theorem high_yes {x : Nat} (hx : x < 9218868437227405313) (h : 4607182418800017408 < x) : (FloatKind.f64.format.order x 4607182418800017408 == some .gt) = true := by
  rw [ord_gt hx h]; rfl
theorem high_no {x : Nat} (h : x ≤ 4607182418800017408) : (FloatKind.f64.format.order x 4607182418800017408 == some .gt) = false := by
  rcases Nat.lt_or_eq_of_le h with h | h
  · rw [ord_lt (by omega) h]; rfl
  · rw [ord_eq (by omega) h]; rfl

/-- What 'Exceeds' answers. -/
def lvOk (x : Nat) : Bool := decide (0 < x ∧ x ≤ 4607182418800017408)
def ptOk (part total : Int) : Bool := decide (0 ≤ part ∧ 0 ≤ total ∧ total ≤ 1125899906842624)
def exB (part total : Int) (x : Nat) : Bool := lvOk x && ptOk part total && decide (total.toNat * V x / Un < part.toNat)
def exE (part total : Int) (x : Nat) : Int := if lvOk x then (if ptOk part total then 0 else 1) else 11

theorem ret_be {a b : Bool} {c d : Int} (h1 : a = b) (h2 : c = d) : Ending.returned (.tuple #[.bool a, .int .i64 c]) = Ending.returned (.tuple #[.bool b, .int .i64 d]) := by rw [h1, h2]

theorem exceeds_bad (part total : Int) (x : Nat) (hx : x < 18446744073709551616) (hb : lvOk x = false) (w : World) :
    Calls Try.prog 16 #[.int .i64 part, .int .i64 total, .float .f64 x] w fun e w' => e = .returned (.tuple #[.bool false, .int .i64 11]) ∧ w = w' := by
  have hb := of_decide_eq_false hb
  cases hn : isNan x
  · by_cases g : x = 0 ∨ 9223372036854775808 ≤ x
    · have H := low_yes hx hn g
      go_enter Try.func16, Try.ntmps16
      go_wp2_with (go_at_call 22; refine (isnan_any _ hx _).mono ?_; rw [hn]; rintro e w' ⟨rfl, rfl⟩)
      go_ret2
      exact ⟨rfl, rfl⟩
    · have k : x < 9218868437227405313 := by
        have := of_decide_eq_false hn; omega
      have H := low_no k (by omega)
      have H' := high_yes k (by omega)
      go_enter Try.func16, Try.ntmps16
      go_wp2_with (go_at_call 22; refine (isnan_any _ hx _).mono ?_; rw [hn]; rintro e w' ⟨rfl, rfl⟩)
      go_ret2
      exact ⟨rfl, rfl⟩
  · go_enter Try.func16, Try.ntmps16
    go_wp2_with (go_at_call 22; refine (isnan_any _ hx _).mono ?_; rw [hn]; rintro e w' ⟨rfl, rfl⟩)
    go_ret2
    exact ⟨rfl, rfl⟩

theorem exceeds_arg (part total : Int) (x : Nat) (hb : lvOk x = true) (hp : ptOk part total = false) (w : World) :
    Calls Try.prog 16 #[.int .i64 part, .int .i64 total, .float .f64 x] w fun e w' => e = .returned (.tuple #[.bool false, .int .i64 1]) ∧ w = w' := by
  have hb := of_decide_eq_true hb
  have hp := of_decide_eq_false hp
  have hn := isnan_pos (x := x) (by omega)
  have H := low_no (x := x) (by omega) hb.1
  have H' := high_no hb.2
  by_cases p1 : part < 0
  · go_enter Try.func16, Try.ntmps16
    go_wp2_with (go_at_call 22; refine (isnan_any _ (by omega) _).mono ?_; rw [hn]; rintro e w' ⟨rfl, rfl⟩)
    go_ret2
    exact ⟨rfl, rfl⟩
  · by_cases p2 : total < 0
    · go_enter Try.func16, Try.ntmps16
      go_wp2_with (go_at_call 22; refine (isnan_any _ (by omega) _).mono ?_; rw [hn]; rintro e w' ⟨rfl, rfl⟩)
      go_ret2
      exact ⟨rfl, rfl⟩
    · have p3 : 1125899906842624 < total := by omega
      clear hp
      go_enter Try.func16, Try.ntmps16
      go_wp2_with (go_at_call 22; refine (isnan_any _ (by omega) _).mono ?_; rw [hn]; rintro e w' ⟨rfl, rfl⟩)
      go_ret2
      exact ⟨rfl, rfl⟩

theorem exceeds_ok (part total : Nat) (x : Nat) (hb : lvOk x = true) (hp : part < 9223372036854775808) (ht : total ≤ 1125899906842624) (w : World) :
    Calls Try.prog 16 #[.int .i64 part, .int .i64 total, .float .f64 x] w fun e w' => e = .returned (.tuple #[.bool (decide (total * V x / Un < part)), .int .i64 0]) ∧ Dr w w' := by
  have hb := of_decide_eq_true hb
  have hn := isnan_pos (x := x) (by omega)
  have H := low_no (x := x) (by omega) hb.1
  have H' := high_no hb.2
  have HC := share_any total x ht hb.2 hb.1
  generalize total * V x / Un = Z at *
  go_enter Try.func16, Try.ntmps16
  go_wp2_with (first | (go_at_call 22; refine (isnan_any _ (by omega) _).mono ?_; rw [hn]; rintro e w' ⟨rfl, rfl⟩) | (go_at_call 28; refine (HC _).mono ?_; rintro e w' ⟨rfl, n, rfl⟩))
  go_ret2
  exact ⟨ret_be (by simp) rfl, ⟨_, rfl⟩⟩

theorem Dr.refl (w : World) : Dr w w := ⟨0, rfl⟩
theorem Dr.more {w w' : World} (h : Dr w w') (n : Nat) : Dr w (w'.drewN n) := by
  obtain ⟨m, rfl⟩ := h
  exact ⟨m + n, by rw [World.drewN_drewN]⟩

theorem grown_drewN (w : World) (n : Nat) : Grown w (w.drewN n) := Grown.refl w

theorem u64_of_wf {n : Int} (h : (Lit.int .u64 n).wf = true) : ∃ m : Nat, n = (m : Int) ∧ m < 18446744073709551616 := by
  have m1 : IntKind.u64.min = 0 := by decide
  have m2 : IntKind.u64.max = 18446744073709551615 := by decide
  simp only [Lit.wf, m1, m2, Bool.and_eq_true, decide_eq_true_eq] at h
  exact ⟨n.toNat, by omega, by omega⟩
theorem i64_of_wf {n : Int} (h : (Lit.int .i64 n).wf = true) : -9223372036854775808 ≤ n ∧ n < 9223372036854775808 := by
  have m1 : IntKind.i64.min = -9223372036854775808 := by decide
  have m2 : IntKind.i64.max = 9223372036854775807 := by decide
  simp only [Lit.wf, m1, m2, Bool.and_eq_true, decide_eq_true_eq] at h
  omega

theorem exceeds_any (part total : Int) (x : Nat) (hx : x < 18446744073709551616) (hp : part < 9223372036854775808) (w : World) :
    Calls Try.prog 16 #[.int .i64 part, .int .i64 total, .float .f64 x] w fun e w' => e = .returned (.tuple #[.bool (exB part total x), .int .i64 (exE part total x)]) ∧ Dr w w' := by
  unfold exB exE
  cases hb : lvOk x
  · refine (exceeds_bad part total x hx hb w).mono ?_
    rintro e w' ⟨rfl, rfl⟩
    exact ⟨ret_be (by simp) (by simp), Dr.refl _⟩
  · cases hq : ptOk part total
    · refine (exceeds_arg part total x hb hq w).mono ?_
      rintro e w' ⟨rfl, rfl⟩
      exact ⟨ret_be (by simp) (by simp), Dr.refl _⟩
    · have h := of_decide_eq_true hq
      obtain ⟨p, rfl⟩ := Int.eq_ofNat_of_zero_le h.1
      obtain ⟨t, rfl⟩ := Int.eq_ofNat_of_zero_le h.2.1
      refine (exceeds_ok p t x hb (by omega) (by omega) w).mono ?_
      rintro e w' ⟨rfl, hd⟩
      exact ⟨ret_be (by simp) (by simp), hd⟩

theorem ret_i {c d : Int} (h2 : c = d) : Ending.returned (.int .i64 c) = Ending.returned (.int .i64 d) := by rw [h2]

theorem order_walk_nan (x y : Nat) (hx : x < 18446744073709551616) (hy : y < 18446744073709551616) (h : isNan x = true ∨ isNan y = true) (w : World) :
    Calls Try.prog 12 #[.float .f64 x, .float .f64 y] w fun e w' => e = .returned (.int .i64 (ordI x y)) ∧ w = w' := by
  have HX := isnan_any x hx
  have HY := isnan_any y hy
  cases a : isNan x <;> cases b : isNan y <;> rw [a] at HX <;> rw [b] at HY
  · simp [a, b] at h
  · have e : ordI x y = -1 := by
      have := place_lt hx a
      have := place_nan b
      unfold ordI; rw [if_pos (by omega)]
    rw [e]
    clear e
    go_enter Try.func12, Try.ntmps12
    go_wp2_with (first | (with_reducible refine (HX _).mono ?_; rintro e w' ⟨rfl, rfl⟩) | (with_reducible refine (HY _).mono ?_; rintro e w' ⟨rfl, rfl⟩) | (go_at_call 23; refine (toint_any _ _).mono ?_; rintro e w' ⟨rfl, rfl⟩))
    go_ret
    exact ⟨rfl, rfl⟩
  · have e : ordI x y = 1 := by
      have := place_lt hy b
      have := place_nan a
      unfold ordI; rw [if_neg (by omega), if_pos (by omega)]
    rw [e]
    clear e
    go_enter Try.func12, Try.ntmps12
    go_wp2_with (first | (with_reducible refine (HX _).mono ?_; rintro e w' ⟨rfl, rfl⟩) | (with_reducible refine (HY _).mono ?_; rintro e w' ⟨rfl, rfl⟩) | (go_at_call 23; refine (toint_any _ _).mono ?_; rintro e w' ⟨rfl, rfl⟩))
    go_ret
    exact ⟨rfl, rfl⟩
  · have e : ordI x y = 0 := by
      have := place_nan b
      have := place_nan a
      unfold ordI; rw [if_neg (by omega), if_neg (by omega)]
    rw [e]
    clear e
    go_enter Try.func12, Try.ntmps12
    go_wp2_with (first | (with_reducible refine (HX _).mono ?_; rintro e w' ⟨rfl, rfl⟩) | (with_reducible refine (HY _).mono ?_; rintro e w' ⟨rfl, rfl⟩) | (go_at_call 23; refine (toint_any _ _).mono ?_; rintro e w' ⟨rfl, rfl⟩))
    go_ret
    exact ⟨rfl, rfl⟩

theorem signbit_pos (x : Nat) (hx : x < 9223372036854775808) (w : World) : Calls Try.prog 24 #[.float .f64 x] w fun e w' => e = .returned (.bool false) ∧ w = w' := by
  have h := signbit_any x (by omega) w
  rw [decide_eq_false (by omega)] at h
  exact h
theorem signbit_neg (x : Nat) (hx : x < 18446744073709551616) (hn : 9223372036854775808 ≤ x) (w : World) : Calls Try.prog 24 #[.float .f64 x] w fun e w' => e = .returned (.bool true) ∧ w = w' := by
  have h := signbit_any x hx w
  rw [decide_eq_true hn] at h
  exact h

theorem order_walk_num (x y : Nat) (hx : x < 18446744073709551616) (hy : y < 18446744073709551616) (a : isNan x = false) (b : isNan y = false) (w : World) :
    Calls Try.prog 12 #[.float .f64 x, .float .f64 y] w fun e w' => e = .returned (.int .i64 (ordI x y)) ∧ w = w' := by
  have HX := isnan_any x hx
  have HY := isnan_any y hy
  rw [a] at HX
  rw [b] at HY
  have HO : FloatKind.f64.format.order x y = some (compare (key x) (key y)) := order_key hx hy a b
  rcases Int.lt_trichotomy (key x) (key y) with h | h | h
  · have e := ord_of_lt a b h
    rw [Int.compare_eq_lt.2 h] at HO
    have H1 : (FloatKind.f64.format.order x y == some .lt) = true := by rw [HO]; rfl
    rw [e]
    clear e HO h a b
    go_enter Try.func12, Try.ntmps12
    go_wp2_with (first | (with_reducible refine (HX _).mono ?_; rintro e w' ⟨rfl, rfl⟩) | (with_reducible refine (HY _).mono ?_; rintro e w' ⟨rfl, rfl⟩) | (go_at_call 23; refine (toint_any _ _).mono ?_; rintro e w' ⟨rfl, rfl⟩))
    go_ret
    exact ⟨rfl, rfl⟩
  · rw [Int.compare_eq_eq.2 h] at HO
    have H1 : (FloatKind.f64.format.order x y == some .lt) = false := by rw [HO]; rfl
    have H2 : (FloatKind.f64.format.order x y == some .gt) = false := by rw [HO]; rfl
    have hk := h
    unfold key at hk
    by_cases g : x < 9223372036854775808 <;> by_cases g' : y < 9223372036854775808
    · obtain rfl : x = y := by rw [if_pos g, if_pos g'] at hk; omega
      rw [ordI_self]
      have SX := signbit_pos x g
      clear HO hk a b h
      go_enter Try.func12, Try.ntmps12
      go_wp2_with (first | (with_reducible refine (HX _).mono ?_; rintro e w' ⟨rfl, rfl⟩) | (with_reducible refine (SX _).mono ?_; rintro e w' ⟨rfl, rfl⟩) | (go_at_call 23; refine (toint_any _ _).mono ?_; rintro e w' ⟨rfl, rfl⟩))
      go_ret
      exact ⟨rfl, rfl⟩
    · have e : ordI x y = 1 := by
        rw [if_pos g, if_neg g'] at hk
        unfold ordI
        rw [place_num a, place_num b, if_pos g, if_neg g', if_neg (by omega), if_pos (by omega)]
      rw [e]
      have SX := signbit_pos x g
      have SY := signbit_neg y hy (by omega)
      clear HO hk a b h e
      go_enter Try.func12, Try.ntmps12
      go_wp2_with (first | (with_reducible refine (HX _).mono ?_; rintro e w' ⟨rfl, rfl⟩) | (with_reducible refine (HY _).mono ?_; rintro e w' ⟨rfl, rfl⟩) | (with_reducible refine (SX _).mono ?_; rintro e w' ⟨rfl, rfl⟩) | (with_reducible refine (SY _).mono ?_; rintro e w' ⟨rfl, rfl⟩) | (go_at_call 23; refine (toint_any _ _).mono ?_; rintro e w' ⟨rfl, rfl⟩))
      go_ret
      exact ⟨rfl, rfl⟩
    · have e : ordI x y = -1 := by
        rw [if_neg g, if_pos g'] at hk
        unfold ordI
        rw [place_num a, place_num b, if_neg g, if_pos g', if_pos (by omega)]
      rw [e]
      have SX := signbit_neg x hx (by omega)
      have SY := signbit_pos y g'
      clear HO hk a b h e
      go_enter Try.func12, Try.ntmps12
      go_wp2_with (first | (with_reducible refine (HX _).mono ?_; rintro e w' ⟨rfl, rfl⟩) | (with_reducible refine (HY _).mono ?_; rintro e w' ⟨rfl, rfl⟩) | (with_reducible refine (SX _).mono ?_; rintro e w' ⟨rfl, rfl⟩) | (with_reducible refine (SY _).mono ?_; rintro e w' ⟨rfl, rfl⟩) | (go_at_call 23; refine (toint_any _ _).mono ?_; rintro e w' ⟨rfl, rfl⟩))
      go_ret
      exact ⟨rfl, rfl⟩
    · obtain rfl : x = y := by rw [if_neg g, if_neg g'] at hk; omega
      rw [ordI_self]
      have SX := signbit_neg x hx (by omega)
      clear HO hk a b h
      go_enter Try.func12, Try.ntmps12
      go_wp2_with (first | (with_reducible refine (HX _).mono ?_; rintro e w' ⟨rfl, rfl⟩) | (with_reducible refine (SX _).mono ?_; rintro e w' ⟨rfl, rfl⟩) | (go_at_call 23; refine (toint_any _ _).mono ?_; rintro e w' ⟨rfl, rfl⟩))
      go_ret
      exact ⟨rfl, rfl⟩
  · have e : ordI x y = 1 := by rw [ord_swap, ord_of_lt b a h]; rfl
    rw [Int.compare_eq_gt.2 h] at HO
    have H1 : (FloatKind.f64.format.order x y == some .lt) = false := by rw [HO]; rfl
    have H2 : (FloatKind.f64.format.order x y == some .gt) = true := by rw [HO]; rfl
    rw [e]
    clear e HO h a b
    go_enter Try.func12, Try.ntmps12
    go_wp2_with (first | (with_reducible refine (HX _).mono ?_; rintro e w' ⟨rfl, rfl⟩) | (with_reducible refine (HY _).mono ?_; rintro e w' ⟨rfl, rfl⟩) | (go_at_call 23; refine (toint_any _ _).mono ?_; rintro e w' ⟨rfl, rfl⟩))
    go_ret
    exact ⟨rfl, rfl⟩

theorem order_any (x y : Nat) (hx : x < 18446744073709551616) (hy : y < 18446744073709551616) (w : World) :
    Calls Try.prog 12 #[.float .f64 x, .float .f64 y] w fun e w' => e = .returned (.int .i64 (ordI x y)) ∧ w = w' := by
  cases a : isNan x
  · cases b : isNan y
    · exact order_walk_num x y hx hy a b w
    · exact order_walk_nan x y hx hy (.inr b) w
  · exact order_walk_nan x y hx hy (.inl a) w

/-- What 'Of' answers. -/
theorem of_yes (b : Nat) (hb : b < 18446744073709551616) (h : bitsOf b = b) (w : World) :
    Calls Try.prog 18 #[.int .u64 b] w fun e w' => e = .returned (.tuple #[.float .f64 b, .int .i64 0]) ∧ w = w' := by
  have HB := lbits_any b hb
  rw [h] at HB
  clear h
  go_enter Try.func18, Try.ntmps18
  go_wp2_with ((with_reducible refine (HB _).mono ?_); rintro e w' ⟨rfl, rfl⟩)
  go_ret2
  exact ⟨rfl, rfl⟩
theorem of_no (b : Nat) (hb : b < 18446744073709551616) (h : bitsOf b ≠ b) (w : World) :
    Calls Try.prog 18 #[.int .u64 b] w fun e w' => e = .returned (.tuple #[.float .f64 0, .int .i64 11]) ∧ w = w' := by
  have HB := lbits_any b hb
  generalize bitsOf b = B at *
  go_enter Try.func18, Try.ntmps18
  go_wp2_with ((with_reducible refine (HB _).mono ?_); rintro e w' ⟨rfl, rfl⟩)
  go_ret2
  exact ⟨rfl, rfl⟩

theorem alive_any (w : World) : Calls Try.prog 11 #[] w fun e w' => e = .returned (.bool true) ∧ Dr w w' := by
  have H1 := exceeds_any 2 3 4602678819172646912 (by omega) (by omega)
  have e1 : exB 2 3 4602678819172646912 = true := by
    have h := live_half
    unfold exB
    rw [show lvOk 4602678819172646912 = true by decide, show ptOk 2 3 = true by decide]
    simpa using h
  have e2 : exE 2 3 4602678819172646912 = 0 := by decide
  rw [e1, e2] at H1
  have H2 := order_any 4607182418800017408 4611686018427387904 (by omega) (by omega)
  rw [show ordI 4607182418800017408 4611686018427387904 = -1 by decide] at H2
  have H3 := lbits_any 4602678819172646912 (by omega)
  rw [show bitsOf 4602678819172646912 = 4602678819172646912 by decide] at H3
  clear e1 e2
  go_enter Try.func11, Try.ntmps11
  go_wp2_with (first | (go_at_call 16; refine (H1 _).mono ?_; rintro e w' ⟨rfl, n, rfl⟩) | (go_at_call 12; refine (H2 _).mono ?_; rintro e w' ⟨rfl, rfl⟩) | (go_at_call 20; refine (H3 _).mono ?_; rintro e w' ⟨rfl, rfl⟩))
  go_ret
  exact ⟨rfl, ⟨_, rfl⟩⟩
end Go.Proofs.Ytkinbknflkenpaa
