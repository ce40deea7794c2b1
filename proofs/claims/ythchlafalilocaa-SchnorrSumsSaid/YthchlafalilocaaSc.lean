/- What the functions of package schnorr, and the document's own, answer of powers: contracts, function by function. -/
import Derived.Test.YthchlafalilocaaChecked
import Derived.WalkKit
import Derived.RowKit3
import Derived.WalkLawsBesides
import Derived.Laws.BitsAllLaws
import Derived.Lib.Hide
import Derived.Shelf.Bits.Mul64
import Derived.Test.YthchlafalilocaaPm
namespace Go.Proofs.Ythchlafalilocaa
open Go.RowKit Pm

theorem beqT {a b : Int} (h : (a == b) = true) : a = b := by simpa using h
theorem beqF {a b : Int} (h : (a == b) = false) : a ≠ b := by simpa using h

theorem mul64_any (x y : Nat) (hx : x < 18446744073709551616) (hy : y < 18446744073709551616) (w : World) : Calls Try.prog 16 #[.int .u64 x, .int .u64 y] w fun e w' => e = .returned (.tuple #[.int .u64 ((x * y / 18446744073709551616 : Nat) : Int), .int .u64 ((x * y % 18446744073709551616 : Nat) : Int)]) ∧ w = w' := by
  obtain ⟨bd, bt, bw, hhi⟩ := Lib.mul64_hi x y hx hy
  have ba := Lib.half_mul_le (a := x / 4294967296) (b := y / 4294967296) (by omega) (by omega)
  have bb := Lib.half_mul_le (a := x / 4294967296) (b := y % 4294967296) (by omega) (by omega)
  have bc := Lib.half_mul_le (a := x % 4294967296) (b := y / 4294967296) (by omega) (by omega)
  have k1 : x / 4294967296 * (y / 4294967296) < 18446744073709551616 := by omega
  have k2 : x / 4294967296 * (y % 4294967296) < 18446744073709551616 := by omega
  have k3 : x % 4294967296 * (y / 4294967296) < 18446744073709551616 := by omega
  have k4 : x / 4294967296 * (y / 4294967296) + (x / 4294967296 * (y % 4294967296) + x % 4294967296 * (y % 4294967296) / 4294967296) / 4294967296 < 18446744073709551616 := by omega
  have k5 : x / 4294967296 * (y / 4294967296) + (x / 4294967296 * (y % 4294967296) + x % 4294967296 * (y % 4294967296) / 4294967296) / 4294967296 + ((x / 4294967296 * (y % 4294967296) + x % 4294967296 * (y % 4294967296) / 4294967296) % 4294967296 + x % 4294967296 * (y / 4294967296)) / 4294967296 < 18446744073709551616 := by omega
  go_enter Try.func16, Try.ntmps16
  go_wp2
  simp only [Mul64.maskN x hx, Mul64.maskN y hy, Mul64.divN, Mul64.mulN, Mul64.addN, Mul64.wrapN _ bd, Mul64.wrapN _ k2, Mul64.wrapN _ bt, Mul64.maskN _ bt, Mul64.wrapN _ k3, Mul64.wrapN _ bw, Mul64.wrapN _ k1, Mul64.wrapN _ k4, Mul64.wrapN _ k5, Mul64.wrapM (x * y)]
  rw [hhi]
  go_ret2
  exact ⟨rfl, rfl⟩

/-- A product below P's square, folded. -/
theorem fold (c : Nat) (hc : c ≤ 5316911983139663482391856204266602500) :
    c / 18446744073709551616 < 288230376151711744 ∧ c % 18446744073709551616 < 18446744073709551616 ∧
    (c % 18446744073709551616 % 2305843009213693952 + (c / 18446744073709551616 * 8 + c % 18446744073709551616 / 2305843009213693952) ≥ 2305843009213693951 → c % P = c % 18446744073709551616 % 2305843009213693952 + (c / 18446744073709551616 * 8 + c % 18446744073709551616 / 2305843009213693952) - 2305843009213693951) ∧
    (¬ c % 18446744073709551616 % 2305843009213693952 + (c / 18446744073709551616 * 8 + c % 18446744073709551616 / 2305843009213693952) ≥ 2305843009213693951 → c % P = c % 18446744073709551616 % 2305843009213693952 + (c / 18446744073709551616 * 8 + c % 18446744073709551616 / 2305843009213693952)) := by
  rw [P_eq]
  refine ⟨by omega, by omega, fun h => by omega, fun h => by omega⟩

theorem low61 (x : Nat) (hx : x < 18446744073709551616) : bits .and .u64 (x : Int) 2305843009213693951 = ((x % 2305843009213693952 : Nat) : Int) := by
  have h := u64_and_nat x 2305843009213693951 hx (by omega)
  have e : x &&& 2305843009213693951 = x % 2305843009213693952 := Nat.and_two_pow_sub_one_eq_mod x 61
  rw [e] at h
  exact h

theorem times_any (a b : Nat) (ha : a < P) (hb : b < P) (w : World) :
    Calls Try.prog 14 #[.int .u64 (a : Int), .int .u64 (b : Int)] w fun e w' => e = .returned (.int .u64 ((a * b % P : Nat) : Int)) ∧ w = w' := by
  have hc : a * b ≤ 5316911983139663482391856204266602500 := by
    calc a * b ≤ 2305843009213693950 * 2305843009213693950 := Nat.mul_le_mul (by rw [P_eq] at ha; omega) (by rw [P_eq] at hb; omega)
      _ = _ := by decide
  obtain ⟨f0, f1, f2, f3⟩ := fold (a * b) hc
  rw [P_eq] at ha hb
  have HM := mul64_any a b (by omega) (by omega)
  obtain ⟨r, hr⟩ : ∃ r, r = a * b % P := ⟨_, rfl⟩
  rw [← hr] at f2 f3
  rw [← hr]
  obtain ⟨hi, hhi⟩ : ∃ hi, hi = a * b / 18446744073709551616 := ⟨_, rfl⟩
  obtain ⟨lo, hlo⟩ : ∃ lo, lo = a * b % 18446744073709551616 := ⟨_, rfl⟩
  rw [← hhi] at f0 f2 f3 HM
  rw [← hlo] at f1 f2 f3 HM
  clear hr hhi hlo ha hb hc
  have HA := low61 lo f1
  have HO : bits .or .u64 ((hi : Int) * 8) ((lo : Int) / 2305843009213693952) = ((hi * 8 + lo / 2305843009213693952 : Nat) : Int) := by
    have h := u64_or_nat (hi * 8) (lo / 2305843009213693952) (by omega) (by omega)
    rw [nat_join 3 (hi * 8) (lo / 2305843009213693952) (by omega) (by omega)] at h
    exact h
  obtain ⟨s, hs⟩ : ∃ s : Int, s = ((lo % 2305843009213693952 + (hi * 8 + lo / 2305843009213693952) : Nat) : Int) := ⟨_, rfl⟩
  have h0 : 0 ≤ s := by omega
  have h1 : s < 18446744073709551616 := by omega
  have HW : (lo : Int) % 2305843009213693952 + ((hi : Int) * 8 + (lo : Int) / 2305843009213693952) = s := by omega
  have F2 : Hid (2305843009213693951 ≤ s → (r : Int) = s - 2305843009213693951) := Lib.hid (fun h => by have := f2 (by omega); omega)
  have F3 : Hid (s < 2305843009213693951 → (r : Int) = s) := Lib.hid (fun h => by have := f3 (by omega); omega)
  clear f2 f3 hs
  go_enter Try.func14, Try.ntmps14
  go_wp2_with (first | (with_reducible refine (HM _).mono ?_; rintro e w' ⟨rfl, rfl⟩) | rw [HA] | rw [HO] | rw [HW])
  all_goals go_ret
  · refine ⟨?_, rfl⟩
    rw [F2.out (by assumption)]; rfl
  · refine ⟨?_, rfl⟩
    rw [F3.out (by assumption)]; rfl

/-- One bit of an exponent, from below. -/
theorem low_one {p q n : Nat} (h : n % 2 = 1) : p * q % P * mp (q * q % P) (n / 2) % P = p * mp q n % P := by
  have e : mp q n = q % P * mp q (2 * (n / 2)) % P := by
    rw [← mp_one q, ← mp_add]; congr 1; omega
  rw [e, mp_mul, ← mp_double, Nat.mod_mul_mod, Nat.mul_mod_mod, Nat.mul_left_comm, Nat.mod_mul_mod, ← Nat.mul_assoc, Nat.mul_comm q p]
theorem low_nought {p q n : Nat} (h : n % 2 = 0) : p * mp (q * q % P) (n / 2) % P = p * mp q n % P := by
  have e : n = 2 * (n / 2) := by omega
  rw [mp_mul, ← mp_double, ← e]
/-- One bit, from above. -/
theorem bit_one {B i : Nat} (h : B / 2 ^ i % 2 = 1) : B / 2 ^ i = 2 * (B / 2 ^ (i + 1)) + 1 := by
  rw [Nat.pow_succ, ← Nat.div_div_eq_div_mul]; omega
theorem bit_nought {B i : Nat} (h : B / 2 ^ i % 2 = 0) : B / 2 ^ i = 2 * (B / 2 ^ (i + 1)) := by
  rw [Nat.pow_succ, ← Nat.div_div_eq_div_mul]; omega
theorem dbl_one {A B m i : Nat} (h : B / 2 ^ i % 2 = 1) : (2 * (A * (B / 2 ^ (i + 1)) % m) % m + A) % m = A * (B / 2 ^ i) % m := by
  rw [bit_one h, Nat.mul_mod_mod, Nat.mod_add_mod, Nat.mul_add, Nat.mul_one, Nat.mul_left_comm]
theorem dbl_nought {A B m i : Nat} (h : B / 2 ^ i % 2 = 0) : 2 * (A * (B / 2 ^ (i + 1)) % m) % m = A * (B / 2 ^ i) % m := by
  rw [bit_nought h, Nat.mul_mod_mod, Nat.mul_left_comm]
theorem sq_one {b e i : Nat} (h : e / 2 ^ i % 2 = 1) : mp b (e / 2 ^ (i + 1)) * mp b (e / 2 ^ (i + 1)) % P * b % P = mp b (e / 2 ^ i) := by
  rw [bit_one h, ← mp_double, mp_add, mp_one, Nat.mul_mod_mod]
theorem sq_nought {b e i : Nat} (h : e / 2 ^ i % 2 = 0) : mp b (e / 2 ^ (i + 1)) * mp b (e / 2 ^ (i + 1)) % P = mp b (e / 2 ^ i) := by
  rw [bit_nought h, ← mp_double]

theorem power_any (b e : Nat) (hb : b < 18446744073709551616) (he : e < 18446744073709551616) (w : World) :
    Calls Try.prog 9 #[.int .u64 (b : Int), .int .u64 (e : Int)] w fun x w' => x = .returned (.int .u64 ((mp b e : Nat) : Int)) ∧ w = w' := by
  go_enter Try.func9, Try.ntmps9
  go_wp2_with fail
  go_loop [1, 5, 6] (fun x y z => ∃ n p q : Nat, n < 18446744073709551616 ∧ p < P ∧ q < P ∧ x = .int .u64 (n : Int) ∧ y = .int .u64 (p : Int) ∧ z = .int .u64 (q : Int) ∧ p * mp q n % P = mp b e) (fun x _ _ => (intOf x).toNat)
  case atStart => exact ⟨e, 1, b % P, he, P_one, Nat.mod_lt _ P_pos, rfl, rfl, by rw [P_eq]; rfl, by rw [mp_base, Nat.one_mul, mp_mod]⟩
  case round =>
    obtain ⟨n, p, q, hn, hp, hq, rfl, rfl, rfl, hrel⟩ := hrel
    rcases Nat.eq_zero_or_pos n with h0 | h0
    · subst h0
      rw [mp_zero, Nat.mul_one, Nat.mod_eq_of_lt hp] at hrel
      go_wp2
      go_ret
      exact ⟨rfl, rfl⟩
    · have HA : bits .and .u64 (n : Int) 1 = ((n % 2 : Nat) : Int) := by
        have h := u64_and_nat n 1 hn (by omega)
        rw [nat_mask1] at h
        exact h
      have H1 := times_any p q hp hq
      have H2 := times_any q q hq hq
      have R := Lib.hid hrel
      have l1 := Nat.mod_lt (p * q) P_pos
      have l2 := Nat.mod_lt (q * q) P_pos
      have e1 := @low_one p q n
      have e2 := @low_nought p q n
      rw [hrel] at e1 e2
      obtain ⟨p', hp'⟩ : ∃ p', p' = p * q % P := ⟨_, rfl⟩
      obtain ⟨q', hq'⟩ : ∃ q', q' = q * q % P := ⟨_, rfl⟩
      rw [← hp'] at l1 e1 H1
      rw [← hq'] at l2 e1 e2 H2
      have E1 := Lib.hid e1
      have E2 := Lib.hid e2
      have L1 := Lib.hid l1
      have L2 := Lib.hid l2
      have LP := Lib.hid hp
      clear hrel e1 e2 hp' hq' l1 l2 hp hq
      go_wp2_with (first | (with_reducible refine (H1 _).mono ?_; rintro e w' ⟨rfl, rfl⟩) | (with_reducible refine (H2 _).mono ?_; rintro e w' ⟨rfl, rfl⟩) | rw [HA])
      · go_round
        case rel => exact ⟨n / 2, p', q', by omega, L1.out, L2.out, rfl, rfl, rfl, E1.out (by have := beqT (by assumption); omega)⟩
        case measure => simp [intOf]; omega
      · go_round
        case rel => exact ⟨n / 2, p, q', by omega, LP.out, L2.out, rfl, rfl, rfl, E2.out (by have := beqF (by assumption); omega)⟩
        case measure => simp [intOf]; omega

theorem tmodN (a b : Nat) : (a : Int).tmod (b : Int) = ((a % b : Nat) : Int) := (Int.ofNat_tmod a b).symm
theorem dbl_int {N A m : Nat} (hA : A < m) (hm : m < 4611686018427387904) :
    (IntKind.u64.wrap (2 * (N : Int) % (m : Int) + (A : Int))).tmod (m : Int) = (((2 * N % m + A) % m : Nat) : Int) := by
  have h2 := Nat.mod_lt (2 * N) (show 0 < m by omega)
  have h1 : 2 * (N : Int) % (m : Int) = ((2 * N % m : Nat) : Int) := by rw [Int.natCast_emod]; rfl
  rw [h1, ← Int.natCast_add, Mul64.wrapN _ (by omega), tmodN]
theorem dbl_int0 (N m : Nat) : 2 * (N : Int) % (m : Int) = ((2 * N % m : Nat) : Int) := by rw [Int.natCast_emod]; rfl
theorem bit_int (B i : Nat) : ((B : Int) / 2 ^ i).tmod 2 = ((B / 2 ^ i % 2 : Nat) : Int) := by
  have h : (B : Int) / 2 ^ i = ((B / 2 ^ i : Nat) : Int) := by rw [Int.natCast_ediv, Int.natCast_pow]; rfl
  rw [h]; exact tmodN _ 2
theorem bit_yes {B i : Nat} (h : ((((B : Int) / 2 ^ i).tmod 2) == 1) = true) : B / 2 ^ i % 2 = 1 := by
  have := beqT h; rw [bit_int] at this; omega
theorem bit_no {B i : Nat} (h : ((((B : Int) / 2 ^ i).tmod 2) == 1) = false) : B / 2 ^ i % 2 = 0 := by
  have := beqF h; rw [bit_int] at this; omega

theorem rtimes_any (a b m : Nat) (ha : a < 18446744073709551616) (hb : b < 18446744073709551616) (hm : m < 4611686018427387904) (hm0 : 0 < m) (w : World) :
    Calls Try.prog 15 #[.int .u64 (a : Int), .int .u64 (b : Int), .int .u64 (m : Int)] w fun x w' => x = .returned (.int .u64 ((a * b % m : Nat) : Int)) ∧ w = w' := by
  have hA := Nat.mod_lt a hm0
  have hB := Nat.mod_lt b hm0
  have hR : a * b % m = (a % m) * (b % m) % m := Nat.mul_mod a b m
  rw [hR]
  clear hR
  obtain ⟨A, hA'⟩ : ∃ A, A = a % m := ⟨_, rfl⟩
  obtain ⟨B, hB'⟩ : ∃ B, B = b % m := ⟨_, rfl⟩
  have hAI : (a : Int) % (m : Int) = (A : Int) := by rw [hA', Int.natCast_emod]
  have hBI : (b : Int) % (m : Int) = (B : Int) := by rw [hB', Int.natCast_emod]
  rw [← hA', ← hB']
  rw [← hA'] at hA
  rw [← hB'] at hB
  clear hA' hB'
  go_enter Try.func15, Try.ntmps15
  go_wp2_with fail
  rw [hAI, hBI]
  clear hAI hBI
  go_loop [7, 8] (fun x i => ∃ j N : Nat, j ≤ 62 ∧ x = .int .u64 (N : Int) ∧ i = .int .i64 (61 - (j : Int)) ∧ N < m ∧ N = A * (B / 2 ^ (62 - j)) % m) (fun _ i => (intOf i + 1).toNat)
  case atStart => exact ⟨0, 0, by omega, rfl, rfl, hm0, by rw [Nat.div_eq_of_lt (by show B < 2 ^ 62; omega), Nat.mul_zero, Nat.zero_mod]⟩
  case round =>
    obtain ⟨j, N, hj, rfl, rfl, hN, hrel⟩ := hrel
    by_cases hlt : j < 62
    · have e : 62 - j = (61 - j) + 1 := by omega
      rw [e] at hrel
      have E1 := Lib.hid (@dbl_one A B m (61 - j))
      have E2 := Lib.hid (@dbl_nought A B m (61 - j))
      rw [← hrel] at E1 E2
      have D1 := Lib.hid (dbl_int (N := N) hA hm)
      have D2 := Lib.hid (dbl_int0 N m)
      clear hrel e
      go_wp2
      · rw [D1.out]
        go_round
        case rel => exact ⟨j + 1, _, by omega, rfl, by go_num, Nat.mod_lt _ hm0, by rw [E1.out (bit_yes (by assumption)), show 62 - (j + 1) = 61 - j by omega]⟩
        case measure => simp [intOf]; omega
      · rw [D2.out]
        go_round
        case rel => exact ⟨j + 1, _, by omega, rfl, by go_num, Nat.mod_lt _ hm0, by rw [E2.out (bit_no (by assumption)), show 62 - (j + 1) = 61 - j by omega]⟩
        case measure => simp [intOf]; omega
    · obtain rfl : j = 62 := by omega
      rw [Nat.sub_self, Nat.pow_zero, Nat.div_one] at hrel
      have HR := Lib.hid hrel
      clear hrel
      go_wp2
      go_ret
      exact ⟨congrArg (fun n : Nat => Ending.returned (Value.int .u64 (n : Int))) HR.out, rfl⟩

theorem product_any (a b : Nat) (ha : a < P) (hb : b < P) (w : World) :
    Calls Try.prog 11 #[.int .u64 (a : Int), .int .u64 (b : Int)] w fun x w' => x = .returned (.int .u64 ((a * b % P : Nat) : Int)) ∧ w = w' := by
  rw [P_eq] at *
  go_enter Try.func11, Try.ntmps11
  go_wp2_with fail
  go_loop [5, 6] (fun x i => ∃ j N : Nat, j ≤ 61 ∧ x = .int .u64 (N : Int) ∧ i = .int .i64 (60 - (j : Int)) ∧ N < 2305843009213693951 ∧ N = a * (b / 2 ^ (61 - j)) % 2305843009213693951) (fun _ i => (intOf i + 1).toNat)
  case atStart => exact ⟨0, 0, by omega, rfl, rfl, by omega, by rw [Nat.div_eq_of_lt (by show b < 2 ^ 61; omega), Nat.mul_zero, Nat.zero_mod]⟩
  case round =>
    obtain ⟨j, N, hj, rfl, rfl, hN, hrel⟩ := hrel
    by_cases hlt : j < 61
    · have e : 61 - j = (60 - j) + 1 := by omega
      rw [e] at hrel
      have E1 := Lib.hid (@dbl_one a b 2305843009213693951 (60 - j))
      have E2 := Lib.hid (@dbl_nought a b 2305843009213693951 (60 - j))
      rw [← hrel] at E1 E2
      have D1 : Hid ((2 * (N : Int) % 2305843009213693951 + (a : Int)) % 2305843009213693951 = (((2 * N % 2305843009213693951 + a) % 2305843009213693951 : Nat) : Int)) := Lib.hid (by omega)
      have D2 : Hid (2 * (N : Int) % 2305843009213693951 = ((2 * N % 2305843009213693951 : Nat) : Int)) := Lib.hid (by omega)
      clear hrel e
      go_wp2
      · rw [D1.out]
        go_round
        case rel => exact ⟨j + 1, _, by omega, rfl, by go_num, Nat.mod_lt _ (by omega), by rw [E1.out (bit_yes (by assumption)), show 61 - (j + 1) = 60 - j by omega]⟩
        case measure => simp [intOf]; omega
      · rw [D2.out]
        go_round
        case rel => exact ⟨j + 1, _, by omega, rfl, by go_num, Nat.mod_lt _ (by omega), by rw [E2.out (bit_no (by assumption)), show 61 - (j + 1) = 60 - j by omega]⟩
        case measure => simp [intOf]; omega
    · obtain rfl : j = 61 := by omega
      rw [Nat.sub_self, Nat.pow_zero, Nat.div_one] at hrel
      have HR := Lib.hid hrel
      clear hrel
      go_wp2
      go_ret
      exact ⟨congrArg (fun n : Nat => Ending.returned (Value.int .u64 (n : Int))) HR.out, rfl⟩

theorem rpower_any (b e : Nat) (hb : b < 18446744073709551616) (he : e < 18446744073709551616) (w : World) :
    Calls Try.prog 10 #[.int .u64 (b : Int), .int .u64 (e : Int)] w fun x w' => x = .returned (.int .u64 ((mp b e : Nat) : Int)) ∧ w = w' := by
  go_enter Try.func10, Try.ntmps10
  go_wp2_with fail
  go_loop [5, 6] (fun x i => ∃ j N : Nat, j ≤ 64 ∧ x = .int .u64 (N : Int) ∧ i = .int .i64 (63 - (j : Int)) ∧ N < P ∧ N = mp b (e / 2 ^ (64 - j))) (fun _ i => (intOf i + 1).toNat)
  case atStart => exact ⟨0, 1, by omega, rfl, rfl, P_one, by rw [Nat.div_eq_of_lt (by show e < 2 ^ 64; omega), mp_zero]⟩
  case round =>
    obtain ⟨j, N, hj, rfl, rfl, hN, hrel⟩ := hrel
    by_cases hlt : j < 64
    · have e0 : 64 - j = (63 - j) + 1 := by omega
      rw [e0] at hrel
      have e1 := @sq_one b e (63 - j)
      have e2 := @sq_nought b e (63 - j)
      rw [← hrel] at e1 e2
      have l1 := Nat.mod_lt (N * N) P_pos
      have H1 : ∀ w, Calls Try.prog 15 #[.int .u64 (N : Int), .int .u64 (N : Int), .int .u64 2305843009213693951] w fun x w' => x = .returned (.int .u64 ((N * N % P : Nat) : Int)) ∧ w = w' := rtimes_any N N P (by rw [P_eq] at hN; omega) (by rw [P_eq] at hN; omega) (by rw [P_eq]; omega) P_pos
      obtain ⟨N', hN'⟩ : ∃ N', N' = N * N % P := ⟨_, rfl⟩
      rw [← hN'] at e1 e2 l1 H1
      have H2 : ∀ w, Calls Try.prog 15 #[.int .u64 (N' : Int), .int .u64 (b : Int), .int .u64 2305843009213693951] w fun x w' => x = .returned (.int .u64 ((N' * b % P : Nat) : Int)) ∧ w = w' := rtimes_any N' b P (by rw [P_eq] at l1; omega) hb (by rw [P_eq]; omega) P_pos
      have l2 := Nat.mod_lt (N' * b) P_pos
      obtain ⟨N2, hN2⟩ : ∃ N2, N2 = N' * b % P := ⟨_, rfl⟩
      rw [← hN2] at e1 l2 H2
      have E1 := Lib.hid e1
      have E2 := Lib.hid e2
      have L1 := Lib.hid l1
      have L2 := Lib.hid l2
      clear hrel e0 e1 e2 l1 l2 hN hN' hN2
      go_wp2_with (first | (with_reducible refine (H1 _).mono ?_; rintro e w' ⟨rfl, rfl⟩) | (with_reducible refine (H2 _).mono ?_; rintro e w' ⟨rfl, rfl⟩))
      · go_round
        case rel => exact ⟨j + 1, N2, by omega, rfl, by go_num, L2.out, by rw [E1.out (bit_yes (by assumption)), show 64 - (j + 1) = 63 - j by omega]⟩
        case measure => simp [intOf]; omega
      · go_round
        case rel => exact ⟨j + 1, N', by omega, rfl, by go_num, L1.out, by rw [E2.out (bit_no (by assumption)), show 64 - (j + 1) = 63 - j by omega]⟩
        case measure => simp [intOf]; omega
    · obtain rfl : j = 64 := by omega
      rw [Nat.sub_self, Nat.pow_zero, Nat.div_one] at hrel
      have HR := Lib.hid hrel
      clear hrel
      go_wp2
      go_ret
      exact ⟨congrArg (fun n : Nat => Ending.returned (Value.int .u64 (n : Int))) HR.out, rfl⟩

theorem retB {b c : Bool} (h : b = c) : Ending.returned (Value.bool b) = Ending.returned (Value.bool c) := by rw [h]

theorem secret_any (n : Int) (h0 : 0 ≤ n) (h1 : n < 18446744073709551616) (w : World) :
    Calls Try.prog 12 #[.int .u64 n] w fun x w' => x = .returned (.bool (decide (1 ≤ n) && decide (n < 2305843009213693950))) ∧ w = w' := by
  go_enter Try.func12, Try.ntmps12
  go_wp2
  · go_ret
    exact ⟨retB (by rw [decide_eq_true (show 1 ≤ n by assumption), Bool.true_and]), rfl⟩
  · go_ret
    exact ⟨retB (by rw [decide_eq_false (show ¬ 1 ≤ n by omega), Bool.false_and]), rfl⟩

theorem right_any (n : Int) (h0 : 0 ≤ n) (h1 : n < 18446744073709551616) (w : World) :
    Calls Try.prog 13 #[.int .u64 n] w fun x w' => x = .returned (.bool (decide (1 ≤ n) && decide (n < 2305843009213693950))) ∧ w = w' := by
  go_enter Try.func13, Try.ntmps13
  go_wp2
  · go_ret
    exact ⟨retB (by rw [decide_eq_true (show 1 ≤ n by assumption), Bool.true_and]; show decide (n ≤ 2305843009213693949) = _; exact decide_eq_decide.2 (by omega)), rfl⟩
  · go_ret
    exact ⟨retB (by rw [decide_eq_false (show ¬ 1 ≤ n by omega), Bool.false_and]), rfl⟩

/-- Is it a secret? -/
def isS (n : Nat) : Bool := decide (1 ≤ (n : Int)) && decide ((n : Int) < 2305843009213693950)
theorem isS_yes {n : Nat} : isS n = true ↔ 1 ≤ n ∧ n < 2305843009213693950 := by
  unfold isS; rw [Bool.and_eq_true, decide_eq_true_eq, decide_eq_true_eq]; omega
/-- What Key answers. -/
def keyV (n : Nat) : Value := if isS n = true then .tuple #[.int .u64 ((mp 37 n : Nat) : Int), .int .i64 0] else .tuple #[.int .u64 0, .int .i64 41]
theorem keyV_yes {n : Nat} (h : isS n = true) : keyV n = .tuple #[.int .u64 ((mp 37 n : Nat) : Int), .int .i64 0] := if_pos h
theorem keyV_no {n : Nat} (h : isS n = false) : keyV n = .tuple #[.int .u64 0, .int .i64 41] := if_neg (by rw [h]; decide)

theorem key_any (n : Nat) (hn : n < 18446744073709551616) (w : World) :
    Calls Try.prog 6 #[.int .u64 (n : Int)] w fun x w' => x = .returned (keyV n) ∧ w = w' := by
  have HS : ∀ w, Calls Try.prog 12 #[.int .u64 (n : Int)] w fun x w' => x = .returned (.bool (isS n)) ∧ w = w' := secret_any n (by omega) (by omega)
  have HP : ∀ w, Calls Try.prog 9 #[.int .u64 37, .int .u64 (n : Int)] w fun x w' => x = .returned (.int .u64 ((mp 37 n : Nat) : Int)) ∧ w = w' := power_any 37 n (by omega) hn
  cases h : isS n
  · rw [keyV_no h]
    rw [h] at HS
    clear h HP hn
    go_enter Try.func6, Try.ntmps6
    go_wp2_with (with_reducible refine (HS _).mono ?_; rintro e w' ⟨rfl, rfl⟩)
    go_ret2
    exact ⟨rfl, rfl⟩
  · rw [keyV_yes h]
    rw [h] at HS
    generalize mp 37 n = k at HP ⊢
    clear h hn
    go_enter Try.func6, Try.ntmps6
    go_wp2_with (first | (with_reducible refine (HS _).mono ?_; rintro e w' ⟨rfl, rfl⟩) | (with_reducible refine (HP _).mono ?_; rintro e w' ⟨rfl, rfl⟩))
    go_ret2
    exact ⟨rfl, rfl⟩

theorem rkey_any (n : Nat) (hn : n < 18446744073709551616) (w : World) :
    Calls Try.prog 7 #[.int .u64 (n : Int)] w fun x w' => x = .returned (keyV n) ∧ w = w' := by
  have HS : ∀ w, Calls Try.prog 13 #[.int .u64 (n : Int)] w fun x w' => x = .returned (.bool (isS n)) ∧ w = w' := right_any n (by omega) (by omega)
  have HP : ∀ w, Calls Try.prog 10 #[.int .u64 37, .int .u64 (n : Int)] w fun x w' => x = .returned (.int .u64 ((mp 37 n : Nat) : Int)) ∧ w = w' := rpower_any 37 n (by omega) hn
  cases h : isS n
  · rw [keyV_no h]
    rw [h] at HS
    clear h HP hn
    go_enter Try.func7, Try.ntmps7
    go_wp2_with (with_reducible refine (HS _).mono ?_; rintro e w' ⟨rfl, rfl⟩)
    go_ret2
    exact ⟨rfl, rfl⟩
  · rw [keyV_yes h]
    rw [h] at HS
    generalize mp 37 n = k at HP ⊢
    clear h hn
    go_enter Try.func7, Try.ntmps7
    go_wp2_with (first | (with_reducible refine (HS _).mono ?_; rintro e w' ⟨rfl, rfl⟩) | (with_reducible refine (HP _).mono ?_; rintro e w' ⟨rfl, rfl⟩))
    go_ret2
    exact ⟨rfl, rfl⟩

theorem alive_any (w : World) : Calls Try.prog 8 #[] w fun x w' => x = .returned (.bool true) ∧ w = w' := by
  have e1 : keyV 1 = .tuple #[.int .u64 37, .int .i64 0] := by rw [keyV_yes (by decide), mp_one]; rfl
  have e2 : mp 2 61 = 1 := by unfold mp; decide
  have HK : ∀ w, Calls Try.prog 6 #[.int .u64 1] w fun x w' => x = .returned (.tuple #[.int .u64 37, .int .i64 0]) ∧ w = w' := by
    intro w; rw [← e1]; exact key_any 1 (by omega) w
  have HP : ∀ w, Calls Try.prog 9 #[.int .u64 2, .int .u64 61] w fun x w' => x = .returned (.int .u64 1) ∧ w = w' := by
    intro w
    have h := power_any 2 61 (by omega) (by omega) w
    rw [e2] at h
    exact h
  go_enter Try.func8, Try.ntmps8
  go_wp2_with (first | (with_reducible refine (HK _).mono ?_; rintro e w' ⟨rfl, rfl⟩) | (with_reducible refine (HP _).mono ?_; rintro e w' ⟨rfl, rfl⟩))
  go_ret
  exact ⟨rfl, rfl⟩
end Go.Proofs.Ythchlafalilocaa
