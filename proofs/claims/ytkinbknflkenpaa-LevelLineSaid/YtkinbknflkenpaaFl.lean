/- Numbers of 64 bits as whole units: what IEEE's words say of order, of writing exactly; plain mathematics, no program. -/
import Ieee.Arith
namespace Go.Proofs.Ytkinbknflkenpaa.Fl
open Ieee

/-- Not a number. -/
def isNan (x : Nat) : Bool := decide (9218868437227405312 < x % 9223372036854775808)
/-- Whole units of the least number that a rung stands for. -/
def V (r : Nat) : Nat := if r < 4503599627370496 then r else (4503599627370496 + r % 4503599627370496) * 2 ^ (r / 4503599627370496 - 1)
/-- With its sign. -/
def SV (x : Nat) : Int := if x < 9223372036854775808 then (V x : Int) else -(V (x - 9223372036854775808) : Int)
/-- Where it stands among those that are none of no number. -/
def key (x : Nat) : Int := if x < 9223372036854775808 then (x : Int) else -((x - 9223372036854775808 : Nat) : Int)

theorem V_lt {r s : Nat} (h : r < s) : V r < V s := by
  unfold V
  by_cases h1 : s < 4503599627370496
  · rw [if_pos h1, if_pos (by omega)]; exact h
  · rw [if_neg h1]
    have p1 : 0 < 2 ^ (s / 4503599627370496 - 1) := Nat.two_pow_pos _
    by_cases h2 : r < 4503599627370496
    · rw [if_pos h2]
      calc r < 4503599627370496 * 1 := by omega
        _ ≤ (4503599627370496 + s % 4503599627370496) * 2 ^ (s / 4503599627370496 - 1) := Nat.mul_le_mul (by omega) p1
    · rw [if_neg h2]
      by_cases h3 : r / 4503599627370496 = s / 4503599627370496
      · rw [h3]; exact Nat.mul_lt_mul_of_pos_right (by omega) p1
      · have h4 : r / 4503599627370496 + 1 ≤ s / 4503599627370496 := by omega
        calc (4503599627370496 + r % 4503599627370496) * 2 ^ (r / 4503599627370496 - 1)
            < (4503599627370496 * 2) * 2 ^ (r / 4503599627370496 - 1) := Nat.mul_lt_mul_of_pos_right (by omega) (Nat.two_pow_pos _)
          _ = 4503599627370496 * 2 ^ (r / 4503599627370496) := by
              rw [Nat.mul_assoc, ← Nat.pow_succ']; congr 2; omega
          _ ≤ 4503599627370496 * 2 ^ (s / 4503599627370496 - 1) := Nat.mul_le_mul_left _ (Nat.pow_le_pow_right (by decide) (by omega))
          _ ≤ _ := Nat.mul_le_mul_right _ (by omega)

theorem V_inj {r s : Nat} (h : V r = V s) : r = s := by
  rcases Nat.lt_trichotomy r s with a | a | a
  · have := V_lt a; omega
  · exact a
  · have := V_lt a; omega
theorem V_le {r s : Nat} : V r ≤ V s ↔ r ≤ s := by
  constructor
  · intro h; rcases Nat.lt_or_ge s r with a | a
    · have := V_lt a; omega
    · exact a
  · intro h; rcases Nat.eq_or_lt_of_le h with a | a
    · rw [a]; exact Nat.le_refl _
    · exact Nat.le_of_lt (V_lt a)
theorem V_lt_iff {r s : Nat} : V r < V s ↔ r < s := by
  constructor
  · intro h; rcases Nat.lt_or_ge r s with a | a
    · exact a
    · have := V_le.2 a; omega
  · exact V_lt
theorem V_zero : V 0 = 0 := by decide

theorem signW : double.signWeight = 9223372036854775808 := by decide
theorem bin : double.binade = 4503599627370496 := by decide
theorem infR : double.infRung = 9218868437227405312 := by decide
theorem least : double.leastPlace = -1074 := by decide
theorem fracB : double.fractionBits = 52 := by decide

theorem neg_of {x : Nat} (h : x < 18446744073709551616) : (x / 9223372036854775808 % 2 == 1) = decide (9223372036854775808 ≤ x) := by
  by_cases g : 9223372036854775808 ≤ x
  · have : x / 9223372036854775808 = 1 := by omega
    simp [this, g]
  · have : x / 9223372036854775808 = 0 := by omega
    simp [this, g]

theorem read_fin {x : Nat} (h : x < 18446744073709551616) (hf : x % 9223372036854775808 < 9218868437227405312) :
    ∃ m a, double.read x = .number (decide (9223372036854775808 ≤ x)) m (-1074 + (a : Nat)) ∧ m * 2 ^ a = V (x % 9223372036854775808) ∧ m < 9007199254740992 ∧ (a ≤ 2045) ∧
      ((x % 9223372036854775808 < 4503599627370496 ∧ m = x % 9223372036854775808 ∧ a = 0) ∨ (4503599627370496 ≤ x % 9223372036854775808 ∧ m = 4503599627370496 + x % 4503599627370496 ∧ a = x % 9223372036854775808 / 4503599627370496 - 1)) := by
  unfold Format.read V
  simp only [signW, bin, infR, least, neg_of h]
  by_cases g : x % 9223372036854775808 < 4503599627370496
  · rw [if_pos g, if_pos g]
    exact ⟨_, 0, rfl, by simp, by omega, by omega, .inl ⟨g, rfl, rfl⟩⟩
  · rw [if_neg g, if_neg g, if_pos hf]
    exact ⟨_, _, rfl, rfl, by omega, by omega, .inr ⟨by omega, by omega, rfl⟩⟩

theorem read_inf {x : Nat} (h : x < 18446744073709551616) (hf : x % 9223372036854775808 = 9218868437227405312) :
    double.read x = .infinity (decide (9223372036854775808 ≤ x)) := by
  unfold Format.read
  simp only [signW, bin, infR, least, neg_of h]
  rw [if_neg (by omega), if_neg (by omega), if_pos hf]
theorem read_nan {x : Nat} (h : x < 18446744073709551616) (hf : isNan x = true) :
    ∃ f, double.read x = .nan (decide (9223372036854775808 ≤ x)) f := by
  unfold isNan at hf
  have hf := of_decide_eq_true hf
  unfold Format.read
  simp only [signW, bin, infR, least, neg_of h]
  rw [if_neg (by omega), if_neg (by omega), if_neg (by omega)]
  exact ⟨_, rfl⟩

theorem order_nan {x y : Nat} (hx : x < 18446744073709551616) (hy : y < 18446744073709551616) (h : isNan x = true ∨ isNan y = true) : double.order x y = none := by
  unfold Format.order
  rcases h with h | h
  · obtain ⟨f, e⟩ := read_nan hx h
    rw [e]; rfl
  · obtain ⟨f, e⟩ := read_nan hy h
    rw [e]; cases double.read x <;> rfl

theorem cmp_scale (a b : Int) (c : Int) (hc : 0 < c) : compare (a * c) (b * c) = compare a b := by
  rcases Int.lt_trichotomy a b with h | h | h
  · rw [Int.compare_eq_lt.2 h, Int.compare_eq_lt.2 (Int.mul_lt_mul_of_pos_right h hc)]
  · subst h; rw [Int.compare_eq_eq.2 rfl, Int.compare_eq_eq.2 rfl]
  · rw [Int.compare_eq_gt.2 h, Int.compare_eq_gt.2 (Int.mul_lt_mul_of_pos_right h hc)]
theorem cmp_of {a b c d : Int} (h1 : a < b ↔ c < d) (h2 : b < a ↔ d < c) : compare a b = compare c d := by
  rcases Int.lt_trichotomy c d with h | h | h
  · rw [Int.compare_eq_lt.2 h, Int.compare_eq_lt.2 (h1.2 h)]
  · rw [Int.compare_eq_eq.2 h, Int.compare_eq_eq.2 (by omega)]
  · rw [Int.compare_eq_gt.2 h, Int.compare_eq_gt.2 (h2.2 h)]

/-- What 'signed' is. -/
theorem signed_eq (n : Bool) (m a : Nat) : signed n m a = (if n then -1 else 1) * ((m * 2 ^ a : Nat) : Int) := by
  unfold signed
  rw [Nat.shiftLeft_eq]
  cases n <;> simp

theorem signed_scale (n : Bool) (m a b : Nat) (h : b ≤ a) : signed n m (a - b) * ((2 ^ b : Nat) : Int) = signed n (m * 2 ^ a) 0 := by
  rw [signed_eq, signed_eq, Int.mul_assoc]
  congr 1
  rw [← Int.natCast_mul, Nat.mul_assoc, ← Nat.pow_add]
  simp only [Nat.pow_zero, Nat.mul_one]
  congr 4; omega

theorem order_numbers (s t : Bool) (m n a b : Nat) : Datum.order (.number s m (-1074 + (a : Nat))) (.number t n (-1074 + (b : Nat))) = some (compare (signed s (m * 2 ^ a) 0) (signed t (n * 2 ^ b) 0)) := by
  unfold Datum.order
  simp only
  congr 1
  have h1 : (-1074 + (a : Int) - min (-1074 + (a : Int)) (-1074 + (b : Int))).toNat = a - min a b := by omega
  have h2 : (-1074 + (b : Int) - min (-1074 + (a : Int)) (-1074 + (b : Int))).toNat = b - min a b := by omega
  rw [h1, h2, ← cmp_scale _ _ ((2 ^ min a b : Nat) : Int) (by have := Nat.two_pow_pos (min a b); omega), signed_scale _ _ _ _ (Nat.min_le_left a b), signed_scale _ _ _ _ (Nat.min_le_right a b)]

theorem signed_SV {x : Nat} (h : x < 18446744073709551616) : signed (decide (9223372036854775808 ≤ x)) (V (x % 9223372036854775808)) 0 = SV x := by
  rw [signed_eq]; unfold SV
  by_cases g : 9223372036854775808 ≤ x
  · have : x % 9223372036854775808 = x - 9223372036854775808 := by omega
    rw [if_pos (by simpa using g), if_neg (by omega), this]; simp
  · have : x % 9223372036854775808 = x := by omega
    rw [if_neg (by simpa using g), if_pos (by omega), this]; simp

theorem SV_key {x y : Nat} (hx : x < 18446744073709551616) (hy : y < 18446744073709551616) : compare (SV x) (SV y) = compare (key x) (key y) := by
  have z := V_zero
  unfold SV key
  split <;> split
  · apply cmp_of <;> (simp only [Int.ofNat_lt]; exact V_lt_iff)
  · rename_i h1 h2
    have := @V_lt_iff 0 x; have := @V_lt_iff 0 (y - 9223372036854775808)
    apply cmp_of <;> omega
  · rename_i h1 h2
    have := @V_lt_iff 0 y; have := @V_lt_iff 0 (x - 9223372036854775808)
    apply cmp_of <;> omega
  · have := @V_lt_iff (x - 9223372036854775808) (y - 9223372036854775808); have := @V_lt_iff (y - 9223372036854775808) (x - 9223372036854775808)
    apply cmp_of <;> omega

theorem order_fin {x y : Nat} (hx : x < 18446744073709551616) (hy : y < 18446744073709551616) (fx : x % 9223372036854775808 < 9218868437227405312) (fy : y % 9223372036854775808 < 9218868437227405312) :
    double.order x y = some (compare (SV x) (SV y)) := by
  unfold Format.order
  obtain ⟨m, a, e, v, -⟩ := read_fin hx fx
  obtain ⟨n, b, e', v', -⟩ := read_fin hy fy
  rw [e, e', order_numbers, v, v', signed_SV hx, signed_SV hy]

theorem order_key {x y : Nat} (hx : x < 18446744073709551616) (hy : y < 18446744073709551616) (nx : isNan x = false) (ny : isNan y = false) :
    double.order x y = some (compare (key x) (key y)) := by
  unfold isNan at nx ny
  have nx := of_decide_eq_false nx
  have ny := of_decide_eq_false ny
  by_cases fx : x % 9223372036854775808 < 9218868437227405312 <;> by_cases fy : y % 9223372036854775808 < 9218868437227405312
  · rw [order_fin hx hy fx fy, SV_key hx hy]
  · unfold Format.order
    obtain ⟨m, a, e, v, -⟩ := read_fin hx fx
    rw [e, read_inf hy (by omega)]
    unfold key
    by_cases g : 9223372036854775808 ≤ y
    · simp only [Datum.order, g, decide_true, if_true]
      congr 1; symm; rw [Int.compare_eq_gt]
      split <;> omega
    · simp only [Datum.order, g, decide_false]
      congr 1; symm; rw [if_pos (by omega : y < _)]
      simp only [Bool.false_eq_true, if_false]
      rw [Int.compare_eq_lt]; split <;> omega
  · unfold Format.order
    obtain ⟨m, a, e, v, -⟩ := read_fin hy fy
    rw [e, read_inf hx (by omega)]
    unfold key
    by_cases g : 9223372036854775808 ≤ x
    · simp only [Datum.order, g, decide_true, if_true]
      congr 1; symm; rw [Int.compare_eq_lt]
      split <;> omega
    · simp only [Datum.order, g, decide_false]
      congr 1; symm; rw [if_pos (by omega : x < _)]
      simp only [Bool.false_eq_true, if_false]
      rw [Int.compare_eq_gt]; split <;> omega
  · unfold Format.order
    rw [read_inf hx (by omega), read_inf hy (by omega)]
    unfold key
    by_cases g : 9223372036854775808 ≤ x <;> by_cases g' : 9223372036854775808 ≤ y
    · simp only [Datum.order, g, g', decide_true]
      congr 1; symm; rw [if_neg (by omega), if_neg (by omega)]
      rw [show compare true.toNat true.toNat = .eq from rfl, Int.compare_eq_eq]; omega
    · simp only [Datum.order, g, g', decide_true, decide_false]
      congr 1; symm; rw [if_neg (by omega), if_pos (by omega)]
      rw [show compare false.toNat true.toNat = .lt from rfl, Int.compare_eq_lt]; omega
    · simp only [Datum.order, g, g', decide_true, decide_false]
      congr 1; symm; rw [if_pos (by omega), if_neg (by omega)]
      rw [show compare true.toNat false.toNat = .gt from rfl, Int.compare_eq_gt]; omega
    · simp only [Datum.order, g, g', decide_false]
      congr 1; symm; rw [if_pos (by omega), if_pos (by omega)]
      rw [show compare false.toNat false.toNat = .eq from rfl, Int.compare_eq_eq]; omega

theorem cut_none (s : Bool) (n : Nat) : Toward.even.cut s n 0 = n := by
  unfold Toward.cut
  simp [Nat.mod_one]
theorem cut_exact (w : Toward) (s : Bool) (q d : Nat) (h : 0 < q) : w.cut s (q * 2 ^ d) d = q := by
  unfold Toward.cut
  have hn : q * 2 ^ d ≠ 0 := Nat.mul_ne_zero (by omega) (Nat.ne_of_gt (Nat.two_pow_pos d))
  have hl : d ≤ (q * 2 ^ d).log2 := (Nat.le_log2 hn).2 (Nat.le_mul_of_pos_left _ h)
  have hm : min d ((q * 2 ^ d).log2 + 2) = d := by omega
  have hp : 0 < 2 ^ d := Nat.two_pow_pos d
  simp only [hm, Nat.shiftLeft_eq, Nat.one_mul, Nat.mul_mod_left, Nat.mul_div_cancel _ hp]
  have : (2 ^ d == 0) = false := by simp
  cases w <;> simp

theorem near_exact (s : Bool) (a j k : Nat) (h0 : 0 < a) (h1 : a < 9007199254740992) (hov : a * 2 ^ j * 2 ^ k < V 9218868437227405312) :
    ∃ r, double.nearest s (a * 2 ^ j) (-1074 + (k : Nat)) = double.word s r ∧ r < 9218868437227405312 ∧ V r = a * 2 ^ j * 2 ^ k := by
  have hm0 : a * 2 ^ j ≠ 0 := Nat.mul_ne_zero (by omega) (Nat.ne_of_gt (Nat.two_pow_pos j))
  generalize hL : (a * 2 ^ j).log2 = L
  have hlo : 2 ^ L ≤ a * 2 ^ j := (Nat.le_log2 hm0).1 (by omega)
  have hhi : a * 2 ^ j < 2 ^ (L + 1) := (Nat.log2_lt hm0).1 (by omega)
  have hLj : L < 53 + j := (Nat.pow_lt_pow_iff_right (a := 2) (by decide)).1 (Nat.lt_of_le_of_lt hlo (by
    rw [Nat.pow_add]; exact Nat.mul_lt_mul_of_pos_right (by simpa using h1) (Nat.two_pow_pos j)))
  have hkept : Toward.even.cut s (a * 2 ^ j * 2 ^ (k - (k + L - 52))) (k + L - 52 - k) * 2 ^ (k + L - 52) = a * 2 ^ j * 2 ^ k := by
    by_cases hA : k + L - 52 ≤ k
    · rw [show k + L - 52 - k = 0 by omega, cut_none, Nat.mul_assoc, ← Nat.pow_add]
      congr 2; omega
    · have e0 : k - (k + L - 52) = 0 := by omega
      have e1 : a * 2 ^ j = (a * 2 ^ (j - (k + L - 52 - k))) * 2 ^ (k + L - 52 - k) := by
        rw [Nat.mul_assoc, ← Nat.pow_add]; congr 2; omega
      rw [e0, Nat.pow_zero, Nat.mul_one]
      conv => lhs; lhs; rw [e1]
      rw [cut_exact _ _ _ _ (Nat.mul_pos h0 (Nat.two_pow_pos _))]
      rw [Nat.mul_assoc, Nat.mul_assoc, ← Nat.pow_add, ← Nat.pow_add]
      congr 2; omega
  generalize hK : Toward.even.cut s (a * 2 ^ j * 2 ^ (k - (k + L - 52))) (k + L - 52 - k) = K at hkept
  have hV : V ((k + L - 52) * 4503599627370496 + K) = a * 2 ^ j * 2 ^ k ∧ K < 9007199254740992 := by
    rw [← hkept]
    by_cases hb : 52 ≤ k + L
    · have k1 : 4503599627370496 ≤ K := by
        apply Nat.le_of_mul_le_mul_right (c := 2 ^ (k + L - 52)) _ (Nat.two_pow_pos _)
        rw [hkept]
        calc 4503599627370496 * 2 ^ (k + L - 52) = 2 ^ 52 * 2 ^ (k + L - 52) := rfl
          _ = 2 ^ L * 2 ^ k := by rw [← Nat.pow_add, ← Nat.pow_add]; congr 1; omega
          _ ≤ _ := Nat.mul_le_mul_right _ hlo
      have k2 : K < 9007199254740992 := by
        apply Nat.lt_of_mul_lt_mul_right (a := 2 ^ (k + L - 52))
        rw [hkept]
        calc a * 2 ^ j * 2 ^ k < 2 ^ (L + 1) * 2 ^ k := Nat.mul_lt_mul_of_pos_right hhi (Nat.two_pow_pos _)
          _ = 2 ^ 53 * 2 ^ (k + L - 52) := by rw [← Nat.pow_add, ← Nat.pow_add]; congr 1; omega
      refine ⟨?_, k2⟩
      unfold V
      rw [if_neg (by omega)]
      have e1 : ((k + L - 52) * 4503599627370496 + K) % 4503599627370496 = K - 4503599627370496 := by omega
      have e2 : ((k + L - 52) * 4503599627370496 + K) / 4503599627370496 - 1 = k + L - 52 := by omega
      rw [e1, e2, Nat.add_sub_cancel' k1]
    · have eA : k + L - 52 = 0 := by omega
      rw [eA] at hkept
      rw [eA, Nat.zero_mul, Nat.zero_add, Nat.pow_zero, Nat.mul_one]
      have k2 : K < 4503599627370496 := by
        have : K = a * 2 ^ j * 2 ^ k := by simpa using hkept
        rw [this]
        calc a * 2 ^ j * 2 ^ k < 2 ^ (L + 1) * 2 ^ k := Nat.mul_lt_mul_of_pos_right hhi (Nat.two_pow_pos _)
          _ = 2 ^ (L + 1 + k) := by rw [← Nat.pow_add]
          _ ≤ 2 ^ 52 := Nat.pow_le_pow_right (by decide) (by omega)
      refine ⟨?_, by omega⟩
      unfold V; rw [if_pos k2]
  obtain ⟨hV, hK2⟩ := hV
  have hr : (k + L - 52) * 4503599627370496 + K < 9218868437227405312 := V_lt_iff.1 (by rw [hV]; exact hov)
  refine ⟨(k + L - 52) * 4503599627370496 + K, ?_, hr, hV⟩
  unfold Format.nearest
  rw [if_neg hm0]
  simp only [least, fracB, infR, bin, hL]
  have hl : max (-1074 + (k : Int) + (L : Int) - ((52 : Nat) : Int)) (-1074) = -1074 + ((k + L - 52 : Nat) : Int) := by omega
  rw [hl]
  have h2 : (-1074 + (k : Int) - (-1074 + ((k + L - 52 : Nat) : Int))).toNat = k - (k + L - 52) := by omega
  have h3 : (-1074 + ((k + L - 52 : Nat) : Int) - (-1074 + (k : Int))).toNat = k + L - 52 - k := by omega
  have h4 : (-1074 + ((k + L - 52 : Nat) : Int) - (-1074)).toNat = k + L - 52 := by omega
  rw [h2, h3, h4, Nat.shiftLeft_eq, hK, Nat.min_eq_left (by omega)]

/-- What a one is worth, in the least units. -/
def UnE (c : Nat) : Nat := 2 ^ c
def Un : Nat := UnE 1074
theorem Un_ex : ∃ c, c = 1074 ∧ Un = 2 ^ c := by
  generalize h : (1074 : Nat) = k
  refine ⟨k, rfl, ?_⟩
  show UnE 1074 = 2 ^ k
  rw [h]; rfl
theorem Un_pos : 0 < Un := by
  obtain ⟨c, -, e⟩ := Un_ex
  rw [e]; exact Nat.two_pow_pos _
attribute [irreducible] Un

theorem cut_zero (s : Bool) (n d : Nat) : Toward.zero.cut s n d = n / 2 ^ d := by
  unfold Toward.cut
  simp only [Bool.toNat_false, Nat.add_zero, Nat.shiftLeft_eq, Nat.one_mul]
  by_cases h : d ≤ n.log2 + 2
  · rw [Nat.min_eq_left h]
  · rw [Nat.min_eq_right (by omega)]
    have h1 : n < 2 ^ (n.log2 + 1) := Nat.lt_log2_self
    have h2 : 2 ^ (n.log2 + 1) ≤ 2 ^ (n.log2 + 2) := Nat.pow_le_pow_right (by decide) (by omega)
    have h3 : 2 ^ (n.log2 + 1) ≤ 2 ^ d := Nat.pow_le_pow_right (by decide) (by omega)
    rw [Nat.div_eq_of_lt (by omega), Nat.div_eq_of_lt (by omega)]

/-- A finite number cut towards nothing. -/
theorem toInt_fin {x : Nat} (h : x < 18446744073709551616) (hf : x % 9223372036854775808 < 9218868437227405312) :
    (double.read x).toInt .zero = some ((if 9223372036854775808 ≤ x then -1 else 1) * ((V (x % 9223372036854775808) / Un : Nat) : Int)) := by
  obtain ⟨m, a, e, v, -, ha, -⟩ := read_fin h hf
  rw [e]
  unfold Datum.toInt Datum.integral
  simp only [cut_zero, signed_eq, Nat.pow_zero, Nat.mul_one, decide_eq_true_eq]
  congr 3
  obtain ⟨c, hc, hU⟩ := Un_ex
  rw [← v, hU, Nat.shiftLeft_eq]
  by_cases g : a ≤ 1074
  · rw [show (-1074 + (a : Int)).toNat = 0 by omega, show (-(-1074 + (a : Int))).toNat = 1074 - a by omega, Nat.pow_zero, Nat.mul_one]
    rw [show (2 : Nat) ^ c = 2 ^ (1074 - a) * 2 ^ a by rw [← Nat.pow_add]; congr 1; omega]
    rw [Nat.mul_div_mul_right _ _ (Nat.two_pow_pos a)]
  · rw [show (-1074 + (a : Int)).toNat = a - 1074 by omega, show (-(-1074 + (a : Int))).toNat = 0 by omega, Nat.pow_zero, Nat.div_one]
    rw [show (2 : Nat) ^ a = 2 ^ (a - 1074) * 2 ^ c by rw [← Nat.pow_add]; congr 1; omega]
    rw [← Nat.mul_assoc, Nat.mul_div_cancel _ (Nat.two_pow_pos _)]

theorem V_normal {q t : Nat} (h1 : 1 ≤ q) (h2 : t < 4503599627370496) : V (q * 4503599627370496 + t) = (4503599627370496 + t) * 2 ^ (q - 1) := by
  unfold V
  have e1 : (q * 4503599627370496 + t) % 4503599627370496 = t := by omega
  have e2 : (q * 4503599627370496 + t) / 4503599627370496 = q := by omega
  rw [if_neg (by omega), e1, e2]

theorem word_pos (r : Nat) : double.word false r = r := rfl

theorem V_inf (c : Nat) (hc : c = 2046) : V 9218868437227405312 = 4503599627370496 * 2 ^ c := by
  have h := V_normal (q := c + 1) (t := 0) (by omega) (by omega)
  rw [show (c + 1) * 4503599627370496 + 0 = 9218868437227405312 by omega, Nat.add_sub_cancel] at h
  exact h

theorem mant_split {x : Nat} (h : 4503599627370496 ≤ x) : V x = (4503599627370496 + x % 4503599627370496) * 2 ^ (x / 4503599627370496 - 1) := by
  unfold V; rw [if_neg (by omega)]

/-- The product of two finite positive numbers, where it can be written exactly. -/
theorem mul_exact {x y a j k : Nat} (hx : x < 9218868437227405312) (hy : y < 9218868437227405312) (h0 : 0 < a) (h1 : a < 9007199254740992)
    (hov : a * 2 ^ j * 2 ^ k < V 9218868437227405312)
    (hm : ∀ m n i l, m * 2 ^ i = V x → n * 2 ^ l = V y → m < 9007199254740992 → n < 9007199254740992 → ((x < 4503599627370496 ∧ m = x ∧ i = 0) ∨ (4503599627370496 ≤ x ∧ m = 4503599627370496 + x % 4503599627370496 ∧ i = x / 4503599627370496 - 1)) →
      ((y < 4503599627370496 ∧ n = y ∧ l = 0) ∨ (4503599627370496 ≤ y ∧ n = 4503599627370496 + y % 4503599627370496 ∧ l = y / 4503599627370496 - 1)) → 1074 ≤ i + l ∧ m * n = a * 2 ^ j ∧ i + l = k + 1074) :
    ∃ r, double.mul x y = some r ∧ r < 9218868437227405312 ∧ V r = a * 2 ^ j * 2 ^ k := by
  obtain ⟨m, i, e, v, bm, -, c⟩ := read_fin (x := x) (by omega) (by omega)
  obtain ⟨n, l, e', v', bn, -, c'⟩ := read_fin (x := y) (by omega) (by omega)
  rw [Nat.mod_eq_of_lt (by omega : x < 9223372036854775808)] at v c
  rw [Nat.mod_eq_of_lt (by omega : y < 9223372036854775808)] at v' c'
  obtain ⟨g1, g2, g3⟩ := hm m n i l v v' bm bn c c'
  obtain ⟨r, hr, hr1, hr2⟩ := near_exact false a j k h0 h1 hov
  refine ⟨r, ?_, hr1, hr2⟩
  unfold Format.mul
  rw [e, e']
  have n1 : decide (9223372036854775808 ≤ x) = false := decide_eq_false (by omega)
  have n2 : decide (9223372036854775808 ≤ y) = false := decide_eq_false (by omega)
  rw [n1, n2]
  simp only [Datum.product, Option.map_some, Format.write, Bool.xor_false]
  rw [show (-1074 + (i : Int) + (-1074 + (l : Int))) = -1074 + (k : Int) by omega, g2, hr, word_pos]

theorem V_big {r : Nat} (h : r < 9218868437227405312) : V r < V 9218868437227405312 := V_lt h

/-- One that is less than all with a full figure, times two to the 52. -/
theorem sub_up {x : Nat} (h0 : 0 < x) (h1 : x < 4503599627370496) :
    ∃ r, double.mul x 4841369599423283200 = some r ∧ 4503599627370496 ≤ r ∧ r < 9218868437227405312 ∧ V r = x * 4503599627370496 ∧ r / 4503599627370496 ≤ 52 := by
  have e52 : (2 : Nat) ^ 52 = 4503599627370496 := by decide
  obtain ⟨r, hr, hr1, hr2⟩ := mul_exact (x := x) (y := 4841369599423283200) (a := x) (j := 52) (k := 0) (by omega) (by omega) h0 (by omega)
    (by
      generalize hc : (2046 : Nat) = c
      rw [V_inf c hc.symm, e52, Nat.pow_zero, Nat.mul_one, Nat.mul_comm]
      apply Nat.mul_lt_mul_of_pos_left _ (by omega)
      calc x < 4503599627370496 := h1
        _ = 2 ^ 52 := e52.symm
        _ ≤ 2 ^ c := Nat.pow_le_pow_right (by decide) (by omega))
    (by
      intro m n i l _ _ _ _ c c'
      rw [e52]
      rcases c with ⟨-, rfl, rfl⟩ | ⟨c, -⟩
      · rcases c' with ⟨c', -⟩ | ⟨-, rfl, rfl⟩
        · omega
        · exact ⟨by omega, rfl, by omega⟩
      · omega)
  rw [e52, Nat.pow_zero, Nat.mul_one] at hr2
  have hr0 : 4503599627370496 ≤ r := by
    apply V_le.1
    rw [hr2, show V 4503599627370496 = 4503599627370496 by decide]
    omega
  refine ⟨r, hr, hr0, hr1, hr2, ?_⟩
  have hs := mant_split hr0
  rw [hr2] at hs
  have h3 : (2 : Nat) ^ (r / 4503599627370496 - 1) < 2 ^ 52 := by
    apply Nat.lt_of_mul_lt_mul_left (a := 4503599627370496)
    calc 4503599627370496 * 2 ^ (r / 4503599627370496 - 1) ≤ (4503599627370496 + r % 4503599627370496) * 2 ^ (r / 4503599627370496 - 1) := Nat.mul_le_mul_right _ (by omega)
      _ = x * 4503599627370496 := hs.symm
      _ < 4503599627370496 * 2 ^ 52 := by rw [e52]; omega
  have := (Nat.pow_lt_pow_iff_right (a := 2) (by decide)).1 h3
  omega

/-- One between a half and a whole, times two to the 53: its figures. -/
theorem frac_up {t : Nat} (ht : t < 4503599627370496) :
    ∃ r, double.mul (4602678819172646912 + t) 4845873199050653696 = some r ∧ r < 9218868437227405312 ∧ V r = (4503599627370496 + t) * Un := by
  have e52 : (2 : Nat) ^ 52 = 4503599627370496 := by decide
  obtain ⟨c, hc, hU⟩ := Un_ex
  have hd : 52 + (c - 52) = c := by omega
  obtain ⟨r, hr, hr1, hr2⟩ := mul_exact (x := 4602678819172646912 + t) (y := 4845873199050653696) (a := 4503599627370496 + t) (j := 52) (k := c - 52) (by omega) (by omega) (by omega) (by omega)
    (by
      generalize hb : (2046 : Nat) = b
      rw [V_inf b hb.symm, Nat.mul_assoc, ← Nat.pow_add, hd]
      calc (4503599627370496 + t) * 2 ^ c < (4503599627370496 * 2) * 2 ^ c := Nat.mul_lt_mul_of_pos_right (by omega) (Nat.two_pow_pos _)
        _ = 4503599627370496 * 2 ^ (c + 1) := by rw [Nat.mul_assoc, ← Nat.pow_succ']
        _ ≤ 4503599627370496 * 2 ^ b := Nat.mul_le_mul_left _ (Nat.pow_le_pow_right (by decide) (by omega)))
    (by
      intro m n i l _ _ _ _ g g'
      rw [e52]
      rcases g with ⟨g, -⟩ | ⟨-, rfl, rfl⟩
      · omega
      · rcases g' with ⟨g', -⟩ | ⟨-, rfl, rfl⟩
        · omega
        · refine ⟨by omega, ?_, by omega⟩
          have : (4602678819172646912 + t) % 4503599627370496 = t := by omega
          rw [this])
  refine ⟨r, hr, hr1, ?_⟩
  rw [hr2, hU, Nat.mul_assoc, ← Nat.pow_add, hd]

/-- A level's figures, made full. -/
def fxN (x : Nat) : Nat := if x < 4503599627370496 then (double.mul x 4841369599423283200).getD 0 else x
/-- By how many places they stand behind a whole. -/
def fxS (x : Nat) : Nat := if x < 4503599627370496 then 1127 - fxN x / 4503599627370496 else 1075 - fxN x / 4503599627370496

theorem fx_facts {x : Nat} (h0 : 0 < x) (h1 : x ≤ 4607182418800017408) :
    4503599627370496 ≤ fxN x ∧ fxN x < 9218868437227405312 ∧ 52 ≤ fxS x ∧ fxS x ≤ 1126 ∧ (4503599627370496 + fxN x % 4503599627370496) * Un = V x * 2 ^ fxS x ∧
      (x < 4503599627370496 → fxN x / 4503599627370496 ≤ 52) ∧ (¬ x < 4503599627370496 → fxN x = x ∧ fxN x / 4503599627370496 ≤ 1023) ∧ 1 ≤ fxN x / 4503599627370496 := by
  have e52 : (2 : Nat) ^ 52 = 4503599627370496 := by decide
  obtain ⟨c, hc, hU⟩ := Un_ex
  unfold fxS fxN
  by_cases h : x < 4503599627370496
  · obtain ⟨r, hr, a, b, v, q⟩ := sub_up h0 h
    simp only [if_pos h, hr, Option.getD_some]
    refine ⟨a, b, by omega, by omega, ?_, fun _ => q, fun g => absurd h g, by omega⟩
    have hs := mant_split a
    rw [v] at hs
    have hx : V x = x := by unfold V; rw [if_pos h]
    rw [hx, hU, show c = (r / 4503599627370496 - 1) + (1075 - r / 4503599627370496) by omega, Nat.pow_add, ← Nat.mul_assoc, ← hs,
      show 1127 - r / 4503599627370496 = 52 + (1075 - r / 4503599627370496) by omega, Nat.pow_add, e52, Nat.mul_assoc]
  · simp only [if_neg h]
    refine ⟨by omega, by omega, by omega, by omega, ?_, fun g => absurd g h, fun _ => ⟨trivial, by omega⟩, by omega⟩
    rw [mant_split (by omega : 4503599627370496 ≤ x), hU, Nat.mul_assoc, ← Nat.pow_add]
    congr 2; omega

theorem share_eq {total m v S : Nat} (h : m * Un = v * 2 ^ S) : total * v / Un = total * m / 2 ^ S := by
  have p := Un_pos
  have q : 0 < 2 ^ S := Nat.two_pow_pos S
  rw [← Nat.mul_div_mul_right (total * v) Un q, Nat.mul_assoc, ← h, ← Nat.mul_assoc, Nat.mul_comm Un (2 ^ S), Nat.mul_div_mul_right _ _ p]

theorem two_words {P S : Nat} (hP : P < 340282366920938463463374607431768211456) (h : 64 ≤ S) : P / 18446744073709551616 / 2 ^ min (S - 64) 64 = P / 2 ^ S := by
  have e : (18446744073709551616 : Nat) = 2 ^ 64 := by decide
  by_cases g : S - 64 ≤ 64
  · rw [Nat.min_eq_left g, Nat.div_div_eq_div_mul, e, ← Nat.pow_add]; congr 2; omega
  · rw [Nat.min_eq_right (by omega), Nat.div_div_eq_div_mul, Nat.div_eq_of_lt, Nat.div_eq_of_lt]
    · calc P < _ := hP
        _ = 2 ^ 128 := by decide
        _ ≤ 2 ^ S := Nat.pow_le_pow_right (by decide) (by omega)
    · rw [e, ← Nat.pow_add]; omega

theorem one_word {P S : Nat} (h : S < 64) : P / 18446744073709551616 * 2 ^ (64 - S) + P % 18446744073709551616 / 2 ^ S = P / 2 ^ S := by
  have e : (18446744073709551616 : Nat) = 2 ^ (64 - S) * 2 ^ S := by
    rw [← Nat.pow_add, show 64 - S + S = 64 by omega]
  have d := Nat.div_add_mod P 18446744073709551616
  have q : 0 < 2 ^ S := Nat.two_pow_pos S
  conv => rhs; rw [← d]
  conv => rhs; lhs; lhs; lhs; rw [e]
  rw [show 2 ^ (64 - S) * 2 ^ S * (P / 18446744073709551616) + P % 18446744073709551616 = P % 18446744073709551616 + (2 ^ (64 - S) * (P / 18446744073709551616)) * 2 ^ S by
    rw [Nat.add_comm]; congr 1; rw [Nat.mul_right_comm]]
  rw [Nat.add_mul_div_right _ _ q, Nat.add_comm, Nat.mul_comm (2 ^ (64 - S))]

/-- Where a number stands in the one line of all. -/
def place (x : Nat) : Int := if isNan x then 9223372036854775807 else if x < 9223372036854775808 then (x : Int) else -1 - ((x - 9223372036854775808 : Nat) : Int)
/-- Which comes first. -/
def ordI (x y : Nat) : Int := if place x < place y then -1 else if place y < place x then 1 else 0
/-- The bits of a number: one NaN stands for all. -/
def bitsOf (x : Nat) : Nat := if isNan x then 9221120237041090561 else x

theorem bitsOf_lt {x : Nat} (h : x < 18446744073709551616) : bitsOf x < 18446744073709551616 := by unfold bitsOf; split <;> omega
theorem isNan_bitsOf (x : Nat) : isNan (bitsOf x) = isNan x := by
  unfold bitsOf
  cases h : isNan x
  · simp [h]
  · simp only [if_pos]; decide
theorem bitsOf_bitsOf (x : Nat) : bitsOf (bitsOf x) = bitsOf x := by
  cases g : isNan x
  · unfold bitsOf; simp [g]
  · have e : bitsOf x = 9221120237041090561 := by unfold bitsOf; rw [if_pos g]
    rw [e]; decide
theorem place_bitsOf (x : Nat) : place (bitsOf x) = place x := by
  cases g : isNan x
  · unfold bitsOf; simp [g]
  · have h := isNan_bitsOf x
    rw [g] at h
    unfold place
    rw [if_pos h, if_pos g]
theorem ordI_bitsOf (x y : Nat) : ordI (bitsOf x) y = ordI x y := by unfold ordI; rw [place_bitsOf]
theorem ordI_self (x : Nat) : ordI x x = 0 := by unfold ordI; rw [if_neg (by omega), if_neg (by omega)]
theorem place_num {x : Nat} (h : isNan x = false) : place x = if x < 9223372036854775808 then (x : Int) else -1 - ((x - 9223372036854775808 : Nat) : Int) := by unfold place; simp [h]
theorem place_lt {x : Nat} (hx : x < 18446744073709551616) (h : isNan x = false) : place x < 9223372036854775807 := by
  rw [place_num h]
  have := of_decide_eq_false h
  split <;> omega
theorem place_nan {x : Nat} (h : isNan x = true) : place x = 9223372036854775807 := by unfold place; simp [h]
theorem ord_of_lt {x y : Nat} (hx : isNan x = false) (hy : isNan y = false) (h : key x < key y) : ordI x y = -1 := by
  unfold ordI
  rw [if_pos]
  rw [place_num hx, place_num hy]
  unfold key at h
  split at h <;> split at h <;> rename_i a b
  · rw [if_pos a, if_pos b]; omega
  · omega
  · rw [if_neg a, if_pos b]; omega
  · rw [if_neg a, if_neg b]; omega
theorem ord_swap {x y : Nat} : ordI y x = - ordI x y := by
  unfold ordI
  by_cases a : place x < place y
  · rw [if_pos a, if_neg (by omega), if_pos a]; rfl
  · by_cases b : place y < place x
    · rw [if_neg a, if_pos b, if_neg a, if_pos b]
    · rw [if_neg a, if_neg b, if_neg b, if_neg a]; rfl

theorem V_half : V 4602678819172646912 * 2 = Un := by
  generalize hN : (4602678819172646912 : Nat) = N
  obtain ⟨c, hc, hU⟩ := Un_ex
  have e52 : (2 : Nat) ^ 52 = 4503599627370496 := by decide
  have h := V_normal (q := c - 52) (t := 0) (by omega) (by omega)
  rw [show (c - 52) * 4503599627370496 + 0 = N by omega, Nat.add_zero] at h
  rw [h, hU, ← e52, ← Nat.pow_add, ← Nat.pow_succ]
  congr 1; omega
theorem V_one : V 4607182418800017408 = Un := by
  generalize hN : (4607182418800017408 : Nat) = N
  obtain ⟨c, hc, hU⟩ := Un_ex
  have e52 : (2 : Nat) ^ 52 = 4503599627370496 := by decide
  have h := V_normal (q := c - 51) (t := 0) (by omega) (by omega)
  rw [show (c - 51) * 4503599627370496 + 0 = N by omega, Nat.add_zero] at h
  rw [h, hU, ← e52, ← Nat.pow_add]
  congr 1; omega
theorem live_half : 3 * V 4602678819172646912 / Un < 2 := by
  have p := Un_pos
  rw [Nat.div_lt_iff_lt_mul p]
  have := V_half
  omega
end Go.Proofs.Ytkinbknflkenpaa.Fl
