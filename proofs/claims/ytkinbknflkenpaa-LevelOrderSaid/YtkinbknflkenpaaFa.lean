/- A number against a whole one: plain mathematics, no program. -/
import Derived.Test.YtkinbknflkenpaaFl
namespace Go.Proofs.Ytkinbknflkenpaa.Fl
open Ieee

/-- Is a number's value above a whole one? -/
def abv (x : Nat) (n : Int) : Bool := !isNan x && decide (n * (Un : Int) < SV x)

theorem V_63 : V 4890909195324358656 = 9223372036854775808 * Un := by
  generalize hN : (4890909195324358656 : Nat) = N
  obtain ⟨c, hc, hU⟩ := Un_ex
  have e52 : (2 : Nat) ^ 52 = 4503599627370496 := by decide
  have e63 : (2 : Nat) ^ 63 = 9223372036854775808 := by decide
  have h := V_normal (q := c + 12) (t := 0) (by omega) (by omega)
  rw [show (c + 12) * 4503599627370496 + 0 = N by omega, Nat.add_zero] at h
  rw [h, hU, ← e52, ← e63, ← Nat.pow_add, ← Nat.pow_add]
  congr 1; omega

theorem SV_pos {x : Nat} (h : x < 9223372036854775808) : SV x = (V x : Int) := by unfold SV; rw [if_pos h]
theorem SV_neg {x : Nat} (h : ¬ x < 9223372036854775808) : SV x = -(V (x - 9223372036854775808) : Int) := by unfold SV; rw [if_neg h]

/-- Two to the 63 and more is above all whole numbers. -/
theorem above_top {x : Nat} (h : 4890909195324358656 ≤ x) (hi : x < 9223372036854775808) (n : Int) (hn : n < 9223372036854775808) : n * (Un : Int) < SV x := by
  rw [SV_pos hi]
  have h1 := V_le.2 h
  rw [V_63] at h1
  have p := Un_pos
  calc n * (Un : Int) < 9223372036854775808 * (Un : Int) := Int.mul_lt_mul_of_pos_right hn (by omega)
    _ = ((9223372036854775808 * Un : Nat) : Int) := by rw [Int.natCast_mul]; rfl
    _ ≤ _ := by omega
/-- What is below the least whole number is above none. -/
theorem above_low {x : Nat} (h : 14114281232179134464 < x) (n : Int) (hn : -9223372036854775808 ≤ n) : ¬ n * (Un : Int) < SV x := by
  rw [SV_neg (by omega)]
  have h1 := V_lt (show 4890909195324358656 < x - 9223372036854775808 by omega)
  rw [V_63] at h1
  have p := Un_pos
  have : -9223372036854775808 * (Un : Int) ≤ n * (Un : Int) := Int.mul_le_mul_of_nonneg_right hn (by omega)
  have e : ((9223372036854775808 * Un : Nat) : Int) = 9223372036854775808 * (Un : Int) := by rw [Int.natCast_mul]; rfl
  omega

/-- The whole part, cut towards nothing. -/
def whole (x : Nat) : Int := (if 9223372036854775808 ≤ x then -1 else 1) * ((V (x % 9223372036854775808) / Un : Nat) : Int)

theorem whole_pos {x : Nat} (h : x < 9223372036854775808) : whole x = ((V x / Un : Nat) : Int) := by
  unfold whole; rw [if_neg (by omega), Nat.mod_eq_of_lt h, Int.one_mul]
theorem whole_neg {x : Nat} (hx : x < 18446744073709551616) (h : ¬ x < 9223372036854775808) : whole x = -((V (x - 9223372036854775808) / Un : Nat) : Int) := by
  unfold whole
  have : x % 9223372036854775808 = x - 9223372036854775808 := by omega
  rw [if_pos (by omega), this]; omega

theorem div_ge {a : Nat} {k : Nat} (h : a < k * Un) : a / Un < k := (Nat.div_lt_iff_lt_mul Un_pos).2 h

theorem whole_fits {x : Nat} (hx : x < 18446744073709551616) (h1 : x < 9223372036854775808 → x < 4890909195324358656) (h2 : 9223372036854775808 ≤ x → x ≤ 14114281232179134464) :
    -9223372036854775808 ≤ whole x ∧ whole x ≤ 9223372036854775807 := by
  by_cases g : x < 9223372036854775808
  · rw [whole_pos g]
    have := V_lt (h1 g)
    rw [V_63] at this
    have := div_ge this
    generalize V x / Un = z at *
    omega
  · rw [whole_neg hx g]
    have := V_le.2 (show x - 9223372036854775808 ≤ 4890909195324358656 by have := h2 (by omega); omega)
    rw [V_63] at this
    have h3 : V (x - 9223372036854775808) / Un ≤ 9223372036854775808 := by
      have := Nat.div_le_div_right (c := Un) this
      rwa [Nat.mul_div_cancel _ Un_pos] at this
    generalize V (x - 9223372036854775808) / Un = z at *
    omega

/-- A value against a whole number: by the whole part and what is left. -/
theorem split_abv {x : Nat} (hx : x < 18446744073709551616) (n : Int) : (whole x > n ∨ whole x = n ∧ whole x * (Un : Int) < SV x) ↔ n * (Un : Int) < SV x := by
  have p := Un_pos
  have bounds : (0 ≤ SV x ∧ whole x * (Un : Int) ≤ SV x ∧ SV x < (whole x + 1) * (Un : Int)) ∨ (SV x ≤ 0 ∧ SV x ≤ whole x * (Un : Int) ∧ (whole x - 1) * (Un : Int) < SV x) := by
    by_cases g : x < 9223372036854775808
    · left
      rw [whole_pos g, SV_pos g]
      have d := Nat.div_add_mod (V x) Un
      have m := Nat.mod_lt (V x) p
      have e : ((V x / Un : Nat) : Int) * (Un : Int) = ((Un * (V x / Un) : Nat) : Int) := by rw [Int.natCast_mul, Int.mul_comm]
      rw [Int.add_mul, e, Int.one_mul]
      omega
    · right
      rw [whole_neg hx g, SV_neg g]
      generalize V (x - 9223372036854775808) = v
      have d := Nat.div_add_mod v Un
      have m := Nat.mod_lt v p
      have e : ((v / Un : Nat) : Int) * (Un : Int) = ((Un * (v / Un) : Nat) : Int) := by rw [Int.natCast_mul, Int.mul_comm]
      rw [Int.sub_mul, Int.neg_mul, e, Int.one_mul]
      omega
  constructor
  · rintro (h | ⟨rfl, h⟩)
    · rcases bounds with ⟨-, b, -⟩ | ⟨-, -, b⟩
      · have : n * (Un : Int) < whole x * (Un : Int) := Int.mul_lt_mul_of_pos_right h (by omega)
        omega
      · have : n * (Un : Int) ≤ (whole x - 1) * (Un : Int) := Int.mul_le_mul_of_nonneg_right (by omega) (by omega)
        omega
    · exact h
  · intro h
    rcases Int.lt_trichotomy n (whole x) with g | g | g
    · exact .inl g
    · right; subst g; exact ⟨rfl, h⟩
    · exfalso
      rcases bounds with ⟨-, -, b⟩ | ⟨-, b, -⟩
      · have : (whole x + 1) * (Un : Int) ≤ n * (Un : Int) := Int.mul_le_mul_of_nonneg_right (by omega) (by omega)
        omega
      · have : whole x * (Un : Int) < n * (Un : Int) := Int.mul_lt_mul_of_pos_right g (by omega)
        omega

theorem word_neg (r : Nat) : double.word true r = 9223372036854775808 + r := rfl

/-- The whole part is written exactly. -/
theorem whole_exact {x : Nat} (hx : x < 18446744073709551616) (hf : x % 9223372036854775808 < 9218868437227405312) :
    ∃ y, double.write (.number (decide (whole x < 0)) (whole x).natAbs 0) = y ∧ y < 18446744073709551616 ∧ y % 9223372036854775808 < 9218868437227405312 ∧ SV y = whole x * (Un : Int) := by
  obtain ⟨m, i, -, v, bm, bi, -⟩ := read_fin hx hf
  obtain ⟨c, hc, hU⟩ := Un_ex
  have habs : (whole x).natAbs = V (x % 9223372036854775808) / Un := by
    unfold whole
    generalize V (x % 9223372036854775808) / Un = z
    split <;> omega
  have hsg : whole x = (if whole x < 0 then -1 else 1) * ((V (x % 9223372036854775808) / Un : Nat) : Int) := by
    rw [← habs]; split <;> omega
  unfold Format.write
  simp only
  by_cases z : whole x = 0
  · rw [z]
    refine ⟨_, rfl, ?_⟩
    have e : double.nearest (decide ((0 : Int) < 0)) (Int.natAbs 0) 0 = 0 := by decide
    rw [e]
    refine ⟨by omega, by omega, ?_⟩
    rw [SV_pos (by omega), V_zero]; simp
  · have hT : ∃ a j, (whole x).natAbs = a * 2 ^ j ∧ 0 < a ∧ a < 9007199254740992 := by
      rw [habs, ← v, hU]
      by_cases g : c ≤ i
      · refine ⟨m, i - c, ?_, ?_, bm⟩
        · rw [show i = (i - c) + c by omega, Nat.pow_add, ← Nat.mul_assoc, Nat.mul_div_cancel _ (Nat.two_pow_pos _)]
          congr 2; omega
        · apply Nat.pos_of_ne_zero
          rintro rfl
          apply z
          rw [hsg, ← v]; simp
      · refine ⟨m * 2 ^ i / 2 ^ c, 0, by simp, ?_, ?_⟩
        · apply Nat.pos_of_ne_zero
          intro h
          apply z
          rw [hsg, ← v, hU, h]; simp
        · have q : 0 < 2 ^ c := Nat.two_pow_pos c
          rw [Nat.div_lt_iff_lt_mul q]
          calc m * 2 ^ i < 9007199254740992 * 2 ^ i := Nat.mul_lt_mul_of_pos_right bm (Nat.two_pow_pos _)
            _ ≤ _ := Nat.mul_le_mul_left _ (Nat.pow_le_pow_right (by decide) (by omega))
    obtain ⟨a, j, hT, a0, a1⟩ := hT
    have hov : a * 2 ^ j * 2 ^ c < V 9218868437227405312 := by
      rw [← hT, habs, ← hU]
      exact Nat.lt_of_le_of_lt (Nat.div_mul_le_self _ _) (V_lt hf)
    obtain ⟨r, hr, hr1, hr2⟩ := near_exact (decide (whole x < 0)) a j c a0 a1 hov
    refine ⟨_, rfl, ?_⟩
    rw [hT, show (0 : Int) = -1074 + (c : Int) by omega]
    have e0 : decide (whole x < -1074 + (c : Int)) = decide (whole x < 0) := by rw [show (-1074 + (c : Int)) = 0 by omega]
    rw [e0, hr]
    rw [← hT, ← hU] at hr2
    have hr3 : (V r : Int) = ((whole x).natAbs : Int) * (Un : Int) := by rw [hr2, Int.natCast_mul]
    by_cases s : whole x < 0
    · rw [decide_eq_true s, word_neg]
      refine ⟨by omega, by omega, ?_⟩
      rw [SV_neg (by omega), Nat.add_sub_cancel_left, hr3, ← Int.neg_mul]
      congr 1; omega
    · rw [decide_eq_false s, word_pos]
      refine ⟨by omega, by omega, ?_⟩
      rw [SV_pos (by omega), hr3]
      congr 1; omega

theorem order_gt {x y : Nat} (hx : x < 18446744073709551616) (hy : y < 18446744073709551616) (fx : x % 9223372036854775808 < 9218868437227405312) (fy : y % 9223372036854775808 < 9218868437227405312) :
    (double.order x y == some .gt) = decide (SV y < SV x) := by
  rw [order_fin hx hy fx fy]
  rcases Int.lt_trichotomy (SV x) (SV y) with h | h | h
  · rw [Int.compare_eq_lt.2 h, decide_eq_false (by omega)]; rfl
  · rw [Int.compare_eq_eq.2 h, decide_eq_false (by omega)]; rfl
  · rw [Int.compare_eq_gt.2 h, decide_eq_true h]; rfl
end Go.Proofs.Ytkinbknflkenpaa.Fl
