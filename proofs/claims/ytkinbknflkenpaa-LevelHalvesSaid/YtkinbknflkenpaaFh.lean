/- Whole numbers and their quotient by a power of two, as numbers of 64 bits: plain mathematics, no program. -/
import Derived.Test.YtkinbknflkenpaaFl
namespace Go.Proofs.Ytkinbknflkenpaa.Fl
open Ieee

theorem enc_int {n : Nat} (h0 : 0 < n) (h1 : n ≤ 512) : ∃ x, double.write (.number false n 0) = x ∧ x < 9218868437227405312 ∧ V x = n * Un := by
  obtain ⟨c, hc, hU⟩ := Un_ex
  have hov : n * 2 ^ 0 * 2 ^ c < V 9218868437227405312 := by
    generalize hb : (2046 : Nat) = b
    rw [V_inf b hb.symm, Nat.pow_zero, Nat.mul_one]
    calc n * 2 ^ c ≤ 4503599627370496 * 2 ^ c := Nat.mul_le_mul_right _ (by omega)
      _ < 4503599627370496 * 2 ^ b := Nat.mul_lt_mul_of_pos_left (Nat.pow_lt_pow_right (by decide) (by omega)) (by omega)
  obtain ⟨r, hr, hr1, hr2⟩ := near_exact false n 0 c h0 (by omega) hov
  refine ⟨r, ?_, hr1, ?_⟩
  · unfold Format.write
    simp only
    rw [show (0 : Int) = -1074 + (c : Int) by omega]
    rw [Nat.pow_zero, Nat.mul_one] at hr
    rw [hr, word_pos]
  · rw [hr2, hU, Nat.pow_zero, Nat.mul_one]

theorem log52 {m : Nat} (h1 : 4503599627370496 ≤ m) (h2 : m < 9007199254740992) : m.log2 = 52 := by
  have a := (Nat.le_log2 (k := 52) (by omega : m ≠ 0)).2 h1
  have b := (Nat.log2_lt (k := 53) (by omega : m ≠ 0)).2 h2
  omega

theorem div_pow {n k x y : Nat} (hn : 0 < n) (hn1 : n ≤ 512) (hk : k ≤ 9) (hx : x < 9218868437227405312) (hy : y < 9218868437227405312) (vx : V x = n * Un) (vy : V y = 2 ^ k * Un) :
    ∃ z, double.div x y = some z ∧ z < 9218868437227405312 ∧ V z * 2 ^ k = n * Un := by
  obtain ⟨c, hc, hU⟩ := Un_ex
  have e52 : (2 : Nat) ^ 52 = 4503599627370496 := by decide
  have bigx : 4503599627370496 ≤ x := by
    apply V_le.1
    rw [show V 4503599627370496 = 4503599627370496 by decide, vx, hU]
    calc 4503599627370496 = 1 * 2 ^ 52 := by rw [e52]
      _ ≤ n * 2 ^ c := Nat.mul_le_mul hn (Nat.pow_le_pow_right (by decide) (by omega))
  have hyv : y = (k + c - 51) * 4503599627370496 + 0 := by
    apply V_inj
    rw [V_normal (by omega) (by omega), vy, hU, Nat.add_zero, ← e52, ← Nat.pow_add, ← Nat.pow_add]
    congr 1; omega
  obtain ⟨m, i, e, v, bm, -, g⟩ := read_fin (x := x) (by omega) (by omega)
  obtain ⟨m', l, e', v', -, -, g'⟩ := read_fin (x := y) (by omega) (by omega)
  rw [Nat.mod_eq_of_lt (by omega : x < 9223372036854775808)] at v g
  rw [Nat.mod_eq_of_lt (by omega : y < 9223372036854775808)] at v' g'
  have gm : 4503599627370496 ≤ m := by omega
  have gm' : m' = 4503599627370496 ∧ l = k + c - 52 := by
    rcases g' with ⟨g', -⟩ | ⟨-, g1, g2⟩
    · omega
    · constructor <;> omega
  obtain ⟨rfl, hl⟩ := gm'
  have n1 : decide (9223372036854775808 ≤ x) = false := decide_eq_false (by omega)
  have n2 : decide (9223372036854775808 ≤ y) = false := decide_eq_false (by omega)
  rw [n1] at e
  rw [n2] at e'
  rw [vx, hU] at v
  have hi : c < 53 + i := by
    apply (Nat.pow_lt_pow_iff_right (a := 2) (by decide)).1
    calc 2 ^ c ≤ n * 2 ^ c := Nat.le_mul_of_pos_left _ hn
      _ = m * 2 ^ i := v.symm
      _ < 2 ^ 53 * 2 ^ i := Nat.mul_lt_mul_of_pos_right (by simpa using bm) (Nat.two_pow_pos _)
      _ = _ := by rw [← Nat.pow_add]
  have fin : m * 2 ^ 3 * 2 ^ (i - k - 3) * 2 ^ k = n * 2 ^ c := by
    rw [Nat.mul_assoc, Nat.mul_assoc, ← Nat.pow_add, ← Nat.pow_add, ← v]
    congr 2; omega
  have hov : m * 2 ^ 3 * 2 ^ (i - k - 3) < V 9218868437227405312 := by
    calc m * 2 ^ 3 * 2 ^ (i - k - 3) ≤ m * 2 ^ 3 * 2 ^ (i - k - 3) * 2 ^ k := Nat.le_mul_of_pos_right _ (Nat.two_pow_pos _)
      _ = n * 2 ^ c := fin
      _ = V x := by rw [vx, hU]
      _ < _ := V_lt hx
  obtain ⟨r, hr, hr1, hr2⟩ := near_exact false m 3 (i - k - 3) (by omega) bm hov
  refine ⟨r, ?_, hr1, by rw [hr2, fin, hU]⟩
  unfold Format.div
  rw [e, e']
  have q1 : m <<< 54 / 4503599627370496 = m * 4 := by
    rw [Nat.shiftLeft_eq, show (2 : Nat) ^ 54 = 4 * 4503599627370496 by decide, ← Nat.mul_assoc, Nat.mul_div_cancel _ (by decide)]
  have q2 : m <<< 54 % 4503599627370496 = 0 := by
    rw [Nat.shiftLeft_eq, show (2 : Nat) ^ 54 = 4 * 4503599627370496 by decide, ← Nat.mul_assoc, Nat.mul_mod_left]
  simp only [Datum.quotient, fracB, log52 gm bm, log52 (Nat.le_refl _) (by decide : 4503599627370496 < 9007199254740992)]
  rw [if_neg (by decide)]
  rw [show 52 + 2 + 52 - 52 = 54 from rfl, q1, q2]
  simp only [Option.map_some, Format.write]
  have e3 : (2 * (m * 4) + (0 != 0).toNat) = m * 2 ^ 3 := by
    rw [show ((0 : Nat) != 0).toNat = 0 from rfl]; omega
  rw [e3, show (-1074 + (i : Int) - (-1074 + (l : Int)) - ((54 : Nat) : Int) - 1) = -1074 + ((i - k - 3 : Nat) : Int) by omega]
  rw [show (false ^^ false) = false from rfl, hr, word_pos]

theorem part_iff {z n k p t : Nat} (h : V z * 2 ^ k = n * Un) : t * V z / Un < p ↔ t * n < p * 2 ^ k := by
  have P := Un_pos
  have q : 0 < 2 ^ k := Nat.two_pow_pos k
  have e1 : t * V z * 2 ^ k = t * n * Un := by rw [Nat.mul_assoc, h, Nat.mul_assoc]
  rw [Nat.div_lt_iff_lt_mul P, ← Nat.mul_lt_mul_right q, e1, Nat.mul_right_comm p Un (2 ^ k)]
  exact Nat.mul_lt_mul_right P

theorem level_of {z n k : Nat} (hn : 0 < n) (hn1 : n ≤ 2 ^ k) (h : V z * 2 ^ k = n * Un) : 0 < z ∧ z ≤ 4607182418800017408 := by
  have P := Un_pos
  have q : 0 < 2 ^ k := Nat.two_pow_pos k
  constructor
  · apply Nat.pos_of_ne_zero
    rintro rfl
    rw [V_zero, Nat.zero_mul] at h
    have := Nat.mul_pos hn P
    omega
  · apply V_le.1
    rw [V_one]
    apply Nat.le_of_mul_le_mul_right (c := 2 ^ k) _ q
    rw [h, Nat.mul_comm]
    exact Nat.mul_le_mul_left _ hn1
end Go.Proofs.Ytkinbknflkenpaa.Fl
