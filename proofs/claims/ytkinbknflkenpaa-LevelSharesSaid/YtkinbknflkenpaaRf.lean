/- What the functions of the document's own answer for layer 1 answer: contracts, function by function. -/
import Derived.Test.YtkinbknflkenpaaLv
import Derived.OwnWalk
namespace Go.Proofs.Ytkinbknflkenpaa
open Go.RowKit Fl

/-- A number's figures. -/
def pM (x : Nat) : Nat := if x / 4503599627370496 % 2048 = 0 ∨ x / 4503599627370496 % 2048 = 2047 then x % 4503599627370496 else x % 4503599627370496 + 4503599627370496
/-- Its power of two; 2047: it has no value. -/
def pE (x : Nat) : Int := if x / 4503599627370496 % 2048 = 2047 then 2047 else if x / 4503599627370496 % 2048 = 0 then -1074 else ((x / 4503599627370496 % 2048 : Nat) : Int) - 1075

theorem ret_bui {a b : Bool} {c d m n : Int} (h1 : a = b) (h2 : c = d) (h3 : m = n) : Ending.returned (.tuple #[.bool a, .int .u64 c, .int .i64 m]) = Ending.returned (.tuple #[.bool b, .int .u64 d, .int .i64 n]) := by rw [h1, h2, h3]
theorem ret_b {a b : Bool} (h1 : a = b) : Ending.returned (.bool a) = Ending.returned (.bool b) := by rw [h1]
theorem ret_u {a b : Int} (h1 : a = b) : Ending.returned (.int .u64 a) = Ending.returned (.int .u64 b) := by rw [h1]
theorem ret_bb {a b c d : Bool} (h1 : a = b) (h2 : c = d) : Ending.returned (.tuple #[.bool a, .bool c]) = Ending.returned (.tuple #[.bool b, .bool d]) := by rw [h1, h2]

theorem sgn_eq {x : Nat} (hx : x < 18446744073709551616) : decide ((x : Int) / 9223372036854775808 = 1) = decide (9223372036854775808 ≤ x) := by
  by_cases h : 9223372036854775808 ≤ x
  · rw [decide_eq_true h, decide_eq_true (by omega)]
  · rw [decide_eq_false h, decide_eq_false (by omega)]

theorem parts_any (x : Nat) (hx : x < 18446744073709551616) (w : World) :
    Calls Try.prog 26 #[.float .f64 x] w fun e w' => e = .returned (.tuple #[.bool (decide (9223372036854775808 ≤ x)), .int .u64 (pM x), .int .i64 (pE x)]) ∧ w = w' := by
  have A := and11 x hx
  have hq : x / 4503599627370496 % 2048 < 2048 := Nat.mod_lt _ (by omega)
  have S := sgn_eq hx
  unfold pM pE
  by_cases q1 : x / 4503599627370496 % 2048 = 2047
  · have A' : bits .and .u64 ((x : Int) / 4503599627370496) 2047 = 2047 := by rw [A, q1]; rfl
    rw [if_pos (.inr q1), if_pos q1]
    clear A hq q1
    go_enter Try.func26, Try.ntmps26
    go_wp2
    go_ret3
    exact ⟨ret_bui S (by omega) rfl, rfl⟩
  · by_cases q2 : x / 4503599627370496 % 2048 = 0
    · have A' : bits .and .u64 ((x : Int) / 4503599627370496) 2047 = 0 := by rw [A, q2]; rfl
      rw [if_pos (.inl q2), if_neg q1, if_pos q2]
      clear A hq q1 q2
      go_enter Try.func26, Try.ntmps26
      go_wp2
      go_ret3
      exact ⟨ret_bui S (by omega) rfl, rfl⟩
    · rw [if_neg (by omega), if_neg q1, if_neg q2]
      generalize x / 4503599627370496 % 2048 = q at *
      have A' : bits .and .u64 ((x : Int) / 4503599627370496) 2047 = (q : Int) := A
      clear A
      go_enter Try.func26, Try.ntmps26
      go_wp2
      go_ret3
      exact ⟨ret_bui S (by omega) (by omega), rfl⟩

theorem pE_nan {x : Nat} (hx : x < 18446744073709551616) : (decide (pE x = 2047) && decide (pM x ≠ 0)) = isNan x := by
  unfold isNan pE pM
  by_cases q1 : x / 4503599627370496 % 2048 = 2047
  · rw [if_pos q1, if_pos (.inr q1)]
    have : (x % 4503599627370496 ≠ 0) ↔ 9218868437227405312 < x % 9223372036854775808 := by omega
    simp [this]
  · rw [if_neg q1]
    have h1 : ¬ 9218868437227405312 < x % 9223372036854775808 := by omega
    rw [decide_eq_false h1, decide_eq_false (by split <;> omega)]; rfl

theorem rnan_any (x : Nat) (hx : x < 18446744073709551616) (w : World) :
    Calls Try.prog 32 #[.float .f64 x] w fun e w' => e = .returned (.bool (isNan x)) ∧ w = w' := by
  have HP := parts_any x hx
  have HN := pE_nan hx
  rw [← HN]
  clear HN
  generalize pE x = E at *
  generalize pM x = M at *
  by_cases q1 : E = 2047
  · subst q1
    by_cases q2 : M = 0
    · subst q2
      go_enter Try.func32, Try.ntmps32
      go_wp2_with ((with_reducible refine (HP _).mono ?_); rintro e w' ⟨rfl, rfl⟩)
      go_ret
      exact ⟨rfl, rfl⟩
    · go_enter Try.func32, Try.ntmps32
      go_wp2_with ((with_reducible refine (HP _).mono ?_); rintro e w' ⟨rfl, rfl⟩)
      go_ret
      exact ⟨ret_b (by simp [q2]), rfl⟩
  · go_enter Try.func32, Try.ntmps32
    go_wp2_with ((with_reducible refine (HP _).mono ?_); rintro e w' ⟨rfl, rfl⟩)
    go_ret
    exact ⟨ret_b (by simp [q1]), rfl⟩

theorem rbits_any (x : Nat) (hx : x < 18446744073709551616) (w : World) : Calls Try.prog 21 #[.float .f64 x] w fun e w' => e = .returned (.int .u64 (bitsOf x)) ∧ w = w' := by
  have HN := rnan_any x hx
  unfold bitsOf
  cases hn : isNan x <;> rw [hn] at HN
  · go_enter Try.func21, Try.ntmps21
    go_wp2_with ((with_reducible refine (HN _).mono ?_); rintro e w' ⟨rfl, rfl⟩)
    go_ret
    exact ⟨rfl, rfl⟩
  · go_enter Try.func21, Try.ntmps21
    go_wp2_with ((with_reducible refine (HN _).mono ?_); rintro e w' ⟨rfl, rfl⟩)
    go_ret
    exact ⟨rfl, rfl⟩

theorem rof_yes (b : Nat) (hb : b < 18446744073709551616) (h : bitsOf b = b) (w : World) :
    Calls Try.prog 19 #[.int .u64 b] w fun e w' => e = .returned (.tuple #[.float .f64 b, .int .i64 0]) ∧ w = w' := by
  have HB := rbits_any b hb
  rw [h] at HB
  clear h
  go_enter Try.func19, Try.ntmps19
  go_wp2_with ((with_reducible refine (HB _).mono ?_); rintro e w' ⟨rfl, rfl⟩)
  go_ret2
  exact ⟨rfl, rfl⟩
theorem rof_no (b : Nat) (hb : b < 18446744073709551616) (h : bitsOf b ≠ b) (w : World) :
    Calls Try.prog 19 #[.int .u64 b] w fun e w' => e = .returned (.tuple #[.float .f64 0, .int .i64 11]) ∧ w = w' := by
  have HB := rbits_any b hb
  generalize bitsOf b = B at *
  go_enter Try.func19, Try.ntmps19
  go_wp2_with ((with_reducible refine (HB _).mono ?_); rintro e w' ⟨rfl, rfl⟩)
  go_ret2
  exact ⟨rfl, rfl⟩

theorem place_any (x : Nat) (hx : x < 18446744073709551616) (w : World) :
    Calls Try.prog 25 #[.float .f64 x] w fun e w' => e = .returned (.int .i64 (place x)) ∧ w = w' := by
  have HN := rnan_any x hx
  cases hn : isNan x <;> rw [hn] at HN
  · rw [place_num hn]
    by_cases hs : x < 9223372036854775808
    · rw [if_pos hs]
      have S : (x : Int) / 9223372036854775808 = 0 := by omega
      have W := wrap64_u x hx
      rw [if_pos hs] at W
      go_enter Try.func25, Try.ntmps25
      go_wp2_with ((with_reducible refine (HN _).mono ?_); rintro e w' ⟨rfl, rfl⟩)
      go_ret
      exact ⟨rfl, rfl⟩
    · rw [if_neg hs]
      have S : (x : Int) / 9223372036854775808 = 1 := by omega
      have W : (x : Int) % 9223372036854775808 = ((x - 9223372036854775808 : Nat) : Int) := by omega
      have k : x - 9223372036854775808 < 9223372036854775808 := by omega
      generalize x - 9223372036854775808 = y at *
      go_enter Try.func25, Try.ntmps25
      go_wp2_with ((with_reducible refine (HN _).mono ?_); rintro e w' ⟨rfl, rfl⟩)
      go_ret
      exact ⟨rfl, rfl⟩
  · rw [place_nan hn]
    go_enter Try.func25, Try.ntmps25
    go_wp2_with ((with_reducible refine (HN _).mono ?_); rintro e w' ⟨rfl, rfl⟩)
    go_ret
    exact ⟨rfl, rfl⟩

theorem rorder_any (x y : Nat) (hx : x < 18446744073709551616) (hy : y < 18446744073709551616) (w : World) :
    Calls Try.prog 13 #[.float .f64 x, .float .f64 y] w fun e w' => e = .returned (.int .i64 (ordI x y)) ∧ w = w' := by
  have HX := place_any x hx
  have HY := place_any y hy
  unfold ordI
  generalize place x = X at *
  generalize place y = Y at *
  rcases Int.lt_trichotomy X Y with h | h | h
  · rw [if_pos h]
    go_enter Try.func13, Try.ntmps13
    go_wp2_with (first | (with_reducible refine (HX _).mono ?_; rintro e w' ⟨rfl, rfl⟩) | (with_reducible refine (HY _).mono ?_; rintro e w' ⟨rfl, rfl⟩))
    go_ret
    exact ⟨rfl, rfl⟩
  · subst h
    rw [if_neg (by omega), if_neg (by omega)]
    go_enter Try.func13, Try.ntmps13
    go_wp2_with (first | (with_reducible refine (HX _).mono ?_; rintro e w' ⟨rfl, rfl⟩) | (with_reducible refine (HY _).mono ?_; rintro e w' ⟨rfl, rfl⟩))
    go_ret
    exact ⟨rfl, rfl⟩
  · rw [if_neg (by omega), if_pos h]
    go_enter Try.func13, Try.ntmps13
    go_wp2_with (first | (with_reducible refine (HX _).mono ?_; rintro e w' ⟨rfl, rfl⟩) | (with_reducible refine (HY _).mono ?_; rintro e w' ⟨rfl, rfl⟩))
    go_ret
    exact ⟨rfl, rfl⟩
end Go.Proofs.Ytkinbknflkenpaa
