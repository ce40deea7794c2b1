/- Of the program at this commit: the law LevelHalves answers true for any part, total and pair of whole numbers (of a level that is a number of parts of a power of two, a part is more than that share just if it is, reckoned in whole numbers); no condition. -/
import Derived.Test.YtkinbknflkenpaaRows
import Derived.WalkKit
import Derived.ProofKit
import Derived.OpenShut
import Derived.WideKeyPair
import Derived.Test.YtkinbknflkenpaaLv
import Derived.Test.YtkinbknflkenpaaFh
namespace Go.Proofs.Ytkinbknflkenpaa.levelHalves
open Go.ChangeShapes Go.WideShapes Go.ChangeAt Go.RowKit Fl
set_option linter.unusedVariables false

theorem Grown.drewN {w w' : World} (h : Go.RowKit.Grown w w') (n : Nat) : Go.RowKit.Grown w (w'.drewN n) := h
theorem ret_any {a : Bool} (h : a = true) : Ending.returned (.bool a) = Ending.returned (.bool true) := by rw [h]

theorem good (p t n k : Nat) (hk : k ≤ 9) (hn : 1 ≤ n) (hq : n ≤ 2 ^ k) (ht : t ≤ 1099511627776) (hp : p ≤ 1099511627776) :
    ∃ x y z, floatOfInt .f64 (n : Int) = x ∧ floatOfInt .f64 ((2 ^ k : Nat) : Int) = y ∧ floatBits .quo .f64 x y = some z ∧ z < 18446744073709551616 ∧ exE p t z = 0 ∧ exB p t z = decide (t * n < p * 2 ^ k) := by
  have h512 : 2 ^ k ≤ 512 := by
    calc 2 ^ k ≤ 2 ^ 9 := Nat.pow_le_pow_right (by decide) hk
      _ = 512 := by decide
  have q0 : 0 < 2 ^ k := Nat.two_pow_pos k
  obtain ⟨x, hx, x1, x2⟩ := enc_int (n := n) (by omega) (by omega)
  obtain ⟨y, hy, y1, y2⟩ := enc_int (n := 2 ^ k) q0 h512
  obtain ⟨z, hz, z1, z2⟩ := div_pow (by omega) (by omega) hk x1 y1 x2 y2
  have enc : ∀ a : Nat, floatOfInt .f64 (a : Int) = Ieee.double.write (.number false a 0) := by
    intro a
    show Ieee.double.write (.number (decide ((a : Int) < 0)) (a : Int).natAbs 0) = _
    rw [decide_eq_false (by omega), Int.natAbs_natCast]
  have hl : lvOk z = true := decide_eq_true (level_of (by omega) hq z2)
  have hb : ptOk p t = true := decide_eq_true ⟨by omega, by omega, by omega⟩
  refine ⟨x, y, z, by rw [enc, hx], by rw [enc, hy], hz, by omega, ?_, ?_⟩
  · unfold exE; rw [hl, hb]; rfl
  · unfold exB
    rw [hl, hb, Bool.true_and, Bool.true_and, Int.toNat_natCast, Int.toNat_natCast]
    exact decide_eq_decide.2 (part_iff z2)

theorem same (t n p q : Nat) (ht : t ≤ 1099511627776) (hn : n ≤ 512) : (decide (t * n < p * q) == decide (wrap64 ((t : Int) * (n : Int)) < (p : Int) * (q : Int))) = true := by
  have b : t * n ≤ 1099511627776 * 512 := Nat.mul_le_mul ht hn
  have e : wrap64 ((t : Int) * (n : Int)) = ((t * n : Nat) : Int) := by
    rw [← Int.natCast_mul]
    generalize t * n = X at *
    unfold wrap64; omega
  rw [e, ← Int.natCast_mul, beq_iff_eq]
  generalize t * n = X
  generalize p * q = Y
  exact decide_eq_decide.2 (by omega)

set_option maxRecDepth 100000 in
theorem good0 (p t n : Nat) (hn : 1 ≤ n) (hq : n ≤ 1) (ht : t ≤ 1099511627776) (hp : p ≤ 1099511627776) (w : World) :
    Calls Try.prog 10 #[.int .i64 p, .int .i64 t, .agg #[.int .i64 n, .int .i64 0]] w fun e w' => e = .returned (.bool true) ∧ Grown w w' := by
  obtain ⟨x, y, z, hx, hy, hd, z1, e0, e1⟩ := good p t n 0 (by omega) hn hq ht hp
  have HE := exceeds_any p t z z1 (by omega)
  rw [e0, e1] at HE
  have hy : floatOfInt .f64 1 = y := hy
  have hs := Lib.hid (same t n p 1 ht (by omega))
  have DV : ∀ (t : TypeId) (w : World), (binOp .quo t (.float .f64 x) (.float .f64 y)).run Try.prog w = .ok (.float .f64 z) w := fun t w => run_float_arith w .quo t .f64 _ _ z hd
  clear e0 e1 hd
  go_enter Try.func10, Try.ntmps10
  go_wp2_with (first | (go_at_call 11; refine (alive_any _).mono ?_; rintro e w' ⟨rfl, _, rfl⟩) | ((with_reducible refine (HE _).mono ?_); rintro e w' ⟨rfl, _, rfl⟩))
  go_ret
  exact ⟨ret_any (by simpa using hs.out), Grown.drewN ((Go.RowKit.Grown.refl _).alloc _ _) _⟩
set_option maxRecDepth 100000 in
theorem bad0 (p t n : Int) (hb : ¬ (1 ≤ n ∧ n ≤ 1 ∧ 0 ≤ t ∧ t ≤ 1099511627776 ∧ 0 ≤ p ∧ p ≤ 1099511627776)) (w : World) :
    Calls Try.prog 10 #[.int .i64 p, .int .i64 t, .agg #[.int .i64 n, .int .i64 0]] w fun e w' => e = .returned (.bool true) ∧ Grown w w' := by
  go_enter Try.func10, Try.ntmps10
  go_wp2_with (first | (go_at_call 11; refine (alive_any _).mono ?_; rintro e w' ⟨rfl, _, rfl⟩) | (exfalso; omega))
  all_goals
    go_ret
    exact ⟨rfl, Grown.drewN ((Go.RowKit.Grown.refl _).alloc _ _) _⟩
set_option maxRecDepth 100000 in
theorem good1 (p t n : Nat) (hn : 1 ≤ n) (hq : n ≤ 2) (ht : t ≤ 1099511627776) (hp : p ≤ 1099511627776) (w : World) :
    Calls Try.prog 10 #[.int .i64 p, .int .i64 t, .agg #[.int .i64 n, .int .i64 1]] w fun e w' => e = .returned (.bool true) ∧ Grown w w' := by
  obtain ⟨x, y, z, hx, hy, hd, z1, e0, e1⟩ := good p t n 1 (by omega) hn hq ht hp
  have HE := exceeds_any p t z z1 (by omega)
  rw [e0, e1] at HE
  have hy : floatOfInt .f64 2 = y := hy
  have hs := Lib.hid (same t n p 2 ht (by omega))
  have DV : ∀ (t : TypeId) (w : World), (binOp .quo t (.float .f64 x) (.float .f64 y)).run Try.prog w = .ok (.float .f64 z) w := fun t w => run_float_arith w .quo t .f64 _ _ z hd
  clear e0 e1 hd
  go_enter Try.func10, Try.ntmps10
  go_wp2_with (first | (go_at_call 11; refine (alive_any _).mono ?_; rintro e w' ⟨rfl, _, rfl⟩) | ((with_reducible refine (HE _).mono ?_); rintro e w' ⟨rfl, _, rfl⟩))
  go_ret
  exact ⟨ret_any (by exact hs.out), Grown.drewN ((Go.RowKit.Grown.refl _).alloc _ _) _⟩
set_option maxRecDepth 100000 in
theorem bad1 (p t n : Int) (hb : ¬ (1 ≤ n ∧ n ≤ 2 ∧ 0 ≤ t ∧ t ≤ 1099511627776 ∧ 0 ≤ p ∧ p ≤ 1099511627776)) (w : World) :
    Calls Try.prog 10 #[.int .i64 p, .int .i64 t, .agg #[.int .i64 n, .int .i64 1]] w fun e w' => e = .returned (.bool true) ∧ Grown w w' := by
  go_enter Try.func10, Try.ntmps10
  go_wp2_with (first | (go_at_call 11; refine (alive_any _).mono ?_; rintro e w' ⟨rfl, _, rfl⟩) | (exfalso; omega))
  all_goals
    go_ret
    exact ⟨rfl, Grown.drewN ((Go.RowKit.Grown.refl _).alloc _ _) _⟩
set_option maxRecDepth 100000 in
theorem good2 (p t n : Nat) (hn : 1 ≤ n) (hq : n ≤ 4) (ht : t ≤ 1099511627776) (hp : p ≤ 1099511627776) (w : World) :
    Calls Try.prog 10 #[.int .i64 p, .int .i64 t, .agg #[.int .i64 n, .int .i64 2]] w fun e w' => e = .returned (.bool true) ∧ Grown w w' := by
  obtain ⟨x, y, z, hx, hy, hd, z1, e0, e1⟩ := good p t n 2 (by omega) hn hq ht hp
  have HE := exceeds_any p t z z1 (by omega)
  rw [e0, e1] at HE
  have hy : floatOfInt .f64 4 = y := hy
  have hs := Lib.hid (same t n p 4 ht (by omega))
  have DV : ∀ (t : TypeId) (w : World), (binOp .quo t (.float .f64 x) (.float .f64 y)).run Try.prog w = .ok (.float .f64 z) w := fun t w => run_float_arith w .quo t .f64 _ _ z hd
  clear e0 e1 hd
  go_enter Try.func10, Try.ntmps10
  go_wp2_with (first | (go_at_call 11; refine (alive_any _).mono ?_; rintro e w' ⟨rfl, _, rfl⟩) | ((with_reducible refine (HE _).mono ?_); rintro e w' ⟨rfl, _, rfl⟩))
  go_ret
  exact ⟨ret_any (by exact hs.out), Grown.drewN ((Go.RowKit.Grown.refl _).alloc _ _) _⟩
set_option maxRecDepth 100000 in
theorem bad2 (p t n : Int) (hb : ¬ (1 ≤ n ∧ n ≤ 4 ∧ 0 ≤ t ∧ t ≤ 1099511627776 ∧ 0 ≤ p ∧ p ≤ 1099511627776)) (w : World) :
    Calls Try.prog 10 #[.int .i64 p, .int .i64 t, .agg #[.int .i64 n, .int .i64 2]] w fun e w' => e = .returned (.bool true) ∧ Grown w w' := by
  go_enter Try.func10, Try.ntmps10
  go_wp2_with (first | (go_at_call 11; refine (alive_any _).mono ?_; rintro e w' ⟨rfl, _, rfl⟩) | (exfalso; omega))
  all_goals
    go_ret
    exact ⟨rfl, Grown.drewN ((Go.RowKit.Grown.refl _).alloc _ _) _⟩
set_option maxRecDepth 100000 in
theorem good3 (p t n : Nat) (hn : 1 ≤ n) (hq : n ≤ 8) (ht : t ≤ 1099511627776) (hp : p ≤ 1099511627776) (w : World) :
    Calls Try.prog 10 #[.int .i64 p, .int .i64 t, .agg #[.int .i64 n, .int .i64 3]] w fun e w' => e = .returned (.bool true) ∧ Grown w w' := by
  obtain ⟨x, y, z, hx, hy, hd, z1, e0, e1⟩ := good p t n 3 (by omega) hn hq ht hp
  have HE := exceeds_any p t z z1 (by omega)
  rw [e0, e1] at HE
  have hy : floatOfInt .f64 8 = y := hy
  have hs := Lib.hid (same t n p 8 ht (by omega))
  have DV : ∀ (t : TypeId) (w : World), (binOp .quo t (.float .f64 x) (.float .f64 y)).run Try.prog w = .ok (.float .f64 z) w := fun t w => run_float_arith w .quo t .f64 _ _ z hd
  clear e0 e1 hd
  go_enter Try.func10, Try.ntmps10
  go_wp2_with (first | (go_at_call 11; refine (alive_any _).mono ?_; rintro e w' ⟨rfl, _, rfl⟩) | ((with_reducible refine (HE _).mono ?_); rintro e w' ⟨rfl, _, rfl⟩))
  go_ret
  exact ⟨ret_any (by exact hs.out), Grown.drewN ((Go.RowKit.Grown.refl _).alloc _ _) _⟩
set_option maxRecDepth 100000 in
theorem bad3 (p t n : Int) (hb : ¬ (1 ≤ n ∧ n ≤ 8 ∧ 0 ≤ t ∧ t ≤ 1099511627776 ∧ 0 ≤ p ∧ p ≤ 1099511627776)) (w : World) :
    Calls Try.prog 10 #[.int .i64 p, .int .i64 t, .agg #[.int .i64 n, .int .i64 3]] w fun e w' => e = .returned (.bool true) ∧ Grown w w' := by
  go_enter Try.func10, Try.ntmps10
  go_wp2_with (first | (go_at_call 11; refine (alive_any _).mono ?_; rintro e w' ⟨rfl, _, rfl⟩) | (exfalso; omega))
  all_goals
    go_ret
    exact ⟨rfl, Grown.drewN ((Go.RowKit.Grown.refl _).alloc _ _) _⟩
set_option maxRecDepth 100000 in
theorem good4 (p t n : Nat) (hn : 1 ≤ n) (hq : n ≤ 16) (ht : t ≤ 1099511627776) (hp : p ≤ 1099511627776) (w : World) :
    Calls Try.prog 10 #[.int .i64 p, .int .i64 t, .agg #[.int .i64 n, .int .i64 4]] w fun e w' => e = .returned (.bool true) ∧ Grown w w' := by
  obtain ⟨x, y, z, hx, hy, hd, z1, e0, e1⟩ := good p t n 4 (by omega) hn hq ht hp
  have HE := exceeds_any p t z z1 (by omega)
  rw [e0, e1] at HE
  have hy : floatOfInt .f64 16 = y := hy
  have hs := Lib.hid (same t n p 16 ht (by omega))
  have DV : ∀ (t : TypeId) (w : World), (binOp .quo t (.float .f64 x) (.float .f64 y)).run Try.prog w = .ok (.float .f64 z) w := fun t w => run_float_arith w .quo t .f64 _ _ z hd
  clear e0 e1 hd
  go_enter Try.func10, Try.ntmps10
  go_wp2_with (first | (go_at_call 11; refine (alive_any _).mono ?_; rintro e w' ⟨rfl, _, rfl⟩) | ((with_reducible refine (HE _).mono ?_); rintro e w' ⟨rfl, _, rfl⟩))
  go_ret
  exact ⟨ret_any (by exact hs.out), Grown.drewN ((Go.RowKit.Grown.refl _).alloc _ _) _⟩
set_option maxRecDepth 100000 in
theorem bad4 (p t n : Int) (hb : ¬ (1 ≤ n ∧ n ≤ 16 ∧ 0 ≤ t ∧ t ≤ 1099511627776 ∧ 0 ≤ p ∧ p ≤ 1099511627776)) (w : World) :
    Calls Try.prog 10 #[.int .i64 p, .int .i64 t, .agg #[.int .i64 n, .int .i64 4]] w fun e w' => e = .returned (.bool true) ∧ Grown w w' := by
  go_enter Try.func10, Try.ntmps10
  go_wp2_with (first | (go_at_call 11; refine (alive_any _).mono ?_; rintro e w' ⟨rfl, _, rfl⟩) | (exfalso; omega))
  all_goals
    go_ret
    exact ⟨rfl, Grown.drewN ((Go.RowKit.Grown.refl _).alloc _ _) _⟩
set_option maxRecDepth 100000 in
theorem good5 (p t n : Nat) (hn : 1 ≤ n) (hq : n ≤ 32) (ht : t ≤ 1099511627776) (hp : p ≤ 1099511627776) (w : World) :
    Calls Try.prog 10 #[.int .i64 p, .int .i64 t, .agg #[.int .i64 n, .int .i64 5]] w fun e w' => e = .returned (.bool true) ∧ Grown w w' := by
  obtain ⟨x, y, z, hx, hy, hd, z1, e0, e1⟩ := good p t n 5 (by omega) hn hq ht hp
  have HE := exceeds_any p t z z1 (by omega)
  rw [e0, e1] at HE
  have hy : floatOfInt .f64 32 = y := hy
  have hs := Lib.hid (same t n p 32 ht (by omega))
  have DV : ∀ (t : TypeId) (w : World), (binOp .quo t (.float .f64 x) (.float .f64 y)).run Try.prog w = .ok (.float .f64 z) w := fun t w => run_float_arith w .quo t .f64 _ _ z hd
  clear e0 e1 hd
  go_enter Try.func10, Try.ntmps10
  go_wp2_with (first | (go_at_call 11; refine (alive_any _).mono ?_; rintro e w' ⟨rfl, _, rfl⟩) | ((with_reducible refine (HE _).mono ?_); rintro e w' ⟨rfl, _, rfl⟩))
  go_ret
  exact ⟨ret_any (by exact hs.out), Grown.drewN ((Go.RowKit.Grown.refl _).alloc _ _) _⟩
set_option maxRecDepth 100000 in
theorem bad5 (p t n : Int) (hb : ¬ (1 ≤ n ∧ n ≤ 32 ∧ 0 ≤ t ∧ t ≤ 1099511627776 ∧ 0 ≤ p ∧ p ≤ 1099511627776)) (w : World) :
    Calls Try.prog 10 #[.int .i64 p, .int .i64 t, .agg #[.int .i64 n, .int .i64 5]] w fun e w' => e = .returned (.bool true) ∧ Grown w w' := by
  go_enter Try.func10, Try.ntmps10
  go_wp2_with (first | (go_at_call 11; refine (alive_any _).mono ?_; rintro e w' ⟨rfl, _, rfl⟩) | (exfalso; omega))
  all_goals
    go_ret
    exact ⟨rfl, Grown.drewN ((Go.RowKit.Grown.refl _).alloc _ _) _⟩
set_option maxRecDepth 100000 in
theorem good6 (p t n : Nat) (hn : 1 ≤ n) (hq : n ≤ 64) (ht : t ≤ 1099511627776) (hp : p ≤ 1099511627776) (w : World) :
    Calls Try.prog 10 #[.int .i64 p, .int .i64 t, .agg #[.int .i64 n, .int .i64 6]] w fun e w' => e = .returned (.bool true) ∧ Grown w w' := by
  obtain ⟨x, y, z, hx, hy, hd, z1, e0, e1⟩ := good p t n 6 (by omega) hn hq ht hp
  have HE := exceeds_any p t z z1 (by omega)
  rw [e0, e1] at HE
  have hy : floatOfInt .f64 64 = y := hy
  have hs := Lib.hid (same t n p 64 ht (by omega))
  have DV : ∀ (t : TypeId) (w : World), (binOp .quo t (.float .f64 x) (.float .f64 y)).run Try.prog w = .ok (.float .f64 z) w := fun t w => run_float_arith w .quo t .f64 _ _ z hd
  clear e0 e1 hd
  go_enter Try.func10, Try.ntmps10
  go_wp2_with (first | (go_at_call 11; refine (alive_any _).mono ?_; rintro e w' ⟨rfl, _, rfl⟩) | ((with_reducible refine (HE _).mono ?_); rintro e w' ⟨rfl, _, rfl⟩))
  go_ret
  exact ⟨ret_any (by exact hs.out), Grown.drewN ((Go.RowKit.Grown.refl _).alloc _ _) _⟩
set_option maxRecDepth 100000 in
theorem bad6 (p t n : Int) (hb : ¬ (1 ≤ n ∧ n ≤ 64 ∧ 0 ≤ t ∧ t ≤ 1099511627776 ∧ 0 ≤ p ∧ p ≤ 1099511627776)) (w : World) :
    Calls Try.prog 10 #[.int .i64 p, .int .i64 t, .agg #[.int .i64 n, .int .i64 6]] w fun e w' => e = .returned (.bool true) ∧ Grown w w' := by
  go_enter Try.func10, Try.ntmps10
  go_wp2_with (first | (go_at_call 11; refine (alive_any _).mono ?_; rintro e w' ⟨rfl, _, rfl⟩) | (exfalso; omega))
  all_goals
    go_ret
    exact ⟨rfl, Grown.drewN ((Go.RowKit.Grown.refl _).alloc _ _) _⟩
set_option maxRecDepth 100000 in
theorem good7 (p t n : Nat) (hn : 1 ≤ n) (hq : n ≤ 128) (ht : t ≤ 1099511627776) (hp : p ≤ 1099511627776) (w : World) :
    Calls Try.prog 10 #[.int .i64 p, .int .i64 t, .agg #[.int .i64 n, .int .i64 7]] w fun e w' => e = .returned (.bool true) ∧ Grown w w' := by
  obtain ⟨x, y, z, hx, hy, hd, z1, e0, e1⟩ := good p t n 7 (by omega) hn hq ht hp
  have HE := exceeds_any p t z z1 (by omega)
  rw [e0, e1] at HE
  have hy : floatOfInt .f64 128 = y := hy
  have hs := Lib.hid (same t n p 128 ht (by omega))
  have DV : ∀ (t : TypeId) (w : World), (binOp .quo t (.float .f64 x) (.float .f64 y)).run Try.prog w = .ok (.float .f64 z) w := fun t w => run_float_arith w .quo t .f64 _ _ z hd
  clear e0 e1 hd
  go_enter Try.func10, Try.ntmps10
  go_wp2_with (first | (go_at_call 11; refine (alive_any _).mono ?_; rintro e w' ⟨rfl, _, rfl⟩) | ((with_reducible refine (HE _).mono ?_); rintro e w' ⟨rfl, _, rfl⟩))
  go_ret
  exact ⟨ret_any (by exact hs.out), Grown.drewN ((Go.RowKit.Grown.refl _).alloc _ _) _⟩
set_option maxRecDepth 100000 in
theorem bad7 (p t n : Int) (hb : ¬ (1 ≤ n ∧ n ≤ 128 ∧ 0 ≤ t ∧ t ≤ 1099511627776 ∧ 0 ≤ p ∧ p ≤ 1099511627776)) (w : World) :
    Calls Try.prog 10 #[.int .i64 p, .int .i64 t, .agg #[.int .i64 n, .int .i64 7]] w fun e w' => e = .returned (.bool true) ∧ Grown w w' := by
  go_enter Try.func10, Try.ntmps10
  go_wp2_with (first | (go_at_call 11; refine (alive_any _).mono ?_; rintro e w' ⟨rfl, _, rfl⟩) | (exfalso; omega))
  all_goals
    go_ret
    exact ⟨rfl, Grown.drewN ((Go.RowKit.Grown.refl _).alloc _ _) _⟩
set_option maxRecDepth 100000 in
theorem good8 (p t n : Nat) (hn : 1 ≤ n) (hq : n ≤ 256) (ht : t ≤ 1099511627776) (hp : p ≤ 1099511627776) (w : World) :
    Calls Try.prog 10 #[.int .i64 p, .int .i64 t, .agg #[.int .i64 n, .int .i64 8]] w fun e w' => e = .returned (.bool true) ∧ Grown w w' := by
  obtain ⟨x, y, z, hx, hy, hd, z1, e0, e1⟩ := good p t n 8 (by omega) hn hq ht hp
  have HE := exceeds_any p t z z1 (by omega)
  rw [e0, e1] at HE
  have hy : floatOfInt .f64 256 = y := hy
  have hs := Lib.hid (same t n p 256 ht (by omega))
  have DV : ∀ (t : TypeId) (w : World), (binOp .quo t (.float .f64 x) (.float .f64 y)).run Try.prog w = .ok (.float .f64 z) w := fun t w => run_float_arith w .quo t .f64 _ _ z hd
  clear e0 e1 hd
  go_enter Try.func10, Try.ntmps10
  go_wp2_with (first | (go_at_call 11; refine (alive_any _).mono ?_; rintro e w' ⟨rfl, _, rfl⟩) | ((with_reducible refine (HE _).mono ?_); rintro e w' ⟨rfl, _, rfl⟩))
  go_ret
  exact ⟨ret_any (by exact hs.out), Grown.drewN ((Go.RowKit.Grown.refl _).alloc _ _) _⟩
set_option maxRecDepth 100000 in
theorem bad8 (p t n : Int) (hb : ¬ (1 ≤ n ∧ n ≤ 256 ∧ 0 ≤ t ∧ t ≤ 1099511627776 ∧ 0 ≤ p ∧ p ≤ 1099511627776)) (w : World) :
    Calls Try.prog 10 #[.int .i64 p, .int .i64 t, .agg #[.int .i64 n, .int .i64 8]] w fun e w' => e = .returned (.bool true) ∧ Grown w w' := by
  go_enter Try.func10, Try.ntmps10
  go_wp2_with (first | (go_at_call 11; refine (alive_any _).mono ?_; rintro e w' ⟨rfl, _, rfl⟩) | (exfalso; omega))
  all_goals
    go_ret
    exact ⟨rfl, Grown.drewN ((Go.RowKit.Grown.refl _).alloc _ _) _⟩
set_option maxRecDepth 100000 in
theorem good9 (p t n : Nat) (hn : 1 ≤ n) (hq : n ≤ 512) (ht : t ≤ 1099511627776) (hp : p ≤ 1099511627776) (w : World) :
    Calls Try.prog 10 #[.int .i64 p, .int .i64 t, .agg #[.int .i64 n, .int .i64 9]] w fun e w' => e = .returned (.bool true) ∧ Grown w w' := by
  obtain ⟨x, y, z, hx, hy, hd, z1, e0, e1⟩ := good p t n 9 (by omega) hn hq ht hp
  have HE := exceeds_any p t z z1 (by omega)
  rw [e0, e1] at HE
  have hy : floatOfInt .f64 512 = y := hy
  have hs := Lib.hid (same t n p 512 ht (by omega))
  have DV : ∀ (t : TypeId) (w : World), (binOp .quo t (.float .f64 x) (.float .f64 y)).run Try.prog w = .ok (.float .f64 z) w := fun t w => run_float_arith w .quo t .f64 _ _ z hd
  clear e0 e1 hd
  go_enter Try.func10, Try.ntmps10
  go_wp2_with (first | (go_at_call 11; refine (alive_any _).mono ?_; rintro e w' ⟨rfl, _, rfl⟩) | ((with_reducible refine (HE _).mono ?_); rintro e w' ⟨rfl, _, rfl⟩))
  go_ret
  exact ⟨ret_any (by exact hs.out), Grown.drewN ((Go.RowKit.Grown.refl _).alloc _ _) _⟩
set_option maxRecDepth 100000 in
theorem bad9 (p t n : Int) (hb : ¬ (1 ≤ n ∧ n ≤ 512 ∧ 0 ≤ t ∧ t ≤ 1099511627776 ∧ 0 ≤ p ∧ p ≤ 1099511627776)) (w : World) :
    Calls Try.prog 10 #[.int .i64 p, .int .i64 t, .agg #[.int .i64 n, .int .i64 9]] w fun e w' => e = .returned (.bool true) ∧ Grown w w' := by
  go_enter Try.func10, Try.ntmps10
  go_wp2_with (first | (go_at_call 11; refine (alive_any _).mono ?_; rintro e w' ⟨rfl, _, rfl⟩) | (exfalso; omega))
  all_goals
    go_ret
    exact ⟨rfl, Grown.drewN ((Go.RowKit.Grown.refl _).alloc _ _) _⟩
set_option maxRecDepth 100000 in
theorem out (p t n k : Int) (hk : k < 0 ∨ 9 < k) (w : World) :
    Calls Try.prog 10 #[.int .i64 p, .int .i64 t, .agg #[.int .i64 n, .int .i64 k]] w fun e w' => e = .returned (.bool true) ∧ Grown w w' := by
  rcases hk with hk | hk
  · go_enter Try.func10, Try.ntmps10
    go_wp2_with (first | (go_at_call 11; refine (alive_any _).mono ?_; rintro e w' ⟨rfl, _, rfl⟩))
    go_ret
    exact ⟨rfl, Grown.drewN ((Go.RowKit.Grown.refl _).alloc _ _) _⟩
  · go_enter Try.func10, Try.ntmps10
    go_wp2_with (first | (go_at_call 11; refine (alive_any _).mono ?_; rintro e w' ⟨rfl, _, rfl⟩))
    go_ret
    exact ⟨rfl, Grown.drewN ((Go.RowKit.Grown.refl _).alloc _ _) _⟩

theorem walk (a0 : Int) (a1 : Int) (a2 ba2 : Int) (w0 : (Lit.int .i64 a0).wf = true) (w1 : (Lit.int .i64 a1).wf = true) (w2 : (Lit.int .i64 a2).wf = true) (uw2 : (Lit.int .i64 ba2).wf = true) (w : World) :
    Calls Try.prog 10 #[.int .i64 a0, .int .i64 a1, .agg #[.int .i64 a2, .int .i64 ba2]] w fun e w' => e = .returned (.bool true) ∧ Grown w w' := by
  by_cases hk : ba2 < 0 ∨ 9 < ba2
  · exact out a0 a1 a2 ba2 hk w
  · have h10 : ba2 = 0 ∨ ba2 = 1 ∨ ba2 = 2 ∨ ba2 = 3 ∨ ba2 = 4 ∨ ba2 = 5 ∨ ba2 = 6 ∨ ba2 = 7 ∨ ba2 = 8 ∨ ba2 = 9 := by omega
    clear hk
    rcases h10 with rfl | rfl | rfl | rfl | rfl | rfl | rfl | rfl | rfl | rfl
    · by_cases g : 1 ≤ a2 ∧ a2 ≤ 1 ∧ 0 ≤ a1 ∧ a1 ≤ 1099511627776 ∧ 0 ≤ a0 ∧ a0 ≤ 1099511627776
      · obtain ⟨n, rfl⟩ := Int.eq_ofNat_of_zero_le (show 0 ≤ a2 by omega)
        obtain ⟨t, rfl⟩ := Int.eq_ofNat_of_zero_le g.2.2.1
        obtain ⟨p, rfl⟩ := Int.eq_ofNat_of_zero_le g.2.2.2.2.1
        exact good0 p t n (by omega) (by omega) (by omega) (by omega) w
      · exact bad0 a0 a1 a2 g w
    · by_cases g : 1 ≤ a2 ∧ a2 ≤ 2 ∧ 0 ≤ a1 ∧ a1 ≤ 1099511627776 ∧ 0 ≤ a0 ∧ a0 ≤ 1099511627776
      · obtain ⟨n, rfl⟩ := Int.eq_ofNat_of_zero_le (show 0 ≤ a2 by omega)
        obtain ⟨t, rfl⟩ := Int.eq_ofNat_of_zero_le g.2.2.1
        obtain ⟨p, rfl⟩ := Int.eq_ofNat_of_zero_le g.2.2.2.2.1
        exact good1 p t n (by omega) (by omega) (by omega) (by omega) w
      · exact bad1 a0 a1 a2 g w
    · by_cases g : 1 ≤ a2 ∧ a2 ≤ 4 ∧ 0 ≤ a1 ∧ a1 ≤ 1099511627776 ∧ 0 ≤ a0 ∧ a0 ≤ 1099511627776
      · obtain ⟨n, rfl⟩ := Int.eq_ofNat_of_zero_le (show 0 ≤ a2 by omega)
        obtain ⟨t, rfl⟩ := Int.eq_ofNat_of_zero_le g.2.2.1
        obtain ⟨p, rfl⟩ := Int.eq_ofNat_of_zero_le g.2.2.2.2.1
        exact good2 p t n (by omega) (by omega) (by omega) (by omega) w
      · exact bad2 a0 a1 a2 g w
    · by_cases g : 1 ≤ a2 ∧ a2 ≤ 8 ∧ 0 ≤ a1 ∧ a1 ≤ 1099511627776 ∧ 0 ≤ a0 ∧ a0 ≤ 1099511627776
      · obtain ⟨n, rfl⟩ := Int.eq_ofNat_of_zero_le (show 0 ≤ a2 by omega)
        obtain ⟨t, rfl⟩ := Int.eq_ofNat_of_zero_le g.2.2.1
        obtain ⟨p, rfl⟩ := Int.eq_ofNat_of_zero_le g.2.2.2.2.1
        exact good3 p t n (by omega) (by omega) (by omega) (by omega) w
      · exact bad3 a0 a1 a2 g w
    · by_cases g : 1 ≤ a2 ∧ a2 ≤ 16 ∧ 0 ≤ a1 ∧ a1 ≤ 1099511627776 ∧ 0 ≤ a0 ∧ a0 ≤ 1099511627776
      · obtain ⟨n, rfl⟩ := Int.eq_ofNat_of_zero_le (show 0 ≤ a2 by omega)
        obtain ⟨t, rfl⟩ := Int.eq_ofNat_of_zero_le g.2.2.1
        obtain ⟨p, rfl⟩ := Int.eq_ofNat_of_zero_le g.2.2.2.2.1
        exact good4 p t n (by omega) (by omega) (by omega) (by omega) w
      · exact bad4 a0 a1 a2 g w
    · by_cases g : 1 ≤ a2 ∧ a2 ≤ 32 ∧ 0 ≤ a1 ∧ a1 ≤ 1099511627776 ∧ 0 ≤ a0 ∧ a0 ≤ 1099511627776
      · obtain ⟨n, rfl⟩ := Int.eq_ofNat_of_zero_le (show 0 ≤ a2 by omega)
        obtain ⟨t, rfl⟩ := Int.eq_ofNat_of_zero_le g.2.2.1
        obtain ⟨p, rfl⟩ := Int.eq_ofNat_of_zero_le g.2.2.2.2.1
        exact good5 p t n (by omega) (by omega) (by omega) (by omega) w
      · exact bad5 a0 a1 a2 g w
    · by_cases g : 1 ≤ a2 ∧ a2 ≤ 64 ∧ 0 ≤ a1 ∧ a1 ≤ 1099511627776 ∧ 0 ≤ a0 ∧ a0 ≤ 1099511627776
      · obtain ⟨n, rfl⟩ := Int.eq_ofNat_of_zero_le (show 0 ≤ a2 by omega)
        obtain ⟨t, rfl⟩ := Int.eq_ofNat_of_zero_le g.2.2.1
        obtain ⟨p, rfl⟩ := Int.eq_ofNat_of_zero_le g.2.2.2.2.1
        exact good6 p t n (by omega) (by omega) (by omega) (by omega) w
      · exact bad6 a0 a1 a2 g w
    · by_cases g : 1 ≤ a2 ∧ a2 ≤ 128 ∧ 0 ≤ a1 ∧ a1 ≤ 1099511627776 ∧ 0 ≤ a0 ∧ a0 ≤ 1099511627776
      · obtain ⟨n, rfl⟩ := Int.eq_ofNat_of_zero_le (show 0 ≤ a2 by omega)
        obtain ⟨t, rfl⟩ := Int.eq_ofNat_of_zero_le g.2.2.1
        obtain ⟨p, rfl⟩ := Int.eq_ofNat_of_zero_le g.2.2.2.2.1
        exact good7 p t n (by omega) (by omega) (by omega) (by omega) w
      · exact bad7 a0 a1 a2 g w
    · by_cases g : 1 ≤ a2 ∧ a2 ≤ 256 ∧ 0 ≤ a1 ∧ a1 ≤ 1099511627776 ∧ 0 ≤ a0 ∧ a0 ≤ 1099511627776
      · obtain ⟨n, rfl⟩ := Int.eq_ofNat_of_zero_le (show 0 ≤ a2 by omega)
        obtain ⟨t, rfl⟩ := Int.eq_ofNat_of_zero_le g.2.2.1
        obtain ⟨p, rfl⟩ := Int.eq_ofNat_of_zero_le g.2.2.2.2.1
        exact good8 p t n (by omega) (by omega) (by omega) (by omega) w
      · exact bad8 a0 a1 a2 g w
    · by_cases g : 1 ≤ a2 ∧ a2 ≤ 512 ∧ 0 ≤ a1 ∧ a1 ≤ 1099511627776 ∧ 0 ≤ a0 ∧ a0 ≤ 1099511627776
      · obtain ⟨n, rfl⟩ := Int.eq_ofNat_of_zero_le (show 0 ≤ a2 by omega)
        obtain ⟨t, rfl⟩ := Int.eq_ofNat_of_zero_le g.2.2.1
        obtain ⟨p, rfl⟩ := Int.eq_ofNat_of_zero_le g.2.2.2.2.1
        exact good9 p t n (by omega) (by omega) (by omega) (by omega) w
      · exact bad9 a0 a1 a2 g w

/-! ### The row's frame -/
theorem own : ownKnob Try.prog.godebug = none := by kernel_rfl
theorem arr2 : Go.WideMaps.ArrKey Try.prog 39 3 2 := ⟨Try.underlying39, by kernel_rfl, by kernel_rfl, by kernel_rfl⟩
set_option maxRecDepth 100000 in
theorem lifted (os : Os) (started : os.Started) (H : Type) (enc : TypeId × Value → H) :
    ReturnsInHanded {} Try.checked os 10 .any (Rows.levelHalvesSpec.pre6 enc Try.prog Try.f10 Rows.levelHalvesRow.domain false) (Rows.levelHalvesSpec.post enc Try.prog Try.f10 false true false false) := by
  refine returnsInHanded_of_change (C := Try.checked) own started (by kernel_rfl) Try.func10
    (ChangeSpec.witness6 (enc := enc) (C := Try.checked) false ⟨#[], #[.int .i64 0, .int .i64 0, .agg #[.int .i64 0, .int .i64 0]], []⟩ 8 (by kernel_rfl) (by kernel_rfl) (by kernel_rfl) (by kernel_rfl)) ?_
  intro W base args ds gs before hval0 hW hcnd _
  have hval : ∀ (j : Nat) t v, Try.f10.params[j]? = some t → args[j]? = some v → Value.okWide Try.prog W .any base t v := hval0
  have hW' := hW
  obtain ⟨p, q, hA0, hV, rfl, hfz, hnd⟩ := hW
  have hA : DataW.TrodAll enc Try.prog W 0 (fun _ => true) true Try.f10.params.toList args.toList ds p := hA0
  rw [Try.params10] at hA hval
  obtain ⟨v0, vs0, d0, ds0, p0, q0, hargs, rfl, rfl, h0, r0⟩ := trodAll_cons hA
  obtain ⟨v1, vs1, d1, ds1, p1, q1, rfl, rfl, rfl, h1, r1⟩ := trodAll_cons r0
  obtain ⟨v2, vs2, d2, ds2, p2, q2, rfl, rfl, rfl, h2, r2⟩ := trodAll_cons r1
  obtain ⟨rfl, rfl, rfl⟩ := trodAll_nil r2
  obtain rfl : args = #[v0, v1, v2] := by cases args; simp_all
  obtain ⟨rfl, rfl⟩ := trodVars_none hV
  obtain ⟨a0, rfl, rfl, rfl, w0⟩ := open_int Try.underlying3 (hval 0 3 v0 rfl rfl) h0
  obtain ⟨a1, rfl, rfl, rfl, w1⟩ := open_int Try.underlying3 (hval 1 3 v1 rfl rfl) h1
  obtain ⟨a2, ba2, rfl, rfl, rfl, w2, uw2⟩ := Go.WideMaps.open_pair arr2 Try.underlying3 (hval 2 39 v2 rfl rfl) h2
  clear hA0 hval0
  simp only [List.append_nil] at hW'
  refine (walk a0 a1 a2 ba2 w0 w1 w2 uw2 W).mono fun e W' ⟨he, hg⟩ => ?_
  subst he
  exact ⟨_, rfl, post_of_same (pa := []) (pv := []) hW' (fun _ _ _ => (trodAll_cons_mk (shut_bool Try.underlying4 _) trodAll_mk0)) (fun sp _ => (trodAll_cons_mk (shut_int Try.underlying3 w0) (trodAll_cons_mk (shut_int Try.underlying3 w1) (trodAll_cons_mk (Go.WideMaps.shut_pair arr2 Try.underlying3 w2 uw2) trodAll_mk0)))) (fun _ _ => rfl) rfl
    (hg.frame _) hg.2.1 (ok_one (by kernel_rfl) rfl (okWide_bool_mk Try.underlying4 _))⟩

theorem holds : Rows.levelHalvesRow.holds Try.pinned (OpenSpec.ofChange Rows.levelHalvesSpec) :=
  OpenClaim.holds_of_wide 10 Try.f10 rfl rfl rfl rfl rfl rfl rfl ⟨rfl, rfl, rfl, rfl, rfl⟩ rfl rfl rfl rfl rfl (by kernel_rfl) Try.func10 (by kernel_rfl)
    (of_decide_eq_true (by kernel_rfl)) (by unfold Func.isWrapper; first | (rw [if_pos (by decide +kernel)]; kernel_rfl) | (rw [if_neg (by decide +kernel)]; exact ⟨rfl, rfl⟩))
    (fun os started H enc _ => lifted os started H enc)
end Go.Proofs.Ytkinbknflkenpaa.levelHalves
namespace Go.Proofs.Ytkinbknflkenpaa
/-- The statement. -/
theorem levelHalves_holds : Rows.LevelHalvesSaid := levelHalves.holds
end Go.Proofs.Ytkinbknflkenpaa
