/- Of the program at this commit: the law SchnorrSums answers true for every base and exponents (powers of sums are products of powers; a number that is not the prime's multiple has 1 for its power by the prime less 1, a multiple has 0); no condition. -/
import Derived.Test.YthchlafalilocaaRows
import Derived.WalkKit
import Derived.ProofKit
import Derived.Test.YthchlafalilocaaSa
namespace Go.Proofs.Ythchlafalilocaa.schnorrSums
open Go.ChangeShapes Go.WideShapes Go.ChangeAt Go.RowKit
set_option linter.unusedVariables false

theorem walk (W : World) (v0 v1 v2 : Value) (h0 : Okv Try.prog W 22 v0) (h1 : Okv Try.prog W 22 v1) (h2 : Okv Try.prog W 22 v2) :
    Calls Try.prog 4 #[v0, v1, v2] W fun e W' => e = .returned (.bool true) ∧ Below W.heap.size W W' := by
  obtain ⟨a, rfl, ha⟩ := u64_arg h0
  obtain ⟨b, rfl, hb⟩ := u64_arg h1
  obtain ⟨c, rfl, hc⟩ := u64_arg h2
  clear h0 h1 h2
  have HAL := alive_any
  have X : ∀ w, Calls Try.prog 9 #[.int .u64 (a : Int), .int .u64 ((b : Int) / 2)] w fun x w' => x = .returned (.int .u64 ((Pm.mp a (b / 2) : Nat) : Int)) ∧ w = w' := power_any a (b / 2) ha (by omega)
  have Y : ∀ w, Calls Try.prog 9 #[.int .u64 (a : Int), .int .u64 ((c : Int) / 2)] w fun x w' => x = .returned (.int .u64 ((Pm.mp a (c / 2) : Nat) : Int)) ∧ w = w' := power_any a (c / 2) ha (by omega)
  have Z : ∀ w, Calls Try.prog 9 #[.int .u64 (a : Int), .int .u64 ((b : Int) / 2 + (c : Int) / 2)] w fun x w' => x = .returned (.int .u64 ((Pm.mp a (b / 2 + c / 2) : Nat) : Int)) ∧ w = w' := power_any a (b / 2 + c / 2) ha (by omega)
  have O : ∀ w, Calls Try.prog 9 #[.int .u64 (a : Int), .int .u64 2305843009213693950] w fun x w' => x = .returned (.int .u64 ((Pm.mp a (Pm.P - 1) : Nat) : Int)) ∧ w = w' := power_any a (Pm.P - 1) ha (by decide)
  have Q0 : ∀ w, Calls Try.prog 9 #[.int .u64 (a : Int), .int .u64 0] w fun x w' => x = .returned (.int .u64 1) ∧ w = w' := by
    intro w; have h := power_any a 0 ha (by omega) w; rw [Pm.mp_zero] at h; exact h
  have Q1 : ∀ w, Calls Try.prog 9 #[.int .u64 (a : Int), .int .u64 1] w fun x w' => x = .returned (.int .u64 ((a % Pm.P : Nat) : Int)) ∧ w = w' := by
    intro w; have h := power_any a 1 ha (by omega) w; rw [Pm.mp_one] at h; exact h
  have B : ∀ w, Calls Try.prog 9 #[.int .u64 ((Pm.mp a (c / 2) : Nat) : Int), .int .u64 2305843009213693949] w fun x w' => x = .returned (.int .u64 ((Pm.mp (Pm.mp a (c / 2)) (Pm.P - 2) : Nat) : Int)) ∧ w = w' := power_any (Pm.mp a (c / 2)) (Pm.P - 2) (Nat.lt_trans (Pm.mp_lt _ _) (by decide)) (by decide)
  have D := product_any (Pm.mp a (b / 2 + c / 2)) (Pm.mp (Pm.mp a (c / 2)) (Pm.P - 2)) (Pm.mp_lt _ _) (Pm.mp_lt _ _)
  have hr : (a : Int) % 2305843009213693951 = ((a % Pm.P : Nat) : Int) := by rw [Pm.P_eq]; omega
  by_cases hz : a % Pm.P = 0
  · rw [Pm.mp_nought (Pm.P - 1) (by decide) a hz] at O
    rw [hz] at Q1 hr
    clear D
    generalize Pm.mp (Pm.mp a (c / 2)) (Pm.P - 2) = k at *
    generalize Pm.mp a (b / 2) = x at *
    generalize Pm.mp a (c / 2) = y at *
    generalize Pm.mp a (b / 2 + c / 2) = z at *
    clear hz
    go_enter Try.func4, Try.ntmps4
    go_wp2_with (first | (with_reducible refine (X _).mono ?_; rintro e w' ⟨rfl, rfl⟩) | (with_reducible refine (Y _).mono ?_; rintro e w' ⟨rfl, rfl⟩) | (with_reducible refine (Z _).mono ?_; rintro e w' ⟨rfl, rfl⟩) | (with_reducible refine (O _).mono ?_; rintro e w' ⟨rfl, rfl⟩) | (with_reducible refine (Q0 _).mono ?_; rintro e w' ⟨rfl, rfl⟩) | (with_reducible refine (Q1 _).mono ?_; rintro e w' ⟨rfl, rfl⟩) | (with_reducible refine (B _).mono ?_; rintro e w' ⟨rfl, rfl⟩) | (with_reducible refine (HAL _).mono ?_; rintro e w' ⟨rfl, rfl⟩) | rw [hr])
    all_goals go_ret
    all_goals exact ⟨rfl, Below.refl _ _⟩
  · rw [Pm.little a hz] at O
    rw [Pm.undone a (b / 2) (c / 2) hz] at D
    generalize Pm.mp (Pm.mp a (c / 2)) (Pm.P - 2) = k at *
    generalize Pm.mp a (b / 2) = x at *
    generalize Pm.mp a (c / 2) = y at *
    generalize Pm.mp a (b / 2 + c / 2) = z at *
    generalize a % Pm.P = r at *
    go_enter Try.func4, Try.ntmps4
    go_wp2_with (first | (with_reducible refine (X _).mono ?_; rintro e w' ⟨rfl, rfl⟩) | (with_reducible refine (Y _).mono ?_; rintro e w' ⟨rfl, rfl⟩) | (with_reducible refine (Z _).mono ?_; rintro e w' ⟨rfl, rfl⟩) | (with_reducible refine (O _).mono ?_; rintro e w' ⟨rfl, rfl⟩) | (with_reducible refine (Q0 _).mono ?_; rintro e w' ⟨rfl, rfl⟩) | (with_reducible refine (Q1 _).mono ?_; rintro e w' ⟨rfl, rfl⟩) | (with_reducible refine (B _).mono ?_; rintro e w' ⟨rfl, rfl⟩) | (with_reducible refine (D _).mono ?_; rintro e w' ⟨rfl, rfl⟩) | (with_reducible refine (HAL _).mono ?_; rintro e w' ⟨rfl, rfl⟩) | rw [hr])
    all_goals go_ret
    all_goals exact ⟨rfl, Below.refl _ _⟩

/-! ### The row's frame -/
theorem own : ownKnob Try.prog.godebug = none := by kernel_rfl
theorem walkA (W : World) (args : Array Value) (hsz : args.size = Try.f4.params.size) (hok : ∀ (j : Nat) (t : TypeId) (v : Value), Try.f4.params[j]? = some t → args[j]? = some v → Okv Try.prog W t v) :
    Calls Try.prog 4 args W fun e W' => e = .returned (.bool true) ∧ Below W.heap.size W W' := by
  rw [Try.params4] at hsz hok
  obtain ⟨v0, v1, v2, rfl⟩ : ∃ v0 v1 v2 : Value, args = #[v0, v1, v2] := by
    obtain ⟨l⟩ := args
    match l, hsz with
    | [v0, v1, v2], _ => exact ⟨v0, v1, v2, rfl⟩
  exact walk W v0 v1 v2 (hok 0 22 v0 rfl rfl) (hok 1 22 v1 rfl rfl) (hok 2 22 v2 rfl rfl)
set_option maxRecDepth 100000 in
theorem lifted (os : Os) (started : os.Started) (H : Type) (enc : TypeId × Value → H) :
    ReturnsInHanded {} Try.checked os 4 .any (Rows.schnorrSumsSpec.pre6 enc Try.prog Try.f4 Rows.schnorrSumsRow.domain false) (Rows.schnorrSumsSpec.post enc Try.prog Try.f4 false true false false) :=
  lifted_of_walk (C := Try.checked) (s := Rows.schnorrSumsSpec) (conds := Rows.schnorrSumsRow.domain) (apart := false) (fresh := true) (T := 4) own started (by kernel_rfl) Try.func4
    (ChangeSpec.witness6 (enc := enc) (C := Try.checked) false ⟨#[], #[.int .u64 0, .int .u64 0, .int .u64 0], []⟩ 8 (by kernel_rfl) (by kernel_rfl) (by kernel_rfl) (by kernel_rfl))
    rfl (fun ds hd => by
      rw [Try.params4] at hd
      match ds, hd with
      | [d0, d1, d2], _ => exact ⟨rfl, rfl, rfl⟩)
    (by kernel_rfl) Try.underlying4 (by kernel_rfl) (by rw [Try.params4]; intro t ht; simp only [List.mem_cons, List.not_mem_nil, or_false] at ht; rcases ht with rfl | rfl | rfl <;> exact ⟨by kernel_rfl, of_decide_eq_true (by kernel_rfl)⟩) walkA

theorem holds : Rows.schnorrSumsRow.holds Try.pinned (OpenSpec.ofChange Rows.schnorrSumsSpec) :=
  OpenClaim.holds_of_wide 4 Try.f4 rfl rfl rfl rfl rfl rfl rfl ⟨rfl, rfl, rfl, rfl, rfl⟩ rfl rfl rfl rfl rfl (by kernel_rfl) Try.func4 (by kernel_rfl)
    (of_decide_eq_true (by kernel_rfl)) (by unfold Func.isWrapper; first | (rw [if_pos (by decide +kernel)]; kernel_rfl) | (rw [if_neg (by decide +kernel)]; exact ⟨rfl, rfl⟩))
    (fun os started H enc _ => lifted os started H enc)
end Go.Proofs.Ythchlafalilocaa.schnorrSums
namespace Go.Proofs.Ythchlafalilocaa
/-- The statement. -/
theorem schnorrSums_holds : Rows.SchnorrSumsSaid := schnorrSums.holds
end Go.Proofs.Ythchlafalilocaa
