/- Of the program at this commit: the law SchnorrKeys answers true for every two numbers (the product of two secrets' keys is the key of their sum, counted round; a key is above 0 and less than the prime); no condition. -/
import Derived.Test.YthchlafalilocaaRows
import Derived.WalkKit
import Derived.ProofKit
import Derived.Test.YthchlafalilocaaSa
namespace Go.Proofs.Ythchlafalilocaa.schnorrKeys
open Go.ChangeShapes Go.WideShapes Go.ChangeAt Go.RowKit
set_option linter.unusedVariables false

/-- Two keys' product. -/
theorem keys {a b : Nat} : Pm.mp 37 a * Pm.mp 37 b % Pm.P = Pm.mp 37 ((a + b) % 2305843009213693950) := by
  rw [← Pm.mp_add]
  exact (Pm.g_round (a + b)).symm
theorem walk (W : World) (v0 v1 : Value) (h0 : Okv Try.prog W 22 v0) (h1 : Okv Try.prog W 22 v1) :
    Calls Try.prog 5 #[v0, v1] W fun e W' => e = .returned (.bool true) ∧ Below W.heap.size W W' := by
  obtain ⟨a, rfl, ha⟩ := u64_arg h0
  obtain ⟨b, rfl, hb⟩ := u64_arg h1
  clear h0 h1
  have HAL := alive_any
  have KA := key_any a ha
  have KB := key_any b hb
  cases ea : isS a
  · rw [keyV_no ea] at KA
    clear ea
    cases eb : isS b
    · rw [keyV_no eb] at KB
      clear eb
      go_enter Try.func5, Try.ntmps5
      go_wp2_with (first | (with_reducible refine (KA _).mono ?_; rintro e w' ⟨rfl, rfl⟩) | (with_reducible refine (KB _).mono ?_; rintro e w' ⟨rfl, rfl⟩) | (with_reducible refine (HAL _).mono ?_; rintro e w' ⟨rfl, rfl⟩))
      all_goals go_ret
      all_goals exact ⟨rfl, Below.refl _ _⟩
    · rw [keyV_yes eb] at KB
      generalize Pm.mp 37 b = y at *
      clear eb
      go_enter Try.func5, Try.ntmps5
      go_wp2_with (first | (with_reducible refine (KA _).mono ?_; rintro e w' ⟨rfl, rfl⟩) | (with_reducible refine (KB _).mono ?_; rintro e w' ⟨rfl, rfl⟩) | (with_reducible refine (HAL _).mono ?_; rintro e w' ⟨rfl, rfl⟩))
      all_goals go_ret
      all_goals exact ⟨rfl, Below.refl _ _⟩
  · rw [keyV_yes ea] at KA
    cases eb : isS b
    · rw [keyV_no eb] at KB
      generalize Pm.mp 37 a = x at *
      clear ea eb
      go_enter Try.func5, Try.ntmps5
      go_wp2_with (first | (with_reducible refine (KA _).mono ?_; rintro e w' ⟨rfl, rfl⟩) | (with_reducible refine (KB _).mono ?_; rintro e w' ⟨rfl, rfl⟩) | (with_reducible refine (HAL _).mono ?_; rintro e w' ⟨rfl, rfl⟩))
      all_goals go_ret
      all_goals exact ⟨rfl, Below.refl _ _⟩
    · rw [keyV_yes eb] at KB
      have ea := isS_yes.1 ea
      have eb := isS_yes.1 eb
      have D := product_any (Pm.mp 37 a) (Pm.mp 37 b) (Pm.mp_lt _ _) (Pm.mp_lt _ _)
      rw [keys] at D
      have PA : ∀ w, Calls Try.prog 9 #[.int .u64 37, .int .u64 (a : Int)] w fun x w' => x = .returned (.int .u64 ((Pm.mp 37 a : Nat) : Int)) ∧ w = w' := power_any 37 a (by omega) ha
      have KS := key_any ((a + b) % 2305843009213693950) (by omega)
      obtain ⟨S, hS⟩ : ∃ S, S = (a + b) % 2305843009213693950 := ⟨_, rfl⟩
      rw [← hS] at KS D
      have HS : ((a : Int) + (b : Int)) % 2305843009213693950 = (S : Int) := by omega
      have x0 := Pm.g_pos a (by rw [Pm.P_eq]; omega)
      have x1 := Pm.mp_lt 37 a
      rw [Pm.P_eq] at x1
      obtain ⟨X, hX⟩ : ∃ X : Int, X = ((Pm.mp 37 a : Nat) : Int) := ⟨_, rfl⟩
      have X0 : 0 < X := by omega
      have X1 : X < 2305843009213693951 := by omega
      rw [← hX] at KA PA D
      clear hX x0 x1
      generalize Pm.mp 37 b = y at *
      by_cases s0 : S = 0
      · subst s0
        rw [Pm.mp_zero] at D
        have KS : ∀ w, Calls Try.prog 6 #[.int .u64 0] w fun x w' => x = .returned (.tuple #[.int .u64 0, .int .i64 41]) ∧ w = w' := by
          intro w
          have h := KS w
          rw [keyV_no (by decide)] at h
          exact h
        have D : ∀ w, Calls Try.prog 11 #[.int .u64 X, .int .u64 (y : Int)] w fun x w' => x = .returned (.int .u64 1) ∧ w = w' := D
        have HS : ((a : Int) + (b : Int)) % 2305843009213693950 = 0 := HS
        clear hS
        go_enter Try.func5, Try.ntmps5
        go_wp2_with (first | (with_reducible refine (KA _).mono ?_; rintro e w' ⟨rfl, rfl⟩) | (with_reducible refine (KB _).mono ?_; rintro e w' ⟨rfl, rfl⟩) | (with_reducible refine (KS _).mono ?_; rintro e w' ⟨rfl, rfl⟩) | (with_reducible refine (D _).mono ?_; rintro e w' ⟨rfl, rfl⟩) | (with_reducible refine (HAL _).mono ?_; rintro e w' ⟨rfl, rfl⟩) | rw [HS])
        all_goals go_ret
        all_goals exact ⟨rfl, Below.refl _ _⟩
      · have es : isS S = true := isS_yes.2 (by omega)
        rw [keyV_yes es] at KS
        generalize Pm.mp 37 S = z at *
        have sp : 0 < S := by omega
        clear es hS s0
        go_enter Try.func5, Try.ntmps5
        go_wp2_with (first | (with_reducible refine (KA _).mono ?_; rintro e w' ⟨rfl, rfl⟩) | (with_reducible refine (KB _).mono ?_; rintro e w' ⟨rfl, rfl⟩) | (with_reducible refine (KS _).mono ?_; rintro e w' ⟨rfl, rfl⟩) | (with_reducible refine (D _).mono ?_; rintro e w' ⟨rfl, rfl⟩) | (with_reducible refine (PA _).mono ?_; rintro e w' ⟨rfl, rfl⟩) | (with_reducible refine (HAL _).mono ?_; rintro e w' ⟨rfl, rfl⟩) | rw [HS])
        all_goals go_ret
        all_goals exact ⟨rfl, Below.refl _ _⟩

/-! ### The row's frame -/
theorem own : ownKnob Try.prog.godebug = none := by kernel_rfl
theorem walkA (W : World) (args : Array Value) (hsz : args.size = Try.f5.params.size) (hok : ∀ (j : Nat) (t : TypeId) (v : Value), Try.f5.params[j]? = some t → args[j]? = some v → Okv Try.prog W t v) :
    Calls Try.prog 5 args W fun e W' => e = .returned (.bool true) ∧ Below W.heap.size W W' := by
  rw [Try.params5] at hsz hok
  obtain ⟨v0, v1, rfl⟩ : ∃ v0 v1 : Value, args = #[v0, v1] := by
    obtain ⟨l⟩ := args
    match l, hsz with
    | [v0, v1], _ => exact ⟨v0, v1, rfl⟩
  exact walk W v0 v1 (hok 0 22 v0 rfl rfl) (hok 1 22 v1 rfl rfl)
set_option maxRecDepth 100000 in
theorem lifted (os : Os) (started : os.Started) (H : Type) (enc : TypeId × Value → H) :
    ReturnsInHanded {} Try.checked os 5 .any (Rows.schnorrKeysSpec.pre6 enc Try.prog Try.f5 Rows.schnorrKeysRow.domain false) (Rows.schnorrKeysSpec.post enc Try.prog Try.f5 false true false false) :=
  lifted_of_walk (C := Try.checked) (s := Rows.schnorrKeysSpec) (conds := Rows.schnorrKeysRow.domain) (apart := false) (fresh := true) (T := 4) own started (by kernel_rfl) Try.func5
    (ChangeSpec.witness6 (enc := enc) (C := Try.checked) false ⟨#[], #[.int .u64 0, .int .u64 0], []⟩ 8 (by kernel_rfl) (by kernel_rfl) (by kernel_rfl) (by kernel_rfl))
    rfl (fun ds hd => by
      rw [Try.params5] at hd
      match ds, hd with
      | [d0, d1], _ => exact ⟨rfl, rfl, rfl⟩)
    (by kernel_rfl) Try.underlying4 (by kernel_rfl) (by rw [Try.params5]; intro t ht; simp only [List.mem_cons, List.not_mem_nil, or_false] at ht; rcases ht with rfl | rfl <;> exact ⟨by kernel_rfl, of_decide_eq_true (by kernel_rfl)⟩) walkA

theorem holds : Rows.schnorrKeysRow.holds Try.pinned (OpenSpec.ofChange Rows.schnorrKeysSpec) :=
  OpenClaim.holds_of_wide 5 Try.f5 rfl rfl rfl rfl rfl rfl rfl ⟨rfl, rfl, rfl, rfl, rfl⟩ rfl rfl rfl rfl rfl (by kernel_rfl) Try.func5 (by kernel_rfl)
    (of_decide_eq_true (by kernel_rfl)) (by unfold Func.isWrapper; first | (rw [if_pos (by decide +kernel)]; kernel_rfl) | (rw [if_neg (by decide +kernel)]; exact ⟨rfl, rfl⟩))
    (fun os started H enc _ => lifted os started H enc)
end Go.Proofs.Ythchlafalilocaa.schnorrKeys
namespace Go.Proofs.Ythchlafalilocaa
/-- The statement. -/
theorem schnorrKeys_holds : Rows.SchnorrKeysSaid := schnorrKeys.holds
end Go.Proofs.Ythchlafalilocaa
