/- Of the program at this commit: the law SchnorrPowers answers true for every base, exponent and secret (any power, and any secret's key or the error, are the document's own answer's); no condition. -/
import Derived.Test.YthchlafalilocaaRows
import Derived.WalkKit
import Derived.ProofKit
import Derived.Test.YthchlafalilocaaSa
namespace Go.Proofs.Ythchlafalilocaa.schnorrPowers
open Go.ChangeShapes Go.WideShapes Go.ChangeAt Go.RowKit
set_option linter.unusedVariables false

theorem walk (W : World) (v0 v1 v2 : Value) (h0 : Okv Try.prog W 22 v0) (h1 : Okv Try.prog W 22 v1) (h2 : Okv Try.prog W 22 v2) :
    Calls Try.prog 3 #[v0, v1, v2] W fun e W' => e = .returned (.bool true) ∧ Below W.heap.size W W' := by
  obtain ⟨a, rfl, ha⟩ := u64_arg h0
  obtain ⟨b, rfl, hb⟩ := u64_arg h1
  obtain ⟨c, rfl, hc⟩ := u64_arg h2
  clear h0 h1 h2
  have K1 := key_any c hc
  have K2 := rkey_any c hc
  have P1 := power_any a b ha hb
  have P2 := rpower_any a b ha hb
  have HAL := alive_any
  generalize Pm.mp a b = r at *
  cases h : isS c
  · rw [keyV_no h] at K1 K2
    clear h
    go_enter Try.func3, Try.ntmps3
    go_wp2_with (first | (with_reducible refine (K1 _).mono ?_; rintro e w' ⟨rfl, rfl⟩) | (with_reducible refine (K2 _).mono ?_; rintro e w' ⟨rfl, rfl⟩) | (with_reducible refine (P1 _).mono ?_; rintro e w' ⟨rfl, rfl⟩) | (with_reducible refine (P2 _).mono ?_; rintro e w' ⟨rfl, rfl⟩) | (with_reducible refine (HAL _).mono ?_; rintro e w' ⟨rfl, rfl⟩))
    all_goals go_ret
    all_goals exact ⟨rfl, Below.refl _ _⟩
  · rw [keyV_yes h] at K1 K2
    generalize Pm.mp 37 c = k at *
    clear h
    go_enter Try.func3, Try.ntmps3
    go_wp2_with (first | (with_reducible refine (K1 _).mono ?_; rintro e w' ⟨rfl, rfl⟩) | (with_reducible refine (K2 _).mono ?_; rintro e w' ⟨rfl, rfl⟩) | (with_reducible refine (P1 _).mono ?_; rintro e w' ⟨rfl, rfl⟩) | (with_reducible refine (P2 _).mono ?_; rintro e w' ⟨rfl, rfl⟩) | (with_reducible refine (HAL _).mono ?_; rintro e w' ⟨rfl, rfl⟩))
    all_goals go_ret
    all_goals exact ⟨rfl, Below.refl _ _⟩

/-! ### The row's frame -/
theorem own : ownKnob Try.prog.godebug = none := by kernel_rfl
theorem walkA (W : World) (args : Array Value) (hsz : args.size = Try.f3.params.size) (hok : ∀ (j : Nat) (t : TypeId) (v : Value), Try.f3.params[j]? = some t → args[j]? = some v → Okv Try.prog W t v) :
    Calls Try.prog 3 args W fun e W' => e = .returned (.bool true) ∧ Below W.heap.size W W' := by
  rw [Try.params3] at hsz hok
  obtain ⟨v0, v1, v2, rfl⟩ : ∃ v0 v1 v2 : Value, args = #[v0, v1, v2] := by
    obtain ⟨l⟩ := args
    match l, hsz with
    | [v0, v1, v2], _ => exact ⟨v0, v1, v2, rfl⟩
  exact walk W v0 v1 v2 (hok 0 22 v0 rfl rfl) (hok 1 22 v1 rfl rfl) (hok 2 22 v2 rfl rfl)
set_option maxRecDepth 100000 in
theorem lifted (os : Os) (started : os.Started) (H : Type) (enc : TypeId × Value → H) :
    ReturnsInHanded {} Try.checked os 3 .any (Rows.schnorrPowersSpec.pre6 enc Try.prog Try.f3 Rows.schnorrPowersRow.domain false) (Rows.schnorrPowersSpec.post enc Try.prog Try.f3 false true false false) :=
  lifted_of_walk (C := Try.checked) (s := Rows.schnorrPowersSpec) (conds := Rows.schnorrPowersRow.domain) (apart := false) (fresh := true) (T := 4) own started (by kernel_rfl) Try.func3
    (ChangeSpec.witness6 (enc := enc) (C := Try.checked) false ⟨#[], #[.int .u64 0, .int .u64 0, .int .u64 0], []⟩ 8 (by kernel_rfl) (by kernel_rfl) (by kernel_rfl) (by kernel_rfl))
    rfl (fun ds hd => by
      rw [Try.params3] at hd
      match ds, hd with
      | [d0, d1, d2], _ => exact ⟨rfl, rfl, rfl⟩)
    (by kernel_rfl) Try.underlying4 (by kernel_rfl) (by rw [Try.params3]; intro t ht; simp only [List.mem_cons, List.not_mem_nil, or_false] at ht; rcases ht with rfl | rfl | rfl <;> exact ⟨by kernel_rfl, of_decide_eq_true (by kernel_rfl)⟩) walkA

theorem holds : Rows.schnorrPowersRow.holds Try.pinned (OpenSpec.ofChange Rows.schnorrPowersSpec) :=
  OpenClaim.holds_of_wide 3 Try.f3 rfl rfl rfl rfl rfl rfl rfl ⟨rfl, rfl, rfl, rfl, rfl⟩ rfl rfl rfl rfl rfl (by kernel_rfl) Try.func3 (by kernel_rfl)
    (of_decide_eq_true (by kernel_rfl)) (by unfold Func.isWrapper; first | (rw [if_pos (by decide +kernel)]; kernel_rfl) | (rw [if_neg (by decide +kernel)]; exact ⟨rfl, rfl⟩))
    (fun os started H enc _ => lifted os started H enc)
end Go.Proofs.Ythchlafalilocaa.schnorrPowers
namespace Go.Proofs.Ythchlafalilocaa
/-- The statement. -/
theorem schnorrPowers_holds : Rows.SchnorrPowersSaid := schnorrPowers.holds
end Go.Proofs.Ythchlafalilocaa
