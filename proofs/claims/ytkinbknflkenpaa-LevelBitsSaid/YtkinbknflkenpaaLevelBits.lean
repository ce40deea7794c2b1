/- Of the program at this commit: the law LevelBits answers true for every number and every 64 bits (a number's bits, and the number of any bits or the error, are the document's own answer's); no condition. -/
import Derived.Test.YtkinbknflkenpaaRows
import Derived.WalkKit
import Derived.ProofKit
import Derived.OpenShut
import Derived.WideKeyPair
import Derived.Test.YtkinbknflkenpaaRf
namespace Go.Proofs.Ytkinbknflkenpaa.levelBits
open Go.ChangeShapes Go.WideShapes Go.ChangeAt Go.RowKit Fl
set_option linter.unusedVariables false

theorem walk (a0 : Nat) (a1 : Int) (w0 : a0 < 18446744073709551616) (w1 : (Lit.int .u64 a1).wf = true) (w : World) :
    Calls Try.prog 5 #[.float .f64 a0, .int .u64 a1] w fun e w' => e = .returned (.bool true) ∧ Grown w w' := by
  obtain ⟨b, rfl, hb⟩ := u64_of_wf w1
  have HB := lbits_any a0 w0
  have HR := rbits_any a0 w0
  have HB2 := lbits_any b hb
  have HB0 := lbits_any 0 (by omega)
  by_cases hq : bitsOf b = b
  · have HO := of_yes b hb hq
    have HP := rof_yes b hb hq
    generalize bitsOf a0 = c at *
    generalize bitsOf b = d at *
    clear hq
    go_enter Try.func5, Try.ntmps5
    go_wp2_with (first | (go_at_call 11; refine (alive_any _).mono ?_; rintro e w' ⟨rfl, _, rfl⟩) | ((with_reducible refine (HB _).mono ?_); rintro e w' ⟨rfl, rfl⟩) | ((with_reducible refine (HR _).mono ?_); rintro e w' ⟨rfl, rfl⟩) | ((with_reducible refine (HB2 _).mono ?_); rintro e w' ⟨rfl, rfl⟩) | ((with_reducible refine (HO _).mono ?_); rintro e w' ⟨rfl, rfl⟩) | ((with_reducible refine (HP _).mono ?_); rintro e w' ⟨rfl, rfl⟩))
    go_ret
    exact ⟨rfl, grown_drewN _ _⟩
  · have HO := of_no b hb hq
    have HP := rof_no b hb hq
    generalize bitsOf a0 = c at *
    generalize bitsOf b = d at *
    generalize bitsOf 0 = z at *
    clear hq
    go_enter Try.func5, Try.ntmps5
    go_wp2_with (first | (go_at_call 11; refine (alive_any _).mono ?_; rintro e w' ⟨rfl, _, rfl⟩) | ((with_reducible refine (HB _).mono ?_); rintro e w' ⟨rfl, rfl⟩) | ((with_reducible refine (HR _).mono ?_); rintro e w' ⟨rfl, rfl⟩) | ((with_reducible refine (HB0 _).mono ?_); rintro e w' ⟨rfl, rfl⟩) | ((with_reducible refine (HO _).mono ?_); rintro e w' ⟨rfl, rfl⟩) | ((with_reducible refine (HP _).mono ?_); rintro e w' ⟨rfl, rfl⟩))
    go_ret
    exact ⟨rfl, grown_drewN _ _⟩

/-! ### The row's frame -/
theorem own : ownKnob Try.prog.godebug = none := by kernel_rfl
set_option maxRecDepth 100000 in
theorem lifted (os : Os) (started : os.Started) (H : Type) (enc : TypeId × Value → H) :
    ReturnsInHanded {} Try.checked os 5 .any (Rows.levelBitsSpec.pre6 enc Try.prog Try.f5 Rows.levelBitsRow.domain false) (Rows.levelBitsSpec.post enc Try.prog Try.f5 false true false false) := by
  refine returnsInHanded_of_change (C := Try.checked) own started (by kernel_rfl) Try.func5
    (ChangeSpec.witness6 (enc := enc) (C := Try.checked) false ⟨#[], #[.float .f64 0, .int .u64 0], []⟩ 8 (by kernel_rfl) (by kernel_rfl) (by kernel_rfl) (by kernel_rfl)) ?_
  intro W base args ds gs before hval0 hW hcnd _
  have hval : ∀ (j : Nat) t v, Try.f5.params[j]? = some t → args[j]? = some v → Value.okWide Try.prog W .any base t v := hval0
  have hW' := hW
  obtain ⟨p, q, hA0, hV, rfl, hfz, hnd⟩ := hW
  have hA : DataW.TrodAll enc Try.prog W 0 (fun _ => true) true Try.f5.params.toList args.toList ds p := hA0
  rw [Try.params5] at hA hval
  obtain ⟨v0, vs0, d0, ds0, p0, q0, hargs, rfl, rfl, h0, r0⟩ := trodAll_cons hA
  obtain ⟨v1, vs1, d1, ds1, p1, q1, rfl, rfl, rfl, h1, r1⟩ := trodAll_cons r0
  obtain ⟨rfl, rfl, rfl⟩ := trodAll_nil r1
  obtain rfl : args = #[v0, v1] := by cases args; simp_all
  obtain ⟨rfl, rfl⟩ := trodVars_none hV
  obtain ⟨a0, rfl, rfl, rfl, w0⟩ := open_float Try.underlying22 (hval 0 22 v0 rfl rfl) h0
  obtain ⟨a1, rfl, rfl, rfl, w1⟩ := open_int Try.underlying31 (hval 1 31 v1 rfl rfl) h1
  clear hA0 hval0
  simp only [List.append_nil] at hW'
  refine (walk a0 a1 (by simpa [Lit.wf] using w0) w1 W).mono fun e W' ⟨he, hg⟩ => ?_
  subst he
  exact ⟨_, rfl, post_of_same (pa := []) (pv := []) hW' (fun _ _ _ => (trodAll_cons_mk (shut_bool Try.underlying4 _) trodAll_mk0)) (fun sp _ => (trodAll_cons_mk (shut_float Try.underlying22 w0) (trodAll_cons_mk (shut_int Try.underlying31 w1) trodAll_mk0))) (fun _ _ => rfl) rfl
    (hg.frame _) hg.2.1 (ok_one (by kernel_rfl) rfl (okWide_bool_mk Try.underlying4 _))⟩

theorem holds : Rows.levelBitsRow.holds Try.pinned (OpenSpec.ofChange Rows.levelBitsSpec) :=
  OpenClaim.holds_of_wide 5 Try.f5 rfl rfl rfl rfl rfl rfl rfl ⟨rfl, rfl, rfl, rfl, rfl⟩ rfl rfl rfl rfl rfl (by kernel_rfl) Try.func5 (by kernel_rfl)
    (of_decide_eq_true (by kernel_rfl)) (by unfold Func.isWrapper; first | (rw [if_pos (by decide +kernel)]; kernel_rfl) | (rw [if_neg (by decide +kernel)]; exact ⟨rfl, rfl⟩))
    (fun os started H enc _ => lifted os started H enc)
end Go.Proofs.Ytkinbknflkenpaa.levelBits
namespace Go.Proofs.Ytkinbknflkenpaa
/-- The statement. -/
theorem levelBits_holds : Rows.LevelBitsSaid := levelBits.holds
end Go.Proofs.Ytkinbknflkenpaa
