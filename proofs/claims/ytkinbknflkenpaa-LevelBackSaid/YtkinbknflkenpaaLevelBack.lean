/- Of the program at this commit: the law LevelBack answers true for every number and every 64 bits, whatever they are (there and back: a number's bits are those of that number); no condition. -/
import Derived.Test.YtkinbknflkenpaaRows
import Derived.WalkKit
import Derived.ProofKit
import Derived.OpenShut
import Derived.WideKeyPair
import Derived.Test.YtkinbknflkenpaaLv
namespace Go.Proofs.Ytkinbknflkenpaa.levelBack
open Go.ChangeShapes Go.WideShapes Go.ChangeAt Go.RowKit Fl
set_option linter.unusedVariables false

theorem walk (a0 : Nat) (a1 : Int) (w0 : a0 < 18446744073709551616) (w1 : (Lit.int .u64 a1).wf = true) (w : World) :
    Calls Try.prog 7 #[.float .f64 a0, .int .u64 a1] w fun e w' => e = .returned (.bool true) ∧ Grown w w' := by
  obtain ⟨b, rfl, hb⟩ := u64_of_wf w1
  have HO1 := of_yes (bitsOf a0) (bitsOf_lt w0) (bitsOf_bitsOf a0)
  have HR := order_any (bitsOf a0) a0 (bitsOf_lt w0) w0
  rw [ordI_bitsOf, ordI_self] at HR
  have HB := lbits_any a0 w0
  have HB2 := lbits_any b hb
  by_cases hq : bitsOf b = b
  · have HO2 := of_yes b hb hq
    rw [hq] at HB2
    clear hq
    generalize bitsOf a0 = c at *
    go_enter Try.func7, Try.ntmps7
    go_wp2_with (first | (go_at_call 11; refine (alive_any _).mono ?_; rintro e w' ⟨rfl, n, rfl⟩) | (with_reducible refine (HB _).mono ?_; rintro e w' ⟨rfl, rfl⟩) | (with_reducible refine (HB2 _).mono ?_; rintro e w' ⟨rfl, rfl⟩) | (with_reducible refine (HO1 _).mono ?_; rintro e w' ⟨rfl, rfl⟩) | (with_reducible refine (HO2 _).mono ?_; rintro e w' ⟨rfl, rfl⟩) | (with_reducible refine (HR _).mono ?_; rintro e w' ⟨rfl, rfl⟩))
    go_ret
    exact ⟨rfl, grown_drewN _ _⟩
  · have HO2 := of_no b hb hq
    clear hq
    generalize bitsOf a0 = c at *
    go_enter Try.func7, Try.ntmps7
    go_wp2_with (first | (go_at_call 11; refine (alive_any _).mono ?_; rintro e w' ⟨rfl, n, rfl⟩) | (with_reducible refine (HB _).mono ?_; rintro e w' ⟨rfl, rfl⟩) | (with_reducible refine (HO1 _).mono ?_; rintro e w' ⟨rfl, rfl⟩) | (with_reducible refine (HO2 _).mono ?_; rintro e w' ⟨rfl, rfl⟩) | (with_reducible refine (HR _).mono ?_; rintro e w' ⟨rfl, rfl⟩))
    go_ret
    exact ⟨rfl, grown_drewN _ _⟩

/-! ### The row's frame -/
theorem own : ownKnob Try.prog.godebug = none := by kernel_rfl
set_option maxRecDepth 100000 in
theorem lifted (os : Os) (started : os.Started) (H : Type) (enc : TypeId × Value → H) :
    ReturnsInHanded {} Try.checked os 7 .any (Rows.levelBackSpec.pre6 enc Try.prog Try.f7 Rows.levelBackRow.domain false) (Rows.levelBackSpec.post enc Try.prog Try.f7 false true false false) := by
  refine returnsInHanded_of_change (C := Try.checked) own started (by kernel_rfl) Try.func7
    (ChangeSpec.witness6 (enc := enc) (C := Try.checked) false ⟨#[], #[.float .f64 0, .int .u64 0], []⟩ 8 (by kernel_rfl) (by kernel_rfl) (by kernel_rfl) (by kernel_rfl)) ?_
  intro W base args ds gs before hval0 hW hcnd _
  have hval : ∀ (j : Nat) t v, Try.f7.params[j]? = some t → args[j]? = some v → Value.okWide Try.prog W .any base t v := hval0
  have hW' := hW
  obtain ⟨p, q, hA0, hV, rfl, hfz, hnd⟩ := hW
  have hA : DataW.TrodAll enc Try.prog W 0 (fun _ => true) true Try.f7.params.toList args.toList ds p := hA0
  rw [Try.params7] at hA hval
  obtain ⟨v0, vs0, d0, ds0, p0, q0, hargs, rfl, rfl, h0, r0⟩ := trodAll_cons hA
  obtain ⟨v1, vs1, d1, ds1, p1, q1, rfl, rfl, rfl, h1, r1⟩ := trodAll_cons r0
  obtain ⟨rfl, rfl, rfl⟩ := trodAll_nil r1
  obtain rfl : args = #[v0, v1] := by cases args; simp_all
  obtain ⟨rfl, rfl⟩ := trodVars_none hV
  obtain ⟨a0, rfl, rfl, rfl, w0⟩ := open_float Try.underlying22 (hval 0 22 v0 rfl rfl) h0
  obtain ⟨a1, rfl, rfl, rfl, w1⟩ := open_int Try.underlying31 (hval 1 31 v1 rfl rfl) h1
  clear hA0 hval0
  simp only [List.append_nil] at hW'
  refine (walk a0 a1 (by simpa [Lit.wf] using w0) w1 W).mono fun e W' ⟨he, hg⟩ => ?_
  subst he
  exact ⟨_, rfl, post_of_same (pa := []) (pv := []) hW' (fun _ _ _ => (trodAll_cons_mk (shut_bool Try.underlying4 _) trodAll_mk0)) (fun sp _ => (trodAll_cons_mk (shut_float Try.underlying22 w0) (trodAll_cons_mk (shut_int Try.underlying31 w1) trodAll_mk0))) (fun _ _ => rfl) rfl
    (hg.frame _) hg.2.1 (ok_one (by kernel_rfl) rfl (okWide_bool_mk Try.underlying4 _))⟩

theorem holds : Rows.levelBackRow.holds Try.pinned (OpenSpec.ofChange Rows.levelBackSpec) :=
  OpenClaim.holds_of_wide 7 Try.f7 rfl rfl rfl rfl rfl rfl rfl ⟨rfl, rfl, rfl, rfl, rfl⟩ rfl rfl rfl rfl rfl (by kernel_rfl) Try.func7 (by kernel_rfl)
    (of_decide_eq_true (by kernel_rfl)) (by unfold Func.isWrapper; first | (rw [if_pos (by decide +kernel)]; kernel_rfl) | (rw [if_neg (by decide +kernel)]; exact ⟨rfl, rfl⟩))
    (fun os started H enc _ => lifted os started H enc)
end Go.Proofs.Ytkinbknflkenpaa.levelBack
namespace Go.Proofs.Ytkinbknflkenpaa
/-- The statement. -/
theorem levelBack_holds : Rows.LevelBackSaid := levelBack.holds
end Go.Proofs.Ytkinbknflkenpaa
