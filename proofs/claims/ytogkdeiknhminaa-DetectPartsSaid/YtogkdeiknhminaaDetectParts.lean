/- Of the program at this commit: the law DetectParts answers true for every trace and every witness (where the witness parts from the trace is as the document says, or the error); no condition. -/
import Derived.Test.YtogkdeiknhminaaRows
import Derived.WalkKit
import Derived.ProofKit
import Derived.Test.YtogkdeiknhminaaDs
import Derived.Test.YtogkdeiknhminaaDe
namespace Go.Proofs.Ytogkdeiknhminaa.detectParts
open Go.ChangeShapes Go.WideShapes Go.ChangeAt Go.RowKit
set_option linter.unusedVariables false

set_option maxRecDepth 100000 in
set_option maxHeartbeats 3200000 in
theorem walk (W : World) (v0 v1 : Value) (h0 : Okv Try.prog W 22 v0) (h1 : Okv Try.prog W 22 v1) :
    Calls Try.prog 3 #[v0, v1] W fun e W' => e = .returned (.bool true) ∧ Below W.heap.size W W' := by
  obtain ⟨A, c, l, rfl, hlc, hc, M, ol⟩ := lights_arg h0
  obtain ⟨B, d, m, rfl, hmd, hd, N, om⟩ := lights_arg h1
  have ol1 : ∀ x ∈ l, x.Ok := fun x hx => (ol x hx).1
  have om1 : ∀ x ∈ m, x.Ok := fun x hx => (om x hx).1
  have hl : l.length ≤ maxLen := Nat.le_trans hlc hc
  have hm : m.length ≤ maxLen := Nat.le_trans hmd hd
  clear h0 h1
  have HAL := Lib.hid (fun w => alive_any w)
  have HP := Lib.hid (few_any W A c l hl ol1 M)
  have HQ : Hid (∀ w', Chg Non W w' → Calls Try.prog 6 #[.slice B m.length d] w' (Zero w' (.bool (fewB m)))) := Lib.hid fun w' k => few_any w' B d m hm om1 (N.chg k)
  have HD : Hid (∀ w', Chg Non W w' → Calls Try.prog 8 #[.slice A l.length c, .slice B m.length d] w' (Two w' (dv l m))) := Lib.hid fun w' k => Diverge_any w' A B c d l m hlc hc hm ol1 om1 (M.chg k) (N.chg k)
  have HR : Hid (∀ w', Chg Non W w' → Calls Try.prog 9 #[.slice A l.length c, .slice B m.length d] w' (Two w' (dv l m))) := Lib.hid fun w' k => rDiverge_any w' A B c d l m hl hm ol1 om1 (M.chg k) (N.chg k)
  have HEND : Hid (∀ w', Chg Non W w' → Below W.heap.size W w') := Lib.hid fun w' k => k.below (Nat.le_refl _) (fun _ f => f.elim)
  clear M N ol om ol1 om1 hl hm hlc hmd hc hd
  generalize fewB l = p at *
  generalize fewB m = q at *
  obtain ⟨⟨a, b⟩, hv⟩ : ∃ v, dv l m = v := ⟨_, rfl⟩
  rw [hv] at HD HR
  unfold Two at HD HR
  clear hv
  generalize l.length = n at *
  generalize m.length = k at *
  go_enter Try.func3, Try.ntmps3
  go_wp2_with fail
  refine HP.out.mono ?_
  rintro e w1 ⟨rfl, k1⟩
  go_wp2_with fail
  refine (HQ.out w1 k1).mono ?_
  rintro e w2 ⟨rfl, k2⟩
  have K2 := Lib.hid (k1.trans k2 (fun _ f => f.elim))
  clear k1 k2
  cases p with
  | false =>
    go_wp2_with fail
    refine (HAL.out w2).mono ?_
    rintro e w3 ⟨rfl, k3⟩
    go_wp2_with fail
    go_ret
    exact ⟨rfl, HEND.out _ (K2.out.trans k3 (fun _ f => f.elim))⟩
  | true =>
    cases q with
    | false =>
      go_wp2_with fail
      refine (HAL.out w2).mono ?_
      rintro e w3 ⟨rfl, k3⟩
      go_wp2_with fail
      go_ret
      exact ⟨rfl, HEND.out _ (K2.out.trans k3 (fun _ f => f.elim))⟩
    | true =>
      go_wp2_with fail
      refine (HD.out w2 K2.out).mono ?_
      rintro e w3 ⟨rfl, k3⟩
      have K3 := Lib.hid (K2.out.trans k3 (fun _ f => f.elim))
      clear k3
      go_wp2_with fail
      refine (HR.out w3 K3.out).mono ?_
      rintro e w4 ⟨rfl, k4⟩
      have K4 := Lib.hid (K3.out.trans k4 (fun _ f => f.elim))
      clear k4
      go_wp2_with fail
      refine (HAL.out w4).mono ?_
      rintro e w5 ⟨rfl, k5⟩
      go_wp2_with fail
      go_ret
      exact ⟨by first | rfl | simp, HEND.out _ (K4.out.trans k5 (fun _ f => f.elim))⟩

/-! ### The row's frame -/
theorem own : ownKnob Try.prog.godebug = none := by kernel_rfl
theorem walkA (W : World) (args : Array Value) (hsz : args.size = Try.f3.params.size) (hok : ∀ (j : Nat) (t : TypeId) (v : Value), Try.f3.params[j]? = some t → args[j]? = some v → Okv Try.prog W t v) :
    Calls Try.prog 3 args W fun e W' => e = .returned (.bool true) ∧ Below W.heap.size W W' := by
  rw [Try.params3] at hsz hok
  obtain ⟨v0, v1, rfl⟩ : ∃ v0 v1 : Value, args = #[v0, v1] := by
    obtain ⟨l⟩ := args
    match l, hsz with
    | [v0, v1], _ => exact ⟨v0, v1, rfl⟩
  exact walk W v0 v1 (hok 0 22 v0 rfl rfl) (hok 1 22 v1 rfl rfl)
set_option maxRecDepth 100000 in
theorem lifted (os : Os) (started : os.Started) (H : Type) (enc : TypeId × Value → H) :
    ReturnsInHanded {} Try.checked os 3 .any (Rows.detectPartsSpec.pre6 enc Try.prog Try.f3 Rows.detectPartsRow.domain false) (Rows.detectPartsSpec.post enc Try.prog Try.f3 false true false false) :=
  lifted_of_walk (C := Try.checked) (s := Rows.detectPartsSpec) (conds := Rows.detectPartsRow.domain) (apart := false) (fresh := true) (T := 4) own started (by kernel_rfl) Try.func3
    (ChangeSpec.witness6 (enc := enc) (C := Try.checked) false ⟨#[], #[.slice none 0 0, .slice none 0 0], []⟩ 8 (by kernel_rfl) (by kernel_rfl) (by kernel_rfl) (by kernel_rfl))
    rfl (fun ds hd => by
      rw [Try.params3] at hd
      match ds, hd with
      | [d0, d1], _ => exact ⟨rfl, rfl, rfl⟩)
    (by kernel_rfl) Try.underlying4 (by kernel_rfl) (by rw [Try.params3]; intro t ht; simp only [List.mem_cons, List.not_mem_nil, or_false] at ht; rcases ht with rfl | rfl <;> exact ⟨by kernel_rfl, of_decide_eq_true (by kernel_rfl)⟩) walkA

theorem holds : Rows.detectPartsRow.holds Try.pinned (OpenSpec.ofChange Rows.detectPartsSpec) :=
  OpenClaim.holds_of_wide 3 Try.f3 rfl rfl rfl rfl rfl rfl rfl ⟨rfl, rfl, rfl, rfl, rfl⟩ rfl rfl rfl rfl rfl (by kernel_rfl) Try.func3 (by kernel_rfl)
    (of_decide_eq_true (by kernel_rfl)) (by unfold Func.isWrapper; first | (rw [if_pos (by decide +kernel)]; kernel_rfl) | (rw [if_neg (by decide +kernel)]; exact ⟨rfl, rfl⟩))
    (fun os started H enc _ => lifted os started H enc)
end Go.Proofs.Ytogkdeiknhminaa.detectParts
namespace Go.Proofs.Ytogkdeiknhminaa
/-- The statement. -/
theorem detectParts_holds : Rows.DetectPartsSaid := detectParts.holds
end Go.Proofs.Ytogkdeiknhminaa
