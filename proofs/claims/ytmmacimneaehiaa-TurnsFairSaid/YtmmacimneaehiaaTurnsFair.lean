/- Of the program at this commit: the law TurnsFair answers true for every set (in as many turns as a set has power each validator proposes just as often as it has power, and then it goes on as at first); no condition. -/
import Derived.Test.YtmmacimneaehiaaRows
import Derived.WalkKit
import Derived.ProofKit
import Derived.Test.YtmmacimneaehiaaTa
import Derived.Deep.QuietTactic
import Derived.BigQuiet
import Derived.Deep.RegionWith
namespace Go.Proofs.Ytmmacimneaehiaa.turnsFair
open Go.ChangeShapes Go.WideShapes Go.ChangeAt Go.RowKit
set_option linter.unusedVariables false

set_option maxRecDepth 100000 in
set_option maxHeartbeats 3200000 in
theorem walk (W : World) (v0 : Value) (h0 : Okv Try.prog W 22 v0) :
    Calls Try.prog 3 #[v0] W fun e W' => e = .returned (.bool true) ∧ Below W.heap.size W W' := by
  obtain ⟨A, c, l, rfl, hl, M, ol⟩ := set_arg h0
  clear h0
  have HAL := Lib.hid (fun w => alive_any w)
  have DONE : ∀ w', Chg Non W w' → Below W.heap.size W w' := fun w' k => k.below (Nat.le_refl _) (fun _ f => f.elim)
  have HD := Lib.hid DONE
  clear DONE
  by_cases hr : ¬ Rt l
  · have HT := Lib.hid (Total_no W A c l hl ol M hr)
    clear M ol hr
    generalize l.length = n1 at *
    go_enter Try.func3, Try.ntmps3
    go_wp2_with (first | (go_at_call 4; with_reducible refine HT.out.mono ?_; rintro e w1 ⟨k1, rfl⟩) | (go_at_call 5; with_reducible refine (HAL.out _).mono ?_; rintro e w2 ⟨k2, rfl⟩))
    go_ret
    exact ⟨rfl, HD.out _ (k1.trans k2 (fun _ f => f.elim))⟩
  replace hr := Classical.not_not.1 hr
  have hT0 := Total_yes W A c l hl ol M hr
  obtain ⟨T, hT⟩ : ∃ T : Nat, (T : Int) = sumP l := ⟨(sumP l).toNat, by have := (sm_of_rt hr).1; omega⟩
  have hT1 : 1 ≤ T := by have := (sm_of_rt hr).1; omega
  rw [← hT] at hT0
  have HT := Lib.hid hT0
  clear hT0
  by_cases g1 : 250 < (T : Int)
  · clear M ol hr hT
    generalize l.length = n1 at *
    go_enter Try.func3, Try.ntmps3
    go_wp2_with (first | (go_at_call 4; with_reducible refine HT.out.mono ?_; rintro e w1 ⟨k1, rfl⟩) | (go_at_call 5; with_reducible refine (HAL.out _).mono ?_; rintro e w2 ⟨k2, rfl⟩))
    go_ret
    exact ⟨rfl, HD.out _ (k1.trans k2 (fun _ f => f.elim))⟩
  obtain ⟨N, hN⟩ : ∃ N, T + T = N := ⟨_, rfl⟩
  have hNi : (N : Int) = 2 * (T : Int) := by omega
  have HO : ∀ w', Chg Non W w' → Calls Try.prog 6 #[.slice A l.length c, .int .i64 (2 * (T : Int))] w' fun e w'' => Chg Non w' w'' ∧ ∃ v, e = .returned (.tuple #[v, .int .i64 0]) ∧ OwnK w'.heap.size w'' v (ords l N) := fun w' k => by
    have h := Order_yes w' A c l hl ol (M.chg k) hr N (by omega)
    rw [hNi] at h
    exact h
  have HOo := Lib.hid HO
  have HM := Lib.hid M
  have HR := Lib.hid hr
  have hAg := ords_again hr hT
  rw [hN] at hAg
  have HAg := Lib.hid hAg
  have hTi := fun i x (hx : l[i]? = some x) => (state_round hr hT).2 i x hx
  have HTi := Lib.hid hTi
  have hn2 := hr.2.1
  clear M ol hl HO hr hAg hTi hT
  generalize hn : l.length = n1 at *
  have HN := Lib.hid hn
  clear hn
  go_enter Try.func3, Try.ntmps3
  go_wp2_with (first | (go_at_call 4; with_reducible refine HT.out.mono ?_; rintro e w1 ⟨k1, rfl⟩))
  refine (HOo.out _ k1).mono ?_
  rintro e w2 ⟨k2, v, rfl, hv⟩
  have q2 := Lib.hid (k1.trans k2 (fun _ f => f.elim))
  obtain ⟨B, d, rfl, hd1, hd2, L⟩ := hv.slice
  rw [ords_len] at hd1 ⊢
  have HL := Lib.hid L
  clear hv L k1 k2
  go_wp2_with fail
  go_loopw [7] (fun i wr => ∃ k : Nat, k ≤ n1 ∧ i = .int .i64 (k : Int) ∧ Chg Non w2 wr) (fun i _ => n1 - (intOf i).toNat)
  case atStart => exact ⟨0, by omega, rfl, Chg.refl _ _⟩
  case round =>
    obtain ⟨k, hk, rfl, hC⟩ := hrel
    obtain ⟨wo, rfl⟩ : ∃ wo, wo = wr := ⟨_, rfl⟩
    by_cases hlt : k < n1
    · have hki : (k : Int) < (n1 : Int) := by omega
      obtain ⟨x, hx⟩ : ∃ x, l[k]? = some x := ⟨_, List.getElem?_eq_getElem (by rw [HN.out]; exact hlt)⟩
      have hpow := HTi.out k x hx
      have hht := hits_times HR.out hx (n := N) T (by omega)
      rw [← hht] at hpow
      have HPow := Lib.hid hpow
      have HX := Lib.hid hx
      clear hpow hht hx
      go_wp2_with fail
      go_loopw [8, 9] (fun s i wr => ∃ q : Nat, q ≤ T ∧ i = .int .i64 (q : Int) ∧ s = .int .i64 (hits x.key (ords l N) q : Int) ∧ hits x.key (ords l N) q ≤ q ∧ Chg Non wo wr) (fun _ i _ => T - (intOf i).toNat)
      case atStart => exact ⟨0, by omega, rfl, rfl, Nat.le_refl _, Chg.refl _ _⟩
      case round =>
        obtain ⟨q, hq, rfl, rfl, hqh, hCq⟩ := hrel
        have kr := Lib.hid ((q2.out.trans hC (fun _ f => f.elim)).trans hCq (fun _ f => f.elim))
        have zr := Lib.hid (hC.trans hCq (fun _ f => f.elim))
        obtain ⟨a, ao, rfl, _, r2⟩ := (HM.out.chg kr.out) _ _ HX.out
        obtain ⟨p0, p1⟩ := rangeAt_cons r2
        obtain ⟨p1, _⟩ := rangeAt_cons p1
        by_cases hlq : q < T
        · have hqi : (q : Int) < (T : Int) := by omega
          have hqN : (q : Int) < (N : Int) := by omega
          have hg := ords_get (l := l) (show q < N by omega)
          obtain ⟨b, bo, rfl, _, r1⟩ := (HL.out.chg zr.out) _ _ hg
          obtain ⟨q0, _⟩ := rangeAt_cons r1
          rw [Nat.mul_one] at q0
          generalize keyAt l (who l (sumP l) q) = ky at *
          by_cases hky : ky = x.key
          · have hkx : (ky : Int) = (x.key : Int) := by omega
            have hnx : hits x.key (ords l N) (q + 1) = hits x.key (ords l N) q + 1 := by rw [hits, hg, if_pos (by rw [hky])]
            have HNx := Lib.hid hnx
            generalize hits x.key (ords l N) q = hh at *
            clear hg r1 r2 hnx
            go_wp2_with fail
            go_quiet (fail)
            go_wp2_with fail
            go_roundw
            case rel => exact ⟨q + 1, by omega, by go_num, by rw [HNx.out]; go_num, by rw [HNx.out]; omega, hCq.drewN _⟩
            case measure => simp [intOf]; omega
          · have hkx : ¬ (ky : Int) = (x.key : Int) := by omega
            have hnx : hits x.key (ords l N) (q + 1) = hits x.key (ords l N) q := by rw [hits, hg, if_neg (fun e => hky (by injection e)), Nat.add_zero]
            have HNx := Lib.hid hnx
            generalize hits x.key (ords l N) q = hh at *
            clear hg r1 r2 hnx
            go_wp2_with fail
            go_quiet (fail)
            go_wp2_with fail
            go_roundw
            case rel => exact ⟨q + 1, by omega, by go_num, by rw [HNx.out], by rw [HNx.out]; omega, hCq.drewN _⟩
            case measure => simp [intOf]; omega
        · obtain rfl : q = T := by omega
          have hpw := HPow.out
          generalize hits x.key (ords l N) q = hh at *
          clear r2
          go_wp2_with fail
          go_roundw
          case rel => exact ⟨k + 1, by omega, by go_num, zr.out⟩
          case measure => simp [intOf]; omega
    · obtain rfl : k = n1 := by omega
      have qr := Lib.hid (q2.out.trans hC (fun _ f => f.elim))
      have LC := HL.out.chg hC
      obtain ⟨b, bo, rfl, _, _⟩ := LC 0 _ (ords_get (show 0 < N by omega))
      have HSm : ∀ w' c' c'', Chg Non wo w' → Calls Try.prog 7 #[.slice (some ⟨b, bo, none⟩) T c', .slice (some ⟨b, bo + T, none⟩) (N - T) c''] w' fun e w'' => Chg Non w' w'' ∧ e = .returned (.bool true) := fun w' c' c'' kk => by
        have h := same_any w' (some ⟨b, bo, none⟩) (some ⟨b, bo + T, none⟩) c' c'' ((ords l N).take T) ((ords l N).drop T) (by rw [ords_take (by omega), ords_len]; unfold maxLen; omega) (by rw [HAg.out, ords_len]; unfold maxLen; omega) (lstM_take (LC.chg kk) T) (lstM_drop (LC.chg kk) T)
        rw [ords_take (by omega), HAg.out, ords_len] at h
        rw [show N - T = T by omega]
        simpa using h
      have HSM := Lib.hid HSm
      have hTd : T ≤ d := by omega
      have hTN : T ≤ N := by omega
      have hTNi : (T : Int) ≤ (N : Int) := by omega
      have hTdi : (T : Int) ≤ (d : Int) := by omega
      have hNd : (N : Int) ≤ (d : Int) := by omega
      clear HSm LC
      go_wp2_with fail
      go_region_with (first | (go_at_call 5; refine (HAL.out _).mono ?_; rintro e w5 ⟨k5, rfl⟩) | (go_at_call 7; refine (HSM.out _ _ _ (by first | exact k5 | exact k5.drew | exact k5.drewN _ | exact (((Chg.refl Non _).drew).trans k5 (fun _ f => f.elim)) | exact (((Chg.refl Non _).drewN _).trans k5 (fun _ f => f.elim)))).mono ?_; rintro e w6 ⟨k6, rfl⟩) | fail)
      all_goals go_wp2_with fail
      all_goals go_ret
      all_goals exact ⟨rfl, HD.out _ (((qr.out.drew).trans k5 (fun _ f => f.elim)).trans k6 (fun _ f => f.elim))⟩

/-! ### The row's frame -/
theorem own : ownKnob Try.prog.godebug = none := by kernel_rfl
theorem walkA (W : World) (args : Array Value) (hsz : args.size = Try.f3.params.size) (hok : ∀ (j : Nat) (t : TypeId) (v : Value), Try.f3.params[j]? = some t → args[j]? = some v → Okv Try.prog W t v) :
    Calls Try.prog 3 args W fun e W' => e = .returned (.bool true) ∧ Below W.heap.size W W' := by
  rw [Try.params3] at hsz hok
  obtain ⟨v0, rfl⟩ : ∃ v0 : Value, args = #[v0] := by
    obtain ⟨l⟩ := args
    match l, hsz with
    | [v0], _ => exact ⟨v0, rfl⟩
  exact walk W v0 (hok 0 22 v0 rfl rfl)
set_option maxRecDepth 100000 in
theorem lifted (os : Os) (started : os.Started) (H : Type) (enc : TypeId × Value → H) :
    ReturnsInHanded {} Try.checked os 3 .any (Rows.turnsFairSpec.pre6 enc Try.prog Try.f3 Rows.turnsFairRow.domain false) (Rows.turnsFairSpec.post enc Try.prog Try.f3 false true false false) :=
  lifted_of_walk (C := Try.checked) (s := Rows.turnsFairSpec) (conds := Rows.turnsFairRow.domain) (apart := false) (fresh := true) (T := 4) own started (by kernel_rfl) Try.func3
    (ChangeSpec.witness6 (enc := enc) (C := Try.checked) false ⟨#[], #[.slice none 0 0], []⟩ 8 (by kernel_rfl) (by kernel_rfl) (by kernel_rfl) (by kernel_rfl))
    rfl (fun ds hd => by
      rw [Try.params3] at hd
      match ds, hd with
      | [d0], _ => exact ⟨rfl, rfl, rfl⟩)
    (by kernel_rfl) Try.underlying4 (by kernel_rfl) (by rw [Try.params3]; intro t ht; simp only [List.mem_cons, List.not_mem_nil, or_false] at ht; subst ht; exact ⟨by kernel_rfl, of_decide_eq_true (by kernel_rfl)⟩) walkA

theorem holds : Rows.turnsFairRow.holds Try.pinned (OpenSpec.ofChange Rows.turnsFairSpec) :=
  OpenClaim.holds_of_wide 3 Try.f3 rfl rfl rfl rfl rfl rfl rfl ⟨rfl, rfl, rfl, rfl, rfl⟩ rfl rfl rfl rfl rfl (by kernel_rfl) Try.func3 (by kernel_rfl)
    (of_decide_eq_true (by kernel_rfl)) (by unfold Func.isWrapper; first | (rw [if_pos (by decide +kernel)]; kernel_rfl) | (rw [if_neg (by decide +kernel)]; exact ⟨rfl, rfl⟩))
    (fun os started H enc _ => lifted os started H enc)
end Go.Proofs.Ytmmacimneaehiaa.turnsFair
namespace Go.Proofs.Ytmmacimneaehiaa
/-- The statement. -/
theorem turnsFair_holds : Rows.TurnsFairSaid := turnsFair.holds
end Go.Proofs.Ytmmacimneaehiaa
