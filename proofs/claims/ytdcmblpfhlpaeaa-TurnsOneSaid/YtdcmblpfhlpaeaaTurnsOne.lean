/- Of the program at this commit: the law TurnsOne answers true for every set, every number of turns and every turn (who proposes is one of the set, and the same that the order tells; fewer turns are the beginning of more); no condition. -/
import Derived.Test.YtdcmblpfhlpaeaaRows
import Derived.WalkKit
import Derived.ProofKit
import Derived.Test.YtdcmblpfhlpaeaaTa
namespace Go.Proofs.Ytdcmblpfhlpaeaa.turnsOne
open Go.ChangeShapes Go.WideShapes Go.ChangeAt Go.RowKit
set_option linter.unusedVariables false

theorem pw_who {l : List Va} (h : Rt l) (t : Nat) : 1 ≤ pw l (keyAt l (who l (sumP l) t)) := by
  obtain ⟨x, hx⟩ : ∃ x, l[who l (sumP l) t]? = some x := ⟨_, List.getElem?_eq_getElem (who_lt h.1 _ _)⟩
  rw [keyAt_get hx, pw_mem h.2.2.1 (List.mem_of_getElem? hx)]
  exact h.2.2.2.1 x (List.mem_of_getElem? hx)

set_option maxRecDepth 100000 in
set_option maxHeartbeats 3200000 in
theorem walk (W : World) (v0 v1 v2 : Value) (h0 : Okv Try.prog W 22 v0) (h1 : Okv Try.prog W 3 v1) (h2 : Okv Try.prog W 3 v2) :
    Calls Try.prog 3 #[v0, v1, v2] W fun e W' => e = .returned (.bool true) ∧ Below W.heap.size W W' := by
  obtain ⟨A, c, l, rfl, hl, M, ol⟩ := set_arg h0
  obtain ⟨n, rfl, hn⟩ := int_arg h1
  obtain ⟨t, rfl, ht⟩ := int_arg h2
  clear h0 h1 h2
  have HAL := Lib.hid (fun w => alive_any w)
  have DONE : ∀ w', Chg Non W w' → Below W.heap.size W w' := fun w' k => k.below (Nat.le_refl _) (fun _ f => f.elim)
  have HD := Lib.hid DONE
  clear DONE
  by_cases b70 : 70 < l.length
  · have b1' : (70 : Int) < (l.length : Int) := by omega
    clear M ol
    generalize l.length = n1 at *
    go_enter Try.func3, Try.ntmps3
    go_wp2_with (go_at_call 5; with_reducible refine (HAL.out _).mono ?_; rintro e w2 ⟨k2, rfl⟩)
    go_ret
    exact ⟨rfl, HD.out _ k2⟩
  have b70' : ¬ (70 : Int) < (l.length : Int) := by omega
  by_cases g1 : 500 < n
  · clear M ol
    generalize l.length = n1 at *
    go_enter Try.func3, Try.ntmps3
    go_wp2_with (go_at_call 5; with_reducible refine (HAL.out _).mono ?_; rintro e w2 ⟨k2, rfl⟩)
    go_ret
    exact ⟨rfl, HD.out _ k2⟩
  by_cases hr : ¬ Rt l
  · have HRi := Lib.hid (Right_no W A c l hl ol M hr)
    clear M ol hr
    generalize l.length = n1 at *
    go_enter Try.func3, Try.ntmps3
    go_wp2_with (first | (go_at_call 4; with_reducible refine HRi.out.mono ?_; rintro e w1 ⟨k1, rfl⟩) | (go_at_call 5; with_reducible refine (HAL.out _).mono ?_; rintro e w2 ⟨k2, rfl⟩))
    go_ret
    exact ⟨rfl, HD.out _ (k1.trans k2 (fun _ f => f.elim))⟩
  replace hr := Classical.not_not.1 hr
  have HRi := Lib.hid (Right_yes W A c l hl ol M hr)
  by_cases g2 : n < 0
  · clear M ol hr
    generalize l.length = n1 at *
    go_enter Try.func3, Try.ntmps3
    go_wp2_with (first | (go_at_call 4; with_reducible refine HRi.out.mono ?_; rintro e w1 ⟨k1, rfl⟩) | (go_at_call 5; with_reducible refine (HAL.out _).mono ?_; rintro e w2 ⟨k2, rfl⟩))
    go_ret
    exact ⟨rfl, HD.out _ (k1.trans k2 (fun _ f => f.elim))⟩
  obtain ⟨m, rfl⟩ : ∃ m : Nat, n = (m : Int) := ⟨n.toNat, by omega⟩
  have HO : Hid (∀ w', Chg Non W w' → ∀ q : Nat, q ≤ 4096 → _) := Lib.hid fun w' k q hq => Order_yes w' A c l hl ol (M.chg k) hr q hq
  have HP : Hid (∀ w', Chg Non W w' → ∀ q : Nat, q < 4096 → _) := Lib.hid fun w' k q hq => Proposer_yes w' A c l hl ol (M.chg k) hr q hq
  have HW : Hid (∀ w', Chg Non W w' → ∀ q : Nat, ∃ p : Int, 1 ≤ p ∧ Calls Try.prog 7 #[.slice A l.length c, .int .u64 (keyAt l (who l (sumP l) q) : Int)] w' (Zero w' (.int .i64 p))) :=
    Lib.hid fun w' k q => ⟨_, pw_who hr q, Power_any w' A c (keyAt l (who l (sumP l) q)) l hl (M.chg k)⟩
  clear M ol hl
  generalize l.length = n1 at *
  go_enter Try.func3, Try.ntmps3
  go_wp2_with (go_at_call 4; with_reducible refine HRi.out.mono ?_; rintro e w1 ⟨k1, rfl⟩)
  refine (HO.out _ k1 m (by omega)).mono ?_
  rintro e w2 ⟨k2, v, rfl, hv⟩
  have q2 := k1.trans k2 (fun _ f => f.elim)
  obtain ⟨B, d, rfl, hd1, hd2, L⟩ := hv.slice
  rw [ords_len] at hd1 ⊢
  have HL := Lib.hid L
  clear hv L k1 k2
  go_wp2_with fail
  go_loopw [9] (fun i wr => ∃ k : Nat, k ≤ m ∧ i = .int .i64 (k : Int) ∧ Chg Non w2 wr) (fun i _ => m - (intOf i).toNat)
  case atStart => exact ⟨0, by omega, rfl, Chg.refl _ _⟩
  case round =>
    obtain ⟨k, hk, rfl, hC⟩ := hrel
    have qr := Lib.hid (q2.trans hC (fun _ f => f.elim))
    by_cases hlt : k < m
    · have hki : (k : Int) < (m : Int) := by omega
      obtain ⟨b, bo, rfl, _, r1⟩ := (HL.out.chg hC) _ _ (ords_get hlt)
      obtain ⟨p0, _⟩ := rangeAt_cons r1
      rw [Nat.mul_one] at p0
      obtain ⟨p, hp, hcall⟩ := HW.out wr qr.out k
      have HCa := Lib.hid hcall
      generalize keyAt l (who l (sumP l) k) = ky at *
      clear r1 hcall
      go_wp2_with (go_at_call 7; refine HCa.out.mono ?_; rintro e w3 ⟨rfl, k3⟩)
      go_roundw
      case rel => exact ⟨k + 1, by omega, by go_num, hC.trans k3 (fun _ f => f.elim)⟩
      case measure => simp [intOf]; omega
    · obtain rfl : k = m := by omega
      by_cases hm0 : k = 0
      · subst hm0
        go_wp2_with (go_at_call 5; with_reducible refine (HAL.out _).mono ?_; rintro e w3 ⟨k3, rfl⟩)
        go_ret
        exact ⟨rfl, HD.out _ (qr.out.trans k3 (fun _ f => f.elim))⟩
      have hkp : (0 : Int) < (k : Int) := by omega
      have hk0 : ¬ (k : Int) = 0 := by omega
      by_cases ht0 : t < 0
      · go_wp2_with fail
        obtain ⟨s, hs, hsk⟩ : ∃ s : Nat, -(t + 1).tmod (k : Int) = (s : Int) ∧ s < k := by
          have e : -(t + 1).tmod (k : Int) = (-(t + 1)) % (k : Int) := by rw [← Int.neg_tmod, Int.tmod_eq_emod_of_nonneg (by omega)]
          have h1 := Int.emod_nonneg (-(t + 1)) hk0
          have h2 := Int.emod_lt_of_pos (-(t + 1)) hkp
          exact ⟨((-(t + 1)) % (k : Int)).toNat, by rw [e]; omega, by omega⟩
        rw [hs]
        refine (HP.out wr qr.out s (by omega)).mono ?_
        rintro e w3 ⟨k3, rfl⟩
        have q3 := Lib.hid (qr.out.trans k3 (fun _ f => f.elim))
        have z3 := Lib.hid (hC.trans k3 (fun _ f => f.elim))
        go_wp2_with fail
        refine (HO.out w3 q3.out s (by omega)).mono ?_
        rintro e w4 ⟨k4, v4, rfl, hv4⟩
        obtain ⟨B4, d4, rfl, hd4, hd5, L4⟩ := hv4.slice
        rw [ords_len]
        have q4 := Lib.hid (q3.out.trans k4 (fun _ f => f.elim))
        have z4 := Lib.hid (z3.out.trans k4 (fun _ f => f.elim))
        have HL4 := Lib.hid L4
        clear L4 hv4 hd4 hd5 k3 k4
        go_wp2_with fail
        refine (HAL.out _).mono ?_
        rintro e w5 ⟨k5, rfl⟩
        have q5 := Lib.hid (q4.out.trans k5 (fun _ f => f.elim))
        have L5 := HL.out.chg (z4.out.trans k5 (fun _ f => f.elim))
        obtain ⟨b, bo, rfl, _, r1⟩ := L5 _ _ (ords_get hsk)
        obtain ⟨p0, _⟩ := rangeAt_cons r1
        rw [Nat.mul_one] at p0
        have hsd : s ≤ d := by omega
        have hsi : (s : Int) < (k : Int) := by omega
        have HSm : ∀ c', Calls Try.prog 9 #[.slice B4 s d4, .slice (some ⟨b, bo, none⟩) s c'] w5 fun e w' => Chg Non w5 w' ∧ e = .returned (.bool true) := fun c' => by
          have h := same_any w5 B4 (some ⟨b, bo, none⟩) d4 c' (ords l s) ((ords l k).take s) (by rw [ords_len]; unfold maxLen; omega) (by rw [ords_take (by omega), ords_len]; unfold maxLen; omega) (HL4.out.chg k5) (lstM_take L5 s)
          rw [ords_take (by omega), ords_len] at h
          simpa using h
        have HSM := Lib.hid HSm
        generalize keyAt l (who l (sumP l) s) = ky at *
        clear r1 L5 HSm HW HP HO HL4
        go_wp2_with (go_at_call 9; refine (HSM.out _).mono ?_; rintro e w6 ⟨k6, rfl⟩)
        go_ret
        exact ⟨rfl, HD.out _ (q5.out.trans k6 (fun _ f => f.elim))⟩
      · go_wp2_with fail
        obtain ⟨s, hs, hsk⟩ : ∃ s : Nat, t % (k : Int) = (s : Int) ∧ s < k := by
          have h1 := Int.emod_nonneg t hk0
          have h2 := Int.emod_lt_of_pos t hkp
          exact ⟨(t % (k : Int)).toNat, by omega, by omega⟩
        rw [hs]
        refine (HP.out wr qr.out s (by omega)).mono ?_
        rintro e w3 ⟨k3, rfl⟩
        have q3 := Lib.hid (qr.out.trans k3 (fun _ f => f.elim))
        have z3 := Lib.hid (hC.trans k3 (fun _ f => f.elim))
        go_wp2_with fail
        refine (HO.out w3 q3.out s (by omega)).mono ?_
        rintro e w4 ⟨k4, v4, rfl, hv4⟩
        obtain ⟨B4, d4, rfl, hd4, hd5, L4⟩ := hv4.slice
        rw [ords_len]
        have q4 := Lib.hid (q3.out.trans k4 (fun _ f => f.elim))
        have z4 := Lib.hid (z3.out.trans k4 (fun _ f => f.elim))
        have HL4 := Lib.hid L4
        clear L4 hv4 hd4 hd5 k3 k4
        go_wp2_with fail
        refine (HAL.out _).mono ?_
        rintro e w5 ⟨k5, rfl⟩
        have q5 := Lib.hid (q4.out.trans k5 (fun _ f => f.elim))
        have L5 := HL.out.chg (z4.out.trans k5 (fun _ f => f.elim))
        obtain ⟨b, bo, rfl, _, r1⟩ := L5 _ _ (ords_get hsk)
        obtain ⟨p0, _⟩ := rangeAt_cons r1
        rw [Nat.mul_one] at p0
        have hsd : s ≤ d := by omega
        have hsi : (s : Int) < (k : Int) := by omega
        have HSm : ∀ c', Calls Try.prog 9 #[.slice B4 s d4, .slice (some ⟨b, bo, none⟩) s c'] w5 fun e w' => Chg Non w5 w' ∧ e = .returned (.bool true) := fun c' => by
          have h := same_any w5 B4 (some ⟨b, bo, none⟩) d4 c' (ords l s) ((ords l k).take s) (by rw [ords_len]; unfold maxLen; omega) (by rw [ords_take (by omega), ords_len]; unfold maxLen; omega) (HL4.out.chg k5) (lstM_take L5 s)
          rw [ords_take (by omega), ords_len] at h
          simpa using h
        have HSM := Lib.hid HSm
        generalize keyAt l (who l (sumP l) s) = ky at *
        clear r1 L5 HSm HW HP HO HL4
        go_wp2_with (go_at_call 9; refine (HSM.out _).mono ?_; rintro e w6 ⟨k6, rfl⟩)
        go_ret
        exact ⟨rfl, HD.out _ (q5.out.trans k6 (fun _ f => f.elim))⟩

/-! ### The row's frame -/
theorem own : ownKnob Try.prog.godebug = none := by kernel_rfl
theorem walkA (W : World) (args : Array Value) (hsz : args.size = Try.f3.params.size) (hok : ∀ (j : Nat) (t : TypeId) (v : Value), Try.f3.params[j]? = some t → args[j]? = some v → Okv Try.prog W t v) :
    Calls Try.prog 3 args W fun e W' => e = .returned (.bool true) ∧ Below W.heap.size W W' := by
  rw [Try.params3] at hsz hok
  obtain ⟨v0, v1, v2, rfl⟩ : ∃ v0 v1 v2 : Value, args = #[v0, v1, v2] := by
    obtain ⟨l⟩ := args
    match l, hsz with
    | [v0, v1, v2], _ => exact ⟨v0, v1, v2, rfl⟩
  exact walk W v0 v1 v2 (hok 0 22 v0 rfl rfl) (hok 1 3 v1 rfl rfl) (hok 2 3 v2 rfl rfl)
set_option maxRecDepth 100000 in
theorem lifted (os : Os) (started : os.Started) (H : Type) (enc : TypeId × Value → H) :
    ReturnsInHanded {} Try.checked os 3 .any (Rows.turnsOneSpec.pre6 enc Try.prog Try.f3 Rows.turnsOneRow.domain false) (Rows.turnsOneSpec.post enc Try.prog Try.f3 false true false false) :=
  lifted_of_walk (C := Try.checked) (s := Rows.turnsOneSpec) (conds := Rows.turnsOneRow.domain) (apart := false) (fresh := true) (T := 4) own started (by kernel_rfl) Try.func3
    (ChangeSpec.witness6 (enc := enc) (C := Try.checked) false ⟨#[], #[.slice none 0 0, .int .i64 0, .int .i64 0], []⟩ 8 (by kernel_rfl) (by kernel_rfl) (by kernel_rfl) (by kernel_rfl))
    rfl (fun ds hd => by
      rw [Try.params3] at hd
      match ds, hd with
      | [d0, d1, d2], _ => exact ⟨rfl, rfl, rfl⟩)
    (by kernel_rfl) Try.underlying4 (by kernel_rfl) (by rw [Try.params3]; intro t ht; simp only [List.mem_cons, List.not_mem_nil, or_false] at ht; rcases ht with rfl | rfl | rfl <;> exact ⟨by kernel_rfl, of_decide_eq_true (by kernel_rfl)⟩) walkA

theorem holds : Rows.turnsOneRow.holds Try.pinned (OpenSpec.ofChange Rows.turnsOneSpec) :=
  OpenClaim.holds_of_wide 3 Try.f3 rfl rfl rfl rfl rfl rfl rfl ⟨rfl, rfl, rfl, rfl, rfl⟩ rfl rfl rfl rfl rfl (by kernel_rfl) Try.func3 (by kernel_rfl)
    (of_decide_eq_true (by kernel_rfl)) (by unfold Func.isWrapper; first | (rw [if_pos (by decide +kernel)]; kernel_rfl) | (rw [if_neg (by decide +kernel)]; exact ⟨rfl, rfl⟩))
    (fun os started H enc _ => lifted os started H enc)
end Go.Proofs.Ytdcmblpfhlpaeaa.turnsOne
namespace Go.Proofs.Ytdcmblpfhlpaeaa
/-- The statement. -/
theorem turnsOne_holds : Rows.TurnsOneSaid := turnsOne.holds
end Go.Proofs.Ytdcmblpfhlpaeaa
