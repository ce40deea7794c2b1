/- Of the program at this commit: the law TurnsFirst answers true for every set and every turn (at the first turn who has the greatest power proposes, of several the one with the least key; a validator alone proposes always); no condition. -/
import Derived.Test.YtkkcallokahjaaaRows
import Derived.WalkKit
import Derived.ProofKit
import Derived.Test.YtkkcallokahjaaaTa
import Derived.Deep.QuietTactic
import Derived.BigQuiet
namespace Go.Proofs.Ytkkcallokahjaaa.turnsFirst
open Go.ChangeShapes Go.WideShapes Go.ChangeAt Go.RowKit
set_option linter.unusedVariables false

theorem pow_get {l : List Va} {i : Nat} {x : Va} (h : l[i]? = some x) : nth (powers l) i = x.power := nth_get (by unfold powers; rw [List.getElem?_map, h]; rfl)

set_option maxRecDepth 100000 in
set_option maxHeartbeats 3200000 in
theorem walk (W : World) (v0 v1 : Value) (h0 : Okv Try.prog W 22 v0) (h1 : Okv Try.prog W 3 v1) :
    Calls Try.prog 3 #[v0, v1] W fun e W' => e = .returned (.bool true) ∧ Below W.heap.size W W' := by
  obtain ⟨A, c, l, rfl, hl, M, ol⟩ := set_arg h0
  obtain ⟨t, rfl, ht⟩ := int_arg h1
  have hcap := cap_arg h0
  clear h0 h1
  have HAL := Lib.hid (fun w => alive_any w)
  have DONE : ∀ w', Chg Non W w' → Below W.heap.size W w' := fun w' k => k.below (Nat.le_refl _) (fun _ f => f.elim)
  have HD := Lib.hid DONE
  clear DONE
  by_cases b70 : 70 < l.length
  · have b1' : (70 : Int) < (l.length : Int) := by omega
    clear M ol
    generalize l.length = n1 at *
    go_enter Try.func3, Try.ntmps3
    go_wp2_with (go_at_call 5; with_reducible refine (HAL.out _).mono ?_; rintro e w2 ⟨k2, rfl⟩)
    go_ret
    exact ⟨rfl, HD.out _ k2⟩
  have b70' : ¬ (70 : Int) < (l.length : Int) := by omega
  by_cases hr : ¬ Rt l
  · have HRi := Lib.hid (Right_no W A c l hl ol M hr)
    clear M ol hr
    generalize l.length = n1 at *
    go_enter Try.func3, Try.ntmps3
    go_wp2_with (first | (go_at_call 4; with_reducible refine HRi.out.mono ?_; rintro e w1 ⟨k1, rfl⟩) | (go_at_call 5; with_reducible refine (HAL.out _).mono ?_; rintro e w2 ⟨k2, rfl⟩))
    go_ret
    exact ⟨rfl, HD.out _ (k1.trans k2 (fun _ f => f.elim))⟩
  replace hr := Classical.not_not.1 hr
  have HRi := Lib.hid (Right_yes W A c l hl ol M hr)
  have HP0 : Hid (∀ w', Chg Non W w' → _) := Lib.hid fun w' k => Proposer_yes w' A c l hl ol (M.chg k) hr 0 (by omega)
  have hb := bestTo_lt (powers l) l.length
  have hbl : bestTo (powers l) l.length < l.length := by have := hr.1; omega
  obtain ⟨xb, hxb⟩ : ∃ xb, l[bestTo (powers l) l.length]? = some xb := ⟨_, List.getElem?_eq_getElem hbl⟩
  obtain ⟨x0, hx0⟩ : ∃ x0, l[0]? = some x0 := ⟨_, List.getElem?_eq_getElem (by have := hr.1; omega)⟩
  have HP1 : ∀ w', Chg Non W w' → ∀ s : Nat, s < 4096 → Calls Try.prog 6 #[.slice A 1 c, .int .i64 (s : Int)] w' fun e w'' => Chg Non w' w'' ∧ e = .returned (.tuple #[.int .u64 (x0.key : Int), .int .i64 0]) := fun w' k s hs => by
    have h1 : (l.take 1).length = 1 := by rw [List.length_take]; have := hr.1; omega
    have h := Proposer_yes w' A c (l.take 1) (by rw [h1]; unfold maxLen; omega) (fun x hx => ol x (List.mem_of_mem_take hx)) (lstM_take (M.chg k) 1) (rt_one hr) s hs
    rw [who_alone h1, keyAt_get (show (l.take 1)[0]? = some x0 by rw [List.getElem?_take, if_pos (by omega)]; exact hx0), h1] at h
    exact h
  simp only [who_first, keyAt_get hxb] at HP0
  have HQ := Lib.hid HP1
  have HXb := Lib.hid hxb
  have HX0 := Lib.hid hx0
  have HM := Lib.hid M
  have hn1 := hr.1
  have hn2 := hr.2.1
  clear M ol hr hl HP1 hxb hx0 hb
  generalize hn : l.length = n at *
  have HN := Lib.hid hn
  clear hn
  go_enter Try.func3, Try.ntmps3
  go_wp2_with (first | (go_at_call 4; with_reducible refine HRi.out.mono ?_; rintro e w1 ⟨k1, rfl⟩) | (go_at_call 6; refine (HP0.out _ k1).mono ?_; rintro e w2 ⟨k2, rfl⟩))
  have kw := Lib.hid (k1.trans k2 (fun _ f => f.elim))
  go_loopw [7, 8] (fun s i wr => ∃ k : Nat, k ≤ n ∧ i = .int .i64 (k : Int) ∧ s = .int .i64 (bestTo (powers l) k : Int) ∧ Chg Non w2 wr) (fun _ i _ => n - (intOf i).toNat)
  case atStart => exact ⟨0, by omega, rfl, rfl, Chg.refl _ _⟩
  case round =>
    obtain ⟨k, hk, rfl, rfl, hC⟩ := hrel
    have kr := Lib.hid (kw.out.trans hC (fun _ f => f.elim))
    by_cases hlt : k < n
    · have hki : (k : Int) < (n : Int) := by omega
      have hbk : bestTo (powers l) k < n := by
        rcases bestTo_lt (powers l) k with h | h <;> omega
      obtain ⟨x, hx⟩ : ∃ x, l[k]? = some x := ⟨_, List.getElem?_eq_getElem (by rw [HN.out]; exact hlt)⟩
      obtain ⟨y, hy⟩ : ∃ y, l[bestTo (powers l) k]? = some y := ⟨_, List.getElem?_eq_getElem (by rw [HN.out]; exact hbk)⟩
      have ex : nth (powers l) k = x.power := pow_get hx
      have ey : nth (powers l) (bestTo (powers l) k) = y.power := pow_get hy
      have hnext : bestTo (powers l) (k + 1) = if nth (powers l) (bestTo (powers l) k) < nth (powers l) k then k else bestTo (powers l) k := rfl
      rw [ex, ey] at hnext
      have HNx := Lib.hid hnext
      obtain ⟨a, ao, rfl, _, r1⟩ := (HM.out.chg kr.out) _ _ hx
      obtain ⟨b, bo, e, _, r2⟩ := (HM.out.chg kr.out) _ _ hy
      injection e with e
      injection e with e1 e2
      subst e1; subst e2
      obtain ⟨_, p1⟩ := rangeAt_cons r1
      obtain ⟨p1, _⟩ := rangeAt_cons p1
      obtain ⟨_, q1⟩ := rangeAt_cons r2
      obtain ⟨q1, _⟩ := rangeAt_cons q1
      generalize bestTo (powers l) k = s at *
      have hsi : (s : Int) < (n : Int) := by omega
      clear r1 r2 hx hy ex ey hnext
      by_cases hgt : y.power < x.power
      · go_wp2_with fail
        go_quiet (fail)
        go_wp2_with fail
        go_roundw
        case rel => exact ⟨k + 1, by omega, by go_num, by rw [HNx.out, if_pos hgt], hC.drewN _⟩
        case measure => simp [intOf]; omega
      · go_wp2_with fail
        go_quiet (fail)
        go_wp2_with fail
        go_roundw
        case rel => exact ⟨k + 1, by omega, by go_num, by rw [HNx.out, if_neg (by omega)], hC.drewN _⟩
        case measure => simp [intOf]; omega
    · obtain rfl : k = n := by omega
      have HXb' := HXb.out
      generalize bestTo (powers l) k = s at *
      have hsi : (s : Int) < (k : Int) := by omega
      have h0i : (0 : Int) < (k : Int) := by omega
      obtain ⟨a, ao, rfl, _, r1⟩ := (HM.out.chg kr.out) _ _ HXb'
      obtain ⟨b, bo, e, _, r2⟩ := (HM.out.chg kr.out) _ _ HX0.out
      injection e with e
      injection e with e1 e2
      subst e1; subst e2
      obtain ⟨p0, _⟩ := rangeAt_cons r1
      obtain ⟨q0, _⟩ := rangeAt_cons r2
      rw [Nat.zero_mul, Nat.add_zero] at q0
      have P0 := Lib.hid p0
      have Q0 := Lib.hid q0
      clear r1 r2 HXb' p0 q0 HXb
      have hc1 : 1 ≤ c := by omega
      by_cases t0 : t < 0
      · have HQ0 := Lib.hid (HQ.out _ kr.out 0 (by omega))
        go_wp2_with (go_at_call 6; refine HQ0.out.mono ?_; rintro e w3 ⟨k3, rfl⟩)
        have kz : ∀ w4, Chg Non w3 w4 → Chg Non wr w4 := fun w4 k => k3.trans k (fun _ f => f.elim)
        refine (HAL.out _).mono ?_
        rintro e w4 ⟨k4, rfl⟩
        have p0 := (kz _ k4).cell P0.out (fun f => f)
        have q0 := (kz _ k4).cell Q0.out (fun f => f)
        go_wp2_with fail
        go_ret
        exact ⟨rfl, HD.out _ ((kr.out.trans k3 (fun _ f => f.elim)).trans k4 (fun _ f => f.elim))⟩
      by_cases t1 : 500 < t
      · have HQ0 := Lib.hid (HQ.out _ kr.out 0 (by omega))
        go_wp2_with (go_at_call 6; refine HQ0.out.mono ?_; rintro e w3 ⟨k3, rfl⟩)
        have kz : ∀ w4, Chg Non w3 w4 → Chg Non wr w4 := fun w4 k => k3.trans k (fun _ f => f.elim)
        refine (HAL.out _).mono ?_
        rintro e w4 ⟨k4, rfl⟩
        have p0 := (kz _ k4).cell P0.out (fun f => f)
        have q0 := (kz _ k4).cell Q0.out (fun f => f)
        go_wp2_with fail
        go_ret
        exact ⟨rfl, HD.out _ ((kr.out.trans k3 (fun _ f => f.elim)).trans k4 (fun _ f => f.elim))⟩
      · obtain ⟨m, rfl⟩ : ∃ m : Nat, t = (m : Int) := ⟨t.toNat, by omega⟩
        have HQ0 := Lib.hid (HQ.out _ kr.out m (by omega))
        go_wp2_with (go_at_call 6; refine HQ0.out.mono ?_; rintro e w3 ⟨k3, rfl⟩)
        have kz : ∀ w4, Chg Non w3 w4 → Chg Non wr w4 := fun w4 k => k3.trans k (fun _ f => f.elim)
        refine (HAL.out _).mono ?_
        rintro e w4 ⟨k4, rfl⟩
        have p0 := (kz _ k4).cell P0.out (fun f => f)
        have q0 := (kz _ k4).cell Q0.out (fun f => f)
        go_wp2_with fail
        go_ret
        exact ⟨rfl, HD.out _ ((kr.out.trans k3 (fun _ f => f.elim)).trans k4 (fun _ f => f.elim))⟩

/-! ### The row's frame -/
theorem own : ownKnob Try.prog.godebug = none := by kernel_rfl
theorem walkA (W : World) (args : Array Value) (hsz : args.size = Try.f3.params.size) (hok : ∀ (j : Nat) (t : TypeId) (v : Value), Try.f3.params[j]? = some t → args[j]? = some v → Okv Try.prog W t v) :
    Calls Try.prog 3 args W fun e W' => e = .returned (.bool true) ∧ Below W.heap.size W W' := by
  rw [Try.params3] at hsz hok
  obtain ⟨v0, v1, rfl⟩ : ∃ v0 v1 : Value, args = #[v0, v1] := by
    obtain ⟨l⟩ := args
    match l, hsz with
    | [v0, v1], _ => exact ⟨v0, v1, rfl⟩
  exact walk W v0 v1 (hok 0 22 v0 rfl rfl) (hok 1 3 v1 rfl rfl)
set_option maxRecDepth 100000 in
theorem lifted (os : Os) (started : os.Started) (H : Type) (enc : TypeId × Value → H) :
    ReturnsInHanded {} Try.checked os 3 .any (Rows.turnsFirstSpec.pre6 enc Try.prog Try.f3 Rows.turnsFirstRow.domain false) (Rows.turnsFirstSpec.post enc Try.prog Try.f3 false true false false) :=
  lifted_of_walk (C := Try.checked) (s := Rows.turnsFirstSpec) (conds := Rows.turnsFirstRow.domain) (apart := false) (fresh := true) (T := 4) own started (by kernel_rfl) Try.func3
    (ChangeSpec.witness6 (enc := enc) (C := Try.checked) false ⟨#[], #[.slice none 0 0, .int .i64 0], []⟩ 8 (by kernel_rfl) (by kernel_rfl) (by kernel_rfl) (by kernel_rfl))
    rfl (fun ds hd => by
      rw [Try.params3] at hd
      match ds, hd with
      | [d0, d1], _ => exact ⟨rfl, rfl, rfl⟩)
    (by kernel_rfl) Try.underlying4 (by kernel_rfl) (by rw [Try.params3]; intro t ht; simp only [List.mem_cons, List.not_mem_nil, or_false] at ht; rcases ht with rfl | rfl <;> exact ⟨by kernel_rfl, of_decide_eq_true (by kernel_rfl)⟩) walkA

theorem holds : Rows.turnsFirstRow.holds Try.pinned (OpenSpec.ofChange Rows.turnsFirstSpec) :=
  OpenClaim.holds_of_wide 3 Try.f3 rfl rfl rfl rfl rfl rfl rfl ⟨rfl, rfl, rfl, rfl, rfl⟩ rfl rfl rfl rfl rfl (by kernel_rfl) Try.func3 (by kernel_rfl)
    (of_decide_eq_true (by kernel_rfl)) (by unfold Func.isWrapper; first | (rw [if_pos (by decide +kernel)]; kernel_rfl) | (rw [if_neg (by decide +kernel)]; exact ⟨rfl, rfl⟩))
    (fun os started H enc _ => lifted os started H enc)
end Go.Proofs.Ytkkcallokahjaaa.turnsFirst
namespace Go.Proofs.Ytkkcallokahjaaa
/-- The statement. -/
theorem turnsFirst_holds : Rows.TurnsFirstSaid := turnsFirst.holds
end Go.Proofs.Ytkkcallokahjaaa
