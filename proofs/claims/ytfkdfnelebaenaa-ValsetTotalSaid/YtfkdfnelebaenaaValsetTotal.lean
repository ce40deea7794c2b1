/- Of the program at this commit: the law ValsetTotal answers true for every set and every change (the power of a right set is that of its keys, one by one, and goes with a change by just what it changes); no condition. -/
import Derived.Test.YtfkdfnelebaenaaRows
import Derived.WalkKit
import Derived.ProofKit
import Derived.Test.YtfkdfnelebaenaaAv
import Derived.Deep.RegionHeld3
namespace Go.Proofs.Ytfkdfnelebaenaa.valsetTotal
open Go.ChangeShapes Go.WideShapes Go.ChangeAt Go.RowKit
set_option linter.unusedVariables false

theorem pw_le_sum {l : List Va} (hp : Pos l) (k : Nat) : pw l k ≤ sumP l := by
  induction l with
  | nil => exact Int.le_refl _
  | cons x l ih =>
    obtain ⟨h1, h2⟩ := pos_cons.1 hp
    have h3 := sumP_nonneg h2
    have h4 := ih h2
    rw [pw, sumP]
    split <;> omega
theorem good_sum {l r : List Va} {x : Va} (h : Good l [x] r) : sumP r = sumP l - pw l x.key + x.power ∧ 0 ≤ x.power ∧ x.power ≤ top := by
  obtain ⟨f, h1, h2, h3, h4⟩ := h
  rw [runC_one] at h2
  obtain ⟨s1, s2, rfl, _⟩ := stepC_ok h2
  exact ⟨h1.nf.sum s1 h3, s1, s2⟩

set_option maxRecDepth 100000 in
set_option maxHeartbeats 6400000 in
theorem walk (W : World) (v0 v1 : Value) (h0 : Okv Try.prog W 22 v0) (h1 : Okv Try.prog W 26 v1) :
    Calls Try.prog 5 #[v0, v1] W fun e W' => e = .returned (.bool true) ∧ Below W.heap.size W W' := by
  obtain ⟨A, c, l, rfl, hl, M, ol⟩ := set_arg h0
  obtain ⟨x, rfl, ox⟩ := va_arg h1
  clear h0 h1
  have HAL := Lib.hid (fun w => alive_any w)
  have DONE : ∀ w', Chg Non W w' → Below W.heap.size W w' := fun w' k => k.below (Nat.le_refl _) (fun _ f => f.elim)
  have HD := Lib.hid DONE
  clear DONE
  unfold maxLen at hl
  have k1 : Chg Non W (W.alloc (.cells #[.int .u64 (x.key : Int), .int .i64 x.power] 26)) := (Chg.refl _ _).alloc _
  have b1 : Hb (W.alloc (.cells #[.int .u64 (x.key : Int), .int .i64 x.power] 26)) W.heap.size 26 #[.int .u64 (x.key : Int), .int .i64 x.power] := Hb.new W _ _
  by_cases b80 : 80 < l.length
  · have b1' : (80 : Int) < (l.length : Int) := by omega
    clear M ol b1 ox
    generalize l.length = n1 at *
    go_enter Try.func5, Try.ntmps5
    go_wp2_with fail
    refine (HAL.out _).mono ?_
    rintro e w2 ⟨rfl, k2⟩
    go_wp2_with fail
    go_ret
    exact ⟨rfl, HD.out _ (k1.trans k2 (fun _ f => f.elim))⟩
  have b80' : ¬ (80 : Int) < (l.length : Int) := by omega
  have HT := Lib.hid (Total_any _ A c l (by unfold maxLen; omega) ol (M.chg k1))
  have HRi : Hid (∀ w', Chg Non W w' → Calls Try.prog 13 #[.slice A l.length c] w' (Yes w' (Rt l))) := Lib.hid fun w' k => Right_any w' A c l (by unfold maxLen; omega) ol (M.chg k)
  have HP : Hid (∀ (w' : World) (key : Nat), Chg Non W w' → Calls Try.prog 12 #[.slice A l.length c, .int .u64 (key : Int)] w' (Zero w' (.int .i64 (pw l key)))) := Lib.hid fun w' key k => Power_any w' A c key l (by unfold maxLen; omega) (M.chg k)
  have HU : Hid (∀ w' B d, Chg Non W w' → LstM w' B [x] Va.cells 2 → Calls Try.prog 9 #[.slice A l.length c, .slice B 1 d] w' (UpG w' l [x])) := Lib.hid fun w' B d k N => Update_good w' A B c d l [x] (by omega) (by simp) ol (by intro y hy; simp at hy; subst hy; exact ox) (M.chg k) N
  have HM := Lib.hid M
  have c0 := b1.cell 0
  have c1 := b1.cell 1
  simp only [List.getElem?_toArray] at c0 c1
  clear M ol ox b1
  generalize hn1 : l.length = n1 at *
  have E1 := Lib.hid hn1
  clear hn1
  go_enter Try.func5, Try.ntmps5
  go_wp2_with fail
  refine HT.out.mono ?_
  rintro e w2 ⟨k2, ⟨hr, rfl⟩ | ⟨hr, rfl⟩⟩
  · have HR := Lib.hid hr
    have kw2 := k1.trans k2 (fun _ f => f.elim)
    have d0 := k2.cell c0 (fun f => f)
    have d1 := k2.cell c1 (fun f => f)
    have hS0 := sumP_nonneg hr.2.2.2.1
    have hS1 := hr.2.2.2.2
    unfold top at hS1
    have HSUM : Hid (∃ S, S = sumP l) := Lib.hid ⟨_, rfl⟩
    obtain ⟨S, hS⟩ := HSUM.out
    have HS := Lib.hid hS
    rw [← hS] at hS0 hS1 ⊢
    clear hr hS c0 c1 HSUM
    go_wp2_with fail
    go_loopw [7, 8] (fun s i wr => ∃ k : Nat, k ≤ n1 ∧ i = .int .i64 (k : Int) ∧ s = .int .i64 (sumP (l.take k)) ∧ Chg Non w2 wr) (fun _ i _ => n1 - (intOf i).toNat)
    case atStart => exact ⟨0, by omega, rfl, by simp [sumP], Chg.refl _ _⟩
    case round =>
      obtain ⟨k, hk, rfl, rfl, hC⟩ := hrel
      have kw := Lib.hid (kw2.trans hC (fun _ f => f.elim))
      by_cases hlt : k < n1
      · have hki : (k : Int) < (n1 : Int) := by omega
        have hkl : k < l.length := by rw [E1.out]; exact hlt
        obtain ⟨y, hy⟩ : ∃ y, l[k]? = some y := ⟨_, List.getElem?_eq_getElem hkl⟩
        obtain ⟨a, ao, rfl, _, r1⟩ := (HM.out.chg kw.out) _ _ hy
        obtain ⟨p0, _⟩ := rangeAt_cons r1
        have hpw : pw l y.key = y.power := pw_mem HR.out.2.2.1 (List.mem_of_getElem? hy)
        have hsum : sumP (l.take (k + 1)) = sumP (l.take k) + y.power := by rw [take_next hy, sumP_append]; simp [sumP]
        have hf1 := (fits_take HR.out.2.2.2 k)
        have hf2 := (fits_take HR.out.2.2.2 (k + 1))
        have h3 := sumP_nonneg hf1.1
        have h4 := hf2.2
        have h5 : 1 ≤ y.power := HR.out.2.2.2.1 y (List.mem_of_getElem? hy)
        rw [hsum] at h4
        unfold top at h4
        have HSM := Lib.hid hsum
        have HPy := HP.out wr y.key kw.out
        rw [hpw] at HPy
        have HPy' := Lib.hid HPy
        generalize sumP (l.take k) = q at *
        generalize y.power = yp at *
        clear r1 hy hkl hk hpw hsum hf1 hf2 HPy
        go_wp2_with fail
        refine HPy'.out.mono ?_
        rintro e w3 ⟨rfl, k3⟩
        go_wp2_with fail
        go_roundw
        case rel => exact ⟨k + 1, by omega, by go_num, by rw [HSM.out], hC.trans k3 (fun _ f => f.elim)⟩
        case measure => simp [intOf]; omega
      · obtain rfl : k = n1 := by omega
        have el : l.take k = l := List.take_of_length_le (by rw [E1.out]; exact Nat.le_refl _)
        rw [el, ← HS.out]
        have e0 := hC.cell d0 (fun f => f)
        have e1 := hC.cell d1 (fun f => f)
        have N3 := Lib.hid (one_new wr x)
        have k3 : Chg Non wr (wr.alloc (.cells #[.int .u64 (x.key : Int), .int .i64 x.power] 26)) := (Chg.refl _ _).alloc _
        clear el d0 d1
        go_wp2_with fail
        refine (HU.out _ _ _ (kw.out.trans k3 (fun _ f => f.elim)) N3.out).mono ?_
        rintro e w4 ⟨k4, s, er, rfl, ⟨rfl, r, A', c', rfl, hG⟩ | ⟨her, rfl, _⟩⟩
        · have k34 := k3.trans k4 (fun _ f => f.elim)
          have kw4 := kw.out.trans k34 (fun _ f => f.elim)
          have hrr : Rt r := by obtain ⟨f, _, _, _, h⟩ := hG.out.1; exact h
          obtain ⟨hg1, hg2, hg3⟩ := good_sum hG.out.1
          have hTr := Total_any w4 A' c' r (by have := hrr.2.1; unfold maxLen; omega) hG.out.2.1 hG.out.2.2
          have hpw1 := pw_le_sum HR.out.2.2.2.1 x.key
          have hpw0 := pw_nonneg HR.out.2.2.2.1 x.key
          rw [← HS.out] at hg1 hpw1
          have HTr : Hid (Calls Try.prog 14 #[.slice A' r.length c'] w4 fun e w' => e = .returned (.tuple #[.int .i64 (S - pw l x.key + x.power), .int .i64 0]) ∧ Chg Non w4 w') := Lib.hid (hTr.mono (by
            rintro e w' ⟨k, ⟨_, rfl⟩ | ⟨h, _⟩⟩
            · exact ⟨by rw [hg1], k⟩
            · exact absurd hrr h))
          have e0' := k34.cell e0 (fun f => f)
          have e1' := k34.cell e1 (fun f => f)
          have HPx := Lib.hid (fun w' k => HP.out w' x.key k)
          unfold top at hg3
          generalize pw l x.key = pl at *
          generalize hxp : x.power = xp at *
          generalize r.length = nr at *
          clear hG hTr hrr hg1 e0 e1 hxp
          go_wp2_with fail
          refine HTr.out.mono ?_
          rintro e w5 ⟨rfl, k5⟩
          have kw5 := Lib.hid (kw4.trans k5 (fun _ f => f.elim))
          have c0 := k5.cell e0' (fun f => f)
          have c1 := k5.cell e1' (fun f => f)
          clear e0' e1'
          go_wp2_with fail
          go_region_held3 (fun w' => w'.cell? ⟨W.heap.size, 0, none⟩ = some (.int .u64 (x.key : Int)) ∧ w'.cell? ⟨W.heap.size, 1, none⟩ = some (.int .i64 xp)) (first | exact ⟨c0, c1⟩ | exact ⟨s0, s1⟩ | exact ⟨t0, t1⟩ | assumption) (first | (go_at_call 8; refine (HAL.out _).mono ?_; rintro e w6 ⟨rfl, k6⟩; have s0 := k6.cell c0 (fun f => f); have s1 := k6.cell c1 (fun f => f)) | (go_at_call 12; refine (HPx.out _ ((kw5.out.drew).trans k6 (fun _ f => f.elim))).mono ?_; rintro e w7 ⟨rfl, k7⟩; have t0 := k7.cell s0 (fun f => f); have t1 := k7.cell s1 (fun f => f)) | fail)
          all_goals go_wp2_with fail
          all_goals go_ret
          have hw1 : IntKind.i64.wrap (S - pl) = S - pl := by rw [IntKind.wrap_i64]; omega
          have hw2 : IntKind.i64.wrap (S - pl + xp) = S - pl + xp := by rw [IntKind.wrap_i64]; omega
          have hw : (S - pl + xp == IntKind.i64.wrap (IntKind.i64.wrap (S - pl) + xp)) = true := by rw [hw1, hw2]; simp
          all_goals exact ⟨congrArg (fun b => Ending.returned (Value.bool b)) hw, HD.out _ (((kw5.out.drew).trans k6 (fun _ f => f.elim)).trans k7 (fun _ f => f.elim))⟩
        · go_wp2_with fail
          refine (HAL.out _).mono ?_
          rintro e w5 ⟨rfl, k5⟩
          go_wp2_with fail
          go_ret
          exact ⟨rfl, HD.out _ (((kw.out.trans k3 (fun _ f => f.elim)).trans k4 (fun _ f => f.elim)).trans k5 (fun _ f => f.elim))⟩
  · have HR := Lib.hid hr
    have kw2 := k1.trans k2 (fun _ f => f.elim)
    clear hr c0 c1
    go_wp2_with fail
    refine (HAL.out _).mono ?_
    rintro e w3 ⟨rfl, k3⟩
    have kw3 := kw2.trans k3 (fun _ f => f.elim)
    go_wp2_with fail
    refine (HRi.out _ kw3).mono ?_
    rintro e w4 ⟨k4, b, rfl, hb⟩
    obtain rfl : b = false := by
      cases b
      · rfl
      · exact absurd (hb.1 rfl) HR.out
    clear hb
    go_wp2_with fail
    go_ret
    exact ⟨rfl, HD.out _ (kw3.trans k4 (fun _ f => f.elim))⟩

/-! ### The row's frame -/
theorem own : ownKnob Try.prog.godebug = none := by kernel_rfl
theorem walkA (W : World) (args : Array Value) (hsz : args.size = Try.f5.params.size) (hok : ∀ (j : Nat) (t : TypeId) (v : Value), Try.f5.params[j]? = some t → args[j]? = some v → Okv Try.prog W t v) :
    Calls Try.prog 5 args W fun e W' => e = .returned (.bool true) ∧ Below W.heap.size W W' := by
  rw [Try.params5] at hsz hok
  obtain ⟨v0, v1, rfl⟩ : ∃ v0 v1 : Value, args = #[v0, v1] := by
    obtain ⟨l⟩ := args
    match l, hsz with
    | [v0, v1], _ => exact ⟨v0, v1, rfl⟩
  exact walk W v0 v1 (hok 0 22 v0 rfl rfl) (hok 1 26 v1 rfl rfl)
set_option maxRecDepth 100000 in
theorem lifted (os : Os) (started : os.Started) (H : Type) (enc : TypeId × Value → H) :
    ReturnsInHanded {} Try.checked os 5 .any (Rows.valsetTotalSpec.pre6 enc Try.prog Try.f5 Rows.valsetTotalRow.domain false) (Rows.valsetTotalSpec.post enc Try.prog Try.f5 false true false false) :=
  lifted_of_walk (C := Try.checked) (s := Rows.valsetTotalSpec) (conds := Rows.valsetTotalRow.domain) (apart := false) (fresh := true) (T := 4) own started (by kernel_rfl) Try.func5
    (ChangeSpec.witness6 (enc := enc) (C := Try.checked) false ⟨#[], #[.slice none 0 0, .agg #[.int .u64 0, .int .i64 0]], []⟩ 8 (by kernel_rfl) (by kernel_rfl) (by kernel_rfl) (by kernel_rfl))
    rfl (fun ds hd => by
      rw [Try.params5] at hd
      match ds, hd with
      | [d0, d1], _ => exact ⟨rfl, rfl, rfl⟩)
    (by kernel_rfl) Try.underlying4 (by kernel_rfl) (by rw [Try.params5]; intro t ht; simp only [List.mem_cons, List.not_mem_nil, or_false] at ht; rcases ht with rfl | rfl <;> exact ⟨by kernel_rfl, of_decide_eq_true (by kernel_rfl)⟩) walkA

theorem holds : Rows.valsetTotalRow.holds Try.pinned (OpenSpec.ofChange Rows.valsetTotalSpec) :=
  OpenClaim.holds_of_wide 5 Try.f5 rfl rfl rfl rfl rfl rfl rfl ⟨rfl, rfl, rfl, rfl, rfl⟩ rfl rfl rfl rfl rfl (by kernel_rfl) Try.func5 (by kernel_rfl)
    (of_decide_eq_true (by kernel_rfl)) (by unfold Func.isWrapper; first | (rw [if_pos (by decide +kernel)]; kernel_rfl) | (rw [if_neg (by decide +kernel)]; exact ⟨rfl, rfl⟩))
    (fun os started H enc _ => lifted os started H enc)
end Go.Proofs.Ytfkdfnelebaenaa.valsetTotal
namespace Go.Proofs.Ytfkdfnelebaenaa
/-- The statement. -/
theorem valsetTotal_holds : Rows.ValsetTotalSaid := valsetTotal.holds
end Go.Proofs.Ytfkdfnelebaenaa
