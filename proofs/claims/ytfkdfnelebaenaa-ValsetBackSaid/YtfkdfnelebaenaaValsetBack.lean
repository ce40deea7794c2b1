/- Of the program at this commit: the law ValsetBack answers true for every set and every validator (one that was not there, put in and taken away, leaves the set as it was); no condition. -/
import Derived.Test.YtfkdfnelebaenaaRows
import Derived.WalkKit
import Derived.ProofKit
import Derived.Test.YtfkdfnelebaenaaAv
namespace Go.Proofs.Ytfkdfnelebaenaa.valsetBack
open Go.ChangeShapes Go.WideShapes Go.ChangeAt Go.RowKit
set_option linter.unusedVariables false

theorem back_math {l a : List Va} {x : Va} (h0 : pw l x.key = 0) (hx : x.power ≠ 0) (h : Good l [x] a) : Good a [⟨x.key, 0⟩] l ∧ Good l [x, ⟨x.key, 0⟩] l := by
  obtain ⟨f, h1, h2, h3, h4⟩ := h
  rw [runC_one] at h2
  obtain ⟨s1, s2, rfl, s3⟩ := stepC_ok h2
  have e1 : pw a x.key = x.power := by rw [h3.pw, upd_same]
  have e2 : ∀ k, pw l k = upd (upd (pw l) x.key x.power) x.key 0 k := by
    intro k
    unfold upd
    by_cases e : k = x.key
    · rw [if_pos e, e, h0]
    · rw [if_neg e, if_neg e]
  have e3 : ∀ k, pw l k = upd (pw a) x.key 0 k := by
    intro k
    rw [e2 k]
    unfold upd
    by_cases e : k = x.key
    · rw [if_pos e, if_pos e]
    · rw [if_neg e, if_neg e, if_neg e, h3.pw, upd_other _ _ e]
  refine ⟨⟨upd (pw a) x.key 0, h4, ?_, h1.nf.ext e3, h1⟩, ⟨upd (upd (pw l) x.key x.power) x.key 0, h1, ?_, h1.nf.ext e2, h1⟩⟩
  · rw [runC_one]
    exact stepC_mk (c := ⟨x.key, 0⟩) (by show (0 : Int) ≤ 0; omega) (by unfold top; show (0 : Int) ≤ _; omega) (fun h => hx (by rw [← e1]; exact h.2))
  · rw [runC, h2]
    show runC _ [_] = _
    rw [runC_one]
    exact stepC_mk (c := ⟨x.key, 0⟩) (by show (0 : Int) ≤ 0; omega) (by unfold top; show (0 : Int) ≤ _; omega) (fun h => hx (by have := h.2; rwa [upd_same] at this))

set_option maxRecDepth 100000 in
set_option maxHeartbeats 6400000 in
theorem walk (W : World) (v0 v1 : Value) (h0 : Okv Try.prog W 22 v0) (h1 : Okv Try.prog W 26 v1) :
    Calls Try.prog 6 #[v0, v1] W fun e W' => e = .returned (.bool true) ∧ Below W.heap.size W W' := by
  obtain ⟨A, c, l, rfl, hl, M, ol⟩ := set_arg h0
  obtain ⟨x, rfl, ox⟩ := va_arg h1
  clear h0 h1
  have HAL := Lib.hid (fun w => alive_any w)
  have DONE : ∀ w', Chg Non W w' → Below W.heap.size W w' := fun w' k => k.below (Nat.le_refl _) (fun _ f => f.elim)
  have HD := Lib.hid DONE
  clear DONE
  unfold maxLen at hl
  have k1 : Chg Non W (W.alloc (.cells #[.int .u64 (x.key : Int), .int .i64 x.power] 26)) := (Chg.refl _ _).alloc _
  have b1 : Hb (W.alloc (.cells #[.int .u64 (x.key : Int), .int .i64 x.power] 26)) W.heap.size 26 #[.int .u64 (x.key : Int), .int .i64 x.power] := Hb.new W _ _
  by_cases b80 : 80 < l.length
  · have b1' : (80 : Int) < (l.length : Int) := by omega
    clear M ol b1 ox
    generalize l.length = n1 at *
    go_enter Try.func6, Try.ntmps6
    go_wp2_with fail
    refine (HAL.out _).mono ?_
    rintro e w2 ⟨rfl, k2⟩
    go_wp2_with fail
    go_ret
    exact ⟨rfl, HD.out _ (k1.trans k2 (fun _ f => f.elim))⟩
  have b80' : ¬ (80 : Int) < (l.length : Int) := by omega
  have HP : Hid (∀ w', Chg Non W w' → Calls Try.prog 12 #[.slice A l.length c, .int .u64 (x.key : Int)] w' (Zero w' (.int .i64 (pw l x.key)))) := Lib.hid fun w' k => Power_any w' A c x.key l (by unfold maxLen; omega) (M.chg k)
  have HM := Lib.hid M
  have OL := Lib.hid ol
  have OX := Lib.hid ox
  have HB1 := Lib.hid b1
  have oz : (⟨x.key, 0⟩ : Va).Ok := ⟨ox.key, by show (-9223372036854775808 : Int) ≤ 0; omega, by show (0 : Int) ≤ _; omega⟩
  have HU : Hid (∀ w' B d, Chg Non W w' → LstM w' B [x] Va.cells 2 → Calls Try.prog 9 #[.slice A l.length c, .slice B 1 d] w' (UpG w' l [x])) := Lib.hid fun w' B d k N => Update_good w' A B c d l [x] (by omega) (by simp) ol (by intro y hy; simp at hy; subst hy; exact ox) (M.chg k) N
  have HU2 : Hid (∀ w' B d, Chg Non W w' → LstM w' B [x, ⟨x.key, 0⟩] Va.cells 2 → Calls Try.prog 9 #[.slice A l.length c, .slice B 2 d] w' (UpG w' l [x, ⟨x.key, 0⟩])) := Lib.hid fun w' B d k N => Update_good w' A B c d l _ (by omega) (by simp) ol (by intro y hy; simp at hy; rcases hy with rfl | rfl; exact ox; exact oz) (M.chg k) N
  have HSS : Hid (∀ w' A2 c2, Chg Non W w' → LstM w' A2 l Va.cells 2 → Calls Try.prog 11 #[.slice A2 l.length c2, .slice A l.length c] w' (Zero w' (.bool true))) := Lib.hid fun w' A2 c2 k N => sameSet_yes w' A2 A c2 c l (by unfold maxLen; omega) N (M.chg k)
  have c0 := b1.cell 0
  have c1 := b1.cell 1
  simp only [List.getElem?_toArray] at c0 c1
  clear M ol ox b1
  generalize hn1 : l.length = n1 at *
  have E1 := Lib.hid hn1
  clear hn1
  generalize hpw : pw l x.key = pl at *
  have HPW := Lib.hid hpw
  clear hpw
  go_enter Try.func6, Try.ntmps6
  go_wp2_with fail
  refine (HP.out _ k1).mono ?_
  rintro e w2 ⟨rfl, k2⟩
  have kw2 := k1.trans k2 (fun _ f => f.elim)
  have d0 := k2.cell c0 (fun f => f)
  have d1 := k2.cell c1 (fun f => f)
  have B2 := HB1.out.chg k2 (fun f => f)
  have HB2 := Lib.hid B2
  clear c0 c1 B2 HB1
  by_cases hpl : pl = 0
  · by_cases hx0 : x.power = 0
    · go_wp2_with fail
      refine (HAL.out _).mono ?_
      rintro e w3 ⟨rfl, k3⟩
      go_wp2_with fail
      go_ret
      exact ⟨rfl, HD.out _ (kw2.trans k3 (fun _ f => f.elim))⟩
    · have HX0 := Lib.hid hx0
      have HN1 := Lib.hid (one_new w2 x)
      have k3 : Chg Non w2 (w2.alloc (.cells #[.int .u64 (x.key : Int), .int .i64 x.power] 26)) := (Chg.refl _ _).alloc _
      go_wp2_with fail
      refine (HU.out _ _ _ (kw2.trans k3 (fun _ f => f.elim)) HN1.out).mono ?_
      rintro e w4 ⟨k4, s, er, rfl, ⟨rfl, a, A', c', rfl, hG⟩ | ⟨her, rfl, hG⟩⟩
      · have k24 := k3.trans k4 (fun _ f => f.elim)
        have e0 := k24.cell d0 (fun f => f)
        have e1 := k24.cell d1 (fun f => f)
        have HBM := Lib.hid (back_math (by rw [HPW.out]; exact hpl) HX0.out hG.out.1)
        have hal : a.length ≤ 64 := by obtain ⟨f, _, _, _, h⟩ := hG.out.1; exact h.2.1
        have HUA : Hid (∀ w' B d, Chg Non w4 w' → LstM w' B [⟨x.key, 0⟩] Va.cells 2 → Calls Try.prog 9 #[.slice A' a.length c', .slice B 1 d] w' (UpG w' a [⟨x.key, 0⟩])) := Lib.hid fun w' B d k N => Update_good w' A' B c' d a [⟨x.key, 0⟩] (by omega) (by simp) hG.out.2.1 (by intro y hy; simp at hy; subst hy; exact oz) (hG.out.2.2.chg k) N
        generalize a.length = na at *
        have kw4 := kw2.trans k24 (fun _ f => f.elim)
        have HN2 := Lib.hid (one_new w4 ⟨x.key, 0⟩)
        have k5 : Chg Non w4 (w4.alloc (.cells #[.int .u64 (x.key : Int), .int .i64 0] 26)) := (Chg.refl _ _).alloc _
        clear hG d0 d1 hal
        go_wp2_with fail
        refine (HUA.out _ _ _ k5 HN2.out).mono ?_
        rintro e w6 ⟨k6, s, er, rfl, ⟨rfl, b, A2, c2, rfl, hG⟩ | ⟨her, rfl, hG⟩⟩
        · obtain rfl : b = l := hG.out.1.uniq HBM.out.1
          have M2 := Lib.hid hG.out.2.2
          have hbl := E1.out
          rw [hbl]
          have k46 := k5.trans k6 (fun _ f => f.elim)
          have kw6 := kw4.trans k46 (fun _ f => f.elim)
          have g0 := k46.cell e0 (fun f => f)
          have g1 := k46.cell e1 (fun f => f)
          clear hG e0 e1 hbl
          go_wp2_with fail
          refine (HSS.out _ A2 c2 kw6 M2.out).mono ?_
          rintro e w7 ⟨rfl, k7⟩
          have kw7 := kw6.trans k7 (fun _ f => f.elim)
          have h0 := k7.cell g0 (fun f => f)
          have h1 := k7.cell g1 (fun f => f)
          have HN3 := Lib.hid (two_new w7 x ⟨x.key, 0⟩)
          have k8 : Chg Non w7 (w7.alloc (.cells #[.int .u64 (x.key : Int), .int .i64 x.power, .int .u64 (x.key : Int), .int .i64 0] 26)) := (Chg.refl _ _).alloc _
          clear g0 g1
          go_wp2_with fail
          refine (HU2.out _ _ _ (kw7.trans k8 (fun _ f => f.elim)) HN3.out).mono ?_
          rintro e w9 ⟨k9, s, er, rfl, ⟨rfl, b', A3, c3, rfl, hG⟩ | ⟨her, rfl, hG⟩⟩
          · obtain rfl : b' = b := hG.out.1.uniq HBM.out.2
            have M3 := Lib.hid hG.out.2.2
            have hbl := E1.out
            rw [hbl]
            have kw9 := (kw7.trans k8 (fun _ f => f.elim)).trans k9 (fun _ f => f.elim)
            clear hG hbl
            go_wp2_with fail
            refine (HSS.out _ A3 c3 kw9 M3.out).mono ?_
            rintro e w10 ⟨rfl, k10⟩
            have kw10 := kw9.trans k10 (fun _ f => f.elim)
            go_wp2_with fail
            refine (HAL.out _).mono ?_
            rintro e w11 ⟨rfl, k11⟩
            go_wp2_with fail
            go_ret
            exact ⟨rfl, HD.out _ (kw10.trans k11 (fun _ f => f.elim))⟩
          · exact absurd HBM.out.2 (hG.out _)
        · exact absurd HBM.out.1 (hG.out _)
      · clear hG d0 d1
        go_wp2_with fail
        refine (HAL.out _).mono ?_
        rintro e w5 ⟨rfl, k5⟩
        go_wp2_with fail
        go_ret
        exact ⟨rfl, HD.out _ (((kw2.trans k3 (fun _ f => f.elim)).trans k4 (fun _ f => f.elim)).trans k5 (fun _ f => f.elim))⟩
  · go_wp2_with fail
    refine (HAL.out _).mono ?_
    rintro e w3 ⟨rfl, k3⟩
    go_wp2_with fail
    go_ret
    exact ⟨rfl, HD.out _ (kw2.trans k3 (fun _ f => f.elim))⟩

/-! ### The row's frame -/
theorem own : ownKnob Try.prog.godebug = none := by kernel_rfl
theorem walkA (W : World) (args : Array Value) (hsz : args.size = Try.f6.params.size) (hok : ∀ (j : Nat) (t : TypeId) (v : Value), Try.f6.params[j]? = some t → args[j]? = some v → Okv Try.prog W t v) :
    Calls Try.prog 6 args W fun e W' => e = .returned (.bool true) ∧ Below W.heap.size W W' := by
  rw [Try.params6] at hsz hok
  obtain ⟨v0, v1, rfl⟩ : ∃ v0 v1 : Value, args = #[v0, v1] := by
    obtain ⟨l⟩ := args
    match l, hsz with
    | [v0, v1], _ => exact ⟨v0, v1, rfl⟩
  exact walk W v0 v1 (hok 0 22 v0 rfl rfl) (hok 1 26 v1 rfl rfl)
set_option maxRecDepth 100000 in
theorem lifted (os : Os) (started : os.Started) (H : Type) (enc : TypeId × Value → H) :
    ReturnsInHanded {} Try.checked os 6 .any (Rows.valsetBackSpec.pre6 enc Try.prog Try.f6 Rows.valsetBackRow.domain false) (Rows.valsetBackSpec.post enc Try.prog Try.f6 false true false false) :=
  lifted_of_walk (C := Try.checked) (s := Rows.valsetBackSpec) (conds := Rows.valsetBackRow.domain) (apart := false) (fresh := true) (T := 4) own started (by kernel_rfl) Try.func6
    (ChangeSpec.witness6 (enc := enc) (C := Try.checked) false ⟨#[], #[.slice none 0 0, .agg #[.int .u64 0, .int .i64 0]], []⟩ 8 (by kernel_rfl) (by kernel_rfl) (by kernel_rfl) (by kernel_rfl))
    rfl (fun ds hd => by
      rw [Try.params6] at hd
      match ds, hd with
      | [d0, d1], _ => exact ⟨rfl, rfl, rfl⟩)
    (by kernel_rfl) Try.underlying4 (by kernel_rfl) (by rw [Try.params6]; intro t ht; simp only [List.mem_cons, List.not_mem_nil, or_false] at ht; rcases ht with rfl | rfl <;> exact ⟨by kernel_rfl, of_decide_eq_true (by kernel_rfl)⟩) walkA

theorem holds : Rows.valsetBackRow.holds Try.pinned (OpenSpec.ofChange Rows.valsetBackSpec) :=
  OpenClaim.holds_of_wide 6 Try.f6 rfl rfl rfl rfl rfl rfl rfl ⟨rfl, rfl, rfl, rfl, rfl⟩ rfl rfl rfl rfl rfl (by kernel_rfl) Try.func6 (by kernel_rfl)
    (of_decide_eq_true (by kernel_rfl)) (by unfold Func.isWrapper; first | (rw [if_pos (by decide +kernel)]; kernel_rfl) | (rw [if_neg (by decide +kernel)]; exact ⟨rfl, rfl⟩))
    (fun os started H enc _ => lifted os started H enc)
end Go.Proofs.Ytfkdfnelebaenaa.valsetBack
namespace Go.Proofs.Ytfkdfnelebaenaa
/-- The statement. -/
theorem valsetBack_holds : Rows.ValsetBackSaid := valsetBack.holds
end Go.Proofs.Ytfkdfnelebaenaa
