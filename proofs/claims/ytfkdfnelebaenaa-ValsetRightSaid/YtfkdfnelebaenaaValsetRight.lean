/- Of the program at this commit: the law ValsetRight answers true for every set, every changes and every key (what Update answers is right, each key that a change names has the power that the last such change gives it, all others what they had); no condition. -/
import Derived.Test.YtfkdfnelebaenaaRows
import Derived.WalkKit
import Derived.ProofKit
import Derived.Test.YtfkdfnelebaenaaAv
namespace Go.Proofs.Ytfkdfnelebaenaa.valsetRight
open Go.ChangeShapes Go.WideShapes Go.ChangeAt Go.RowKit
set_option linter.unusedVariables false

set_option maxRecDepth 100000 in
set_option maxHeartbeats 6400000 in
theorem walk (W : World) (v0 v1 v2 : Value) (h0 : Okv Try.prog W 22 v0) (h1 : Okv Try.prog W 22 v1) (h2 : Okv Try.prog W 24 v2) :
    Calls Try.prog 4 #[v0, v1, v2] W fun e W' => e = .returned (.bool true) ∧ Below W.heap.size W W' := by
  obtain ⟨A, c, l, rfl, hl, M, ol⟩ := set_arg h0
  obtain ⟨B, d, ch, rfl, hch, N, och⟩ := set_arg h1
  obtain ⟨key, rfl, hkey⟩ := key_arg h2
  clear h0 h1 h2
  have HAL := Lib.hid (fun w => alive_any w)
  have DONE : ∀ w', Chg Non W w' → Below W.heap.size W w' := fun w' k => k.below (Nat.le_refl _) (fun _ f => f.elim)
  have HD := Lib.hid DONE
  clear DONE
  unfold maxLen at hl hch
  by_cases b1 : 80 < l.length
  · have b1' : (80 : Int) < (l.length : Int) := by omega
    clear M N ol och
    generalize l.length = n1 at *
    generalize ch.length = n2 at *
    go_enter Try.func4, Try.ntmps4
    go_wp2_with fail
    refine (HAL.out _).mono ?_
    rintro e w1 ⟨rfl, k1⟩
    go_wp2_with fail
    go_ret
    exact ⟨rfl, HD.out _ k1⟩
  by_cases b2 : 80 < ch.length
  · have b2' : (80 : Int) < (ch.length : Int) := by omega
    have b1' : ¬ (80 : Int) < (l.length : Int) := by omega
    clear M N ol och
    generalize l.length = n1 at *
    generalize ch.length = n2 at *
    go_enter Try.func4, Try.ntmps4
    go_wp2_with fail
    refine (HAL.out _).mono ?_
    rintro e w1 ⟨rfl, k1⟩
    go_wp2_with fail
    go_ret
    exact ⟨rfl, HD.out _ k1⟩
  have b1' : ¬ (80 : Int) < (l.length : Int) := by omega
  have b2' : ¬ (80 : Int) < (ch.length : Int) := by omega
  have HU := Lib.hid (Update_good W A B c d l ch (by omega) (by omega) ol och M N)
  have HP : Hid (∀ w', Chg Non W w' → Calls Try.prog 12 #[.slice A l.length c, .int .u64 (key : Int)] w' (Zero w' (.int .i64 (pw l key)))) := Lib.hid fun w' k => Power_any w' A c key l (by unfold maxLen; omega) (M.chg k)
  have HN := Lib.hid N
  clear M N ol och
  generalize hn1 : l.length = n1 at *
  generalize hn2 : ch.length = n2 at *
  have E2 := Lib.hid hn2
  clear hn1 hn2
  go_enter Try.func4, Try.ntmps4
  go_wp2_with fail
  refine HU.out.mono ?_
  rintro e w1 ⟨k1, s, er, rfl, ⟨rfl, r, A', c', rfl, hG⟩ | ⟨her, rfl, hG⟩⟩
  · have HPr : Hid (∀ w', Chg Non w1 w' → Calls Try.prog 12 #[.slice A' r.length c', .int .u64 (key : Int)] w' (Zero w' (.int .i64 (pw r key)))) := Lib.hid fun w' k => Power_any w' A' c' key r (by have := hG.out.1; obtain ⟨f, _, _, _, h⟩ := this; have := h.2.1; unfold maxLen; omega) (hG.out.2.2.chg k)
    have HRr : Hid (∀ w', Chg Non w1 w' → Calls Try.prog 13 #[.slice A' r.length c'] w' (Yes w' (Rt r))) := Lib.hid fun w' k => Right_any w' A' c' r (by have := hG.out.1; obtain ⟨f, _, _, _, h⟩ := this; have := h.2.1; unfold maxLen; omega) hG.out.2.1 (hG.out.2.2.chg k)
    have HRT : Hid (Rt r) := Lib.hid (by obtain ⟨f, _, _, _, h⟩ := hG.out.1; exact h)
    have HL : Hid (lastP (pw l key) ch key = pw r key) := Lib.hid (by
      obtain ⟨f, _, h1, h2, _⟩ := hG.out.1
      rw [h2.pw, runC_last h1 key])
    clear hG
    generalize r.length = nr at *
    generalize pw r key = pr at *
    generalize hpl : pw l key = pl at *
    clear hpl
    go_wp2_with fail
    refine (HP.out _ k1).mono ?_
    rintro e w2 ⟨rfl, k2⟩
    have k12 := k1.trans k2 (fun _ f => f.elim)
    go_wp2_with fail
    go_loopw [9, 10] (fun want i wr => ∃ k : Nat, k ≤ n2 ∧ i = .int .i64 (k : Int) ∧ want = .int .i64 (lastP pl (ch.take k) key) ∧ Chg Non w2 wr) (fun _ i _ => n2 - (intOf i).toNat)
    case atStart => exact ⟨0, by omega, rfl, rfl, Chg.refl _ _⟩
    case round =>
      obtain ⟨k, hk, rfl, rfl, hC⟩ := hrel
      by_cases hlt : k < n2
      · have hki : (k : Int) < (n2 : Int) := by omega
        have hkl : k < ch.length := by rw [E2.out]; exact hlt
        obtain ⟨x, hx⟩ : ∃ x, ch[k]? = some x := ⟨_, List.getElem?_eq_getElem hkl⟩
        obtain ⟨a, ao, rfl, _, r1⟩ := (HN.out.chg (k12.trans hC (fun _ f => f.elim))) _ _ hx
        obtain ⟨p0, p1⟩ := rangeAt_cons r1
        obtain ⟨p1, _⟩ := rangeAt_cons p1
        have HX : Hid (lastP pl (ch.take (k + 1)) key = if x.key = key then x.power else lastP pl (ch.take k) key) := Lib.hid (by rw [take_next hx, lastP_app]; rfl)
        generalize lastP pl (ch.take k) key = q at *
        clear r1 hx hkl hk
        by_cases hxk : x.key = key
        · have hxi : (x.key : Int) = (key : Int) := by omega
          rw [if_pos hxk] at HX
          clear hxk
          go_wp2_with fail
          go_roundw
          case rel => exact ⟨k + 1, by omega, by go_num, by rw [HX.out], hC⟩
          case measure => simp [intOf]; omega
        · have hxi : ¬ (x.key : Int) = (key : Int) := by omega
          rw [if_neg hxk] at HX
          go_wp2_with fail
          go_roundw
          case rel => exact ⟨k + 1, by omega, by go_num, by rw [HX.out], hC⟩
          case measure => simp [intOf]; omega
      · obtain rfl : k = n2 := by omega
        have el : ch.take k = ch := List.take_of_length_le (by rw [E2.out]; exact Nat.le_refl _)
        rw [el, HL.out]
        clear el
        go_wp2_with fail
        refine (HAL.out _).mono ?_
        rintro e w3 ⟨rfl, k3⟩
        have k13 := (k2.trans hC (fun _ f => f.elim)).trans k3 (fun _ f => f.elim)
        go_wp2_with fail
        refine (HRr.out _ k13).mono ?_
        rintro e w4 ⟨k4, b, rfl, hb⟩
        obtain rfl : b = true := hb.2 HRT.out
        clear hb
        have k14 := k13.trans k4 (fun _ f => f.elim)
        go_wp2_with fail
        refine (HPr.out _ k14).mono ?_
        rintro e w5 ⟨rfl, k5⟩
        go_wp2_with fail
        go_ret
        exact ⟨rfl, HD.out _ (k1.trans (k14.trans k5 (fun _ f => f.elim)) (fun _ f => f.elim))⟩
  · clear hG
    go_wp2_with fail
    refine (HAL.out _).mono ?_
    rintro e w2 ⟨rfl, k2⟩
    go_wp2_with fail
    go_ret
    exact ⟨rfl, HD.out _ (k1.trans k2 (fun _ f => f.elim))⟩

/-! ### The row's frame -/
theorem own : ownKnob Try.prog.godebug = none := by kernel_rfl
theorem walkA (W : World) (args : Array Value) (hsz : args.size = Try.f4.params.size) (hok : ∀ (j : Nat) (t : TypeId) (v : Value), Try.f4.params[j]? = some t → args[j]? = some v → Okv Try.prog W t v) :
    Calls Try.prog 4 args W fun e W' => e = .returned (.bool true) ∧ Below W.heap.size W W' := by
  rw [Try.params4] at hsz hok
  obtain ⟨v0, v1, v2, rfl⟩ : ∃ v0 v1 v2 : Value, args = #[v0, v1, v2] := by
    obtain ⟨l⟩ := args
    match l, hsz with
    | [v0, v1, v2], _ => exact ⟨v0, v1, v2, rfl⟩
  exact walk W v0 v1 v2 (hok 0 22 v0 rfl rfl) (hok 1 22 v1 rfl rfl) (hok 2 24 v2 rfl rfl)
set_option maxRecDepth 100000 in
theorem lifted (os : Os) (started : os.Started) (H : Type) (enc : TypeId × Value → H) :
    ReturnsInHanded {} Try.checked os 4 .any (Rows.valsetRightSpec.pre6 enc Try.prog Try.f4 Rows.valsetRightRow.domain false) (Rows.valsetRightSpec.post enc Try.prog Try.f4 false true false false) :=
  lifted_of_walk (C := Try.checked) (s := Rows.valsetRightSpec) (conds := Rows.valsetRightRow.domain) (apart := false) (fresh := true) (T := 4) own started (by kernel_rfl) Try.func4
    (ChangeSpec.witness6 (enc := enc) (C := Try.checked) false ⟨#[], #[.slice none 0 0, .slice none 0 0, .int .u64 0], []⟩ 8 (by kernel_rfl) (by kernel_rfl) (by kernel_rfl) (by kernel_rfl))
    rfl (fun ds hd => by
      rw [Try.params4] at hd
      match ds, hd with
      | [d0, d1, d2], _ => exact ⟨rfl, rfl, rfl⟩)
    (by kernel_rfl) Try.underlying4 (by kernel_rfl) (by rw [Try.params4]; intro t ht; simp only [List.mem_cons, List.not_mem_nil, or_false] at ht; rcases ht with rfl | rfl | rfl <;> exact ⟨by kernel_rfl, of_decide_eq_true (by kernel_rfl)⟩) walkA

theorem holds : Rows.valsetRightRow.holds Try.pinned (OpenSpec.ofChange Rows.valsetRightSpec) :=
  OpenClaim.holds_of_wide 4 Try.f4 rfl rfl rfl rfl rfl rfl rfl ⟨rfl, rfl, rfl, rfl, rfl⟩ rfl rfl rfl rfl rfl (by kernel_rfl) Try.func4 (by kernel_rfl)
    (of_decide_eq_true (by kernel_rfl)) (by unfold Func.isWrapper; first | (rw [if_pos (by decide +kernel)]; kernel_rfl) | (rw [if_neg (by decide +kernel)]; exact ⟨rfl, rfl⟩))
    (fun os started H enc _ => lifted os started H enc)
end Go.Proofs.Ytfkdfnelebaenaa.valsetRight
namespace Go.Proofs.Ytfkdfnelebaenaa
/-- The statement. -/
theorem valsetRight_holds : Rows.ValsetRightSaid := valsetRight.holds
end Go.Proofs.Ytfkdfnelebaenaa
