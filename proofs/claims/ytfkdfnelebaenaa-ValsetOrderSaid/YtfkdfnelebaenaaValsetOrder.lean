/- Of the program at this commit: the law ValsetOrder answers true for every set and every two changes (of two keys they may be done in either order, or one by one); no condition. -/
import Derived.Test.YtfkdfnelebaenaaRows
import Derived.WalkKit
import Derived.ProofKit
import Derived.Test.YtfkdfnelebaenaaAv
namespace Go.Proofs.Ytfkdfnelebaenaa.valsetOrder
open Go.ChangeShapes Go.WideShapes Go.ChangeAt Go.RowKit
set_option linter.unusedVariables false

theorem two_ok {l r : List Va} {a b : Va} (h : Good l [a, b] r) : ∃ f, Rt l ∧ Rt r ∧ stepC (pw l) a = .ok (upd (pw l) a.key a.power) ∧ stepC (upd (pw l) a.key a.power) b = .ok f ∧ f = upd (upd (pw l) a.key a.power) b.key b.power ∧ Nf r f := by
  obtain ⟨f, h1, h2, h3, h4⟩ := h
  rw [runC] at h2
  split at h2
  · cases h2
  · rename_i g hg
    rw [runC_one] at h2
    obtain ⟨_, _, rfl, _⟩ := stepC_ok hg
    obtain ⟨_, _, e, _⟩ := stepC_ok h2
    exact ⟨f, h1, h4, hg, h2, e, h3⟩
theorem order_same {l x y : List Va} {a b : Va} (hne : a.key ≠ b.key) (h : Good l [a, b] x) (k : Good l [b, a] y) : x = y := by
  obtain ⟨f, _, _, _, _, e1, h1⟩ := two_ok h
  obtain ⟨g, _, _, _, _, e2, h2⟩ := two_ok k
  refine h1.uniq (h2.ext fun j => ?_)
  rw [e1, e2]
  unfold upd
  by_cases ea : j = a.key
  · rw [if_pos ea, if_neg (by omega), if_pos ea]
  · rw [if_neg ea]
    by_cases eb : j = b.key
    · rw [if_pos eb, if_pos eb]
    · rw [if_neg eb, if_neg eb, if_neg ea]
theorem order_next {l x p : List Va} {a b : Va} (h : Good l [a, b] x) (k : Good l [a] p) : Good p [b] x := by
  obtain ⟨f, _, h2, h3, h4, rfl, h5⟩ := two_ok h
  obtain ⟨g, _, k2, k3, k4⟩ := k
  rw [runC_one, h3] at k2
  injection k2 with k2
  subst k2
  obtain ⟨s1, s2, _, s3⟩ := stepC_ok h4
  refine ⟨upd (pw p) b.key b.power, k4, ?_, h5.ext fun j => ?_, h2⟩
  · rw [runC_one]
    exact stepC_mk s1 s2 (by rw [k3.pw]; exact s3)
  · unfold upd
    by_cases eb : j = b.key
    · rw [if_pos eb, if_pos eb]
    · rw [if_neg eb, if_neg eb]
      exact (k3.pw j).symm

set_option maxRecDepth 100000 in
set_option maxHeartbeats 6400000 in
theorem walk (W : World) (v0 v1 v2 : Value) (h0 : Okv Try.prog W 22 v0) (h1 : Okv Try.prog W 26 v1) (h2 : Okv Try.prog W 26 v2) :
    Calls Try.prog 7 #[v0, v1, v2] W fun e W' => e = .returned (.bool true) ∧ Below W.heap.size W W' := by
  obtain ⟨A, c, l, rfl, hl, M, ol⟩ := set_arg h0
  obtain ⟨x, rfl, ox⟩ := va_arg h1
  obtain ⟨y, rfl, oy⟩ := va_arg h2
  clear h0 h1 h2
  have HAL := Lib.hid (fun w => alive_any w)
  have DONE : ∀ w', Chg Non W w' → Below W.heap.size W w' := fun w' k => k.below (Nat.le_refl _) (fun _ f => f.elim)
  have HD := Lib.hid DONE
  clear DONE
  unfold maxLen at hl
  have FACTS : ∀ w1 w2, Hid (w1 = W.alloc (.cells #[.int .u64 (x.key : Int), .int .i64 x.power] 26)) → Hid (w2 = w1.alloc (.cells #[.int .u64 (y.key : Int), .int .i64 y.power] 26)) →
      Chg Non W w2 ∧ (w2.cell? ⟨W.heap.size, 0, none⟩ = some (.int .u64 (x.key : Int)) ∧ w2.cell? ⟨W.heap.size, 1, none⟩ = some (.int .i64 x.power)) ∧ (w2.cell? ⟨w1.heap.size, 0, none⟩ = some (.int .u64 (y.key : Int)) ∧ w2.cell? ⟨w1.heap.size, 1, none⟩ = some (.int .i64 y.power)) := by
    intro w1 w2 e1 e2
    have k1 : Chg Non W w1 := by rw [e1.out]; exact (Chg.refl Non W).alloc _
    have k2 : Chg Non w1 w2 := by rw [e2.out]; exact (Chg.refl Non w1).alloc _
    have b1 : Hb w1 W.heap.size 26 #[.int .u64 (x.key : Int), .int .i64 x.power] := by rw [e1.out]; exact Hb.new W _ _
    have b2 : Hb w2 w1.heap.size 26 #[.int .u64 (y.key : Int), .int .i64 y.power] := by rw [e2.out]; exact Hb.new w1 _ _
    have b1' := b1.chg k2 (fun f => f)
    exact ⟨k1.trans k2 (fun _ f => f.elim), ⟨b1'.cell 0, b1'.cell 1⟩, ⟨b2.cell 0, b2.cell 1⟩⟩
  have HF := Lib.hid FACTS
  clear FACTS
  by_cases b80 : 80 < l.length
  · have b1' : (80 : Int) < (l.length : Int) := by omega
    clear M ol ox oy
    generalize l.length = n1 at *
    go_enter Try.func7, Try.ntmps7
    go_wp2_with (first | (with_reducible refine wpList_box_row rfl _ _ rfl (cs := #[.int .u64 (x.key : Int), .int .i64 x.power]) rfl ?_; intro w1 hw1) | (with_reducible refine wpList_box_row rfl _ _ rfl (cs := #[.int .u64 (y.key : Int), .int .i64 y.power]) rfl ?_; intro w2 hw2; obtain ⟨kw2, ⟨p0, p1⟩, ⟨q0, q1⟩⟩ := HF.out w1 w2 hw1 hw2))
    refine (HAL.out _).mono ?_
    rintro e w3 ⟨rfl, k3⟩
    go_wp2_with fail
    go_ret
    exact ⟨rfl, HD.out _ (kw2.trans k3 (fun _ f => f.elim))⟩
  have b80' : ¬ (80 : Int) < (l.length : Int) := by omega
  by_cases hk : x.key = y.key
  · have hki : (x.key : Int) = (y.key : Int) := by omega
    clear M ol ox oy
    generalize l.length = n1 at *
    go_enter Try.func7, Try.ntmps7
    go_wp2_with (first | (with_reducible refine wpList_box_row rfl _ _ rfl (cs := #[.int .u64 (x.key : Int), .int .i64 x.power]) rfl ?_; intro w1 hw1) | (with_reducible refine wpList_box_row rfl _ _ rfl (cs := #[.int .u64 (y.key : Int), .int .i64 y.power]) rfl ?_; intro w2 hw2; obtain ⟨kw2, ⟨p0, p1⟩, ⟨q0, q1⟩⟩ := HF.out w1 w2 hw1 hw2))
    refine (HAL.out _).mono ?_
    rintro e w3 ⟨rfl, k3⟩
    go_wp2_with fail
    go_ret
    exact ⟨rfl, HD.out _ (kw2.trans k3 (fun _ f => f.elim))⟩
  have hki : ¬ (x.key : Int) = (y.key : Int) := by omega
  have HK := Lib.hid hk
  have OY := Lib.hid oy
  have HU : Hid (∀ w' B d, Chg Non W w' → LstM w' B [x] Va.cells 2 → Calls Try.prog 9 #[.slice A l.length c, .slice B 1 d] w' (UpG w' l [x])) := Lib.hid fun w' B d k N => Update_good w' A B c d l [x] (by omega) (by simp) ol (by intro z hz; simp at hz; subst hz; exact ox) (M.chg k) N
  have HUxy : Hid (∀ w' B d, Chg Non W w' → LstM w' B [x, y] Va.cells 2 → Calls Try.prog 9 #[.slice A l.length c, .slice B 2 d] w' (UpG w' l [x, y])) := Lib.hid fun w' B d k N => Update_good w' A B c d l _ (by omega) (by simp) ol (by intro z hz; simp at hz; rcases hz with rfl | rfl; exact ox; exact oy) (M.chg k) N
  have HUyx : Hid (∀ w' B d, Chg Non W w' → LstM w' B [y, x] Va.cells 2 → Calls Try.prog 9 #[.slice A l.length c, .slice B 2 d] w' (UpG w' l [y, x])) := Lib.hid fun w' B d k N => Update_good w' A B c d l _ (by omega) (by simp) ol (by intro z hz; simp at hz; rcases hz with rfl | rfl; exact oy; exact ox) (M.chg k) N
  clear M ol ox oy
  generalize l.length = n1 at *
  go_enter Try.func7, Try.ntmps7
  go_wp2_with (first | (with_reducible refine wpList_box_row rfl _ _ rfl (cs := #[.int .u64 (x.key : Int), .int .i64 x.power]) rfl ?_; intro w1 hw1) | (with_reducible refine wpList_box_row rfl _ _ rfl (cs := #[.int .u64 (y.key : Int), .int .i64 y.power]) rfl ?_; intro w2 hw2; obtain ⟨kw2, ⟨p0, p1⟩, ⟨q0, q1⟩⟩ := HF.out w1 w2 hw1 hw2))
  have N3 := Lib.hid (two_new w2 x y)
  have k3 : Chg Non w2 (w2.alloc (.cells #[.int .u64 (x.key : Int), .int .i64 x.power, .int .u64 (y.key : Int), .int .i64 y.power] 26)) := (Chg.refl _ _).alloc _
  refine (HUxy.out _ _ _ (kw2.trans k3 (fun _ f => f.elim)) N3.out).mono ?_
  rintro e w4 ⟨k4, s, er, rfl, hX⟩
  have HX := Lib.hid hX
  have k24 := k3.trans k4 (fun _ f => f.elim)
  have kw4 := kw2.trans k24 (fun _ f => f.elim)
  have p0' := k24.cell p0 (fun f => f)
  have p1' := k24.cell p1 (fun f => f)
  have q0' := k24.cell q0 (fun f => f)
  have q1' := k24.cell q1 (fun f => f)
  have N5 := Lib.hid (two_new w4 y x)
  have k5 : Chg Non w4 (w4.alloc (.cells #[.int .u64 (y.key : Int), .int .i64 y.power, .int .u64 (x.key : Int), .int .i64 x.power] 26)) := (Chg.refl _ _).alloc _
  clear p0 p1 q0 q1 hX hk
  go_wp2_with fail
  refine (HUyx.out _ _ _ (kw4.trans k5 (fun _ f => f.elim)) N5.out).mono ?_
  rintro e w6 ⟨k6, s', er', rfl, hY⟩
  have k46 := k5.trans k6 (fun _ f => f.elim)
  have kw6 := kw4.trans k46 (fun _ f => f.elim)
  have p0 := k46.cell p0' (fun f => f)
  have p1 := k46.cell p1' (fun f => f)
  have q0 := k46.cell q0' (fun f => f)
  have q1 := k46.cell q1' (fun f => f)
  clear p0' p1' q0' q1'
  rcases HX.out with ⟨rfl, a, A1, c1, rfl, hG⟩ | ⟨her, rfl, _⟩
  · rcases hY with ⟨rfl, a', A2, c2, rfl, hG2⟩ | ⟨her, rfl, _⟩
    · obtain rfl : a = a' := order_same HK.out hG.out.1 hG2.out.1
      have hal : a.length ≤ 64 := by obtain ⟨f, _, _, _, h⟩ := hG.out.1; exact h.2.1
      have M1 := Lib.hid (hG.out.2.2.chg k46)
      have M2 := Lib.hid hG2.out.2.2
      have HGA := Lib.hid hG.out.1
      have HSS : Hid (∀ w' A' c' A'' c'', LstM w' A' a Va.cells 2 → LstM w' A'' a Va.cells 2 → Calls Try.prog 11 #[.slice A' a.length c', .slice A'' a.length c''] w' (Zero w' (.bool true))) := Lib.hid fun w' A' c' A'' c'' m1 m2 => sameSet_yes w' A' A'' c' c'' a (by unfold maxLen; omega) m1 m2
      generalize hna : a.length = na at *
      have EA := Lib.hid hna
      clear hG hG2 HX hna
      go_wp2_with fail
      refine (HSS.out _ A1 c1 A2 c2 M1.out M2.out).mono ?_
      rintro e w7 ⟨rfl, k7⟩
      have kw7 := kw6.trans k7 (fun _ f => f.elim)
      have M1' := Lib.hid (M1.out.chg k7)
      have p0' := k7.cell p0 (fun f => f)
      have p1' := k7.cell p1 (fun f => f)
      have q0' := k7.cell q0 (fun f => f)
      have q1' := k7.cell q1 (fun f => f)
      have N8 := Lib.hid (one_new w7 x)
      have k8 : Chg Non w7 (w7.alloc (.cells #[.int .u64 (x.key : Int), .int .i64 x.power] 26)) := (Chg.refl _ _).alloc _
      clear p0 p1 q0 q1 M1
      go_wp2_with fail
      refine (HU.out _ _ _ (kw7.trans k8 (fun _ f => f.elim)) N8.out).mono ?_
      rintro e w9 ⟨k9, s, er, rfl, ⟨rfl, p, A3, c3, rfl, hG⟩ | ⟨her, rfl, _⟩⟩
      · have k79 := k8.trans k9 (fun _ f => f.elim)
        have kw9 := kw7.trans k79 (fun _ f => f.elim)
        have M1 := Lib.hid (M1'.out.chg k79)
        have q0 := k79.cell q0' (fun f => f)
        have q1 := k79.cell q1' (fun f => f)
        have HNX := Lib.hid (order_next HGA.out hG.out.1)
        have hpl : p.length ≤ 64 := by obtain ⟨f, _, _, _, h⟩ := hG.out.1; exact h.2.1
        have HUP : Hid (∀ w' B d, Chg Non w9 w' → LstM w' B [y] Va.cells 2 → Calls Try.prog 9 #[.slice A3 p.length c3, .slice B 1 d] w' (UpG w' p [y])) := Lib.hid fun w' B d k N => Update_good w' A3 B c3 d p [y] (by omega) (by simp) hG.out.2.1 (by intro z hz; simp at hz; subst hz; exact OY.out) (hG.out.2.2.chg k) N
        have N10 := Lib.hid (one_new w9 y)
        have k10 : Chg Non w9 (w9.alloc (.cells #[.int .u64 (y.key : Int), .int .i64 y.power] 26)) := (Chg.refl _ _).alloc _
        generalize p.length = np at *
        clear hG p0' p1' q0' q1' hpl
        go_wp2_with fail
        refine (HUP.out _ _ _ k10 N10.out).mono ?_
        rintro e w11 ⟨k11, s, er, rfl, ⟨rfl, q, A4, c4, rfl, hG⟩ | ⟨her, rfl, hG⟩⟩
        · obtain rfl : q = a := hG.out.1.uniq HNX.out
          have k911 := k10.trans k11 (fun _ f => f.elim)
          have kw11 := kw9.trans k911 (fun _ f => f.elim)
          have M4 := Lib.hid hG.out.2.2
          have hna := EA.out
          rw [hna]
          clear hG hna
          go_wp2_with fail
          refine (HSS.out _ A4 c4 A1 c1 M4.out (M1.out.chg k911)).mono ?_
          rintro e w12 ⟨rfl, k12⟩
          have kw12 := kw11.trans k12 (fun _ f => f.elim)
          go_wp2_with fail
          refine (HAL.out _).mono ?_
          rintro e w13 ⟨rfl, k13⟩
          go_wp2_with fail
          go_ret
          exact ⟨rfl, HD.out _ (kw12.trans k13 (fun _ f => f.elim))⟩
        · exact absurd HNX.out (hG.out _)
      · have kw9 := (kw7.trans k8 (fun _ f => f.elim)).trans k9 (fun _ f => f.elim)
        go_wp2_with fail
        refine (HAL.out _).mono ?_
        rintro e w10 ⟨rfl, k10⟩
        go_wp2_with fail
        go_ret
        exact ⟨rfl, HD.out _ (kw9.trans k10 (fun _ f => f.elim))⟩
    · clear HX hG
      go_wp2_with fail
      refine (HAL.out _).mono ?_
      rintro e w7 ⟨rfl, k7⟩
      go_wp2_with fail
      go_ret
      exact ⟨rfl, HD.out _ (kw6.trans k7 (fun _ f => f.elim))⟩
  · clear HX hY
    go_wp2_with fail
    refine (HAL.out _).mono ?_
    rintro e w7 ⟨rfl, k7⟩
    go_wp2_with fail
    go_ret
    exact ⟨rfl, HD.out _ (kw6.trans k7 (fun _ f => f.elim))⟩

/-! ### The row's frame -/
theorem own : ownKnob Try.prog.godebug = none := by kernel_rfl
theorem walkA (W : World) (args : Array Value) (hsz : args.size = Try.f7.params.size) (hok : ∀ (j : Nat) (t : TypeId) (v : Value), Try.f7.params[j]? = some t → args[j]? = some v → Okv Try.prog W t v) :
    Calls Try.prog 7 args W fun e W' => e = .returned (.bool true) ∧ Below W.heap.size W W' := by
  rw [Try.params7] at hsz hok
  obtain ⟨v0, v1, v2, rfl⟩ : ∃ v0 v1 v2 : Value, args = #[v0, v1, v2] := by
    obtain ⟨l⟩ := args
    match l, hsz with
    | [v0, v1, v2], _ => exact ⟨v0, v1, v2, rfl⟩
  exact walk W v0 v1 v2 (hok 0 22 v0 rfl rfl) (hok 1 26 v1 rfl rfl) (hok 2 26 v2 rfl rfl)
set_option maxRecDepth 100000 in
theorem lifted (os : Os) (started : os.Started) (H : Type) (enc : TypeId × Value → H) :
    ReturnsInHanded {} Try.checked os 7 .any (Rows.valsetOrderSpec.pre6 enc Try.prog Try.f7 Rows.valsetOrderRow.domain false) (Rows.valsetOrderSpec.post enc Try.prog Try.f7 false true false false) :=
  lifted_of_walk (C := Try.checked) (s := Rows.valsetOrderSpec) (conds := Rows.valsetOrderRow.domain) (apart := false) (fresh := true) (T := 4) own started (by kernel_rfl) Try.func7
    (ChangeSpec.witness6 (enc := enc) (C := Try.checked) false ⟨#[], #[.slice none 0 0, .agg #[.int .u64 0, .int .i64 0], .agg #[.int .u64 0, .int .i64 0]], []⟩ 8 (by kernel_rfl) (by kernel_rfl) (by kernel_rfl) (by kernel_rfl))
    rfl (fun ds hd => by
      rw [Try.params7] at hd
      match ds, hd with
      | [d0, d1, d2], _ => exact ⟨rfl, rfl, rfl⟩)
    (by kernel_rfl) Try.underlying4 (by kernel_rfl) (by rw [Try.params7]; intro t ht; simp only [List.mem_cons, List.not_mem_nil, or_false] at ht; rcases ht with rfl | rfl | rfl <;> exact ⟨by kernel_rfl, of_decide_eq_true (by kernel_rfl)⟩) walkA

theorem holds : Rows.valsetOrderRow.holds Try.pinned (OpenSpec.ofChange Rows.valsetOrderSpec) :=
  OpenClaim.holds_of_wide 7 Try.f7 rfl rfl rfl rfl rfl rfl rfl ⟨rfl, rfl, rfl, rfl, rfl⟩ rfl rfl rfl rfl rfl (by kernel_rfl) Try.func7 (by kernel_rfl)
    (of_decide_eq_true (by kernel_rfl)) (by unfold Func.isWrapper; first | (rw [if_pos (by decide +kernel)]; kernel_rfl) | (rw [if_neg (by decide +kernel)]; exact ⟨rfl, rfl⟩))
    (fun os started H enc _ => lifted os started H enc)
end Go.Proofs.Ytfkdfnelebaenaa.valsetOrder
namespace Go.Proofs.Ytfkdfnelebaenaa
/-- The statement. -/
theorem valsetOrder_holds : Rows.ValsetOrderSaid := valsetOrder.holds
end Go.Proofs.Ytfkdfnelebaenaa
