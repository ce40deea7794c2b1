/- The document's Total, Order, Proposer, Turn; turns.Turn. -/
import Derived.Deep.QuietTactic
import Derived.BigQuiet
import Derived.Test.YtalfaoljbhmihaaTo
import Derived.Test.YtalfaoljbhmihaaYs
namespace Go.Proofs.Ytalfaoljbhmihaa
open Go.RowKit Go.Shelf
set_option linter.unusedVariables false
set_option linter.unusedSimpArgs false
set_option maxRecDepth 20000

def tv (h r : Int) : Int := if 1 ≤ h ∧ h ≤ 1099511627776 ∧ 0 ≤ r ∧ r ≤ 1048576 then (h + r) % 4096 else 0

set_option maxHeartbeats 1600000 in
theorem Turn_any (w : World) (h r : Int) (hh : -9223372036854775808 ≤ h ∧ h ≤ 9223372036854775807) (hr : -9223372036854775808 ≤ r ∧ r ≤ 9223372036854775807) :
    Calls Try.prog 10 #[.int .i64 h, .int .i64 r] w fun e w' => w' = w ∧ e = .returned (.int .i64 (tv h r)) := by
  unfold tv
  go_enter Try.func10, Try.ntmps10
  by_cases c : 1 ≤ h ∧ h ≤ 1099511627776 ∧ 0 ≤ r ∧ r ≤ 1048576
  · rw [if_pos c]
    obtain ⟨c1, c2, c3, c4⟩ := c
    have n1 : ¬ h < 1 := by omega
    have n2 : ¬ 1099511627776 < h := by omega
    have n3 : ¬ r < 0 := by omega
    have n4 : ¬ 1048576 < r := by omega
    go_wp2_with fail
    go_ret
    exact ⟨rfl, rfl⟩
  · rw [if_neg c]
    go_wp2_with fail
    all_goals first
      | (go_ret; exact ⟨rfl, rfl⟩)
      | (exfalso; omega)

set_option maxHeartbeats 1600000 in
theorem rTurn_any (w : World) (h r : Int) (hh : -9223372036854775808 ≤ h ∧ h ≤ 9223372036854775807) (hr : -9223372036854775808 ≤ r ∧ r ≤ 9223372036854775807) :
    Calls Try.prog 11 #[.int .i64 h, .int .i64 r] w fun e w' => w' = w ∧ e = .returned (.int .i64 (tv h r)) := by
  unfold tv
  go_enter Try.func11, Try.ntmps11
  by_cases c : 1 ≤ h ∧ h ≤ 1099511627776 ∧ 0 ≤ r ∧ r ≤ 1048576
  · rw [if_pos c]
    obtain ⟨c1, c2, c3, c4⟩ := c
    have n1 : ¬ h < 1 := by omega
    have n2 : ¬ 1099511627776 < h := by omega
    have n3 : ¬ r < 0 := by omega
    have n4 : ¬ 1048576 < r := by omega
    go_wp2_with fail
    go_ret
    exact ⟨rfl, rfl⟩
  · rw [if_neg c]
    go_wp2_with fail
    all_goals first
      | (go_ret; exact ⟨rfl, rfl⟩)
      | (exfalso; omega)


theorem rRight_yes (w : World) (A : Option Addr) (c : Nat) (l : List Va) (hl : l.length ≤ maxLen) (ol : ∀ x ∈ l, x.Ok) (M : LstM w A l Va.cells 2) (h : Rt l) :
    Calls Try.prog 16 #[.slice A l.length c] w fun e w' => Chg Non w w' ∧ e = .returned (.bool true) := by
  refine (rRight_any w A c l hl ol M).mono ?_
  rintro e w' ⟨k, b, rfl, hb⟩
  exact ⟨k, by rw [hb.2 h]⟩
theorem rRight_no (w : World) (A : Option Addr) (c : Nat) (l : List Va) (hl : l.length ≤ maxLen) (ol : ∀ x ∈ l, x.Ok) (M : LstM w A l Va.cells 2) (h : ¬ Rt l) :
    Calls Try.prog 16 #[.slice A l.length c] w fun e w' => Chg Non w w' ∧ e = .returned (.bool false) := by
  refine (rRight_any w A c l hl ol M).mono ?_
  rintro e w' ⟨k, b, rfl, hb⟩
  refine ⟨k, ?_⟩
  cases b
  · rfl
  · exact absurd (hb.1 rfl) h
theorem rSum_yes (w : World) (A : Option Addr) (c : Nat) (l : List Va) (hl : l.length ≤ maxLen) (ol : ∀ x ∈ l, x.Ok) (M : LstM w A l Va.cells 2) (h : Rt l) :
    Calls Try.prog 22 #[.slice A l.length c] w fun e w' => Chg Non w w' ∧ e = .returned (.int .i64 (sumP l)) := by
  refine (rSum_any w A c l hl ol M).mono ?_
  rintro e w' ⟨k, s, rfl, hs⟩
  rcases hs.out with ⟨_, rfl⟩ | ⟨h', _⟩
  · exact ⟨k, rfl⟩
  · exact absurd h.2.2.2 h'

set_option maxHeartbeats 1600000 in
theorem rTotal_any (w : World) (A : Option Addr) (c : Nat) (l : List Va) (hl : l.length ≤ maxLen) (ol : ∀ x ∈ l, x.Ok) (M : LstM w A l Va.cells 2) :
    Calls Try.prog 15 #[.slice A l.length c] w (Tot w l) := by
  by_cases h : Rt l
  · have H1 := Lib.hid (rRight_yes w A c l hl ol M h)
    have H2 : Hid (∀ w', Chg Non w w' → _) := Lib.hid fun w' k => rSum_yes w' A c l hl ol (M.chg k) h
    clear M ol
    go_enter Try.func15, Try.ntmps15
    go_wp2_with fail
    refine H1.out.mono ?_
    rintro e w1 ⟨k1, rfl⟩
    go_wp2_with fail
    refine (H2.out _ k1).mono ?_
    rintro e w2 ⟨k2, rfl⟩
    go_wp2_with fail
    go_ret2
    exact ⟨k1.trans k2 (fun _ f => f.elim), .inl ⟨h, rfl⟩⟩
  · have H1 := Lib.hid (rRight_no w A c l hl ol M h)
    clear M ol
    go_enter Try.func15, Try.ntmps15
    go_wp2_with fail
    refine H1.out.mono ?_
    rintro e w1 ⟨k1, rfl⟩
    go_wp2_with fail
    go_ret2
    exact ⟨k1, .inr ⟨h, rfl⟩⟩
theorem rTotal_yes (w : World) (A : Option Addr) (c : Nat) (l : List Va) (hl : l.length ≤ maxLen) (ol : ∀ x ∈ l, x.Ok) (M : LstM w A l Va.cells 2) (h : Rt l) :
    Calls Try.prog 15 #[.slice A l.length c] w fun e w' => Chg Non w w' ∧ e = .returned (.tuple #[.int .i64 (sumP l), .int .i64 0]) := by
  refine (rTotal_any w A c l hl ol M).mono ?_
  rintro e w' ⟨k, ⟨_, rfl⟩ | ⟨h', _⟩⟩
  · exact ⟨k, rfl⟩
  · exact absurd h h'
theorem rTotal_no (w : World) (A : Option Addr) (c : Nat) (l : List Va) (hl : l.length ≤ maxLen) (ol : ∀ x ∈ l, x.Ok) (M : LstM w A l Va.cells 2) (h : ¬ Rt l) :
    Calls Try.prog 15 #[.slice A l.length c] w fun e w' => Chg Non w w' ∧ e = .returned (.tuple #[.int .i64 0, .int .i64 71]) := by
  refine (rTotal_any w A c l hl ol M).mono ?_
  rintro e w' ⟨k, ⟨h', _⟩ | ⟨_, rfl⟩⟩
  · exact absurd h' h
  · exact ⟨k, rfl⟩

set_option maxHeartbeats 3200000 in
theorem rOrder_any (w : World) (A : Option Addr) (c : Nat) (l : List Va) (hl : l.length ≤ maxLen) (ol : ∀ x ∈ l, x.Ok) (M : LstM w A l Va.cells 2) (n : Int) :
    Calls Try.prog 6 #[.slice A l.length c, .int .i64 n] w (Ord w l n) := by
  by_cases hr : ¬ Rt l
  · have H1 := Lib.hid (rTotal_no w A c l hl ol M hr)
    clear M ol
    go_enter Try.func6, Try.ntmps6
    go_wp2_with fail
    refine H1.out.mono ?_
    rintro e w1 ⟨k1, rfl⟩
    go_wp2_with fail
    go_ret2
    exact ⟨k1, .inl ⟨hr, rfl⟩⟩
  replace hr : Rt l := Classical.not_not.1 hr
  have HT := Lib.hid (rTotal_yes w A c l hl ol M hr)
  by_cases h1 : n < 0
  · clear M ol
    go_enter Try.func6, Try.ntmps6
    go_wp2_with fail
    refine HT.out.mono ?_
    rintro e w1 ⟨k1, rfl⟩
    go_wp2_with fail
    go_ret2
    exact ⟨k1, .inr (.inl ⟨hr, .inl h1, rfl⟩)⟩
  by_cases h2 : 4096 < n
  · clear M ol
    go_enter Try.func6, Try.ntmps6
    go_wp2_with fail
    refine HT.out.mono ?_
    rintro e w1 ⟨k1, rfl⟩
    go_wp2_with fail
    go_ret2
    exact ⟨k1, .inr (.inl ⟨hr, .inr h2, rfl⟩)⟩
  obtain ⟨m, rfl⟩ : ∃ m : Nat, n = (m : Int) := ⟨n.toNat, by omega⟩
  have HM := Lib.hid M
  have HR := Lib.hid hr
  have hsm := sm_of_rt hr
  have HS := Lib.hid hsm
  have hP1 := hsm.1
  have hP2 := hsm.2.1
  have hlen := hr.2.1
  have hpos := hr.1
  have hmk := fun w1 : World => make_ints w1 l.length hlen
  have HMk := Lib.hid hmk
  have HBA : Hid (∀ w1 : World, w.heap.size ≤ w1.heap.size → ∀ j, abl A j → ¬ j = w1.heap.size) := Lib.hid fun w1 h j hj e => by have := abl_lt M hpos hj; omega
  obtain ⟨i0, hi, hz0, hz1, hz2⟩ := info_parts key_info
  clear M ol hr hl hmk hsm
  generalize hn : l.length = n at *
  have HL := Lib.hid hn
  clear hn
  go_enter Try.func6, Try.ntmps6
  go_wp2_with fail
  refine HT.out.mono ?_
  rintro e w1 ⟨k1, rfl⟩
  have hmk := HMk.out w1
  obtain ⟨W1, hW1⟩ : ∃ W1, w1.alloc (.cells (rowI (List.replicate n 0)) 3) = W1 := ⟨_, rfl⟩
  have hR1 : NumR W1 w1.heap.size (state l (sumP l) 0) := by
    rw [← hW1]
    have := Hb.new w1 3 (rowI (List.replicate n 0))
    unfold NumR state
    rw [HL.out]
    exact this
  have hC1 : Chg Non w W1 := by rw [← hW1]; exact k1.alloc _
  have hNA : ∀ j, abl A j → ¬ j = w1.heap.size := HBA.out w1 k1.size
  have hgw : w.heap.size ≤ w1.heap.size := k1.size
  rw [hW1] at hmk
  have HR1 := Lib.hid hR1
  have HC1 := Lib.hid hC1
  have HNA := Lib.hid hNA
  clear hW1 hR1 hC1 hNA HMk HBA HT
  generalize hg : w1.heap.size = g at *
  clear hg
  go_wp2_with fail
  go_loopw [9, 10] (fun o i wr => ∃ k : Nat, k ≤ m ∧ i = .int .i64 (k : Int) ∧ Hid (NumR wr g (state l (sumP l) k)) ∧ Hid (OwnK w.heap.size wr o (ords l k)) ∧ Chg Non w wr) (fun _ i _ => m - (intOf i).toNat)
  case atStart => exact ⟨0, by omega, rfl, HR1, Lib.hid (OwnK.nil _ _), HC1.out⟩
  case round =>
    obtain ⟨k, hk, rfl, hN, hO, hC⟩ := hrel
    obtain ⟨wo, rfl⟩ : ∃ wo, wo = wr := ⟨_, rfl⟩
    by_cases hlt : k < m
    · have hki : (k : Int) < (m : Int) := by omega
      have HPL := Lib.hid (state_len l (sumP l) k)
      have HBD := Lib.hid (state_bd HS.out k)
      have HST : Hid (turn l (sumP l) (state l (sumP l) k) = state l (sumP l) (k + 1)) := Lib.hid rfl
      have HON : Hid (ords l (k + 1) = ords l k ++ [keyAt l (pick l (state l (sumP l) k))]) := Lib.hid (ords_next l k)
      have HOO := Lib.hid (ords_len l k)
      generalize state l (sumP l) k = p at *
      generalize hPP : sumP l = P at *
      go_wp2_with fail
      go_loopw [11, 12] (fun s i wr => ∃ q : Nat, q ≤ n ∧ i = .int .i64 (q : Int) ∧ s = .int .i64 (bestTo (adds l p) q : Int) ∧ Hid (NumR wr g ((adds l p).take q ++ p.drop q)) ∧ Chg (fun k => k = g) wo wr) (fun _ i _ => n - (intOf i).toNat)
      case atStart => exact ⟨0, by omega, rfl, rfl, Lib.hid (by simpa using hN.out), Chg.refl _ _⟩
      case round =>
        obtain ⟨q, hq, rfl, rfl, hR, hCq⟩ := hrel
        by_cases hlq : q < n
        · have hql : q < l.length := by rw [HL.out]; exact hlq
          have hpl : p.length = l.length := HPL.out
          have hqp : q < p.length := by rw [hpl]; exact hql
          have hx := List.getElem?_eq_getElem hql
          have hc := List.getElem?_eq_getElem hqp
          obtain ⟨a, ao, rfl, hal, r1⟩ := ((HM.out.chg hC).chgS hCq HNA.out) _ _ hx
          have hag : ¬ a = g := HNA.out a ⟨_, rfl, rfl⟩
          have hcb := HBD.out _ (List.mem_of_getElem? hc)
          have hxb := HS.out.2.2 _ (List.mem_of_getElem? hx)
          obtain ⟨q1, q2⟩ := part_set hpl hx hc
          have HQ := Lib.hid q2
          have HX := Lib.hid hx
          have HCc := Lib.hid hc
          have c0 := hR.out.get q1
          have f0 := hR.out.froz q
          have hgl := hR.out.lt
          generalize l[q] = x at *
          generalize p[q] = d at *
          obtain ⟨p0, p1⟩ := rangeAt_cons r1
          obtain ⟨p1, _⟩ := rangeAt_cons p1
          have hqi : (q : Int) < (n : Int) := by omega
          clear r1 hx hc hql hqp q1 q2
          have hxk := nth_get (adds_get HX.out HCc.out)
          have hbk : bestTo (adds l p) q < n := by
            rcases bestTo_lt (adds l p) q with h | h <;> omega
          have hbs : bestTo (adds l p) q < q + 1 := by
            rcases bestTo_lt (adds l p) q with h | h <;> omega
          have hnext : bestTo (adds l p) (q + 1) = if nth (adds l p) (bestTo (adds l p) q) < nth (adds l p) q then q else bestTo (adds l p) q := rfl
          have hNx := Lib.hid hnext
          have cS := part_get (l := l) (p := p) (k := q + 1) hpl hbs (by rw [HL.out]; omega)
          have cK := part_get (l := l) (p := p) (k := q + 1) (i := q) hpl (by omega) (by rw [HL.out]; omega)
          rw [hxk] at hNx cK
          generalize hv : nth (adds l p) (bestTo (adds l p) q) = v at *
          generalize hsl : bestTo (adds l p) q = s at *
          clear hnext
          have hsi : (s : Int) < (n : Int) := by omega
          have hkm : k < 4096 := by omega
          go_wp2_with fail
          go_region
          obtain ⟨w2, hw2⟩ : ∃ w2, (wr.setCell ⟨g, q, none⟩ (.int .i64 (d + x.power))).drew = w2 := ⟨_, rfl⟩
          have hC2 : Chg (fun k => k = g) wo w2 := by rw [← hw2]; exact (hCq.setCell (.inl rfl) _).drew
          have hR2 : NumR w2 g ((adds l p).take (q + 1) ++ p.drop (q + 1)) := by
            rw [← hw2, ← HQ.out]
            exact hR.out.set q _
          have d1 := hR2.get cS
          have d2 := hR2.get cK
          have HR2 := Lib.hid hR2
          rw [hw2]
          clear hR2 hw2 cS cK c0 f0
          by_cases hgt : v < d + x.power
          · go_wp2_with fail
            go_quiet (fail)
            go_wp2_with fail
            go_roundw
            case rel => exact ⟨q + 1, by omega, by go_num, by rw [hNx.out, if_pos hgt], Lib.hid (HR2.out.chg (Chg.drewN (Chg.refl Non _) _) (fun f => f)), hC2.drewN _⟩
            case measure => simp [intOf]; omega
          · go_wp2_with fail
            go_quiet (fail)
            go_wp2_with fail
            go_roundw
            case rel => exact ⟨q + 1, by omega, by go_num, by rw [hNx.out, if_neg (by omega)], Lib.hid (HR2.out.chg (Chg.drewN (Chg.refl Non _) _) (fun f => f)), hC2.drewN _⟩
            case measure => simp [intOf]; omega
        · obtain rfl : q = n := by omega
          have hpl : p.length = l.length := HPL.out
          have e1 : (adds l p).take q ++ p.drop q = adds l p := by
            rw [List.take_of_length_le (by rw [adds_len hpl, HL.out]; omega), List.drop_of_length_le (by rw [hpl, HL.out]; omega), List.append_nil]
          have hR' := hR.out
          rw [e1] at hR'
          have hpk : pick l p < l.length := pick_lt (by rw [HL.out]; exact hpos)
          have hpa : pick l p < (adds l p).length := by rw [adds_len hpl]; exact hpk
          have hpe : bestTo (adds l p) q = pick l p := by unfold pick; rw [HL.out]
          have hturn : (adds l p).set (pick l p) (nth (adds l p) (pick l p) - P) = turn l P p := rfl
          have hg := List.getElem?_eq_getElem hpa
          obtain ⟨j, y, f, hy, hf, hyf⟩ := adds_mem (List.getElem_mem hpa)
          have b1 := HBD.out f (List.mem_of_getElem? hf)
          have b2 := HS.out.2.2 y (List.mem_of_getElem? hy)
          rw [nth_get hg] at hturn
          rw [hpe]
          obtain ⟨x, hx⟩ : ∃ x, l[pick l p]? = some x := ⟨_, List.getElem?_eq_getElem hpk⟩
          obtain ⟨a, ao, rfl, hal, r1⟩ := ((HM.out.chg hC).chgS hCq HNA.out) _ _ hx
          have hag : ¬ a = g := HNA.out a ⟨_, rfl, rfl⟩
          obtain ⟨p0, _⟩ := rangeAt_cons r1
          rw [keyAt_get hx] at HON
          rw [HL.out] at hpk
          have hT := Lib.hid hturn
          have c1 := hR'.get hg
          have f1 := hR'.froz (pick l p)
          have HRn := Lib.hid hR'
          have hgl := hR'.lt
          have hOb : ∀ j, vbl u9 j → ¬ j = g := fun j hj e => mine_not (hO.out.mine hj).2 (by rw [e]; exact ⟨_, _, hN.out⟩)
          have HOb := Lib.hid hOb
          have HOq := Lib.hid (hO.out.chg hCq hOb)
          generalize (adds l p)[pick l p] = v at *
          generalize hsp : pick l p = s at *
          clear hR' hg hturn hpa hy hf hx r1 hOb
          subst hyf
          have hsi : (s : Int) < (q : Int) := by omega
          have hws : w.heap.size ≤ wr.heap.size := Nat.le_trans hC.size hCq.size
          have hR3 := HRn.out.set s (f + y.power - P)
          rw [hT.out] at hR3
          have HR3 := Lib.hid hR3
          have k3 : Chg (fun k => k = g) wr (wr.setCell ⟨g, s, none⟩ (.int .i64 (f + y.power - P))) := Chg.setCell (S := fun k => k = g) (Chg.refl _ wr) (p := ⟨g, s, none⟩) (.inl rfl) _
          have HO3 := Lib.hid (HOq.out.chg k3 HOb.out)
          have HK3 : Hid (Chg Non w (wr.setCell ⟨g, s, none⟩ (.int .i64 (f + y.power - P)))) := Lib.hid ((hC.trans hCq (fun j hj => .inr (by rw [hj]; exact hgw))).trans k3 (fun j hj => .inr (by rw [hj]; exact hgw)))
          clear hR3 k3 HRn HOq
          have hnw := cell_one_new (wr.setCell ⟨g, s, none⟩ (.int .i64 (f + y.power - P))) (.int .u64 (x.key : Int)) 29
          have hszw : (wr.setCell ⟨g, s, none⟩ (.int .i64 (f + y.power - P))).heap.size = wr.heap.size := by simp
          rw [hszw] at hnw
          have HNW := Lib.hid hnw
          have HSZ := Lib.hid hszw
          have hb1 : (ords l k).length + 1 ≤ maxLen := by rw [HOO.out]; unfold maxLen; omega
          have hb2 : ((ords l k).length + 1) * 8 ≤ 140737488355328 := by rw [HOO.out]; omega
          clear hnw hszw
          go_wp2_with (at_builtin; refine wpList_append_own _ rfl _ _ 25 rfl w.heap.size 29 i0 (.int .u64 0) 1 8 Try.underlying25 hi hz0 hz1 hz2 rfl (by decide) u9 _ _ rfl (World.ownsRow.alloc HO3.out _) ⟨wr.heap.size, 0, none⟩ 1 1 [.int .u64 (x.key : Int)] rfl rfl HNW.out (by simp [Value.oneCell']) hb1 hb2 (by rw [World.size_alloc, HSZ.out]; omega) ?_; intro v' w5 hown' hgrow _)
          have k5 : Chg Non w w5 := (HK3.out.alloc _).grown hgrow (fun j hj => .inr (HO3.out.mine hj).1)
          have hR5 : NumR w5 g (state l P (k + 1)) := by
            rw [← HST.out]
            exact Hb.grown (Hb.alloc HR3.out _) hgrow (fun e => HOb.out g e.symm rfl)
          have hO5 : OwnK w.heap.size w5 v' (ords l (k + 1)) := by
            rw [HON.out]
            unfold OwnK
            rw [List.length_append, List.map_append]
            exact hown'
          go_roundw
          case rel => exact ⟨k + 1, by omega, by go_num, Lib.hid hR5, Lib.hid hO5, k5⟩
          case measure => simp [intOf]; omega
    · obtain rfl : k = m := by omega
      have hov := hO.out
      go_wp2_with fail
      go_ret2
      exact ⟨hC, .inr (.inr ⟨HR.out, by omega, by omega, u9, rfl, by rw [Int.toNat_natCast]; exact hov⟩)⟩

/-- What the document's Proposer leaves. -/
theorem rOrder_yes (w : World) (A : Option Addr) (c : Nat) (l : List Va) (hl : l.length ≤ maxLen) (ol : ∀ x ∈ l, x.Ok) (M : LstM w A l Va.cells 2) (h : Rt l) (n : Nat) (hn : n ≤ 4096) :
    Calls Try.prog 6 #[.slice A l.length c, .int .i64 (n : Int)] w fun e w' => Chg Non w w' ∧ ∃ v, e = .returned (.tuple #[v, .int .i64 0]) ∧ OwnK w.heap.size w' v (ords l n) := by
  refine (rOrder_any w A c l hl ol M n).mono ?_
  rintro e w' ⟨k, ⟨h', _⟩ | ⟨_, h', _⟩ | ⟨_, _, _, v, rfl, hv⟩⟩
  · exact absurd h h'
  · exfalso; omega
  · exact ⟨k, v, rfl, by simpa using hv⟩

set_option maxHeartbeats 1600000 in
theorem rProposer_any (w : World) (A : Option Addr) (c : Nat) (l : List Va) (hl : l.length ≤ maxLen) (ol : ∀ x ∈ l, x.Ok) (M : LstM w A l Va.cells 2) (t : Int) :
    Calls Try.prog 8 #[.slice A l.length c, .int .i64 t] w (Pro w l t) := by
  by_cases hr : ¬ Rt l
  · have H1 := Lib.hid (rRight_no w A c l hl ol M hr)
    clear M ol
    go_enter Try.func8, Try.ntmps8
    go_wp2_with fail
    refine H1.out.mono ?_
    rintro e w1 ⟨k1, rfl⟩
    go_wp2_with fail
    go_ret2
    exact ⟨k1, .inl ⟨hr, rfl⟩⟩
  replace hr : Rt l := Classical.not_not.1 hr
  have HT := Lib.hid (rRight_yes w A c l hl ol M hr)
  by_cases h1 : t < 0
  · clear M ol
    go_enter Try.func8, Try.ntmps8
    go_wp2_with fail
    refine HT.out.mono ?_
    rintro e w1 ⟨k1, rfl⟩
    go_wp2_with fail
    go_ret2
    exact ⟨k1, .inr (.inl ⟨hr, .inl h1, rfl⟩)⟩
  by_cases h2 : 4096 ≤ t
  · clear M ol
    go_enter Try.func8, Try.ntmps8
    go_wp2_with fail
    refine HT.out.mono ?_
    rintro e w1 ⟨k1, rfl⟩
    go_wp2_with fail
    go_ret2
    exact ⟨k1, .inr (.inl ⟨hr, .inr h2, rfl⟩)⟩
  obtain ⟨m, rfl⟩ : ∃ m : Nat, t = (m : Int) := ⟨t.toNat, by omega⟩
  have HO : Hid (∀ w', Chg Non w w' → Calls Try.prog 6 #[.slice A l.length c, .int .i64 ((m : Int) + 1)] w' fun e w'' => Chg Non w' w'' ∧ ∃ v, e = .returned (.tuple #[v, .int .i64 0]) ∧ OwnK w'.heap.size w'' v (ords l (m + 1))) :=
    Lib.hid fun w' k => rOrder_yes w' A c l hl ol (M.chg k) hr (m + 1) (by omega)
  have HR := Lib.hid hr
  clear M ol hl
  generalize l.length = len at *
  go_enter Try.func8, Try.ntmps8
  go_wp2_with fail
  refine HT.out.mono ?_
  rintro e w1 ⟨k1, rfl⟩
  go_wp2_with (go_at_call 6; refine (HO.out _ k1).mono ?_; rintro e w2 ⟨k2, v, rfl, hv⟩; obtain ⟨B, d, rfl, hd1, hd2, L⟩ := hv.slice; rw [ords_len] at hd1; rw [ords_len]; obtain ⟨b, bo, rfl, hbl, r1⟩ := L m _ (ords_last l m); obtain ⟨p0, _⟩ := rangeAt_cons r1; rw [Nat.mul_one] at p0; have hmi : (m : Int) < ((m + 1 : Nat) : Int) := by omega)
  go_ret2
  exact ⟨k1.trans k2 (fun _ f => f.elim), .inr (.inr ⟨HR.out, by omega, by omega, by simp⟩)⟩
end Go.Proofs.Ytalfaoljbhmihaa
