/- Diverge. -/
import Derived.Test.YtflellcbfcakhaaChecked
import Derived.WalkKit
import Derived.WalkLawsBesides
import Derived.Lib.Hide
import Derived.Deep.MidRow
import Derived.Lib.SliceRun
import Derived.Test.YtflellcbfcakhaaDg
namespace Go.Proofs.Ytflellcbfcakhaa
open Go.RowKit
set_option linter.unusedVariables false
set_option linter.unusedSimpArgs false
set_option maxRecDepth 20000


set_option maxHeartbeats 6400000 in
theorem Diverge_any (w : World) (A B : Option Addr) (c d : Nat) (l m : List Li) (hlc : l.length ≤ c) (hc : c ≤ maxLen) (hm : m.length ≤ maxLen) (ol : ∀ x ∈ l, x.Ok) (om : ∀ x ∈ m, x.Ok) (M : LstM w A l Li.cells 200) (N : LstM w B m Li.cells 200) :
    Calls Try.prog 9 #[.slice A l.length c, .slice B m.length d] w (Two w (dv l m)) := by
  have HM := Lib.hid M
  have HOL := Lib.hid ol
  have HOM := Lib.hid om
  have HS := Lib.hid (shown_any w B d m hm om N)
  have HT : Hid (∀ w' bw bm bM h, Chg Non w w' → Hid (Shn w' B d m m.length m bw bm bM) → I64 h → Calls Try.prog 23 #[.int .i64 h, .pointer (some ⟨bm, 0, none⟩), .pointer (some ⟨bw, 0, none⟩)] w' (Told w' (shw m h))) :=
    Lib.hid fun w' bw bm bM h k S hh => tells_any w' B d m bw bm bM hm om (N.chg k) S.out h hh
  have HSO := Lib.hid (shw_ok om)
  unfold maxLen at hc
  clear M N ol om hm
  generalize hv : dv l m = v at *
  have HV := Lib.hid hv
  clear hv
  unfold Two
  generalize hmm : m.length = mn at *
  clear hmm
  generalize hn : l.length = n at *
  have HL := Lib.hid hn
  clear hn
  go_enter Try.func9, Try.ntmps9
  by_cases hn0 : n = 0
  · subst hn0
    obtain rfl : (0, 1) = v := by rw [← HV.out, List.eq_nil_of_length_eq_zero HL.out]; rfl
    go_wp2_with fail
    go_ret2
    exact ⟨rfl, Chg.refl _ _⟩
  have hne : ((n : Int) == 0) = false := by simpa using hn0
  have h0l : 0 < l.length := by rw [HL.out]; omega
  have hx0 := List.getElem?_eq_getElem h0l
  obtain ⟨a, ao, rfl, _, R0, o0⟩ := at_li HM.out HOL.out hx0
  have HX0 := Lib.hid hx0
  generalize l[0] = r at *
  rw [Nat.zero_mul, Nat.add_zero] at R0
  have HR0 := Lib.hid R0
  have HO0 := Lib.hid o0
  have h0n : (0 : Int) < (n : Int) := by omega
  have h1n : (1 : Int) ≤ (n : Int) := by omega
  have hrow := header_row r.hd o0.hd
  have hone := r.hd.one
  have hal := header_alloc
  have hzl : Hd.zero.cells.length = r.hd.cells.length := by rw [r.hd.cells_len o0.hd, Hd.zero.cells_len Hd.zero_ok]
  clear hx0 h0l o0 R0 hn0
  go_wp2_with fail
  refine HS.out.mono ?_
  rintro e w1 ⟨k1, bw, bm, bM, rfl, S1⟩
  clear HS
  have HK1 := Lib.hid k1
  have p0 := k1.range' HR0.out.hd (fun f => f)
  have hih : I64 r.hd.height := HO0.out.hd.height
  have HFA : Hid (∀ wa wb, Chg Non w1 wa → Chg (· = w1.heap.size) wa wb → Hid (Hb wb w1.heap.size 25 r.hd.cells.toArray) → wb.cell? ⟨w1.heap.size, 1, none⟩ = some (.int .i64 r.hd.height) ∧ Hid (Chg Non w wb) ∧ Hid (Shn wb B d m mn m bw bm bM)) := Lib.hid fun wa wb ka kb hB =>
    ⟨by rw [hB.out.cell]; rfl, Lib.hid (HK1.out.trans (ka.fresh kb) (fun _ f => f.elim)), Lib.hid (S1.out.chg (ka.fresh kb))⟩
  generalize hcr : r.hd.cells = cr at *
  have HCR := Lib.hid hcr
  generalize hzz : Hd.zero.cells = z at *
  have HZZ := Lib.hid hzz
  clear k1 hcr hzz
  go_wp2_with (first | (with_reducible refine wpList_load_mid rfl 25 _ rfl a ao rfl cr _ p0 Try.underlying25 rfl hrow ?_) | (with_reducible refine wpList_alloc_h rfl _ rfl z hal ?_; intro wa ka hA) | (with_reducible refine wpList_store_h rfl 25 _ _ rfl w1.heap.size z cr rfl rfl hA.out hzl hrow hone ?_; intro wb kb hB; obtain ⟨p1, p2, p3⟩ := HFA.out wa wb ka kb hB))
  refine (HT.out wb bw bm bM _ p2.out p3 hih).mono ?_
  rintro e w2 ⟨k2, rfl⟩
  have HW2 := Lib.hid (p2.out.trans k2 (fun _ f => f.elim))
  have HS2 := Lib.hid (p3.out.chg k2)
  have hb2 := Lib.hid (hB.out.chg k2 (fun f => f))
  have hg1 := (hb2.out).lt
  have oy := HSO.out r.hd.height
  have HOY := Lib.hid oy
  have rowy := header_row _ oy
  have oney := ((shw m r.hd.height).getD Hd.zero).one
  have hzy : z.length = ((shw m r.hd.height).getD Hd.zero).cells.length := by rw [← HZZ.out, Hd.cells_len _ oy, Hd.zero.cells_len Hd.zero_ok]
  have EQ := Lib.hid (header_eq _ r.hd oy HO0.out.hd)
  rw [HCR.out] at EQ
  have HFB : Hid (∀ wc wd, Chg Non w2 wc → Chg (· = w2.heap.size) wc wd → Hid (Hb wd w2.heap.size 25 ((shw m r.hd.height).getD Hd.zero).cells.toArray) → wd.rangeAt w2.heap.size 0 ((shw m r.hd.height).getD Hd.zero).cells ∧ wd.rangeAt w1.heap.size 0 cr ∧ Hid (Chg Non w wd) ∧ Hid (Shn wd B d m mn m bw bm bM)) := Lib.hid fun wc wd kc kd hD =>
    ⟨hD.out.range0, (hb2.out.chg (kc.fresh kd) (fun f => f)).range0, Lib.hid (HW2.out.trans (kc.fresh kd) (fun _ f => f.elim)), Lib.hid (HS2.out.chg (kc.fresh kd))⟩
  clear hb2 p2 p3 k2 hB HFA p1 hA ka kb oy
  generalize hg : w1.heap.size = g1 at *
  have HG := Lib.hid hg
  clear hg HK1 hg1 S1 p0
  have HSM : Hid ((shw m r.hd.height).isSome = true → ((shw m r.hd.height).getD Hd.zero = r.hd ↔ shw m r.hd.height = some r.hd)) := Lib.hid fun h => by
    obtain ⟨y, hy⟩ := Option.isSome_iff_exists.1 h
    rw [hy]
    simp
  have HSN : Hid ((shw m r.hd.height).isSome = false → ¬ shw m r.hd.height = some r.hd) := Lib.hid fun h e => by rw [e] at h; cases h
  generalize hbb : decide ((shw m r.hd.height).getD Hd.zero = r.hd) = bb at *
  have HBB := Lib.hid hbb
  generalize hcy : ((shw m r.hd.height).getD Hd.zero).cells = cy at *
  have HCY := Lib.hid hcy
  generalize hbs : (shw m r.hd.height).isSome = bs at *
  clear hbb hcy HOY hbs
  cases bs with
  | false =>
    obtain rfl : (0, 191) = v := by rw [← HV.out, dv_root HX0.out (HSN.out rfl)]
    go_wp2_with (first | (with_reducible refine wpList_alloc_h rfl _ rfl z hal ?_; intro wc kc hC) | (with_reducible refine wpList_store_h rfl 25 _ _ rfl w2.heap.size z cy rfl rfl hC.out hzy rowy oney ?_; intro wd kd hD; obtain ⟨q1, q2, q3, q4⟩ := HFB.out wc wd kc kd hD) | (with_reducible refine wpList_load_w 25 _ rfl ?_ w2.heap.size 0 rfl cy _ q1 Try.underlying25 rfl rowy ?_; focus (first | (simp [Region.wanted, yielded]; done) | (go_simp; done))) | (with_reducible refine wpList_load_w 25 _ rfl ?_ g1 0 rfl cr _ q2 Try.underlying25 rfl hrow ?_; focus (first | (simp [Region.wanted, yielded]; done) | (go_simp; done))) | (with_reducible refine wpList_neq_w 25 _ _ _ rfl ?_ (xs := cy.toArray) (ys := cr.toArray) rfl rfl header_guard (EQ.out wd) ?_; focus (first | (simp [Region.wanted, yielded]; done) | (go_simp; done))))
    go_ret2
    exact ⟨rfl, q3.out⟩
  | true =>
    cases bb with
    | false =>
      obtain rfl : (0, 191) = v := by rw [← HV.out, dv_root HX0.out (fun e => by have := HBB.out; rw [decide_eq_false_iff_not] at this; exact this ((HSM.out rfl).2 e))]
      go_wp2_with (first | (with_reducible refine wpList_alloc_h rfl _ rfl z hal ?_; intro wc kc hC) | (with_reducible refine wpList_store_h rfl 25 _ _ rfl w2.heap.size z cy rfl rfl hC.out hzy rowy oney ?_; intro wd kd hD; obtain ⟨q1, q2, q3, q4⟩ := HFB.out wc wd kc kd hD) | (with_reducible refine wpList_load_w 25 _ rfl ?_ w2.heap.size 0 rfl cy _ q1 Try.underlying25 rfl rowy ?_; focus (first | (simp [Region.wanted, yielded]; done) | (go_simp; done))) | (with_reducible refine wpList_load_w 25 _ rfl ?_ g1 0 rfl cr _ q2 Try.underlying25 rfl hrow ?_; focus (first | (simp [Region.wanted, yielded]; done) | (go_simp; done))) | (with_reducible refine wpList_neq_w 25 _ _ _ rfl ?_ (xs := cy.toArray) (ys := cr.toArray) rfl rfl header_guard (EQ.out wd) ?_; focus (first | (simp [Region.wanted, yielded]; done) | (go_simp; done))))
      go_ret2
      exact ⟨rfl, q3.out⟩
    | true =>
      have HSR : Hid (shw m r.hd.height = some r.hd) := Lib.hid ((HSM.out rfl).1 (by have := HBB.out; rwa [decide_eq_true_eq] at this))
      go_wp2_with (first | (with_reducible refine wpList_alloc_h rfl _ rfl z hal ?_; intro wc kc hC) | (with_reducible refine wpList_store_h rfl 25 _ _ rfl w2.heap.size z cy rfl rfl hC.out hzy rowy oney ?_; intro wd kd hD; obtain ⟨q1, q2, q3, q4⟩ := HFB.out wc wd kc kd hD) | (with_reducible refine wpList_load_w 25 _ rfl ?_ w2.heap.size 0 rfl cy _ q1 Try.underlying25 rfl rowy ?_; focus (first | (simp [Region.wanted, yielded]; done) | (go_simp; done))) | (with_reducible refine wpList_load_w 25 _ rfl ?_ g1 0 rfl cr _ q2 Try.underlying25 rfl hrow ?_; focus (first | (simp [Region.wanted, yielded]; done) | (go_simp; done))) | (with_reducible refine wpList_neq_w 25 _ _ _ rfl ?_ (xs := cy.toArray) (ys := cr.toArray) rfl rfl header_guard (EQ.out wd) ?_; focus (first | (simp [Region.wanted, yielded]; done) | (go_simp; done))))
      · obtain rfl : n = 1 := by omega
        clear HFB oney rowy hzy q1 q2 kd hD kc hC EQ HSM HSN HCY
        go_loopw [10, 11, 12, 13, 40] (fun s10 s11 s12 s13 i wr => i = .int .i64 0 ∧ Hid (Chg Non w wr)) (fun _ _ _ _ _ _ => 0)
        case atStart => exact ⟨rfl, q3⟩
        case round =>
          obtain ⟨rfl, hC⟩ := hrel
          obtain rfl : (0, 171) = v := by
            rw [← HV.out]
            refine (dv_none HX0.out HSR.out (fun y hy => ?_)).symm
            rw [List.drop_of_length_le (by rw [HL.out]; omega)] at hy
            cases hy
          go_wp2_with fail
          go_ret2
          exact ⟨rfl, hC.out⟩
      · have hn1 : ((n - 1 : Nat) : Int) = (n : Int) - 1 := by omega
        clear HFB oney rowy hzy q1 q2 kd hD kc hC EQ HSM HSN HCY HBB HS2 HW2
        have HQ4 := q4
        have hn1c : n - 1 + 1 ≤ 9223372036854775807 := by omega
        generalize hnn : n - 1 = n1 at *
        have HNN := Lib.hid hnn
        clear hnn hn1
        go_loopw [10, 11, 12, 13, 40] (fun s10 s11 s12 s13 i wr => ∃ k : Nat, k ≤ n1 ∧ i = .int .i64 (k : Int) ∧ Hid (∀ y ∈ (l.drop 1).take k, prt m y = false) ∧ Hid (Chg Non wd wr)) (fun _ _ _ _ i _ => n1 - (intOf i).toNat)
        case atStart => exact ⟨0, by omega, rfl, Lib.hid (by simp), Lib.hid (Chg.refl _ _)⟩
        case round =>
          obtain ⟨k, hk, rfl, hF, hCC⟩ := hrel
          by_cases hlt : k < n1
          · have hkl : k + 1 < l.length := by rw [HL.out]; have := HNN.out; omega
            have hx := List.getElem?_eq_getElem hkl
            have HCW := Lib.hid (q3.out.trans hCC.out (fun _ f => f.elim))
            have HSR2 := Lib.hid (HQ4.out.chg hCC.out)
            obtain ⟨ax, axo, hax, _, R⟩ := (HM.out.chg HCW.out) _ _ hx
            obtain ⟨rfl, rfl⟩ : a = ax ∧ ao = axo := by injection hax with hax; injection hax with h1 h2 _; exact ⟨h1, h2⟩
            clear hax
            have HX := Lib.hid hx
            have ox := HOL.out _ (List.getElem_mem hkl)
            generalize l[k + 1] = x at *
            have R1 : wr.rangeAt a (ao + 200 + k * 200) x.cells := by rw [show ao + 200 + k * 200 = ao + (k + 1) * 200 by omega]; exact R
            have hki : (k : Int) < (n1 : Int) := by omega
            have hk64 : (k : Int) + 1 ≤ 9223372036854775807 := by omega
            have HSN : Hid (prt m x = false → ∀ y ∈ (l.drop 1).take (k + 1), prt m y = false) := Lib.hid fun hp y hy => by
              rw [take_one (by rw [List.getElem?_drop, Nat.add_comm]; exact HX.out), List.mem_append, List.mem_singleton] at hy
              rcases hy with hy | rfl
              · exact hF.out y hy
              · exact hp
            have HOX := Lib.hid ox
            have xrow := light_row x ox
            have xone := x.one
            have xzl : Li.zero.cells.length = x.cells.length := by rw [x.cells_len ox, Li.zero.cells_len Li.zero_ok]
            have hix : I64 x.hd.height := ox.hd.height
            have HFC : Hid (∀ we wf, Chg Non wr we → Chg (· = wr.heap.size) we wf → Hid (Hb wf wr.heap.size 31 x.cells.toArray) → wf.cell? ⟨wr.heap.size, 1, none⟩ = some (.int .i64 x.hd.height) ∧ Hid (wf.rangeAt wr.heap.size 0 x.hd.cells ∧ wr.heap.size < wf.heap.size) ∧ Hid (Chg Non wd wf) ∧ Hid (Shn wf B d m mn m bw bm bM)) := Lib.hid fun we wf ke kf hB => by
              have kk := ke.fresh kf
              have rr := Li.rows HOX.out hB.out.range0
              exact ⟨by simpa using rr.height, Lib.hid ⟨rr.hd, hB.out.lt⟩, Lib.hid (hCC.out.trans kk (fun _ f => f.elim)), Lib.hid (HSR2.out.chg kk)⟩
            clear hx hkl R ox
            go_wp2_with (first | (with_reducible refine wpList_load_mid rfl 31 _ rfl a (ao + 200 + k * 200) rfl x.cells _ R1 Try.underlying31 rfl xrow ?_) | (with_reducible refine wpList_alloc_h rfl _ rfl Li.zero.cells light_alloc ?_; intro we ke hE) | (with_reducible refine wpList_store_h rfl 31 _ _ rfl wr.heap.size Li.zero.cells x.cells rfl rfl hE.out xzl xrow xone ?_; intro wf kf hF2; obtain ⟨r1, r2, r3, r4⟩ := HFC.out we wf ke kf hF2))
            refine (HT.out wf bw bm bM _ (q3.out.trans r3.out (fun _ f => f.elim)) r4 hix).mono ?_
            rintro e w3 ⟨k3, rfl⟩
            have HW3 := Lib.hid (r3.out.trans k3 (fun _ f => f.elim))
            have hb2 := Lib.hid (k3.range' r2.out.1 (fun f => f))
            have oy := HSO.out x.hd.height
            have rowy := header_row _ oy
            have oney := ((shw m x.hd.height).getD Hd.zero).one
            have hzy : z.length = ((shw m x.hd.height).getD Hd.zero).cells.length := by rw [← HZZ.out, Hd.cells_len _ oy, Hd.zero.cells_len Hd.zero_ok]
            have EQ := Lib.hid (header_eq _ x.hd oy HOX.out.hd)
            have xhr := header_row x.hd HOX.out.hd
            have HFD : Hid (∀ wg wh, Chg Non w3 wg → Chg (· = w3.heap.size) wg wh → Hid (Hb wh w3.heap.size 25 ((shw m x.hd.height).getD Hd.zero).cells.toArray) → wh.rangeAt w3.heap.size 0 ((shw m x.hd.height).getD Hd.zero).cells ∧ wh.rangeAt wr.heap.size 0 x.hd.cells ∧ Hid (Chg Non wd wh)) := Lib.hid fun wg wh kg kh hH =>
              ⟨hH.out.range0, (kg.fresh kh).range' hb2.out (fun f => f), Lib.hid (HW3.out.trans (kg.fresh kh) (fun _ f => f.elim))⟩
            have HP0 : Hid ((shw m x.hd.height).isSome = false → prt m x = false) := Lib.hid fun h => by
              unfold prt
              cases hs : shw m x.hd.height with
              | none => rfl
              | some y => rw [hs] at h; cases h
            have HP1 : Hid ((shw m x.hd.height).isSome = true → prt m x = !decide ((shw m x.hd.height).getD Hd.zero = x.hd)) := Lib.hid fun h => by
              obtain ⟨y, hy⟩ := Option.isSome_iff_exists.1 h
              unfold prt
              rw [hy]
              simp
            clear k3 r1 r2 r3 r4 hF2 kf ke hE HFC R1 xrow xone xzl oy HOX
            generalize wr.heap.size = g2 at *
            generalize x.hd.cells = cx at *
            generalize decide ((shw m x.hd.height).getD Hd.zero = x.hd) = bb at *
            generalize ((shw m x.hd.height).getD Hd.zero).cells = cy at *
            generalize (shw m x.hd.height).isSome = bs at *
            cases bs with
            | false =>
              go_wp2_with (first | (with_reducible refine wpList_alloc_h rfl _ rfl z hal ?_; intro wg kg hG) | (with_reducible refine wpList_store_h rfl 25 _ _ rfl w3.heap.size z cy rfl rfl hG.out hzy rowy oney ?_; intro wh kh hH; obtain ⟨t1, t2, t3⟩ := HFD.out wg wh kg kh hH) | (with_reducible refine wpList_load_w 25 _ rfl ?_ w3.heap.size 0 rfl cy _ t1 Try.underlying25 rfl rowy ?_; focus (first | (simp [Region.wanted, yielded]; done) | (go_simp; done))) | (with_reducible refine wpList_load_w 25 _ rfl ?_ g2 0 rfl cx _ t2 Try.underlying25 rfl xhr ?_; focus (first | (simp [Region.wanted, yielded]; done) | (go_simp; done))) | (with_reducible refine wpList_neq_w 25 _ _ _ rfl ?_ (xs := cy.toArray) (ys := cx.toArray) rfl rfl header_guard (EQ.out wh) ?_; focus (first | (simp [Region.wanted, yielded]; done) | (go_simp; done))))
              go_roundw
              case rel => exact ⟨k + 1, by omega, by go_num, Lib.hid (HSN.out (HP0.out (by first | rfl | trivial))), t3⟩
              case measure => simp [intOf]; omega
            | true =>
              cases bb with
              | true =>
                go_wp2_with (first | (with_reducible refine wpList_alloc_h rfl _ rfl z hal ?_; intro wg kg hG) | (with_reducible refine wpList_store_h rfl 25 _ _ rfl w3.heap.size z cy rfl rfl hG.out hzy rowy oney ?_; intro wh kh hH; obtain ⟨t1, t2, t3⟩ := HFD.out wg wh kg kh hH) | (with_reducible refine wpList_load_w 25 _ rfl ?_ w3.heap.size 0 rfl cy _ t1 Try.underlying25 rfl rowy ?_; focus (first | (simp [Region.wanted, yielded]; done) | (go_simp; done))) | (with_reducible refine wpList_load_w 25 _ rfl ?_ g2 0 rfl cx _ t2 Try.underlying25 rfl xhr ?_; focus (first | (simp [Region.wanted, yielded]; done) | (go_simp; done))) | (with_reducible refine wpList_neq_w 25 _ _ _ rfl ?_ (xs := cy.toArray) (ys := cx.toArray) rfl rfl header_guard (EQ.out wh) ?_; focus (first | (simp [Region.wanted, yielded]; done) | (go_simp; done))))
                go_roundw
                case rel => exact ⟨k + 1, by omega, by go_num, Lib.hid (HSN.out (HP1.out (by first | rfl | trivial))), t3⟩
                case measure => simp [intOf]; omega
              | false =>
                obtain rfl : (((k + 1 : Nat) : Int), 0) = v := by rw [← HV.out]; exact (dv_found HX0.out HSR.out hF.out HX.out (HP1.out (by first | rfl | trivial))).symm
                have hk1 : ((k + 1 : Nat) : Int) = (k : Int) + 1 := by omega
                go_wp2_with (first | (with_reducible refine wpList_alloc_h rfl _ rfl z hal ?_; intro wg kg hG) | (with_reducible refine wpList_store_h rfl 25 _ _ rfl w3.heap.size z cy rfl rfl hG.out hzy rowy oney ?_; intro wh kh hH; obtain ⟨t1, t2, t3⟩ := HFD.out wg wh kg kh hH) | (with_reducible refine wpList_load_w 25 _ rfl ?_ w3.heap.size 0 rfl cy _ t1 Try.underlying25 rfl rowy ?_; focus (first | (simp [Region.wanted, yielded]; done) | (go_simp; done))) | (with_reducible refine wpList_load_w 25 _ rfl ?_ g2 0 rfl cx _ t2 Try.underlying25 rfl xhr ?_; focus (first | (simp [Region.wanted, yielded]; done) | (go_simp; done))) | (with_reducible refine wpList_neq_w 25 _ _ _ rfl ?_ (xs := cy.toArray) (ys := cx.toArray) rfl rfl header_guard (EQ.out wh) ?_; focus (first | (simp [Region.wanted, yielded]; done) | (go_simp; done))))
                go_ret2
                exact ⟨rfl, q3.out.trans t3.out (fun _ f => f.elim)⟩
          · obtain rfl : k = n1 := by omega
            obtain rfl : (0, 171) = v := by
              rw [← HV.out]
              refine (dv_none HX0.out HSR.out (fun y hy => hF.out y ?_)).symm
              rw [List.take_of_length_le (by rw [List.length_drop, HL.out]; have := HNN.out; omega)]
              exact hy
            go_wp2_with fail
            go_ret2
            exact ⟨rfl, q3.out.trans hCC.out (fun _ f => f.elim)⟩
end Go.Proofs.Ytflellcbfcakhaa
