/- Of the program at this commit: the law DetectFirst answers true for every trace and every witness (the place that is told is the first one of the trace behind its beginning for whose height the witness shows another header; a witness that shows the trace itself does not part); no condition. -/
import Derived.Test.YtogkdeiknhminaaRows
import Derived.WalkKit
import Derived.ProofKit
import Derived.Test.YtogkdeiknhminaaDs
import Derived.Test.YtogkdeiknhminaaDt
namespace Go.Proofs.Ytogkdeiknhminaa.detectFirst
open Go.ChangeShapes Go.WideShapes Go.ChangeAt Go.RowKit
set_option linter.unusedVariables false

set_option maxRecDepth 100000 in
set_option maxHeartbeats 6400000 in
theorem walk (W : World) (v0 v1 : Value) (h0 : Okv Try.prog W 22 v0) (h1 : Okv Try.prog W 22 v1) :
    Calls Try.prog 4 #[v0, v1] W fun e W' => e = .returned (.bool true) ∧ Below W.heap.size W W' := by
  obtain ⟨A, c, l, rfl, hlc, hc, M, ol⟩ := lights_arg h0
  obtain ⟨B, d, m, rfl, hmd, hd, N, om⟩ := lights_arg h1
  have ol1 : ∀ x ∈ l, x.Ok := fun x hx => (ol x hx).1
  have om1 : ∀ x ∈ m, x.Ok := fun x hx => (om x hx).1
  have hl : l.length ≤ maxLen := Nat.le_trans hlc hc
  have hm : m.length ≤ maxLen := Nat.le_trans hmd hd
  clear h0 h1
  have HAL := Lib.hid (fun w => alive_any w)
  have HP := Lib.hid (few_any W A c l hl ol1 M)
  have HQ : Hid (∀ w', Chg Non W w' → Calls Try.prog 6 #[.slice B m.length d] w' (Zero w' (.bool (fewB m)))) := Lib.hid fun w' k => few_any w' B d m hm om1 (N.chg k)
  have HS : Hid (∀ w', Chg Non W w' → Calls Try.prog 8 #[.slice A l.length c, .slice A l.length c] w' (Two w' (dv l l))) := Lib.hid fun w' k => Diverge_any w' A A c c l l hlc hc hl ol1 ol1 (M.chg k) (M.chg k)
  have HD : Hid (∀ w', Chg Non W w' → Calls Try.prog 8 #[.slice A l.length c, .slice B m.length d] w' (Two w' (dv l m))) := Lib.hid fun w' k => Diverge_any w' A B c d l m hlc hc hm ol1 om1 (M.chg k) (N.chg k)
  have HT : Hid (∀ w' n, Chg Non W w' → n ≤ l.length → Calls Try.prog 8 #[.slice A n c, .slice B m.length d] w' (Two w' (dv (l.take n) m))) := Lib.hid fun w' n k hn => by
    have := Diverge_any w' A B c d (l.take n) m (by rw [List.length_take]; omega) hc hm (fun x hx => ol1 x (List.mem_of_mem_take hx)) om1 (lstM_take (M.chg k) n) (N.chg k)
    rw [List.length_take, Nat.min_eq_left hn] at this
    exact this
  have HEND : Hid (∀ w', Chg Non W w' → Below W.heap.size W w') := Lib.hid fun w' k => k.below (Nat.le_refl _) (fun _ f => f.elim)
  have HM := Lib.hid M
  have HN := Lib.hid N
  have HOL := Lib.hid ol1
  have HOM := Lib.hid om1
  unfold maxLen at hc hd
  clear M N ol om ol1 om1 hl hm
  generalize fewB l = p at *
  generalize fewB m = q at *
  unfold Two at HD HS HT
  generalize hnl : l.length = n at *
  have HNL := Lib.hid hnl
  generalize hnm : m.length = mn at *
  have HNM := Lib.hid hnm
  clear hnl hnm
  go_enter Try.func4, Try.ntmps4
  go_wp2_with fail
  refine HP.out.mono ?_
  rintro e w1 ⟨rfl, k1⟩
  go_wp2_with fail
  refine (HQ.out w1 k1).mono ?_
  rintro e w2 ⟨rfl, k2⟩
  have K2 := Lib.hid (k1.trans k2 (fun _ f => f.elim))
  clear k1 k2
  cases p with
  | false =>
    go_wp2_with fail
    refine (HAL.out w2).mono ?_
    rintro e w3 ⟨rfl, k3⟩
    go_wp2_with fail
    go_ret
    exact ⟨rfl, HEND.out _ (K2.out.trans k3 (fun _ f => f.elim))⟩
  | true =>
    cases q with
    | false =>
      go_wp2_with fail
      refine (HAL.out w2).mono ?_
      rintro e w3 ⟨rfl, k3⟩
      go_wp2_with fail
      go_ret
      exact ⟨rfl, HEND.out _ (K2.out.trans k3 (fun _ f => f.elim))⟩
    | true =>
      by_cases hn0 : n = 0
      · have hn0' : ((n : Int) == 0) = true := by simpa using hn0
        have hnd : decide ((n : Int) = 0) = true := by simpa using hn0
        have HN0 := Lib.hid hn0
        clear hn0
        go_wp2_with fail
        refine (HAL.out w2).mono ?_
        rintro e w3 ⟨rfl, k3⟩
        go_wp2_with fail
        go_ret
        exact ⟨rfl, HEND.out _ (K2.out.trans k3 (fun _ f => f.elim))⟩
      have hn0' : ((n : Int) == 0) = false := by simpa using hn0
      have hn1 : 0 < n := by omega
      go_wp2_with fail
      go_loopw [7, 8] (fun h i wr => ∃ (k : Nat) (hb : Bool), k + 1 ≤ n ∧ i = .int .i64 ((k + 1 : Nat) : Int) ∧ h = .bool hb ∧ Hid (hb = true ↔ Ups (l.take (k + 1))) ∧ Hid (Chg Non W wr)) (fun _ i _ => n - (intOf i).toNat)
      case atStart => exact ⟨0, true, by omega, rfl, rfl, Lib.hid (show (true = true ↔ Ups (l.take (0 + 1))) from ⟨fun _ => ups_one l, fun _ => rfl⟩), K2⟩
      case round =>
        obtain ⟨k, hb, hk, rfl, rfl, hU, hC⟩ := hrel
        by_cases hlt : k + 1 < n
        · have hkl : k + 1 < l.length := by rw [HNL.out]; exact hlt
          have hx := List.getElem?_eq_getElem hkl
          have hy := List.getElem?_eq_getElem (show k < l.length by omega)
          obtain ⟨a, ao, rfl, _, RX, ox⟩ := at_li (HM.out.chg hC.out) HOL.out hx
          obtain ⟨ay, ayo, hay, _, RY, oy⟩ := at_li (HM.out.chg hC.out) HOL.out hy
          obtain ⟨rfl, rfl⟩ : a = ay ∧ ao = ayo := by injection hay with hay; injection hay with h1 h2 _; exact ⟨h1, h2⟩
          clear hay
          have HUN : Hid (Ups (l.take (k + 2)) ↔ Ups (l.take (k + 1)) ∧ l[k].hd.height < l[k + 1].hd.height) := Lib.hid (ups_next hy hx)
          generalize l[k + 1] = x at *
          generalize l[k] = y at *
          obtain ⟨_, cx, _, _, _, _⟩ := RX
          obtain ⟨_, cy, _, _, _, _⟩ := RY
          have hki : ((k + 1 : Nat) : Int) < (n : Int) := by omega
          clear hx hy hkl hk ox oy
          cases hb with
          | false =>
            have HF : Hid (false = true ↔ Ups (l.take (k + 1 + 1))) := Lib.hid ⟨fun h => (by cases h), fun h => hU.out.2 (HUN.out.1 h).1⟩
            go_wp2_with fail
            go_quiet (fail)
            go_wp2_with fail
            go_roundw
            case rel => exact ⟨k + 1, false, by omega, by go_num, rfl, HF, Lib.hid (hC.out.drewN _)⟩
            case measure => simp [intOf]; omega
          | true =>
            have HF : Hid (decide (y.hd.height < x.hd.height) = true ↔ Ups (l.take (k + 1 + 1))) := Lib.hid (by
              rw [decide_eq_true_eq]
              exact ⟨fun h => HUN.out.2 ⟨hU.out.1 rfl, h⟩, fun h => (HUN.out.1 h).2⟩)
            go_wp2_with fail
            go_quiet (fail)
            go_wp2_with fail
            go_roundw
            case rel => exact ⟨k + 1, _, by omega, by go_num, rfl, HF, Lib.hid (hC.out.drewN _)⟩
            case measure => simp [intOf]; omega
        · obtain rfl : k + 1 = n := by omega
          have HUL : Hid (hb = true → dv l l = (0, 171)) := Lib.hid fun h => dv_self (by
            have := hU.out.1 h
            rw [List.take_of_length_le (by rw [HNL.out]; exact Nat.le_refl _)] at this
            exact this) (by rw [HNL.out]; omega)
          have hlt0 : ¬ (((k + 1 : Nat) : Int) < ((k + 1 : Nat) : Int)) := by omega
          cases hb with
          | false =>
            go_wp2_with fail
            refine (HD.out wr hC.out).mono ?_
            rintro e w4 ⟨rfl, k4⟩
            have K4 := Lib.hid (hC.out.trans k4 (fun _ f => f.elim))
            clear k4
            by_cases hb0 : (dv l m).2 = 0
            · obtain ⟨r, x, kk, hr, hs, h0, hx, hpx, hdv⟩ := dv_ok hb0
              obtain ⟨hc1, hc2⟩ := dv_cut hr hs h0 hx hpx
              have HANY := Lib.hid (prt_any hpx)
              have HX := Lib.hid hx
              have hkn : kk + 1 < k + 1 := by rw [← HNL.out]; exact (List.getElem?_eq_some_iff.1 hx).1
              rw [hdv]
              have HT1 := Lib.hid (fun w' kc => HT.out w' (kk + 1) kc (by omega))
              have HT2 := Lib.hid (fun w' kc => HT.out w' (kk + 2) kc (by omega))
              rw [hc1] at HT1
              rw [hc2] at HT2
              have ha1 : ¬ (((kk + 1 : Nat) : Int) < 1) := by omega
              have ha2 : ((kk + 1 : Nat) : Int) < ((k + 1 : Nat) : Int) := by omega
              have ha3 : ((kk + 1 : Nat) : Int) ≤ (c : Int) := by omega
              have ha4 : ((kk + 1 : Nat) : Int) + 1 ≤ (c : Int) := by omega
              have ha5 : (0 : Int) ≤ ((kk + 1 : Nat) : Int) := by omega
              clear hb0 hr hs h0 hx hpx hdv hc1 hc2
              go_wp2_with fail
              refine (HT1.out w4 K4.out).mono ?_
              rintro e w5 ⟨rfl, k5⟩
              have K5 := Lib.hid (K4.out.trans k5 (fun _ f => f.elim))
              clear k5
              go_wp2_with fail
              refine (HT2.out w5 K5.out).mono ?_
              rintro e w6 ⟨rfl, k6⟩
              have K6 := Lib.hid (K5.out.trans k6 (fun _ f => f.elim))
              clear k6 HT1 HT2 HT HD HS HP HQ K4 K5 hC hU HUL
              go_wp2_with fail
              go_loopw [17, 18] (fun t i wz => ∃ (j : Nat) (tb : Bool), j ≤ mn ∧ i = .int .i64 (j : Int) ∧ t = .bool tb ∧ Hid (tb = (m.take j).any (oth x)) ∧ Hid (Chg Non W wz)) (fun _ i _ => mn - (intOf i).toNat)
              case atStart => exact ⟨0, false, by omega, rfl, rfl, Lib.hid (by simp), K6⟩
              case round =>
                obtain ⟨j, tb, hj, rfl, rfl, hTB, hCZ⟩ := hrel
                by_cases hlj : j < mn
                · have hjl : j < m.length := by rw [HNM.out]; exact hlj
                  have hy := List.getElem?_eq_getElem hjl
                  obtain ⟨b, bo, rfl, _, RY, oy⟩ := at_li (HN.out.chg hCZ.out) HOM.out hy
                  obtain ⟨a, ao, rfl, _, RX, ox⟩ := at_li (HM.out.chg hCZ.out) HOL.out HX.out
                  have HNX : Hid ((m.take (j + 1)).any (oth x) = ((m.take j).any (oth x) || oth x m[j])) := Lib.hid (by rw [take_one hy, List.any_append]; simp)
                  generalize m[j] = y at *
                  have HRX := Lib.hid RX
                  have HRY := Lib.hid RY
                  obtain ⟨_, cx, _, _, _, _⟩ := RX
                  obtain ⟨_, cy, _, _, _, _⟩ := RY
                  have hji : (j : Int) < (mn : Int) := by omega
                  have HOX := Lib.hid ox
                  have HOY := Lib.hid oy
                  clear hy hjl hj ox oy
                  cases tb with
                  | true =>
                    have HF : Hid (true = (m.take (j + 1)).any (oth x)) := Lib.hid (by rw [HNX.out, ← hTB.out]; rfl)
                    go_wp2_with fail
                    go_quiet (fail)
                    go_wp2_with fail
                    go_roundw
                    case rel => exact ⟨j + 1, true, by omega, by go_num, rfl, HF, Lib.hid (hCZ.out.drewN _)⟩
                    case measure => simp [intOf]; omega
                  | false =>
                    by_cases hh : y.hd.height = x.hd.height
                    · have hb1 : (y.hd.height == x.hd.height) = true := by simpa using hh
                      have hb2 : decide (y.hd.height = x.hd.height) = true := by simpa using hh
                      have EQ := Lib.hid (header_eq y.hd x.hd HOY.out.hd HOX.out.hd)
                      have HIY := Lib.hid (header_row y.hd HOY.out.hd)
                      have HIX := Lib.hid (header_row x.hd HOX.out.hd)
                      have HF : Hid ((!decide (y.hd = x.hd)) = (m.take (j + 1)).any (oth x)) := Lib.hid (by
                        rw [HNX.out, ← hTB.out]
                        unfold oth
                        rw [hb2]
                        simp)
                      clear hh
                      generalize decide (y.hd = x.hd) = bb at *
                      go_wp2_with fail
                      refine wp_region_quiet_lit (by kernel_rfl) (by kernel_rfl) ?_
                      go_big_quiet_step (fail)
                      go_big_quiet_step (fail)
                      go_big_quiet_step (fail)
                      go_big_quiet_step (fail)
                      go_big_quiet_step (fail)
                      go_big_quiet_step (fail)
                      go_big_quiet_step (fail)
                      go_big_quiet_step (fail)
                      go_big_quiet_step (fail)
                      go_big_quiet_step (fail)
                      go_big_quiet_step (fail)
                      go_big_quiet_step (fail)
                      go_big_quiet_step (fail)
                      go_big_quiet_step (fail)
                      go_big_quiet_step (fail)
                      go_big_quiet_step (fail)
                      go_big_quiet_step (fail)
                      go_big_quiet_step (fail)
                      go_big_quiet_step (fail)
                      go_big_quiet_step (fail)
                      go_big_quiet_want
                      refine quiet_load_b _ _ rfl b (bo + j * 200) rfl y.hd.cells _ (by rintro w' ⟨n, rfl⟩; exact ((Chg.refl Non wr).drewN n).range' HRY.out.hd (fun f => f)) Try.underlying32 rfl HIY.out ?_
                      simp only [Act.put, List.setIfInBounds_toArray, List.set_cons_succ, List.set_cons_zero]
                      go_big_quiet_on
                      go_big_quiet_step (fail)
                      go_big_quiet_step (fail)
                      go_big_quiet_step (fail)
                      go_big_quiet_step (fail)
                      go_big_quiet_want
                      refine quiet_load_b _ _ rfl a (ao + (kk + 1) * 200) rfl x.hd.cells _ (by rintro w' ⟨n, rfl⟩; exact ((Chg.refl Non wr).drewN n).range' HRX.out.hd (fun f => f)) Try.underlying32 rfl HIX.out ?_
                      simp only [Act.put, List.setIfInBounds_toArray, List.set_cons_succ, List.set_cons_zero]
                      go_big_quiet_on
                      go_big_quiet_want
                      refine quiet_neq_b _ _ _ _ rfl rfl rfl header_guard EQ.out ?_
                      simp only [Act.put, List.setIfInBounds_toArray, List.set_cons_succ, List.set_cons_zero]
                      go_big_quiet_on
                      go_big_quiet_step (fail)
                      go_big_quiet_step (fail)
                      go_big_quiet_step (fail)
                      refine wpQuiet_nil ?_
                      intro _ hw'
                      obtain ⟨nr, hw''⟩ := hw'
                      subst hw''
                      go_wp2_with fail
                      go_roundw
                      case rel => exact ⟨j + 1, _, by omega, by go_num, rfl, HF, Lib.hid (hCZ.out.drewN _)⟩
                      case measure => simp [intOf]; omega
                    · have hb1 : (y.hd.height == x.hd.height) = false := by simpa using hh
                      have hb2 : decide (y.hd.height = x.hd.height) = false := by simpa using hh
                      have HF : Hid (false = (m.take (j + 1)).any (oth x)) := Lib.hid (by
                        rw [HNX.out, ← hTB.out]
                        unfold oth
                        rw [hb2]
                        rfl)
                      go_wp2_with fail
                      go_quiet (fail)
                      go_wp2_with fail
                      go_roundw
                      case rel => exact ⟨j + 1, false, by omega, by go_num, rfl, HF, Lib.hid (hCZ.out.drewN _)⟩
                      case measure => simp [intOf]; omega
                · obtain rfl : j = mn := by omega
                  rw [List.take_of_length_le (by rw [HNM.out]; exact Nat.le_refl _), HANY.out] at hTB
                  obtain rfl : tb = true := hTB.out
                  go_wp2_with fail
                  refine (HAL.out wr).mono ?_
                  rintro e w7 ⟨rfl, k7⟩
                  go_wp2_with fail
                  go_ret
                  exact ⟨by first | rfl | simp, HEND.out _ (hCZ.out.trans k7 (fun _ f => f.elim))⟩
            · have ha0 := dv_zero hb0
              have hbe : ((dv l m).2 == 0) = false := by simpa using hb0
              rw [ha0]
              generalize (dv l m).2 = bb at *
              clear ha0
              go_wp2_with fail
              refine (HAL.out w4).mono ?_
              rintro e w5 ⟨rfl, k5⟩
              go_wp2_with fail
              go_ret
              exact ⟨by first | rfl | simp, HEND.out _ (K4.out.trans k5 (fun _ f => f.elim))⟩
          | true =>
            have hv := HUL.out rfl
            rw [hv] at HS
            go_wp2_with fail
            refine (HS.out wr hC.out).mono ?_
            rintro e w3 ⟨rfl, k3⟩
            have hC := Lib.hid (hC.out.trans k3 (fun _ f => f.elim))
            clear k3 hv
            go_wp2_with fail
            refine (HD.out w3 hC.out).mono ?_
            rintro e w4 ⟨rfl, k4⟩
            have K4 := Lib.hid (hC.out.trans k4 (fun _ f => f.elim))
            clear k4
            by_cases hb0 : (dv l m).2 = 0
            · obtain ⟨r, x, kk, hr, hs, h0, hx, hpx, hdv⟩ := dv_ok hb0
              obtain ⟨hc1, hc2⟩ := dv_cut hr hs h0 hx hpx
              have HANY := Lib.hid (prt_any hpx)
              have HX := Lib.hid hx
              have hkn : kk + 1 < k + 1 := by rw [← HNL.out]; exact (List.getElem?_eq_some_iff.1 hx).1
              rw [hdv]
              have HT1 := Lib.hid (fun w' kc => HT.out w' (kk + 1) kc (by omega))
              have HT2 := Lib.hid (fun w' kc => HT.out w' (kk + 2) kc (by omega))
              rw [hc1] at HT1
              rw [hc2] at HT2
              have ha1 : ¬ (((kk + 1 : Nat) : Int) < 1) := by omega
              have ha2 : ((kk + 1 : Nat) : Int) < ((k + 1 : Nat) : Int) := by omega
              have ha3 : ((kk + 1 : Nat) : Int) ≤ (c : Int) := by omega
              have ha4 : ((kk + 1 : Nat) : Int) + 1 ≤ (c : Int) := by omega
              have ha5 : (0 : Int) ≤ ((kk + 1 : Nat) : Int) := by omega
              clear hb0 hr hs h0 hx hpx hdv hc1 hc2
              go_wp2_with fail
              refine (HT1.out w4 K4.out).mono ?_
              rintro e w5 ⟨rfl, k5⟩
              have K5 := Lib.hid (K4.out.trans k5 (fun _ f => f.elim))
              clear k5
              go_wp2_with fail
              refine (HT2.out w5 K5.out).mono ?_
              rintro e w6 ⟨rfl, k6⟩
              have K6 := Lib.hid (K5.out.trans k6 (fun _ f => f.elim))
              clear k6 HT1 HT2 HT HD HS HP HQ K4 K5 hC hU HUL
              go_wp2_with fail
              go_loopw [17, 18] (fun t i wz => ∃ (j : Nat) (tb : Bool), j ≤ mn ∧ i = .int .i64 (j : Int) ∧ t = .bool tb ∧ Hid (tb = (m.take j).any (oth x)) ∧ Hid (Chg Non W wz)) (fun _ i _ => mn - (intOf i).toNat)
              case atStart => exact ⟨0, false, by omega, rfl, rfl, Lib.hid (by simp), K6⟩
              case round =>
                obtain ⟨j, tb, hj, rfl, rfl, hTB, hCZ⟩ := hrel
                by_cases hlj : j < mn
                · have hjl : j < m.length := by rw [HNM.out]; exact hlj
                  have hy := List.getElem?_eq_getElem hjl
                  obtain ⟨b, bo, rfl, _, RY, oy⟩ := at_li (HN.out.chg hCZ.out) HOM.out hy
                  obtain ⟨a, ao, rfl, _, RX, ox⟩ := at_li (HM.out.chg hCZ.out) HOL.out HX.out
                  have HNX : Hid ((m.take (j + 1)).any (oth x) = ((m.take j).any (oth x) || oth x m[j])) := Lib.hid (by rw [take_one hy, List.any_append]; simp)
                  generalize m[j] = y at *
                  have HRX := Lib.hid RX
                  have HRY := Lib.hid RY
                  obtain ⟨_, cx, _, _, _, _⟩ := RX
                  obtain ⟨_, cy, _, _, _, _⟩ := RY
                  have hji : (j : Int) < (mn : Int) := by omega
                  have HOX := Lib.hid ox
                  have HOY := Lib.hid oy
                  clear hy hjl hj ox oy
                  cases tb with
                  | true =>
                    have HF : Hid (true = (m.take (j + 1)).any (oth x)) := Lib.hid (by rw [HNX.out, ← hTB.out]; rfl)
                    go_wp2_with fail
                    go_quiet (fail)
                    go_wp2_with fail
                    go_roundw
                    case rel => exact ⟨j + 1, true, by omega, by go_num, rfl, HF, Lib.hid (hCZ.out.drewN _)⟩
                    case measure => simp [intOf]; omega
                  | false =>
                    by_cases hh : y.hd.height = x.hd.height
                    · have hb1 : (y.hd.height == x.hd.height) = true := by simpa using hh
                      have hb2 : decide (y.hd.height = x.hd.height) = true := by simpa using hh
                      have EQ := Lib.hid (header_eq y.hd x.hd HOY.out.hd HOX.out.hd)
                      have HIY := Lib.hid (header_row y.hd HOY.out.hd)
                      have HIX := Lib.hid (header_row x.hd HOX.out.hd)
                      have HF : Hid ((!decide (y.hd = x.hd)) = (m.take (j + 1)).any (oth x)) := Lib.hid (by
                        rw [HNX.out, ← hTB.out]
                        unfold oth
                        rw [hb2]
                        simp)
                      clear hh
                      generalize decide (y.hd = x.hd) = bb at *
                      go_wp2_with fail
                      refine wp_region_quiet_lit (by kernel_rfl) (by kernel_rfl) ?_
                      go_big_quiet_step (fail)
                      go_big_quiet_step (fail)
                      go_big_quiet_step (fail)
                      go_big_quiet_step (fail)
                      go_big_quiet_step (fail)
                      go_big_quiet_step (fail)
                      go_big_quiet_step (fail)
                      go_big_quiet_step (fail)
                      go_big_quiet_step (fail)
                      go_big_quiet_step (fail)
                      go_big_quiet_step (fail)
                      go_big_quiet_step (fail)
                      go_big_quiet_step (fail)
                      go_big_quiet_step (fail)
                      go_big_quiet_step (fail)
                      go_big_quiet_step (fail)
                      go_big_quiet_step (fail)
                      go_big_quiet_step (fail)
                      go_big_quiet_step (fail)
                      go_big_quiet_step (fail)
                      go_big_quiet_want
                      refine quiet_load_b _ _ rfl b (bo + j * 200) rfl y.hd.cells _ (by rintro w' ⟨n, rfl⟩; exact ((Chg.refl Non wr).drewN n).range' HRY.out.hd (fun f => f)) Try.underlying32 rfl HIY.out ?_
                      simp only [Act.put, List.setIfInBounds_toArray, List.set_cons_succ, List.set_cons_zero]
                      go_big_quiet_on
                      go_big_quiet_step (fail)
                      go_big_quiet_step (fail)
                      go_big_quiet_step (fail)
                      go_big_quiet_step (fail)
                      go_big_quiet_want
                      refine quiet_load_b _ _ rfl a (ao + (kk + 1) * 200) rfl x.hd.cells _ (by rintro w' ⟨n, rfl⟩; exact ((Chg.refl Non wr).drewN n).range' HRX.out.hd (fun f => f)) Try.underlying32 rfl HIX.out ?_
                      simp only [Act.put, List.setIfInBounds_toArray, List.set_cons_succ, List.set_cons_zero]
                      go_big_quiet_on
                      go_big_quiet_want
                      refine quiet_neq_b _ _ _ _ rfl rfl rfl header_guard EQ.out ?_
                      simp only [Act.put, List.setIfInBounds_toArray, List.set_cons_succ, List.set_cons_zero]
                      go_big_quiet_on
                      go_big_quiet_step (fail)
                      go_big_quiet_step (fail)
                      go_big_quiet_step (fail)
                      refine wpQuiet_nil ?_
                      intro _ hw'
                      obtain ⟨nr, hw''⟩ := hw'
                      subst hw''
                      go_wp2_with fail
                      go_roundw
                      case rel => exact ⟨j + 1, _, by omega, by go_num, rfl, HF, Lib.hid (hCZ.out.drewN _)⟩
                      case measure => simp [intOf]; omega
                    · have hb1 : (y.hd.height == x.hd.height) = false := by simpa using hh
                      have hb2 : decide (y.hd.height = x.hd.height) = false := by simpa using hh
                      have HF : Hid (false = (m.take (j + 1)).any (oth x)) := Lib.hid (by
                        rw [HNX.out, ← hTB.out]
                        unfold oth
                        rw [hb2]
                        rfl)
                      go_wp2_with fail
                      go_quiet (fail)
                      go_wp2_with fail
                      go_roundw
                      case rel => exact ⟨j + 1, false, by omega, by go_num, rfl, HF, Lib.hid (hCZ.out.drewN _)⟩
                      case measure => simp [intOf]; omega
                · obtain rfl : j = mn := by omega
                  rw [List.take_of_length_le (by rw [HNM.out]; exact Nat.le_refl _), HANY.out] at hTB
                  obtain rfl : tb = true := hTB.out
                  go_wp2_with fail
                  refine (HAL.out wr).mono ?_
                  rintro e w7 ⟨rfl, k7⟩
                  go_wp2_with fail
                  go_ret
                  exact ⟨by first | rfl | simp, HEND.out _ (hCZ.out.trans k7 (fun _ f => f.elim))⟩
            · have ha0 := dv_zero hb0
              have hbe : ((dv l m).2 == 0) = false := by simpa using hb0
              rw [ha0]
              generalize (dv l m).2 = bb at *
              clear ha0
              go_wp2_with fail
              refine (HAL.out w4).mono ?_
              rintro e w5 ⟨rfl, k5⟩
              go_wp2_with fail
              go_ret
              exact ⟨by first | rfl | simp, HEND.out _ (K4.out.trans k5 (fun _ f => f.elim))⟩

/-! ### The row's frame -/
theorem own : ownKnob Try.prog.godebug = none := by kernel_rfl
theorem walkA (W : World) (args : Array Value) (hsz : args.size = Try.f4.params.size) (hok : ∀ (j : Nat) (t : TypeId) (v : Value), Try.f4.params[j]? = some t → args[j]? = some v → Okv Try.prog W t v) :
    Calls Try.prog 4 args W fun e W' => e = .returned (.bool true) ∧ Below W.heap.size W W' := by
  rw [Try.params4] at hsz hok
  obtain ⟨v0, v1, rfl⟩ : ∃ v0 v1 : Value, args = #[v0, v1] := by
    obtain ⟨l⟩ := args
    match l, hsz with
    | [v0, v1], _ => exact ⟨v0, v1, rfl⟩
  exact walk W v0 v1 (hok 0 22 v0 rfl rfl) (hok 1 22 v1 rfl rfl)
set_option maxRecDepth 100000 in
theorem lifted (os : Os) (started : os.Started) (H : Type) (enc : TypeId × Value → H) :
    ReturnsInHanded {} Try.checked os 4 .any (Rows.detectFirstSpec.pre6 enc Try.prog Try.f4 Rows.detectFirstRow.domain false) (Rows.detectFirstSpec.post enc Try.prog Try.f4 false true false false) :=
  lifted_of_walk (C := Try.checked) (s := Rows.detectFirstSpec) (conds := Rows.detectFirstRow.domain) (apart := false) (fresh := true) (T := 4) own started (by kernel_rfl) Try.func4
    (ChangeSpec.witness6 (enc := enc) (C := Try.checked) false ⟨#[], #[.slice none 0 0, .slice none 0 0], []⟩ 8 (by kernel_rfl) (by kernel_rfl) (by kernel_rfl) (by kernel_rfl))
    rfl (fun ds hd => by
      rw [Try.params4] at hd
      match ds, hd with
      | [d0, d1], _ => exact ⟨rfl, rfl, rfl⟩)
    (by kernel_rfl) Try.underlying4 (by kernel_rfl) (by rw [Try.params4]; intro t ht; simp only [List.mem_cons, List.not_mem_nil, or_false] at ht; rcases ht with rfl | rfl <;> exact ⟨by kernel_rfl, of_decide_eq_true (by kernel_rfl)⟩) walkA

theorem holds : Rows.detectFirstRow.holds Try.pinned (OpenSpec.ofChange Rows.detectFirstSpec) :=
  OpenClaim.holds_of_wide 4 Try.f4 rfl rfl rfl rfl rfl rfl rfl ⟨rfl, rfl, rfl, rfl, rfl⟩ rfl rfl rfl rfl rfl (by kernel_rfl) Try.func4 (by kernel_rfl)
    (of_decide_eq_true (by kernel_rfl)) (by unfold Func.isWrapper; first | (rw [if_pos (by decide +kernel)]; kernel_rfl) | (rw [if_neg (by decide +kernel)]; exact ⟨rfl, rfl⟩))
    (fun os started H enc _ => lifted os started H enc)
end Go.Proofs.Ytogkdeiknhminaa.detectFirst
namespace Go.Proofs.Ytogkdeiknhminaa
/-- The statement. -/
theorem detectFirst_holds : Rows.DetectFirstSaid := detectFirst.holds
end Go.Proofs.Ytogkdeiknhminaa
