/- The document's Diverge. -/
import Derived.Test.YtogkdeiknhminaaChecked
import Derived.WalkKit
import Derived.WalkLawsBesides
import Derived.Lib.Hide
import Derived.Deep.MidRow
import Derived.Deep.QuietTactic
import Derived.BigQuiet
import Derived.Test.YtogkdeiknhminaaDd
namespace Go.Proofs.Ytogkdeiknhminaa
open Go.RowKit
set_option linter.unusedVariables false
set_option linter.unusedSimpArgs false
set_option maxRecDepth 20000

set_option maxHeartbeats 3200000 in
theorem rDiverge_any (w : World) (A B : Option Addr) (c d : Nat) (l m : List Li) (hl : l.length ≤ maxLen) (hm : m.length ≤ maxLen) (ol : ∀ x ∈ l, x.Ok) (om : ∀ x ∈ m, x.Ok) (M : LstM w A l Li.cells 200) (N : LstM w B m Li.cells 200) :
    Calls Try.prog 9 #[.slice A l.length c, .slice B m.length d] w (Two w (dv l m)) := by
  have HM := Lib.hid M
  have HN := Lib.hid N
  have OL := Lib.hid ol
  have OM := Lib.hid om
  have HOF : Hid (∀ w' h, Chg Non w w' → Calls Try.prog 14 #[.slice B m.length d, .int .i64 h] w' (Zero w' (.int .i64 (idxI (fstOf m h))))) := Lib.hid fun w' h k => of_any w' B d m hm om (N.chg k) h
  unfold maxLen at hl hm
  clear M N ol om
  generalize hv : dv l m = v at *
  have HV := Lib.hid hv
  clear hv
  unfold Two
  generalize hn : l.length = n at *
  have HL := Lib.hid hn
  clear hn
  generalize hmm : m.length = mn at *
  have HLM := Lib.hid hmm
  clear hmm
  go_enter Try.func9, Try.ntmps9
  by_cases hn0 : n = 0
  · subst hn0
    obtain rfl : (0, 1) = v := by rw [← HV.out, List.eq_nil_of_length_eq_zero HL.out]; rfl
    go_wp2_with fail
    go_ret2
    exact ⟨rfl, Chg.refl _ _⟩
  have hnp : ¬ ((n : Int) = 0) := by omega
  have hne : ((n : Int) == 0) = false := by simpa using hnp
  have h0l : 0 < l.length := by rw [HL.out]; omega
  have hx0 := List.getElem?_eq_getElem h0l
  obtain ⟨a, ao, rfl, _, R0, o0⟩ := at_li HM.out OL.out hx0
  have HX0 := Lib.hid hx0
  generalize l[0] = r at *
  rw [Nat.zero_mul, Nat.add_zero] at R0
  have HR0 := Lib.hid R0
  obtain ⟨_, c1, _, _, _, _⟩ := R0
  have HO0 := Lib.hid o0
  have h0n : (0 : Int) < (n : Int) := by omega
  clear hx0 h0l o0 hn0
  go_wp2_with fail
  refine (HOF.out w _ (Chg.refl _ _)).mono ?_
  rintro e w1 ⟨rfl, k1⟩
  cases hfst : fstOf m r.hd.height with
  | none =>
    obtain rfl : (0, 191) = v := by rw [← HV.out, dv_root HX0.out]; rw [shw_none hfst]; simp
    have HF := Lib.hid hfst
    clear hfst
    simp only [idxI]
    go_wp2_with fail
    go_quiet (fail)
    go_wp2_with fail
    go_ret2
    exact ⟨rfl, k1.drewN _⟩
  | some q =>
    obtain ⟨y, hy, ey⟩ := fst_some hfst
    obtain ⟨b, bo, rfl, _, R1, o1⟩ := at_li (HN.out.chg k1) OM.out hy
    have HY := Lib.hid hy
    have HSH := Lib.hid (shw_some hfst hy)
    have hqm : q < mn := by have := (List.getElem?_eq_some_iff.1 hy).1; have := HLM.out; omega
    have hqi : (q : Int) < (mn : Int) := by omega
    have hq0 : (0 : Int) ≤ (q : Int) := by omega
    have hqd : decide ((q : Int) < 0) = false := by simp
    have hqn : ¬ ((q : Int) < 0) := by omega
    have HR1 := Lib.hid R1
    have HR0' := Lib.hid (HR0.out.chg k1 (fun f => f))
    have EQ := Lib.hid (header_eq y.hd r.hd o1.hd HO0.out.hd)
    have HIY := Lib.hid (header_row y.hd o1.hd)
    have HIR := Lib.hid (header_row r.hd HO0.out.hd)
    have HEQ : Hid ((y.hd = r.hd) ↔ shw m r.hd.height = some r.hd) := Lib.hid (by rw [HSH.out]; simp)
    clear hy R1 hfst hqm
    simp only [idxI]
    generalize hbb : decide (y.hd = r.hd) = bb at *
    have HBB := Lib.hid hbb
    clear hbb
    go_wp2_with fail
    refine wp_region_quiet_lit (by kernel_rfl) (by kernel_rfl) ?_
    go_big_quiet_step (fail)
    go_big_quiet_step (fail)
    go_big_quiet_step (fail)
    go_big_quiet_step (fail)
    go_big_quiet_step (fail)
    go_big_quiet_step (fail)
    go_big_quiet_step (fail)
    go_big_quiet_want
    refine quiet_load_b _ _ rfl b (bo + q * 200) rfl y.hd.cells _ (by rintro w' ⟨n, rfl⟩; exact ((Chg.refl Non w1).drewN n).range' HR1.out.hd (fun f => f)) Try.underlying32 rfl HIY.out ?_
    simp only [Act.put, List.setIfInBounds_toArray, List.set_cons_succ, List.set_cons_zero]
    go_big_quiet_on
    go_big_quiet_step (fail)
    go_big_quiet_step (fail)
    go_big_quiet_step (fail)
    go_big_quiet_want
    refine quiet_load_b _ _ rfl a (ao) rfl r.hd.cells _ (by rintro w' ⟨n, rfl⟩; exact ((Chg.refl Non w1).drewN n).range' HR0'.out.hd (fun f => f)) Try.underlying32 rfl HIR.out ?_
    simp only [Act.put, List.setIfInBounds_toArray, List.set_cons_succ, List.set_cons_zero]
    go_big_quiet_on
    go_big_quiet_want
    refine quiet_neq_b _ _ _ _ rfl rfl rfl header_guard EQ.out ?_
    simp only [Act.put, List.setIfInBounds_toArray, List.set_cons_succ, List.set_cons_zero]
    go_big_quiet_on
    go_big_quiet_step (fail)
    refine wpQuiet_nil ?_
    intro _ hw'
    obtain ⟨nq, hw''⟩ := hw'
    subst hw''
    cases bb with
    | false =>
      obtain rfl : (0, 191) = v := by
        have := HBB.out
        rw [← HV.out, dv_root HX0.out]
        rw [← HEQ.out]
        simpa using this
      go_wp2_with fail
      go_ret2
      exact ⟨rfl, k1.drewN _⟩
    | true =>
      have HSR : Hid (shw m r.hd.height = some r.hd) := Lib.hid (by
        have := HBB.out
        rw [← HEQ.out]
        simpa using this)
      go_wp2_with fail
      have HK1 := Lib.hid (k1.drewN nq)
      clear HEQ HBB EQ HSH HR1 HR0' k1 hqd hqn hq0 hqi ey HY HIY o1
      go_loopw [6, 7] (fun s i wr => ∃ k : Nat, k + 1 ≤ n ∧ i = .int .i64 ((k + 1 : Nat) : Int) ∧ (∃ z, s = .int .i64 z) ∧ Hid (∀ y ∈ (l.drop 1).take k, prt m y = false) ∧ Hid (Chg Non w wr)) (fun _ i _ => n - (intOf i).toNat)
      case atStart => exact ⟨0, by omega, rfl, ⟨_, rfl⟩, Lib.hid (by simp), HK1⟩
      case round =>
        obtain ⟨k, hk, rfl, ⟨z, rfl⟩, hF, hC⟩ := hrel
        by_cases hlt : k + 1 < n
        · have hkl : k + 1 < l.length := by rw [HL.out]; exact hlt
          have hx := List.getElem?_eq_getElem hkl
          obtain ⟨ax, axo, hax, _, RX, ox⟩ := at_li (HM.out.chg hC.out) OL.out hx
          obtain ⟨rfl, rfl⟩ : a = ax ∧ ao = axo := by injection hax with hax; injection hax with h1 h2 _; exact ⟨h1, h2⟩
          clear hax
          have HX := Lib.hid hx
          generalize l[k + 1] = x at *
          have HRX := Lib.hid RX
          obtain ⟨_, d1, _, _, _, _⟩ := RX
          have HOX := Lib.hid ox
          have hki : ((k + 1 : Nat) : Int) < (n : Int) := by omega
          have HSN : Hid (prt m x = false → ∀ y ∈ (l.drop 1).take (k + 1), prt m y = false) := Lib.hid fun hp y hy => by
            rw [take_one (by rw [List.getElem?_drop, Nat.add_comm]; exact HX.out), List.mem_append, List.mem_singleton] at hy
            rcases hy with hy | rfl
            · exact hF.out y hy
            · exact hp
          clear hx hkl ox hk
          go_wp2_with fail
          refine (HOF.out wr _ hC.out).mono ?_
          rintro e w2 ⟨rfl, k2⟩
          have HC2 := Lib.hid (hC.out.trans k2 (fun _ f => f.elim))
          cases hfst : fstOf m x.hd.height with
          | none =>
            have HP : Hid (prt m x = false) := Lib.hid (by unfold prt; rw [shw_none hfst])
            clear hfst
            simp only [idxI]
            go_wp2_with fail
            go_quiet (fail)
            go_wp2_with fail
            go_roundw
            case rel => exact ⟨k + 1, by omega, by go_num, ⟨_, rfl⟩, Lib.hid (HSN.out HP.out), Lib.hid (HC2.out.drewN _)⟩
            case measure => simp [intOf]; omega
          | some q =>
            obtain ⟨y, hy, ey⟩ := fst_some hfst
            obtain ⟨by_, byo, hby, _, R1, o1⟩ := at_li (HN.out.chg HC2.out) OM.out hy
            obtain ⟨rfl, rfl⟩ : b = by_ ∧ bo = byo := by injection hby with hby; injection hby with h1 h2 _; exact ⟨h1, h2⟩
            clear hby
            have hqm : q < mn := by have := (List.getElem?_eq_some_iff.1 hy).1; have := HLM.out; omega
            have hqi : (q : Int) < (mn : Int) := by omega
            have hqd : decide ((q : Int) < 0) = false := by simp
            have hqn : (0 : Int) ≤ (q : Int) := by omega
            have HR1 := Lib.hid R1
            have HR0' := Lib.hid (HRX.out.chg k2 (fun f => f))
            have EQ := Lib.hid (header_eq y.hd x.hd o1.hd HOX.out.hd)
            have HIY := Lib.hid (header_row y.hd o1.hd)
            have HIX := Lib.hid (header_row x.hd HOX.out.hd)
            have HP : Hid (prt m x = decide (y.hd ≠ x.hd)) := Lib.hid (by unfold prt; rw [shw_some hfst hy])
            clear hy R1 hfst hqm o1 ey k2
            simp only [idxI]
            generalize hbb : decide (y.hd = x.hd) = bb at *
            have HBB := Lib.hid hbb
            clear hbb
            go_wp2_with fail
            refine wp_region_quiet_lit (by kernel_rfl) (by kernel_rfl) ?_
            go_big_quiet_step (fail)
            go_big_quiet_step (fail)
            go_big_quiet_step (fail)
            go_big_quiet_step (fail)
            go_big_quiet_step (fail)
            go_big_quiet_step (fail)
            go_big_quiet_step (fail)
            go_big_quiet_want
            refine quiet_load_b _ _ rfl b (bo + q * 200) rfl y.hd.cells _ (by rintro w' ⟨n, rfl⟩; exact ((Chg.refl Non w2).drewN n).range' HR1.out.hd (fun f => f)) Try.underlying32 rfl HIY.out ?_
            simp only [Act.put, List.setIfInBounds_toArray, List.set_cons_succ, List.set_cons_zero]
            go_big_quiet_on
            go_big_quiet_step (fail)
            go_big_quiet_step (fail)
            go_big_quiet_step (fail)
            go_big_quiet_step (fail)
            go_big_quiet_want
            refine quiet_load_b _ _ rfl a (ao + (k + 1) * 200) rfl x.hd.cells _ (by rintro w' ⟨n, rfl⟩; exact ((Chg.refl Non w2).drewN n).range' HR0'.out.hd (fun f => f)) Try.underlying32 rfl HIX.out ?_
            simp only [Act.put, List.setIfInBounds_toArray, List.set_cons_succ, List.set_cons_zero]
            go_big_quiet_on
            go_big_quiet_want
            refine quiet_neq_b _ _ _ _ rfl rfl rfl header_guard EQ.out ?_
            simp only [Act.put, List.setIfInBounds_toArray, List.set_cons_succ, List.set_cons_zero]
            go_big_quiet_on
            go_big_quiet_step (fail)
            refine wpQuiet_nil ?_
            intro _ hw'
            obtain ⟨nr, hw''⟩ := hw'
            subst hw''
            cases bb with
            | true =>
              have HP0 : Hid (prt m x = false) := Lib.hid (by have := HBB.out; rw [HP.out]; simpa using this)
              go_wp2_with fail
              go_roundw
              case rel => exact ⟨k + 1, by omega, by go_num, ⟨_, rfl⟩, Lib.hid (HSN.out HP0.out), Lib.hid (HC2.out.drewN _)⟩
              case measure => simp [intOf]; omega
            | false =>
              have HP1 : Hid (prt m x = true) := Lib.hid (by have := HBB.out; rw [HP.out]; simpa using this)
              obtain rfl : (((k + 1 : Nat) : Int), 0) = v := by rw [← HV.out]; exact (dv_found HX0.out HSR.out hF.out HX.out HP1.out).symm
              go_wp2_with fail
              go_ret2
              exact ⟨rfl, HC2.out.drewN _⟩
        · obtain rfl : k + 1 = n := by omega
          go_wp2_with fail
          obtain rfl : (0, 171) = v := by
            rw [← HV.out]
            refine (dv_none HX0.out HSR.out (fun y hy => hF.out y ?_)).symm
            rw [List.take_of_length_le (by rw [List.length_drop, HL.out]; omega)]
            exact hy
          go_ret2
          exact ⟨rfl, hC.out⟩
end Go.Proofs.Ytogkdeiknhminaa
