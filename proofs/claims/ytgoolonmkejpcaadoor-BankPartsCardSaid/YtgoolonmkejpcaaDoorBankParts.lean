/- Of the program at this commit: the law BankParts answers true for any script, any act and any part (what is moved, made or taken away in two parts leaves the bank as if it was done at once, if that was not refused; the script's first 60 acts); no condition but that the library's tables hold what the program's text lays in them (tied). -/
import Derived.Test.YtgoolonmkejpcaaDoorRows
import Derived.Test.YtgoolonmkejpcaaDoorCards
import Derived.Test.YtgoolonmkejpcaaDoorTie
import Derived.WalkKit
import Derived.ProofKit
import Derived.SevenTiedAt
import Derived.Stop.Joined
import Derived.Test.YtgoolonmkejpcaaDoorLf
import Derived.Test.YtgoolonmkejpcaaDoorKj
import Derived.Test.YtgoolonmkejpcaaDoorKz
namespace Go.Proofs.YtgoolonmkejpcaaDoor.bankParts
open Go.ChangeShapes Go.WideShapes Go.ChangeAt Go.RowKit
set_option linter.unusedVariables false

set_option maxHeartbeats 12800000 in
set_option maxRecDepth 20000 in
theorem walk (W : World) (v0 v1 v2 : Value) (h0 : Okv Tryd.prog W 22 v0) (h1 : Okv Tryd.prog W 32 v1) (h2 : Okv Tryd.prog W 30 v2) (hT : Tab W) :
    Calls Tryd.prog 7 #[v0, v1, v2] W fun e W' => e = .returned (.bool true) ∧ Below W.heap.size W W' := by
  obtain ⟨A, c, l, rfl, hl, M, ol⟩ := acts_arg h0
  obtain ⟨x, rfl, ox⟩ := act_arg h1
  obtain ⟨pt, rfl, hpt⟩ := u64_arg h2
  have HM := Lib.hid M
  have OL := Lib.hid ol
  have HT := Lib.hid hT
  unfold maxLen at hl
  clear M ol hT h0 h1 h2
  obtain ⟨kind, s, t, d, n⟩ := x
  have HOK := Lib.hid ox
  obtain ⟨ok0, ok1, os, ot, od, oc⟩ := ox
  dsimp only at os ot od oc ok0 ok1
  have HO : Hid (s.size ≤ maxLen ∧ t.size ≤ maxLen ∧ d.size ≤ maxLen ∧ n < 18446744073709551616 ∧ pt < 18446744073709551616 ∧ -9223372036854775808 ≤ kind ∧ kind ≤ 9223372036854775807) := Lib.hid ⟨os, ot, od, oc, hpt, ok0, ok1⟩
  clear ok0 ok1 os ot od oc hpt
  generalize hn : l.length = m at *
  have HL := Lib.hid hn
  clear hn
  have HF : Hid (∀ w', Chg Non (W.alloc (.cells (Ac.cells ⟨kind, s, t, d, n⟩).toArray 32)) w' → Chg Non W w' ∧ w'.cell? ⟨W.heap.size, 0, none⟩ = some (.int .i64 kind) ∧ w'.cell? ⟨W.heap.size, 1, none⟩ = some (.string s) ∧ w'.cell? ⟨W.heap.size, 2, none⟩ = some (.string t) ∧ w'.cell? ⟨W.heap.size, 3, none⟩ = some (.string d) ∧ w'.cell? ⟨W.heap.size, 4, none⟩ = some (.int .u64 (n : Int))) := Lib.hid fun w' k => by
    have h := (Hb.new W 32 (Ac.cells ⟨kind, s, t, d, n⟩).toArray).chg k (fun f => f)
    exact ⟨((Chg.refl _ _).alloc _).trans k (fun _ f => f.elim), by rw [h.cell]; rfl, by rw [h.cell]; rfl, by rw [h.cell]; rfl, by rw [h.cell]; rfl, by rw [h.cell]; rfl⟩
  unfold Ac.cells at *
  generalize hwa : W.alloc (.cells [Value.int .i64 kind, .string s, .string t, .string d, .int .u64 (n : Int)].toArray 32) = wa at *
  go_enter Tryd.func7, Tryd.ntmps7
  go_wp2_with fail
  generalize hha : W.heap.size = ha at *
  clear hha hwa
  refine (New_any wa).mono ?_
  rintro e w1 ⟨k1, g, b1, b2, rfl, hu, h1⟩
  have HU : Hid (∀ j, Bb b1 b2 j → wa.heap.size ≤ j) := Lib.hid fun j e => by rcases e with rfl | rfl; exact hu.2.1; exact hu.2.2
  have HK1 := Lib.hid k1
  have HB1 := Lib.hid h1.out
  clear hu k1 h1
  go_wp2_with fail
  refine (New_any w1).mono ?_
  rintro e w2 ⟨k2, G, c1, c2, rfl, hu, h2⟩
  have HV : Hid (∀ j, Bb c1 c2 j → wa.heap.size ≤ j) := Lib.hid fun j e => by have := HK1.out.size; rcases e with rfl | rfl; exact Nat.le_trans this hu.2.1; exact Nat.le_trans this hu.2.2
  have HAP : Hid (Far3 g b1 b2 G c1 c2) := Lib.hid (by have := HB1.out.lts; obtain ⟨u1, u2, u3⟩ := hu; unfold Far3 Bb; omega)
  have HK2 := Lib.hid (HK1.out.trans k2 (fun _ f => f.elim))
  have HB2 := Lib.hid (HB1.out.non k2)
  have HG2 := Lib.hid h2.out
  clear hu k2 h2 HB1 HK1
  go_wp2_with fail
  refine (alive_any w2).mono ?_
  rintro e w3 ⟨rfl, k3⟩
  have HK3 := Lib.hid (HK2.out.trans k3 (fun _ f => f.elim))
  have HB3 := Lib.hid (HB2.out.non k3)
  have HG3 := Lib.hid (HG2.out.non k3)
  clear k3 HB2 HG2 HK2
  go_wp2_with fail
  go_loopw [9] (fun i wr => ∃ (k : Nat) (st : Bst), k ≤ m ∧ k ≤ 60 ∧ i = .int .i64 (k : Int) ∧ Hid (BkP wr g b1 b2 (2 * k) st.F st.S) ∧ Hid (BkP wr G c1 c2 (2 * k) st.F st.S) ∧ Hid (Inv st.F st.S) ∧ Hid (Chg Non wa wr)) (fun i _ => m - (intOf i).toNat)
  case atStart => exact ⟨0, Bst.none, by omega, by omega, rfl, HB3, HG3, Lib.hid Inv.none, HK3⟩
  case round =>
    obtain ⟨k, st, hk, hk60, rfl, hB, hG, hI, hC⟩ := hrel
    by_cases hin : k < m ∧ k < 60
    · obtain ⟨hlt, h60⟩ := hin
      have hkl : k < l.length := by rw [HL.out]; exact hlt
      have hx := List.getElem?_eq_getElem hkl
      obtain ⟨a, ao, rfl, hal, r1⟩ := (HM.out.chg (HF.out wr hC.out).1) k _ hx
      have HX : Hid (∀ w', Chg Non wa w' → w'.rangeAt a (ao + k * 5) (Ac.cells l[k])) := Lib.hid fun w' kk => by
        obtain ⟨a', ao', e, _, r⟩ := (HM.out.chg (HF.out w' kk).1) k _ hx
        injection e with e
        injection e with e1 e2
        subst e1
        subst e2
        exact r
      have ox := OL.out l[k] (List.getElem_mem hkl)
      generalize l[k] = y at *
      have hki : (k : Int) < (m : Int) := by omega
      have hki60 : (k : Int) < 60 := by omega
      have HDO := Lib.hid (do_any wr g b1 b2 (2 * k) st hB.out hI.out (by omega) y ox)
      have HDG := Lib.hid (fun w' (h : BkP w' G c1 c2 (2 * k) st.F st.S) => do_any w' G c1 c2 (2 * k) st h hI.out (by omega) y ox)
      have HI2 := Lib.hid (doR_inv hI.out y)
      have HN : Hid (k < m ∧ k < 60) := Lib.hid ⟨hlt, h60⟩
      clear hx hkl ox hal
      generalize doR st y = r at *
      obtain ⟨kind', s', t', d', n'⟩ := y
      unfold Ac.cells at *
      dsimp only at r1
      obtain ⟨y0, r2⟩ := rangeAt_cons r1
      obtain ⟨y1, r2⟩ := rangeAt_cons r2
      obtain ⟨y2, r2⟩ := rangeAt_cons r2
      obtain ⟨y3, r2⟩ := rangeAt_cons r2
      obtain ⟨y4, r2⟩ := rangeAt_cons r2
      clear r1 r2
      go_wp2_with fail
      refine HDO.out.mono ?_
      rintro e w5 ⟨rfl, k5, hB6⟩
      have HC6 : Hid (Chg Non wa w5) := Lib.hid (hC.out.trans k5 (fun j e => .inr (HU.out j e)))
      have HG6 := Lib.hid (hG.out.chg k5 HAP.out.1 HAP.out.2.1 HAP.out.2.2.1)
      clear k5 y0 y1 y2 y3 y4 hG hB hC
      have r1 := HX.out w5 HC6.out
      obtain ⟨y0, r2⟩ := rangeAt_cons r1
      obtain ⟨y1, r2⟩ := rangeAt_cons r2
      obtain ⟨y2, r2⟩ := rangeAt_cons r2
      obtain ⟨y3, r2⟩ := rangeAt_cons r2
      obtain ⟨y4, r2⟩ := rangeAt_cons r2
      clear r1 r2
      go_wp2_with fail
      refine (HDG.out w5 HG6.out).mono ?_
      rintro e w6 ⟨rfl, k6, hG7⟩
      have HC7 : Hid (Chg Non wa w6) := Lib.hid (HC6.out.trans k6 (fun j e => .inr (HV.out j e)))
      have HB7 := Lib.hid (hB6.out.chg k6 HAP.out.2.2.2.1 HAP.out.2.2.2.2.1 HAP.out.2.2.2.2.2)
      clear k6 y0 y1 y2 y3 y4 hB6 HG6 HC6
      go_wp2_with fail
      go_roundw
      case rel => exact ⟨k + 1, r.2, by have := HN.out.1; omega, by have := HN.out.2; omega, by go_num, Lib.hid (HB7.out.mono (by omega)), Lib.hid (hG7.out.mono (by omega)), HI2, HC7⟩
      case measure => have := HN.out.1; simp [intOf]; omega
    · have hex : ¬ ((k : Int) < (m : Int)) ∨ ((k : Int) < (m : Int) ∧ ¬ ((k : Int) < 60)) := by omega
      have HK60 : Hid (k ≤ 60) := Lib.hid hk60
      clear hin hk hk60
      obtain ⟨_, q0, q1, q2, q3, q4⟩ := HF.out wr hC.out
      rcases hex with hex | ⟨hex1, hex2⟩
      · by_cases hs0 : n < 2
        · have hs0' : (n : Int) < 2 := by omega
          go_wp2_with fail
          go_ret
          exact ⟨rfl, (HF.out _ hC.out).1.below (Nat.le_refl _) (fun _ f => f.elim)⟩
        by_cases hs1 : kind < 1
        · have hs0' : ¬ (n : Int) < 2 := by omega
          go_wp2_with fail
          go_ret
          exact ⟨rfl, (HF.out _ hC.out).1.below (Nat.le_refl _) (fun _ f => f.elim)⟩
        by_cases hs2 : kind > 3
        · have hs0' : ¬ (n : Int) < 2 := by omega
          go_wp2_with fail
          go_ret
          exact ⟨rfl, (HF.out _ hC.out).1.below (Nat.le_refl _) (fun _ f => f.elim)⟩
        obtain ⟨p, rfl⟩ : ∃ p, n = p + 1 := ⟨n - 1, by omega⟩
        have hp0 : 0 < p := by omega
        have hkinds : kind = 1 ∨ kind = 2 ∨ kind = 3 := by omega
        have HKD := Lib.hid hkinds
        have hs0' : ¬ ((p : Int) + 1 < 2) := by omega
        have hpt : pt % p < p := Nat.mod_lt _ hp0
        have hoc : p + 1 < 18446744073709551616 := HO.out.2.2.2.1
        clear hs0 hkinds
        have HQE : Hid ((pt : Int) % (p : Int) = ((pt % p : Nat) : Int)) := Lib.hid (by omega)
        have HD1 : Hid (Calls Tryd.prog 12 #[.agg #[.int .i64 kind, .string s, .string t, .string d, .int .u64 ((p : Int) + 1)], .pointer (some ⟨g, 0, none⟩)] wr (ActP wr g b1 b2 (2 * k) (doR st ⟨kind, s, t, d, p + 1⟩))) := Lib.hid (by
          have := do_any wr g b1 b2 (2 * k) st hB.out hI.out (by have := HK60.out; omega) ⟨kind, s, t, d, p + 1⟩ HOK.out
          have e : (((p + 1 : Nat)) : Int) = (p : Int) + 1 := by omega
          unfold Ac.cells at this
          dsimp only at this
          rw [e] at this
          exact this)
        have HPA := Lib.hid (fun k' (h1 : 1 ≤ k') (h2 : k' < p + 1) => parts hI.out (kd := kind) (s := s) (t := t) (d := d) (n := p + 1) h1 h2 HKD.out)
        have HI2 := Lib.hid (doR_inv hI.out ⟨kind, s, t, d, p + 1⟩)
        go_wp2_with fail
        rw [HQE.out]
        generalize hqq : pt % p = q at *
        have HQQ := Lib.hid hqq
        clear hqq
        refine HD1.out.mono ?_
        rintro e w5 ⟨rfl, k5, hB6⟩
        have HC6 : Hid (Chg Non wa w5) := Lib.hid (hC.out.trans k5 (fun j e => .inr (HU.out j e)))
        have HG6 := Lib.hid (hG.out.chg k5 HAP.out.1 HAP.out.2.1 HAP.out.2.2.1)
        obtain ⟨_, q0, q1, q2, q3, q4⟩ := HF.out w5 HC6.out
        clear k5 hG hB hC
        have HZA : Hid (∀ o, (w5.alloc o).cell? ⟨ha, 0, none⟩ = some (.int .i64 kind) ∧ (w5.alloc o).cell? ⟨ha, 1, none⟩ = some (.string s) ∧ (w5.alloc o).cell? ⟨ha, 2, none⟩ = some (.string t) ∧ (w5.alloc o).cell? ⟨ha, 3, none⟩ = some (.string d) ∧ (w5.alloc o).cell? ⟨ha, 4, none⟩ = some (.int .u64 ((p : Int) + 1))) := Lib.hid fun o => (HF.out _ (HC6.out.alloc o)).2
        have z0 := fun o => (HZA.out o).1
        have z1 := fun o => (HZA.out o).2.1
        have z2 := fun o => (HZA.out o).2.2.1
        have z3 := fun o => (HZA.out o).2.2.2.1
        have z4 := fun o => (HZA.out o).2.2.2.2
        have z5 : ∀ o o', ((w5.alloc o).alloc o').cell? ⟨ha, 4, none⟩ = some (.int .u64 ((p : Int) + 1)) := fun o o' => (HF.out _ ((HC6.out.alloc o).alloc o')).2.2.2.2.2
        have hqp : q < p := by rw [← HQQ.out]; exact Nat.mod_lt _ hp0
        generalize doR st ⟨kind, s, t, d, p + 1⟩ = r at *
        generalize hr1 : r.1 = r1 at *
        have HR1 := Lib.hid hr1
        clear hr1
        have HCY : Hid (Chg Non w5 ((w5.alloc (.cells #[Value.int .i64 kind, .string s, .string t, .string d, .int .u64 (1 + (q : Int))] 32)).alloc (.cells #[Value.int .i64 kind, .string s, .string t, .string d, .int .u64 ((p : Int) + 1 - (1 + (q : Int)))] 32))) := Lib.hid (((Chg.refl Non w5).alloc _).alloc _)
        have HCC : Hid (∀ w', Chg (Bb c1 c2) ((w5.alloc (.cells #[Value.int .i64 kind, .string s, .string t, .string d, .int .u64 (1 + (q : Int))] 32)).alloc (.cells #[Value.int .i64 kind, .string s, .string t, .string d, .int .u64 ((p : Int) + 1 - (1 + (q : Int)))] 32)) w' → w'.cell? ⟨w5.heap.size + 1, 0, none⟩ = some (.int .i64 kind) ∧ w'.cell? ⟨w5.heap.size + 1, 1, none⟩ = some (.string s) ∧ w'.cell? ⟨w5.heap.size + 1, 2, none⟩ = some (.string t) ∧ w'.cell? ⟨w5.heap.size + 1, 3, none⟩ = some (.string d) ∧ w'.cell? ⟨w5.heap.size + 1, 4, none⟩ = some (.int .u64 ((p : Int) + 1 - (1 + (q : Int))))) := Lib.hid fun w' kk => by
          have e : (w5.alloc (.cells #[Value.int .i64 kind, .string s, .string t, .string d, .int .u64 (1 + (q : Int))] 32)).heap.size = w5.heap.size + 1 := by simp
          have hb := Hb.new (w5.alloc (.cells #[Value.int .i64 kind, .string s, .string t, .string d, .int .u64 (1 + (q : Int))] 32)) 32 #[Value.int .i64 kind, .string s, .string t, .string d, .int .u64 ((p : Int) + 1 - (1 + (q : Int)))]
          rw [e] at hb
          have hl := HG6.out.lts
          have q := hb.chg kk (fun e => by rcases e with e | e <;> omega)
          exact ⟨by rw [q.cell]; rfl, by rw [q.cell]; rfl, by rw [q.cell]; rfl, by rw [q.cell]; rfl, by rw [q.cell]; rfl⟩
        have HD2 : Hid (∀ w', BkP w' G c1 c2 (2 * k) st.F st.S → Calls Tryd.prog 12 #[.agg #[Value.int .i64 kind, .string s, .string t, .string d, .int .u64 (1 + (q : Int))], .pointer (some ⟨G, 0, none⟩)] w' (ActP w' G c1 c2 (2 * k) (doR st ⟨kind, s, t, d, 1 + q⟩))) := Lib.hid (fun w' h => by
          have := do_any w' G c1 c2 (2 * k) st h hI.out (by have := HK60.out; omega) ⟨kind, s, t, d, 1 + q⟩ ⟨HOK.out.k0, HOK.out.k1, HOK.out.frm, HOK.out.to, HOK.out.den, by dsimp only; omega⟩
          have e : (((1 + q : Nat)) : Int) = 1 + (q : Int) := by omega
          unfold Ac.cells at this
          dsimp only at this
          rw [e] at this
          exact this)
        have HI3 := Lib.hid (doR_inv hI.out ⟨kind, s, t, d, 1 + q⟩)
        have HD3 : Hid (∀ w', BkP w' G c1 c2 (2 * k + 2) (doR st ⟨kind, s, t, d, 1 + q⟩).2.F (doR st ⟨kind, s, t, d, 1 + q⟩).2.S → Calls Tryd.prog 12 #[.agg #[Value.int .i64 kind, .string s, .string t, .string d, .int .u64 ((p : Int) + 1 - (1 + (q : Int)))], .pointer (some ⟨G, 0, none⟩)] w' (ActP w' G c1 c2 (2 * k + 2) (doR (doR st ⟨kind, s, t, d, 1 + q⟩).2 ⟨kind, s, t, d, p + 1 - (1 + q)⟩))) := Lib.hid (fun w' h => by
          have := do_any w' G c1 c2 (2 * k + 2) _ h HI3.out (by have := HK60.out; omega) ⟨kind, s, t, d, p + 1 - (1 + q)⟩ ⟨HOK.out.k0, HOK.out.k1, HOK.out.frm, HOK.out.to, HOK.out.den, by dsimp only; omega⟩
          have e : (((p + 1 - (1 + q) : Nat)) : Int) = (p : Int) + 1 - (1 + (q : Int)) := by omega
          unfold Ac.cells at this
          dsimp only at this
          rw [e] at this
          exact this)
        have HPB := Lib.hid (HPA.out (1 + q) (by omega) (by omega))
        clear HPA
        by_cases hz : r1 = 0
        · have f0 : (r1 == 0) = true := by simpa using hz
          have HZ := Lib.hid (HPB.out hz)
          clear hz HPB
          go_wp2_with fail
          generalize hwy : (w5.alloc (.cells #[Value.int .i64 kind, .string s, .string t, .string d, .int .u64 (1 + (q : Int))] 32)).alloc (.cells #[Value.int .i64 kind, .string s, .string t, .string d, .int .u64 ((p : Int) + 1 - (1 + (q : Int)))] 32) = wy at *
          generalize w5.heap.size = hx at *
          clear hwy
          refine (HD2.out wy (HG6.out.non HCY.out)).mono ?_
          rintro e w7 ⟨rfl, k7, hG7⟩
          rw [HZ.out.1]
          have HC7 : Hid (Chg Non wa w7) := Lib.hid ((HC6.out.trans HCY.out (fun _ f => f.elim)).trans k7 (fun j e => .inr (HV.out j e)))
          have hB7 := Lib.hid ((hB6.out.non HCY.out).chg k7 HAP.out.2.2.2.1 HAP.out.2.2.2.2.1 HAP.out.2.2.2.2.2)
          obtain ⟨y0, y1, y2, y3, y4⟩ := HCC.out w7 k7
          clear k7 HG6 hB6 HCY q0 q1 q2 q3 q4 HZA z0 z1 z2 z3 z4 z5
          go_wp2_with fail
          refine (HD3.out w7 hG7.out).mono ?_
          rintro e w8 ⟨rfl, k8, hG8'⟩
          rw [HZ.out.2.1]
          have HC8 : Hid (Chg Non wa w8) := Lib.hid (HC7.out.trans k8 (fun j e => .inr (HV.out j e)))
          have hB8 := Lib.hid (hB7.out.chg k8 HAP.out.2.2.2.1 HAP.out.2.2.2.2.1 HAP.out.2.2.2.2.2)
          have hG8 : Hid (BkP w8 G c1 c2 (2 * k + 2 + 2) r.2.F r.2.S) := Lib.hid (by have := hG8'.out; rw [HZ.out.2.2] at this; exact this)
          clear k8 hG8' hB7 hG7 y0 y1 y2 y3 y4 HCC HD2 HD3
          go_wp2_with fail
          rename_i hQ
          have kd := (Chg.refl Non w8).drew
          have HB9 := Lib.hid (hB8.out.non kd)
          have HG9 := Lib.hid (hG8.out.non kd)
          have HC9 := Lib.hid (HC8.out.trans kd (fun _ f => f.elim))
          clear kd hB8 hG8 HC8
          refine wp_region_heads [0, 1, 2, 3, 4, 5, 6, 7, 9] 16 #[true, true, true, true, true, true, true, true, false, true, false, false, false, false, false, false, false, false, false, false, false, false, false, false, false] (by kernel_rfl) (by kernel_rfl) (by kernel_rfl) (by kernel_rfl) (by kernel_rfl) (fun w' => Chg Non w8.drew w') (Chg.refl _ _) ?_
          refine headI_run rfl (by first | rfl | (simp [Region.wanted, yielded]; done) | (go_simp; done)) (fun w' kk => by first | (go_simp; rfl) | (go_simp; done)) ?_
          simp only [Act.put, List.setIfInBounds_toArray, List.set_cons_zero, List.set_cons_succ]
          refine headI_run rfl (by first | rfl | (simp [Region.wanted, yielded]; done) | (go_simp; done)) (fun w' kk => by first | (go_simp; rfl) | (go_simp; done)) ?_
          simp only [Act.put, List.setIfInBounds_toArray, List.set_cons_zero, List.set_cons_succ]
          refine headI_run rfl (by first | rfl | (simp [Region.wanted, yielded]; done) | (go_simp; done)) (fun w' kk => by first | (go_simp; rfl) | (go_simp; done)) ?_
          simp only [Act.put, List.setIfInBounds_toArray, List.set_cons_zero, List.set_cons_succ]
          refine headI_run rfl (by first | rfl | (simp [Region.wanted, yielded]; done) | (go_simp; done)) (fun w' kk => by first | (go_simp; rfl) | (go_simp; done)) ?_
          simp only [Act.put, List.setIfInBounds_toArray, List.set_cons_zero, List.set_cons_succ]
          refine headI_run rfl (by first | rfl | (simp [Region.wanted, yielded]; done) | (go_simp; done)) (fun w' kk => by first | (go_simp; rfl) | (go_simp; done)) ?_
          simp only [Act.put, List.setIfInBounds_toArray, List.set_cons_zero, List.set_cons_succ]
          refine headI_run rfl (by first | rfl | (simp [Region.wanted, yielded]; done) | (go_simp; done)) (fun w' kk => by first | (go_simp; rfl) | (go_simp; done)) ?_
          simp only [Act.put, List.setIfInBounds_toArray, List.set_cons_zero, List.set_cons_succ]
          refine headI_run rfl (by first | rfl | (simp [Region.wanted, yielded]; done) | (go_simp; done)) (fun w' kk => by first | (go_simp; rfl) | (go_simp; done)) ?_
          simp only [Act.put, List.setIfInBounds_toArray, List.set_cons_zero, List.set_cons_succ]
          refine headI_run rfl (by first | rfl | (simp [Region.wanted, yielded]; done) | (go_simp; done)) (fun w' kk => by first | (go_simp; rfl) | (go_simp; done)) ?_
          simp only [Act.put, List.setIfInBounds_toArray, List.set_cons_zero, List.set_cons_succ]
          refine headI_run rfl (by first | rfl | (simp [Region.wanted, yielded]; done) | (go_simp; done)) (fun w' kk => by first | (go_simp; rfl) | (go_simp; done)) ?_
          simp only [Act.put, List.setIfInBounds_toArray, List.set_cons_zero, List.set_cons_succ]
          refine headI_nil ?_
          generalize w8.drew = w9 at *
          have ent1 : ∀ args w, (callFunc 15 args).run Tryd.prog w = .ok (.enter 15 args) w := enters_of Tryd.func15 (by kernel_rfl) rfl
          have ent2 : ∀ args w, (callFunc 14 args).run Tryd.prog w = .ok (.enter 14 args) w := enters_of Tryd.func14 (by kernel_rfl) rfl
          have ent3 : ∀ args w, (callFunc 19 args).run Tryd.prog w = .ok (.enter 19 args) w := enters_of Tryd.func19 (by kernel_rfl) rfl
          refine held_w (n := 8) (fuel := 15) (L' := #[true, true, true, true, true, true, true, true, true, true, false, false, false, false, false, false, false, false, false, false, false, false, false, false, false]) rfl (by kernel_rfl) (by first | rfl | (simp [Region.wanted, yielded]; done) | (go_simp; done)) (by kernel_rfl) ?_
          refine wp_call (vl := [.pointer (some ⟨g, 0, none⟩)]) 15 _ _ rfl rfl ent1 (Entries_any w9 g b1 b2 (2 * k + 2) r.2.F r.2.S HB9.out (by have := HK60.out; omega) HI2.out.fine (HT.out.chg (HF.out w9 HC9.out).1 (fun f => f))) ?_
          rintro e w10 ⟨k10, A1, n1, es, rfl, hL10, hE10, hl10⟩
          refine ⟨_, rfl, k10, ?_⟩
          simp only [Act.put, List.setIfInBounds_toArray, List.set_cons_zero, List.set_cons_succ]
          have HG10 := Lib.hid (HG9.out.non k10)
          refine held_w (n := 10) (fuel := 14) (L' := #[true, true, true, true, true, true, true, true, true, true, true, false, false, false, false, false, false, false, false, false, false, false, false, false, false]) rfl (by kernel_rfl) (by first | rfl | (simp [Region.wanted, yielded]; done) | (go_simp; done)) (by kernel_rfl) ?_
          refine wp_call (vl := [.pointer (some ⟨G, 0, none⟩)]) 15 _ _ rfl rfl ent1 (Entries_any w10 G c1 c2 (2 * k + 2 + 2) r.2.F r.2.S HG10.out (by have := HK60.out; omega) HI2.out.fine (HT.out.chg (HF.out w10 (HC9.out.trans k10 (fun _ f => f.elim))).1 (fun f => f))) ?_
          rintro e w11 ⟨k11, A2, n2, fs, rfl, hL11, hE11, hl11⟩
          have k12 := k10.trans k11 (fun _ f => f.elim)
          refine ⟨_, rfl, k12, ?_⟩
          simp only [Act.put, List.setIfInBounds_toArray, List.set_cons_zero, List.set_cons_succ]
          have hfe : fs = es := EntsOf.one HI2.out.fine hE11.out hE10.out
          subst hfe
          have hL12 := hL10.out.chg k11
          refine held_w (n := 11) (fuel := 13) (L' := #[true, true, true, true, true, true, true, true, true, true, true, true, false, false, false, false, false, false, false, false, false, false, false, false, false]) rfl (by kernel_rfl) (by first | rfl | (simp [Region.wanted, yielded]; done) | (go_simp; done)) (by kernel_rfl) ?_
          refine wp_call (vl := [.slice A1 fs.length n1, .slice A2 fs.length n2]) 14 _ _ rfl rfl ent2 (same_yes w11 A1 A2 n1 n2 fs (by have := HK60.out; omega) hL12 hL11.out) ?_
          rintro e w12 ⟨rfl, k13⟩
          have k14 := k12.trans k13 (fun _ f => f.elim)
          have HCX := Lib.hid (HC9.out.trans k14 (fun _ f => f.elim))
          refine ⟨_, rfl, k14, ?_⟩
          simp only [Act.put, List.setIfInBounds_toArray, List.set_cons_zero, List.set_cons_succ]
          have HX3 : Hid (∀ w', Chg Non w9 w' → w'.cell? ⟨ha, 3, none⟩ = some (.string d)) := Lib.hid fun w' kk => (HF.out w' (HC9.out.trans kk (fun _ f => f.elim))).2.2.2.2.1
          refine heads (g := 5) (by kernel_rfl) (fun _ _ _ _ _ h => h) [12, 13, 14, 15, 16, 18, 19, 20] _ _ w12 (by kernel_rfl) rfl k14 ?_
          refine headI_run rfl (by first | rfl | (simp [Region.wanted, yielded]; done) | (go_simp; done)) (fun w' kk => by (skip); first | (go_simp; rfl) | (go_simp; done)) ?_
          simp only [Act.put, List.setIfInBounds_toArray, List.set_cons_zero, List.set_cons_succ]
          refine headI_run rfl (by first | rfl | (simp [Region.wanted, yielded]; done) | (go_simp; done)) (fun w' kk => by (skip); first | (go_simp; rfl) | (go_simp; done)) ?_
          simp only [Act.put, List.setIfInBounds_toArray, List.set_cons_zero, List.set_cons_succ]
          refine headI_run rfl (by first | rfl | (simp [Region.wanted, yielded]; done) | (go_simp; done)) (fun w' kk => by (skip); first | (go_simp; rfl) | (go_simp; done)) ?_
          simp only [Act.put, List.setIfInBounds_toArray, List.set_cons_zero, List.set_cons_succ]
          refine headI_run rfl (by first | rfl | (simp [Region.wanted, yielded]; done) | (go_simp; done)) (fun w' kk => by (skip); first | (go_simp; rfl) | (go_simp; done)) ?_
          simp only [Act.put, List.setIfInBounds_toArray, List.set_cons_zero, List.set_cons_succ]
          refine headI_run rfl (by first | rfl | (simp [Region.wanted, yielded]; done) | (go_simp; done)) (fun w' kk => by (have x0 := HX3.out w' kk; skip); first | (go_simp; rfl) | (go_simp; done)) ?_
          simp only [Act.put, List.setIfInBounds_toArray, List.set_cons_zero, List.set_cons_succ]
          refine headI_run rfl (by first | rfl | (simp [Region.wanted, yielded]; done) | (go_simp; done)) (fun w' kk => by (skip); first | (go_simp; rfl) | (go_simp; done)) ?_
          simp only [Act.put, List.setIfInBounds_toArray, List.set_cons_zero, List.set_cons_succ]
          refine headI_run rfl (by first | rfl | (simp [Region.wanted, yielded]; done) | (go_simp; done)) (fun w' kk => by (skip); first | (go_simp; rfl) | (go_simp; done)) ?_
          simp only [Act.put, List.setIfInBounds_toArray, List.set_cons_zero, List.set_cons_succ]
          refine headI_run rfl (by first | rfl | (simp [Region.wanted, yielded]; done) | (go_simp; done)) (fun w' kk => by (have x0 := HX3.out w' kk; skip); first | (go_simp; rfl) | (go_simp; done)) ?_
          simp only [Act.put, List.setIfInBounds_toArray, List.set_cons_zero, List.set_cons_succ]
          refine headI_nil ?_
          have HB12 := HB9.out.non k14
          have HG12 := HG9.out.non k14
          refine held_w (n := 17) (fuel := 4) (L' := #[true, true, true, true, true, true, true, true, true, true, true, true, true, true, true, true, true, true, true, true, true, false, false, false, false]) rfl (by kernel_rfl) (by first | rfl | (simp [Region.wanted, yielded]; done) | (go_simp; done)) (by kernel_rfl) ?_
          refine wp_call (vl := [.pointer (some ⟨g, 0, none⟩), .string d]) 19 _ _ rfl rfl ent3 (Supply_any w12 g b1 b2 (2 * k + 2) r.2.F r.2.S HB12 d HO.out.2.2.1) ?_
          rintro e w13 ⟨rfl, k15⟩
          have k16 := k14.trans k15 (fun _ f => f.elim)
          refine ⟨_, rfl, k16, ?_⟩
          simp only [Act.put, List.setIfInBounds_toArray, List.set_cons_zero, List.set_cons_succ]
          refine held_w (n := 21) (fuel := 3) (L' := #[true, true, true, true, true, true, true, true, true, true, true, true, true, true, true, true, true, true, true, true, true, true, false, false, false]) rfl (by kernel_rfl) (by first | rfl | (simp [Region.wanted, yielded]; done) | (go_simp; done)) (by kernel_rfl) ?_
          refine wp_call (vl := [.pointer (some ⟨G, 0, none⟩), .string d]) 19 _ _ rfl rfl ent3 (Supply_any w13 G c1 c2 (2 * k + 2 + 2) r.2.F r.2.S (HG12.non k15) d HO.out.2.2.1) ?_
          rintro e w14 ⟨rfl, k17⟩
          have k18 := k16.trans k17 (fun _ f => f.elim)
          refine ⟨_, rfl, k18, ?_⟩
          simp only [Act.put, List.setIfInBounds_toArray, List.set_cons_zero, List.set_cons_succ]
          generalize ((r.2.S d : Nat) : Int) = sup at *
          refine held_w (n := 22) (fuel := 2) (L' := #[true, true, true, true, true, true, true, true, true, true, true, true, true, true, true, true, true, true, true, true, true, true, true, false, false]) rfl (by kernel_rfl) (by first | rfl | (simp [Region.wanted, yielded]; done) | (go_simp; done)) (by kernel_rfl) ?_
          refine wp_val (v := .bool true) (by first | (go_simp; rfl) | (go_simp; done)) ?_
          simp only [Act.put, List.setIfInBounds_toArray, List.set_cons_zero, List.set_cons_succ]
          refine ⟨k18, ?_⟩
          refine held_w (n := 23) (fuel := 1) (L' := #[true, true, true, true, true, true, true, true, true, true, true, true, true, true, true, true, true, true, true, true, true, true, true, true, false]) rfl (by kernel_rfl) (by first | rfl | (simp [Region.wanted, yielded]; done) | (go_simp; done)) (by kernel_rfl) ?_
          refine wp_val (v := .bool true) (by first | (go_simp; rfl) | (go_simp; done)) ?_
          simp only [Act.put, List.setIfInBounds_toArray, List.set_cons_zero, List.set_cons_succ]
          refine ⟨k18, ?_⟩
          refine held_w (n := 24) (fuel := 0) (L' := #[true, true, true, true, true, true, true, true, true, true, true, true, true, true, true, true, true, true, true, true, true, true, true, true, true]) rfl (by kernel_rfl) (by first | rfl | (simp [Region.wanted, yielded]; done) | (go_simp; done)) (by kernel_rfl) ?_
          refine wp_val (v := .bool true) (by first | (go_simp; rfl) | (go_simp; done)) ?_
          simp only [Act.put, List.setIfInBounds_toArray, List.set_cons_zero, List.set_cons_succ]
          refine ⟨k18, ?_⟩
          refine wpAnyH_done (by kernel_rfl) ?_ _
          have HEND := Lib.hid ((HF.out w14 (HC9.out.trans k18 (fun _ f => f.elim))).1)
          clear k18 k17 k16 k15 k14 k13 k12 k11 k10 HB12 HG12 hL12
          refine hQ _ _ ?_
          go_wp2_with fail
          go_ret
          exact ⟨rfl, HEND.out.below (Nat.le_refl _) (fun _ f => f.elim)⟩
        · have f0 : (r1 == 0) = false := by simpa using hz
          clear hz
          go_wp2_with fail
          go_ret
          exact ⟨rfl, (HF.out _ (HC6.out.trans HCY.out (fun _ f => f.elim))).1.below (Nat.le_refl _) (fun _ f => f.elim)⟩
      · by_cases hs0 : n < 2
        · have hs0' : (n : Int) < 2 := by omega
          go_wp2_with fail
          go_ret
          exact ⟨rfl, (HF.out _ hC.out).1.below (Nat.le_refl _) (fun _ f => f.elim)⟩
        by_cases hs1 : kind < 1
        · have hs0' : ¬ (n : Int) < 2 := by omega
          go_wp2_with fail
          go_ret
          exact ⟨rfl, (HF.out _ hC.out).1.below (Nat.le_refl _) (fun _ f => f.elim)⟩
        by_cases hs2 : kind > 3
        · have hs0' : ¬ (n : Int) < 2 := by omega
          go_wp2_with fail
          go_ret
          exact ⟨rfl, (HF.out _ hC.out).1.below (Nat.le_refl _) (fun _ f => f.elim)⟩
        obtain ⟨p, rfl⟩ : ∃ p, n = p + 1 := ⟨n - 1, by omega⟩
        have hp0 : 0 < p := by omega
        have hkinds : kind = 1 ∨ kind = 2 ∨ kind = 3 := by omega
        have HKD := Lib.hid hkinds
        have hs0' : ¬ ((p : Int) + 1 < 2) := by omega
        have hpt : pt % p < p := Nat.mod_lt _ hp0
        have hoc : p + 1 < 18446744073709551616 := HO.out.2.2.2.1
        clear hs0 hkinds
        have HQE : Hid ((pt : Int) % (p : Int) = ((pt % p : Nat) : Int)) := Lib.hid (by omega)
        have HD1 : Hid (Calls Tryd.prog 12 #[.agg #[.int .i64 kind, .string s, .string t, .string d, .int .u64 ((p : Int) + 1)], .pointer (some ⟨g, 0, none⟩)] wr (ActP wr g b1 b2 (2 * k) (doR st ⟨kind, s, t, d, p + 1⟩))) := Lib.hid (by
          have := do_any wr g b1 b2 (2 * k) st hB.out hI.out (by have := HK60.out; omega) ⟨kind, s, t, d, p + 1⟩ HOK.out
          have e : (((p + 1 : Nat)) : Int) = (p : Int) + 1 := by omega
          unfold Ac.cells at this
          dsimp only at this
          rw [e] at this
          exact this)
        have HPA := Lib.hid (fun k' (h1 : 1 ≤ k') (h2 : k' < p + 1) => parts hI.out (kd := kind) (s := s) (t := t) (d := d) (n := p + 1) h1 h2 HKD.out)
        have HI2 := Lib.hid (doR_inv hI.out ⟨kind, s, t, d, p + 1⟩)
        go_wp2_with fail
        rw [HQE.out]
        generalize hqq : pt % p = q at *
        have HQQ := Lib.hid hqq
        clear hqq
        refine HD1.out.mono ?_
        rintro e w5 ⟨rfl, k5, hB6⟩
        have HC6 : Hid (Chg Non wa w5) := Lib.hid (hC.out.trans k5 (fun j e => .inr (HU.out j e)))
        have HG6 := Lib.hid (hG.out.chg k5 HAP.out.1 HAP.out.2.1 HAP.out.2.2.1)
        obtain ⟨_, q0, q1, q2, q3, q4⟩ := HF.out w5 HC6.out
        clear k5 hG hB hC
        have HZA : Hid (∀ o, (w5.alloc o).cell? ⟨ha, 0, none⟩ = some (.int .i64 kind) ∧ (w5.alloc o).cell? ⟨ha, 1, none⟩ = some (.string s) ∧ (w5.alloc o).cell? ⟨ha, 2, none⟩ = some (.string t) ∧ (w5.alloc o).cell? ⟨ha, 3, none⟩ = some (.string d) ∧ (w5.alloc o).cell? ⟨ha, 4, none⟩ = some (.int .u64 ((p : Int) + 1))) := Lib.hid fun o => (HF.out _ (HC6.out.alloc o)).2
        have z0 := fun o => (HZA.out o).1
        have z1 := fun o => (HZA.out o).2.1
        have z2 := fun o => (HZA.out o).2.2.1
        have z3 := fun o => (HZA.out o).2.2.2.1
        have z4 := fun o => (HZA.out o).2.2.2.2
        have z5 : ∀ o o', ((w5.alloc o).alloc o').cell? ⟨ha, 4, none⟩ = some (.int .u64 ((p : Int) + 1)) := fun o o' => (HF.out _ ((HC6.out.alloc o).alloc o')).2.2.2.2.2
        have hqp : q < p := by rw [← HQQ.out]; exact Nat.mod_lt _ hp0
        generalize doR st ⟨kind, s, t, d, p + 1⟩ = r at *
        generalize hr1 : r.1 = r1 at *
        have HR1 := Lib.hid hr1
        clear hr1
        have HCY : Hid (Chg Non w5 ((w5.alloc (.cells #[Value.int .i64 kind, .string s, .string t, .string d, .int .u64 (1 + (q : Int))] 32)).alloc (.cells #[Value.int .i64 kind, .string s, .string t, .string d, .int .u64 ((p : Int) + 1 - (1 + (q : Int)))] 32))) := Lib.hid (((Chg.refl Non w5).alloc _).alloc _)
        have HCC : Hid (∀ w', Chg (Bb c1 c2) ((w5.alloc (.cells #[Value.int .i64 kind, .string s, .string t, .string d, .int .u64 (1 + (q : Int))] 32)).alloc (.cells #[Value.int .i64 kind, .string s, .string t, .string d, .int .u64 ((p : Int) + 1 - (1 + (q : Int)))] 32)) w' → w'.cell? ⟨w5.heap.size + 1, 0, none⟩ = some (.int .i64 kind) ∧ w'.cell? ⟨w5.heap.size + 1, 1, none⟩ = some (.string s) ∧ w'.cell? ⟨w5.heap.size + 1, 2, none⟩ = some (.string t) ∧ w'.cell? ⟨w5.heap.size + 1, 3, none⟩ = some (.string d) ∧ w'.cell? ⟨w5.heap.size + 1, 4, none⟩ = some (.int .u64 ((p : Int) + 1 - (1 + (q : Int))))) := Lib.hid fun w' kk => by
          have e : (w5.alloc (.cells #[Value.int .i64 kind, .string s, .string t, .string d, .int .u64 (1 + (q : Int))] 32)).heap.size = w5.heap.size + 1 := by simp
          have hb := Hb.new (w5.alloc (.cells #[Value.int .i64 kind, .string s, .string t, .string d, .int .u64 (1 + (q : Int))] 32)) 32 #[Value.int .i64 kind, .string s, .string t, .string d, .int .u64 ((p : Int) + 1 - (1 + (q : Int)))]
          rw [e] at hb
          have hl := HG6.out.lts
          have q := hb.chg kk (fun e => by rcases e with e | e <;> omega)
          exact ⟨by rw [q.cell]; rfl, by rw [q.cell]; rfl, by rw [q.cell]; rfl, by rw [q.cell]; rfl, by rw [q.cell]; rfl⟩
        have HD2 : Hid (∀ w', BkP w' G c1 c2 (2 * k) st.F st.S → Calls Tryd.prog 12 #[.agg #[Value.int .i64 kind, .string s, .string t, .string d, .int .u64 (1 + (q : Int))], .pointer (some ⟨G, 0, none⟩)] w' (ActP w' G c1 c2 (2 * k) (doR st ⟨kind, s, t, d, 1 + q⟩))) := Lib.hid (fun w' h => by
          have := do_any w' G c1 c2 (2 * k) st h hI.out (by have := HK60.out; omega) ⟨kind, s, t, d, 1 + q⟩ ⟨HOK.out.k0, HOK.out.k1, HOK.out.frm, HOK.out.to, HOK.out.den, by dsimp only; omega⟩
          have e : (((1 + q : Nat)) : Int) = 1 + (q : Int) := by omega
          unfold Ac.cells at this
          dsimp only at this
          rw [e] at this
          exact this)
        have HI3 := Lib.hid (doR_inv hI.out ⟨kind, s, t, d, 1 + q⟩)
        have HD3 : Hid (∀ w', BkP w' G c1 c2 (2 * k + 2) (doR st ⟨kind, s, t, d, 1 + q⟩).2.F (doR st ⟨kind, s, t, d, 1 + q⟩).2.S → Calls Tryd.prog 12 #[.agg #[Value.int .i64 kind, .string s, .string t, .string d, .int .u64 ((p : Int) + 1 - (1 + (q : Int)))], .pointer (some ⟨G, 0, none⟩)] w' (ActP w' G c1 c2 (2 * k + 2) (doR (doR st ⟨kind, s, t, d, 1 + q⟩).2 ⟨kind, s, t, d, p + 1 - (1 + q)⟩))) := Lib.hid (fun w' h => by
          have := do_any w' G c1 c2 (2 * k + 2) _ h HI3.out (by have := HK60.out; omega) ⟨kind, s, t, d, p + 1 - (1 + q)⟩ ⟨HOK.out.k0, HOK.out.k1, HOK.out.frm, HOK.out.to, HOK.out.den, by dsimp only; omega⟩
          have e : (((p + 1 - (1 + q) : Nat)) : Int) = (p : Int) + 1 - (1 + (q : Int)) := by omega
          unfold Ac.cells at this
          dsimp only at this
          rw [e] at this
          exact this)
        have HPB := Lib.hid (HPA.out (1 + q) (by omega) (by omega))
        clear HPA
        by_cases hz : r1 = 0
        · have f0 : (r1 == 0) = true := by simpa using hz
          have HZ := Lib.hid (HPB.out hz)
          clear hz HPB
          go_wp2_with fail
          generalize hwy : (w5.alloc (.cells #[Value.int .i64 kind, .string s, .string t, .string d, .int .u64 (1 + (q : Int))] 32)).alloc (.cells #[Value.int .i64 kind, .string s, .string t, .string d, .int .u64 ((p : Int) + 1 - (1 + (q : Int)))] 32) = wy at *
          generalize w5.heap.size = hx at *
          clear hwy
          refine (HD2.out wy (HG6.out.non HCY.out)).mono ?_
          rintro e w7 ⟨rfl, k7, hG7⟩
          rw [HZ.out.1]
          have HC7 : Hid (Chg Non wa w7) := Lib.hid ((HC6.out.trans HCY.out (fun _ f => f.elim)).trans k7 (fun j e => .inr (HV.out j e)))
          have hB7 := Lib.hid ((hB6.out.non HCY.out).chg k7 HAP.out.2.2.2.1 HAP.out.2.2.2.2.1 HAP.out.2.2.2.2.2)
          obtain ⟨y0, y1, y2, y3, y4⟩ := HCC.out w7 k7
          clear k7 HG6 hB6 HCY q0 q1 q2 q3 q4 HZA z0 z1 z2 z3 z4 z5
          go_wp2_with fail
          refine (HD3.out w7 hG7.out).mono ?_
          rintro e w8 ⟨rfl, k8, hG8'⟩
          rw [HZ.out.2.1]
          have HC8 : Hid (Chg Non wa w8) := Lib.hid (HC7.out.trans k8 (fun j e => .inr (HV.out j e)))
          have hB8 := Lib.hid (hB7.out.chg k8 HAP.out.2.2.2.1 HAP.out.2.2.2.2.1 HAP.out.2.2.2.2.2)
          have hG8 : Hid (BkP w8 G c1 c2 (2 * k + 2 + 2) r.2.F r.2.S) := Lib.hid (by have := hG8'.out; rw [HZ.out.2.2] at this; exact this)
          clear k8 hG8' hB7 hG7 y0 y1 y2 y3 y4 HCC HD2 HD3
          go_wp2_with fail
          rename_i hQ
          have kd := (Chg.refl Non w8).drew
          have HB9 := Lib.hid (hB8.out.non kd)
          have HG9 := Lib.hid (hG8.out.non kd)
          have HC9 := Lib.hid (HC8.out.trans kd (fun _ f => f.elim))
          clear kd hB8 hG8 HC8
          refine wp_region_heads [0, 1, 2, 3, 4, 5, 6, 7, 9] 16 #[true, true, true, true, true, true, true, true, false, true, false, false, false, false, false, false, false, false, false, false, false, false, false, false, false] (by kernel_rfl) (by kernel_rfl) (by kernel_rfl) (by kernel_rfl) (by kernel_rfl) (fun w' => Chg Non w8.drew w') (Chg.refl _ _) ?_
          refine headI_run rfl (by first | rfl | (simp [Region.wanted, yielded]; done) | (go_simp; done)) (fun w' kk => by first | (go_simp; rfl) | (go_simp; done)) ?_
          simp only [Act.put, List.setIfInBounds_toArray, List.set_cons_zero, List.set_cons_succ]
          refine headI_run rfl (by first | rfl | (simp [Region.wanted, yielded]; done) | (go_simp; done)) (fun w' kk => by first | (go_simp; rfl) | (go_simp; done)) ?_
          simp only [Act.put, List.setIfInBounds_toArray, List.set_cons_zero, List.set_cons_succ]
          refine headI_run rfl (by first | rfl | (simp [Region.wanted, yielded]; done) | (go_simp; done)) (fun w' kk => by first | (go_simp; rfl) | (go_simp; done)) ?_
          simp only [Act.put, List.setIfInBounds_toArray, List.set_cons_zero, List.set_cons_succ]
          refine headI_run rfl (by first | rfl | (simp [Region.wanted, yielded]; done) | (go_simp; done)) (fun w' kk => by first | (go_simp; rfl) | (go_simp; done)) ?_
          simp only [Act.put, List.setIfInBounds_toArray, List.set_cons_zero, List.set_cons_succ]
          refine headI_run rfl (by first | rfl | (simp [Region.wanted, yielded]; done) | (go_simp; done)) (fun w' kk => by first | (go_simp; rfl) | (go_simp; done)) ?_
          simp only [Act.put, List.setIfInBounds_toArray, List.set_cons_zero, List.set_cons_succ]
          refine headI_run rfl (by first | rfl | (simp [Region.wanted, yielded]; done) | (go_simp; done)) (fun w' kk => by first | (go_simp; rfl) | (go_simp; done)) ?_
          simp only [Act.put, List.setIfInBounds_toArray, List.set_cons_zero, List.set_cons_succ]
          refine headI_run rfl (by first | rfl | (simp [Region.wanted, yielded]; done) | (go_simp; done)) (fun w' kk => by first | (go_simp; rfl) | (go_simp; done)) ?_
          simp only [Act.put, List.setIfInBounds_toArray, List.set_cons_zero, List.set_cons_succ]
          refine headI_run rfl (by first | rfl | (simp [Region.wanted, yielded]; done) | (go_simp; done)) (fun w' kk => by first | (go_simp; rfl) | (go_simp; done)) ?_
          simp only [Act.put, List.setIfInBounds_toArray, List.set_cons_zero, List.set_cons_succ]
          refine headI_run rfl (by first | rfl | (simp [Region.wanted, yielded]; done) | (go_simp; done)) (fun w' kk => by first | (go_simp; rfl) | (go_simp; done)) ?_
          simp only [Act.put, List.setIfInBounds_toArray, List.set_cons_zero, List.set_cons_succ]
          refine headI_nil ?_
          generalize w8.drew = w9 at *
          have ent1 : ∀ args w, (callFunc 15 args).run Tryd.prog w = .ok (.enter 15 args) w := enters_of Tryd.func15 (by kernel_rfl) rfl
          have ent2 : ∀ args w, (callFunc 14 args).run Tryd.prog w = .ok (.enter 14 args) w := enters_of Tryd.func14 (by kernel_rfl) rfl
          have ent3 : ∀ args w, (callFunc 19 args).run Tryd.prog w = .ok (.enter 19 args) w := enters_of Tryd.func19 (by kernel_rfl) rfl
          refine held_w (n := 8) (fuel := 15) (L' := #[true, true, true, true, true, true, true, true, true, true, false, false, false, false, false, false, false, false, false, false, false, false, false, false, false]) rfl (by kernel_rfl) (by first | rfl | (simp [Region.wanted, yielded]; done) | (go_simp; done)) (by kernel_rfl) ?_
          refine wp_call (vl := [.pointer (some ⟨g, 0, none⟩)]) 15 _ _ rfl rfl ent1 (Entries_any w9 g b1 b2 (2 * k + 2) r.2.F r.2.S HB9.out (by have := HK60.out; omega) HI2.out.fine (HT.out.chg (HF.out w9 HC9.out).1 (fun f => f))) ?_
          rintro e w10 ⟨k10, A1, n1, es, rfl, hL10, hE10, hl10⟩
          refine ⟨_, rfl, k10, ?_⟩
          simp only [Act.put, List.setIfInBounds_toArray, List.set_cons_zero, List.set_cons_succ]
          have HG10 := Lib.hid (HG9.out.non k10)
          refine held_w (n := 10) (fuel := 14) (L' := #[true, true, true, true, true, true, true, true, true, true, true, false, false, false, false, false, false, false, false, false, false, false, false, false, false]) rfl (by kernel_rfl) (by first | rfl | (simp [Region.wanted, yielded]; done) | (go_simp; done)) (by kernel_rfl) ?_
          refine wp_call (vl := [.pointer (some ⟨G, 0, none⟩)]) 15 _ _ rfl rfl ent1 (Entries_any w10 G c1 c2 (2 * k + 2 + 2) r.2.F r.2.S HG10.out (by have := HK60.out; omega) HI2.out.fine (HT.out.chg (HF.out w10 (HC9.out.trans k10 (fun _ f => f.elim))).1 (fun f => f))) ?_
          rintro e w11 ⟨k11, A2, n2, fs, rfl, hL11, hE11, hl11⟩
          have k12 := k10.trans k11 (fun _ f => f.elim)
          refine ⟨_, rfl, k12, ?_⟩
          simp only [Act.put, List.setIfInBounds_toArray, List.set_cons_zero, List.set_cons_succ]
          have hfe : fs = es := EntsOf.one HI2.out.fine hE11.out hE10.out
          subst hfe
          have hL12 := hL10.out.chg k11
          refine held_w (n := 11) (fuel := 13) (L' := #[true, true, true, true, true, true, true, true, true, true, true, true, false, false, false, false, false, false, false, false, false, false, false, false, false]) rfl (by kernel_rfl) (by first | rfl | (simp [Region.wanted, yielded]; done) | (go_simp; done)) (by kernel_rfl) ?_
          refine wp_call (vl := [.slice A1 fs.length n1, .slice A2 fs.length n2]) 14 _ _ rfl rfl ent2 (same_yes w11 A1 A2 n1 n2 fs (by have := HK60.out; omega) hL12 hL11.out) ?_
          rintro e w12 ⟨rfl, k13⟩
          have k14 := k12.trans k13 (fun _ f => f.elim)
          have HCX := Lib.hid (HC9.out.trans k14 (fun _ f => f.elim))
          refine ⟨_, rfl, k14, ?_⟩
          simp only [Act.put, List.setIfInBounds_toArray, List.set_cons_zero, List.set_cons_succ]
          have HX3 : Hid (∀ w', Chg Non w9 w' → w'.cell? ⟨ha, 3, none⟩ = some (.string d)) := Lib.hid fun w' kk => (HF.out w' (HC9.out.trans kk (fun _ f => f.elim))).2.2.2.2.1
          refine heads (g := 5) (by kernel_rfl) (fun _ _ _ _ _ h => h) [12, 13, 14, 15, 16, 18, 19, 20] _ _ w12 (by kernel_rfl) rfl k14 ?_
          refine headI_run rfl (by first | rfl | (simp [Region.wanted, yielded]; done) | (go_simp; done)) (fun w' kk => by (skip); first | (go_simp; rfl) | (go_simp; done)) ?_
          simp only [Act.put, List.setIfInBounds_toArray, List.set_cons_zero, List.set_cons_succ]
          refine headI_run rfl (by first | rfl | (simp [Region.wanted, yielded]; done) | (go_simp; done)) (fun w' kk => by (skip); first | (go_simp; rfl) | (go_simp; done)) ?_
          simp only [Act.put, List.setIfInBounds_toArray, List.set_cons_zero, List.set_cons_succ]
          refine headI_run rfl (by first | rfl | (simp [Region.wanted, yielded]; done) | (go_simp; done)) (fun w' kk => by (skip); first | (go_simp; rfl) | (go_simp; done)) ?_
          simp only [Act.put, List.setIfInBounds_toArray, List.set_cons_zero, List.set_cons_succ]
          refine headI_run rfl (by first | rfl | (simp [Region.wanted, yielded]; done) | (go_simp; done)) (fun w' kk => by (skip); first | (go_simp; rfl) | (go_simp; done)) ?_
          simp only [Act.put, List.setIfInBounds_toArray, List.set_cons_zero, List.set_cons_succ]
          refine headI_run rfl (by first | rfl | (simp [Region.wanted, yielded]; done) | (go_simp; done)) (fun w' kk => by (have x0 := HX3.out w' kk; skip); first | (go_simp; rfl) | (go_simp; done)) ?_
          simp only [Act.put, List.setIfInBounds_toArray, List.set_cons_zero, List.set_cons_succ]
          refine headI_run rfl (by first | rfl | (simp [Region.wanted, yielded]; done) | (go_simp; done)) (fun w' kk => by (skip); first | (go_simp; rfl) | (go_simp; done)) ?_
          simp only [Act.put, List.setIfInBounds_toArray, List.set_cons_zero, List.set_cons_succ]
          refine headI_run rfl (by first | rfl | (simp [Region.wanted, yielded]; done) | (go_simp; done)) (fun w' kk => by (skip); first | (go_simp; rfl) | (go_simp; done)) ?_
          simp only [Act.put, List.setIfInBounds_toArray, List.set_cons_zero, List.set_cons_succ]
          refine headI_run rfl (by first | rfl | (simp [Region.wanted, yielded]; done) | (go_simp; done)) (fun w' kk => by (have x0 := HX3.out w' kk; skip); first | (go_simp; rfl) | (go_simp; done)) ?_
          simp only [Act.put, List.setIfInBounds_toArray, List.set_cons_zero, List.set_cons_succ]
          refine headI_nil ?_
          have HB12 := HB9.out.non k14
          have HG12 := HG9.out.non k14
          refine held_w (n := 17) (fuel := 4) (L' := #[true, true, true, true, true, true, true, true, true, true, true, true, true, true, true, true, true, true, true, true, true, false, false, false, false]) rfl (by kernel_rfl) (by first | rfl | (simp [Region.wanted, yielded]; done) | (go_simp; done)) (by kernel_rfl) ?_
          refine wp_call (vl := [.pointer (some ⟨g, 0, none⟩), .string d]) 19 _ _ rfl rfl ent3 (Supply_any w12 g b1 b2 (2 * k + 2) r.2.F r.2.S HB12 d HO.out.2.2.1) ?_
          rintro e w13 ⟨rfl, k15⟩
          have k16 := k14.trans k15 (fun _ f => f.elim)
          refine ⟨_, rfl, k16, ?_⟩
          simp only [Act.put, List.setIfInBounds_toArray, List.set_cons_zero, List.set_cons_succ]
          refine held_w (n := 21) (fuel := 3) (L' := #[true, true, true, true, true, true, true, true, true, true, true, true, true, true, true, true, true, true, true, true, true, true, false, false, false]) rfl (by kernel_rfl) (by first | rfl | (simp [Region.wanted, yielded]; done) | (go_simp; done)) (by kernel_rfl) ?_
          refine wp_call (vl := [.pointer (some ⟨G, 0, none⟩), .string d]) 19 _ _ rfl rfl ent3 (Supply_any w13 G c1 c2 (2 * k + 2 + 2) r.2.F r.2.S (HG12.non k15) d HO.out.2.2.1) ?_
          rintro e w14 ⟨rfl, k17⟩
          have k18 := k16.trans k17 (fun _ f => f.elim)
          refine ⟨_, rfl, k18, ?_⟩
          simp only [Act.put, List.setIfInBounds_toArray, List.set_cons_zero, List.set_cons_succ]
          generalize ((r.2.S d : Nat) : Int) = sup at *
          refine held_w (n := 22) (fuel := 2) (L' := #[true, true, true, true, true, true, true, true, true, true, true, true, true, true, true, true, true, true, true, true, true, true, true, false, false]) rfl (by kernel_rfl) (by first | rfl | (simp [Region.wanted, yielded]; done) | (go_simp; done)) (by kernel_rfl) ?_
          refine wp_val (v := .bool true) (by first | (go_simp; rfl) | (go_simp; done)) ?_
          simp only [Act.put, List.setIfInBounds_toArray, List.set_cons_zero, List.set_cons_succ]
          refine ⟨k18, ?_⟩
          refine held_w (n := 23) (fuel := 1) (L' := #[true, true, true, true, true, true, true, true, true, true, true, true, true, true, true, true, true, true, true, true, true, true, true, true, false]) rfl (by kernel_rfl) (by first | rfl | (simp [Region.wanted, yielded]; done) | (go_simp; done)) (by kernel_rfl) ?_
          refine wp_val (v := .bool true) (by first | (go_simp; rfl) | (go_simp; done)) ?_
          simp only [Act.put, List.setIfInBounds_toArray, List.set_cons_zero, List.set_cons_succ]
          refine ⟨k18, ?_⟩
          refine held_w (n := 24) (fuel := 0) (L' := #[true, true, true, true, true, true, true, true, true, true, true, true, true, true, true, true, true, true, true, true, true, true, true, true, true]) rfl (by kernel_rfl) (by first | rfl | (simp [Region.wanted, yielded]; done) | (go_simp; done)) (by kernel_rfl) ?_
          refine wp_val (v := .bool true) (by first | (go_simp; rfl) | (go_simp; done)) ?_
          simp only [Act.put, List.setIfInBounds_toArray, List.set_cons_zero, List.set_cons_succ]
          refine ⟨k18, ?_⟩
          refine wpAnyH_done (by kernel_rfl) ?_ _
          have HEND := Lib.hid ((HF.out w14 (HC9.out.trans k18 (fun _ f => f.elim))).1)
          clear k18 k17 k16 k15 k14 k13 k12 k11 k10 HB12 HG12 hL12
          refine hQ _ _ ?_
          go_wp2_with fail
          go_ret
          exact ⟨rfl, HEND.out.below (Nat.le_refl _) (fun _ f => f.elim)⟩
        · have f0 : (r1 == 0) = false := by simpa using hz
          clear hz
          go_wp2_with fail
          go_ret
          exact ⟨rfl, (HF.out _ (HC6.out.trans HCY.out (fun _ f => f.elim))).1.below (Nat.le_refl _) (fun _ f => f.elim)⟩

/-! ### The row's frame -/
theorem own : ownKnob Tryd.prog.godebug = none := by kernel_rfl
theorem walkA (W : World) (args : Array Value) (hsz : args.size = Tryd.f7.params.size) (hok : ∀ (j : Nat) (t : TypeId) (v : Value), Tryd.f7.params[j]? = some t → args[j]? = some v → Okv Tryd.prog W t v) (hL : laidMetH Tryd.prog laidL W) :
    Calls Tryd.prog 7 args W fun e W' => e = .returned (.bool true) ∧ Below W.heap.size W W' := by
  rw [Tryd.params7] at hsz hok
  obtain ⟨v0, v1, v2, rfl⟩ : ∃ v0 v1 v2 : Value, args = #[v0, v1, v2] := by
    obtain ⟨l⟩ := args
    match l, hsz with
    | [v0, v1, v2], _ => exact ⟨v0, v1, v2, rfl⟩
  exact walk W v0 v1 v2 (hok 0 22 v0 rfl rfl) (hok 1 32 v1 rfl rfl) (hok 2 30 v2 rfl rfl) (tab_of_laid hL)
set_option maxRecDepth 100000 in
theorem lifted (os : Os) (started : os.Started) (H : Type) (enc : TypeId × Value → H) :
    ReturnsInHanded {} Tryd.checked os 7 .any (fun w args => (Rows.bankPartsSpec.pre enc Tryd.prog Tryd.f7 Rows.bankPartsRow.domain false w args ∧ laidMetH Tryd.prog laidL w) ∧ sizedMet enc Tryd.prog Tryd.f7 (OpenSpec.ofChange Rows.bankPartsSpec) false w args) (Rows.bankPartsSpec.post enc Tryd.prog Tryd.f7 false true false false) :=
  lifted_of_walk_laid (C := Tryd.checked) (s := Rows.bankPartsSpec) (conds := Rows.bankPartsRow.domain) (apart := false) (fresh := true) (T := 4) (laid := laidL) own started (by kernel_rfl) Tryd.func7
    (ChangeSpec.witness_at (enc := enc) (C := Tryd.checked) (os := os) (X := fun w _ => laidMetH Tryd.prog laidL w) false (laidWorld os) #[.slice none 0 0, .agg #[.int .i64 0, .string ⟨#[]⟩, .string ⟨#[]⟩, .string ⟨#[]⟩, .int .u64 0], .int .u64 0] 8 rfl (by kernel_rfl) (by kernel_rfl) (by kernel_rfl) (by kernel_rfl) (by kernel_rfl) (laidWorld_met os _))
    rfl (fun ds hd => by
      rw [Tryd.params7] at hd
      match ds, hd with
      | [d0, d1, d2], _ => exact ⟨rfl, rfl, rfl⟩)
    (by kernel_rfl) Tryd.underlying4 (by kernel_rfl) (by rw [Tryd.params7]; intro t ht; simp only [List.mem_cons, List.not_mem_nil, or_false] at ht; rcases ht with rfl | rfl | rfl <;> exact ⟨by kernel_rfl, of_decide_eq_true (by kernel_rfl)⟩) walkA

theorem holds : Rows.bankPartsRow.holds Tryd.pinned (OpenSpec.ofChange Rows.bankPartsSpec) :=
  OpenClaim.holds_of_wide 7 Tryd.f7 rfl rfl rfl rfl rfl rfl rfl ⟨rfl, rfl, rfl, rfl, rfl⟩ rfl rfl rfl rfl rfl (by kernel_rfl) Tryd.func7 (by kernel_rfl)
    (of_decide_eq_true (by kernel_rfl)) (by unfold Func.isWrapper; first | (rw [if_pos (by decide +kernel)]; kernel_rfl) | (rw [if_neg (by decide +kernel)]; exact ⟨rfl, rfl⟩))
    (fun os started H enc _ => lifted os started H enc)
theorem card : Rows.BankPartsCardSaid :=
  Claim7.holds_tied_plain_at .later [] [.data, .data, .data] true Rows.bankPartsCard.stood.harness true
    holds (fun _ h => by cases h) (by kernel_rfl) (fun _ h => by cases h) bankParts_row_tie rfl ⟨rfl, rfl⟩ (by kernel_rfl) rfl
    (fun f fn hf hfn => by
      obtain rfl : f = 7 := (Option.some.inj ((show Tryd.prog.funcNamed "nuncio/nunciolaw18.BankParts" = some 7 by kernel_rfl).symm.trans hf)).symm
      obtain rfl : fn = Tryd.f7 := (Option.some.inj (Tryd.func7.symm.trans hfn)).symm
      exact ⟨by kernel_rfl, fun j t ht => by
        rw [Tryd.params7] at ht
        have hm : t ∈ [22, 32, 30] := List.mem_of_getElem? (i := j) (by simpa using ht)
        simp only [List.mem_cons, List.not_mem_nil, or_false] at hm
        rcases hm with rfl | rfl | rfl
        · exact (show Tryd.prog.wantsStandIn 22 = false by kernel_rfl)
        · exact (show Tryd.prog.wantsStandIn 32 = false by kernel_rfl)
        · exact (show Tryd.prog.wantsStandIn 30 = false by kernel_rfl)⟩)
    (by kernel_rfl)
end Go.Proofs.YtgoolonmkejpcaaDoor.bankParts
namespace Go.Proofs.YtgoolonmkejpcaaDoor
/-- The statement. -/
theorem bankParts_holds : Rows.BankPartsCardSaid := bankParts.card
end Go.Proofs.YtgoolonmkejpcaaDoor
