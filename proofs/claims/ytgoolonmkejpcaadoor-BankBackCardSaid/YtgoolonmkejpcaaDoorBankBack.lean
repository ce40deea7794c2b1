/- Of the program at this commit: the law BankBack answers true for any script and any act (what is moved and moved back, or made and taken away, leaves the bank as it was; the script's first 60 acts); no condition but that the library's tables hold what the program's text lays in them (tied). -/
import Derived.Test.YtgoolonmkejpcaaDoorRows
import Derived.Test.YtgoolonmkejpcaaDoorCards
import Derived.Test.YtgoolonmkejpcaaDoorTie
import Derived.WalkKit
import Derived.ProofKit
import Derived.SevenTiedAt
import Derived.Stop.Joined
import Derived.Test.YtgoolonmkejpcaaDoorLf
import Derived.Test.YtgoolonmkejpcaaDoorKj
import Derived.Test.YtgoolonmkejpcaaDoorKy
namespace Go.Proofs.YtgoolonmkejpcaaDoor.bankBack
open Go.ChangeShapes Go.WideShapes Go.ChangeAt Go.RowKit
set_option linter.unusedVariables false

set_option maxHeartbeats 6400000 in
set_option maxRecDepth 20000 in
theorem walk (W : World) (v0 v1 : Value) (h0 : Okv Tryd.prog W 22 v0) (h1 : Okv Tryd.prog W 32 v1) (hT : Tab W) :
    Calls Tryd.prog 5 #[v0, v1] W fun e W' => e = .returned (.bool true) ∧ Below W.heap.size W W' := by
  obtain ⟨A, c, l, rfl, hl, M, ol⟩ := acts_arg h0
  obtain ⟨x, rfl, ox⟩ := act_arg h1
  have HM := Lib.hid M
  have OL := Lib.hid ol
  have HT := Lib.hid hT
  unfold maxLen at hl
  clear M ol hT h0 h1
  obtain ⟨kind, s, t, d, n⟩ := x
  obtain ⟨ok0, ok1, os, ot, od, oc⟩ := ox
  dsimp only at os ot od oc ok0 ok1
  have HO : Hid (s.size ≤ maxLen ∧ t.size ≤ maxLen ∧ d.size ≤ maxLen ∧ n < 18446744073709551616) := Lib.hid ⟨os, ot, od, oc⟩
  clear ok0 ok1 os ot od oc
  generalize hn : l.length = m at *
  have HL := Lib.hid hn
  clear hn
  have HF : Hid (∀ w', Chg Non (W.alloc (.cells (Ac.cells ⟨kind, s, t, d, n⟩).toArray 32)) w' → Chg Non W w' ∧ w'.cell? ⟨W.heap.size, 1, none⟩ = some (.string s) ∧ w'.cell? ⟨W.heap.size, 2, none⟩ = some (.string t) ∧ w'.cell? ⟨W.heap.size, 3, none⟩ = some (.string d) ∧ w'.cell? ⟨W.heap.size, 4, none⟩ = some (.int .u64 (n : Int))) := Lib.hid fun w' k => by
    have h := (Hb.new W 32 (Ac.cells ⟨kind, s, t, d, n⟩).toArray).chg k (fun f => f)
    exact ⟨((Chg.refl _ _).alloc _).trans k (fun _ f => f.elim), by rw [h.cell]; rfl, by rw [h.cell]; rfl, by rw [h.cell]; rfl, by rw [h.cell]; rfl⟩
  unfold Ac.cells at *
  generalize hwa : W.alloc (.cells [Value.int .i64 kind, .string s, .string t, .string d, .int .u64 (n : Int)].toArray 32) = wa at *
  go_enter Tryd.func5, Tryd.ntmps5
  go_wp2_with fail
  generalize hha : W.heap.size = ha at *
  have HHA := Lib.hid hha
  clear hha hwa
  refine (New_any wa).mono ?_
  rintro e w1 ⟨k1, g, b1, b2, rfl, hu, h1⟩
  have HU : Hid (∀ j, Bb b1 b2 j → wa.heap.size ≤ j) := Lib.hid fun j e => by rcases e with rfl | rfl; exact hu.2.1; exact hu.2.2
  have HK1 := Lib.hid k1
  clear hu k1
  go_wp2_with fail
  refine (alive_any w1).mono ?_
  rintro e w2 ⟨rfl, k2⟩
  have HK2 := Lib.hid (HK1.out.trans k2 (fun _ f => f.elim))
  have HB2 := Lib.hid (h1.out.non k2)
  clear k2 h1
  go_wp2_with fail
  go_loopw [6] (fun i wr => ∃ (k : Nat) (st : Bst), k ≤ m ∧ k ≤ 60 ∧ i = .int .i64 (k : Int) ∧ Hid (BkP wr g b1 b2 (2 * k) st.F st.S) ∧ Hid (Inv st.F st.S) ∧ Hid (Chg Non wa wr)) (fun i _ => m - (intOf i).toNat)
  case atStart => exact ⟨0, Bst.none, by omega, by omega, rfl, HB2, Lib.hid Inv.none, HK2⟩
  case round =>
    obtain ⟨k, st, hk, hk60, rfl, hB, hI, hC⟩ := hrel
    have HEND : Hid (¬ (k < m ∧ k < 60) → True) := Lib.hid fun _ => trivial
    by_cases hin : k < m ∧ k < 60
    · obtain ⟨hlt, h60⟩ := hin
      have hkl : k < l.length := by rw [HL.out]; exact hlt
      have hx := List.getElem?_eq_getElem hkl
      obtain ⟨a, ao, rfl, hal, r1⟩ := (HM.out.chg (HF.out wr hC.out).1) k _ hx
      have ox := OL.out l[k] (List.getElem_mem hkl)
      generalize l[k] = y at *
      have hki : (k : Int) < (m : Int) := by omega
      have hki60 : (k : Int) < 60 := by omega
      have HDO := Lib.hid (do_any wr g b1 b2 (2 * k) st hB.out hI.out (by omega) y ox)
      have HI2 := Lib.hid (doR_inv hI.out y)
      have HN : Hid (k < m ∧ k < 60) := Lib.hid ⟨hlt, h60⟩
      clear hx hkl ox hal
      generalize doR st y = r at *
      obtain ⟨kind', s', t', d', n'⟩ := y
      unfold Ac.cells at *
      dsimp only at r1
      obtain ⟨c0, r2⟩ := rangeAt_cons r1
      obtain ⟨c1, r2⟩ := rangeAt_cons r2
      obtain ⟨c2, r2⟩ := rangeAt_cons r2
      obtain ⟨c3, r2⟩ := rangeAt_cons r2
      obtain ⟨c4, r2⟩ := rangeAt_cons r2
      clear r1 r2
      go_wp2_with fail
      refine HDO.out.mono ?_
      rintro e w5 ⟨rfl, k5, hB6⟩
      have HC6 : Hid (Chg Non wa w5) := Lib.hid (hC.out.trans k5 (fun j e => .inr (HU.out j e)))
      clear k5 c0 c1 c2 c3 c4
      go_wp2_with fail
      go_roundw
      case rel => exact ⟨k + 1, r.2, by have := HN.out.1; omega, by have := HN.out.2; omega, by go_num, Lib.hid (hB6.out.mono (by omega)), HI2, HC6⟩
      case measure => have := HN.out.1; simp [intOf]; omega
    · have hex : ¬ ((k : Int) < (m : Int)) ∨ ((k : Int) < (m : Int) ∧ ¬ ((k : Int) < 60)) := by omega
      have HK60 : Hid (k ≤ 60) := Lib.hid hk60
      clear hin hk hk60
      obtain ⟨q0, q1, q2, q3, q4⟩ := HF.out wr hC.out
      rcases hex with hex | ⟨hex1, hex2⟩
      · go_wp2_with fail
        refine (Entries_any wr g b1 b2 (2 * k) st.F st.S hB.out (by have := HK60.out; omega) hI.out.fine (HT.out.chg (HF.out wr hC.out).1 (fun f => f))).mono ?_
        rintro e w4 ⟨k4, A4, n4, es, rfl, hL4, hE4, hl4⟩
        have HB5 := Lib.hid (hB.out.non k4)
        have HC5 := Lib.hid (hC.out.trans k4 (fun _ f => f.elim))
        obtain ⟨_, p1, p2, p3, p4⟩ := HF.out w4 HC5.out
        clear k4 q0 q1 q2 q3 q4
        go_wp2_with fail
        refine (Move_any w4 g b1 b2 (2 * k) st HB5.out hI.out (by have := HK60.out; omega) s t d HO.out.1 HO.out.2.1 HO.out.2.2.1 n HO.out.2.2.2).mono ?_
        rintro e w5 ⟨rfl, k5, hB6⟩
        have HC6 : Hid (Chg Non wa w5) := Lib.hid (HC5.out.trans k5 (fun j e => .inr (HU.out j e)))
        have hL5 := Lib.hid (entries_stay hL4.out HB5.out k5)
        have HI6 := Lib.hid (moveR_inv hI.out s t d n)
        have HMV := Lib.hid (@back_move st s t d n)
        have HMN := Lib.hid (@moveR_no st s t d n)
        obtain ⟨_, p1, p2, p3, p4⟩ := HF.out w5 HC6.out
        clear k5 HB5 HC5 hL4
        generalize moveR st s t d n = r at *
        generalize hr1 : r.1 = r1 at *
        have HR1 := Lib.hid hr1
        clear hr1
        by_cases hz : r1 = 0
        · have HB := Lib.hid (HMV.out hz)
          have f0 : (r1 == 0) = true := by simpa using hz
          clear hz HMV HMN
          go_wp2_with fail
          refine (Move_any w5 g b1 b2 (2 * k + 2) r.2 hB6.out HI6.out (by have := HK60.out; omega) t s d HO.out.2.1 HO.out.1 HO.out.2.2.1 n HO.out.2.2.2).mono ?_
          rintro e w6 ⟨rfl, k6, hB7'⟩
          have hB7 : Hid (BkP w6 g b1 b2 (2 * k + 4) st.F st.S) := Lib.hid (by have := hB7'.out; rw [HB.out.2] at this; exact this.mono (by omega))
          rw [HB.out.1]
          have HC7 : Hid (Chg Non wa w6) := Lib.hid (HC6.out.trans k6 (fun j e => .inr (HU.out j e)))
          have hL6 := Lib.hid (entries_stay hL5.out hB6.out k6)
          obtain ⟨_, p1, p2, p3, p4⟩ := HF.out w6 HC7.out
          clear k6 hB6 HC6 hL5 hB7'
          go_wp2_with fail
          refine (Mint_any w6 g b1 b2 (2 * k + 4) st hB7.out hI.out (by have := HK60.out; omega) t d HO.out.2.1 HO.out.2.2.1 n HO.out.2.2.2).mono ?_
          rintro e w7 ⟨rfl, k7, hB8⟩
          have HC8 : Hid (Chg Non wa w7) := Lib.hid (HC7.out.trans k7 (fun j e => .inr (HU.out j e)))
          have hL7 := Lib.hid (entries_stay hL6.out hB7.out k7)
          have HI8 := Lib.hid (mintR_inv hI.out t d n)
          have HMV := Lib.hid (@back_mint st hI.out t d n)
          have HMN := Lib.hid (@mintR_no st t d n)
          obtain ⟨_, p1, p2, p3, p4⟩ := HF.out w7 HC8.out
          clear k7 hB7 HC7 hL6
          generalize mintR st t d n = r2 at *
          generalize hr2 : r2.1 = q1 at *
          have HR2 := Lib.hid hr2
          clear hr2
          by_cases hz2 : q1 = 0
          · have HB := Lib.hid (HMV.out hz2)
            have f2 : (q1 == 0) = true := by simpa using hz2
            clear hz2 HMV HMN
            go_wp2_with fail
            refine (Burn_any w7 g b1 b2 (2 * k + 4 + 2) r2.2 hB8.out HI8.out (by have := HK60.out; omega) t d HO.out.2.1 HO.out.2.2.1 n HO.out.2.2.2).mono ?_
            rintro e w8 ⟨rfl, k8, hB9'⟩
            have HI9 := Lib.hid (burnR_inv HI8.out t d n)
            rw [HB.out.1]
            have HC9 : Hid (Chg Non wa w8) := Lib.hid (HC8.out.trans k8 (fun j e => .inr (HU.out j e)))
            have hL8 := Lib.hid (entries_stay hL7.out hB8.out k8)
            have HFE := Lib.hid HB.out.2
            generalize (burnR r2.2 t d n).2 = z at *
            clear k8 hB8 HC8 hL7 HB
            go_wp2_with fail
            refine (Entries_any w8 g b1 b2 (2 * k + 4 + 2 + 2) z.F z.S hB9'.out (by have := HK60.out; omega) HI9.out.fine (HT.out.chg (HF.out w8 HC9.out).1 (fun f => f))).mono ?_
            rintro e w9 ⟨k9, A9, n9, fs, rfl, hL9, hE9, hl9⟩
            have HC10 := Lib.hid (HC9.out.trans k9 (fun _ f => f.elim))
            have hL10 := Lib.hid (hL8.out.chg k9)
            have hfe : fs = es := EntsOf.one HI9.out.fine hE9.out (by rw [HFE.out]; exact hE4.out)
            subst hfe
            clear k9 HC9 hL8
            go_wp2_with fail
            refine (same_yes w9 A9 A4 n9 n4 fs (by have := HK60.out; omega) hL9.out hL10.out).mono ?_
            rintro e w10 ⟨rfl, k10⟩
            have HC11 := Lib.hid (HC10.out.trans k10 (fun _ f => f.elim))
            clear k10
            go_wp2_with fail
            go_ret
            refine ⟨rfl, ?_⟩
            exact (HF.out _ HC11.out).1.below (Nat.le_refl _) (fun _ f => f.elim)
          · have HS := Lib.hid (HMN.out hz2)
            have f2 : (q1 == 0) = false := by simpa using hz2
            have HFE : Hid (r2.2.F = st.F) := Lib.hid (by rw [HS.out])
            clear hz2 HMV HMN
            go_wp2_with fail
            refine (Entries_any w7 g b1 b2 (2 * k + 4 + 2) r2.2.F r2.2.S hB8.out (by have := HK60.out; omega) HI8.out.fine (HT.out.chg (HF.out w7 HC8.out).1 (fun f => f))).mono ?_
            rintro e w9 ⟨k9, A9, n9, fs, rfl, hL9, hE9, hl9⟩
            have HC10 := Lib.hid (HC8.out.trans k9 (fun _ f => f.elim))
            have hL10 := Lib.hid (hL7.out.chg k9)
            have hfe : fs = es := EntsOf.one HI8.out.fine hE9.out (by rw [HFE.out]; exact hE4.out)
            subst hfe
            clear k9 HC8 hL7
            go_wp2_with fail
            refine (same_yes w9 A9 A4 n9 n4 fs (by have := HK60.out; omega) hL9.out hL10.out).mono ?_
            rintro e w10 ⟨rfl, k10⟩
            have HC11 := Lib.hid (HC10.out.trans k10 (fun _ f => f.elim))
            clear k10
            go_wp2_with fail
            go_ret
            refine ⟨rfl, ?_⟩
            exact (HF.out _ HC11.out).1.below (Nat.le_refl _) (fun _ f => f.elim)
        · have HS := Lib.hid (HMN.out hz)
          have f0 : (r1 == 0) = false := by simpa using hz
          have hB7 : Hid (BkP w5 g b1 b2 (2 * k + 4) st.F st.S) := Lib.hid (by have := hB6.out; rw [HS.out] at this; exact this.mono (by omega))
          have HC7 := HC6
          have hL6 := hL5
          clear hz HMV HMN hB6 HC6 hL5
          go_wp2_with fail
          refine (Mint_any w5 g b1 b2 (2 * k + 4) st hB7.out hI.out (by have := HK60.out; omega) t d HO.out.2.1 HO.out.2.2.1 n HO.out.2.2.2).mono ?_
          rintro e w7 ⟨rfl, k7, hB8⟩
          have HC8 : Hid (Chg Non wa w7) := Lib.hid (HC7.out.trans k7 (fun j e => .inr (HU.out j e)))
          have hL7 := Lib.hid (entries_stay hL6.out hB7.out k7)
          have HI8 := Lib.hid (mintR_inv hI.out t d n)
          have HMV := Lib.hid (@back_mint st hI.out t d n)
          have HMN := Lib.hid (@mintR_no st t d n)
          obtain ⟨_, p1, p2, p3, p4⟩ := HF.out w7 HC8.out
          clear k7 hB7 HC7 hL6
          generalize mintR st t d n = r2 at *
          generalize hr2 : r2.1 = q1 at *
          have HR2 := Lib.hid hr2
          clear hr2
          by_cases hz2 : q1 = 0
          · have HB := Lib.hid (HMV.out hz2)
            have f2 : (q1 == 0) = true := by simpa using hz2
            clear hz2 HMV HMN
            go_wp2_with fail
            refine (Burn_any w7 g b1 b2 (2 * k + 4 + 2) r2.2 hB8.out HI8.out (by have := HK60.out; omega) t d HO.out.2.1 HO.out.2.2.1 n HO.out.2.2.2).mono ?_
            rintro e w8 ⟨rfl, k8, hB9'⟩
            have HI9 := Lib.hid (burnR_inv HI8.out t d n)
            rw [HB.out.1]
            have HC9 : Hid (Chg Non wa w8) := Lib.hid (HC8.out.trans k8 (fun j e => .inr (HU.out j e)))
            have hL8 := Lib.hid (entries_stay hL7.out hB8.out k8)
            have HFE := Lib.hid HB.out.2
            generalize (burnR r2.2 t d n).2 = z at *
            clear k8 hB8 HC8 hL7 HB
            go_wp2_with fail
            refine (Entries_any w8 g b1 b2 (2 * k + 4 + 2 + 2) z.F z.S hB9'.out (by have := HK60.out; omega) HI9.out.fine (HT.out.chg (HF.out w8 HC9.out).1 (fun f => f))).mono ?_
            rintro e w9 ⟨k9, A9, n9, fs, rfl, hL9, hE9, hl9⟩
            have HC10 := Lib.hid (HC9.out.trans k9 (fun _ f => f.elim))
            have hL10 := Lib.hid (hL8.out.chg k9)
            have hfe : fs = es := EntsOf.one HI9.out.fine hE9.out (by rw [HFE.out]; exact hE4.out)
            subst hfe
            clear k9 HC9 hL8
            go_wp2_with fail
            refine (same_yes w9 A9 A4 n9 n4 fs (by have := HK60.out; omega) hL9.out hL10.out).mono ?_
            rintro e w10 ⟨rfl, k10⟩
            have HC11 := Lib.hid (HC10.out.trans k10 (fun _ f => f.elim))
            clear k10
            go_wp2_with fail
            go_ret
            refine ⟨rfl, ?_⟩
            exact (HF.out _ HC11.out).1.below (Nat.le_refl _) (fun _ f => f.elim)
          · have HS := Lib.hid (HMN.out hz2)
            have f2 : (q1 == 0) = false := by simpa using hz2
            have HFE : Hid (r2.2.F = st.F) := Lib.hid (by rw [HS.out])
            clear hz2 HMV HMN
            go_wp2_with fail
            refine (Entries_any w7 g b1 b2 (2 * k + 4 + 2) r2.2.F r2.2.S hB8.out (by have := HK60.out; omega) HI8.out.fine (HT.out.chg (HF.out w7 HC8.out).1 (fun f => f))).mono ?_
            rintro e w9 ⟨k9, A9, n9, fs, rfl, hL9, hE9, hl9⟩
            have HC10 := Lib.hid (HC8.out.trans k9 (fun _ f => f.elim))
            have hL10 := Lib.hid (hL7.out.chg k9)
            have hfe : fs = es := EntsOf.one HI8.out.fine hE9.out (by rw [HFE.out]; exact hE4.out)
            subst hfe
            clear k9 HC8 hL7
            go_wp2_with fail
            refine (same_yes w9 A9 A4 n9 n4 fs (by have := HK60.out; omega) hL9.out hL10.out).mono ?_
            rintro e w10 ⟨rfl, k10⟩
            have HC11 := Lib.hid (HC10.out.trans k10 (fun _ f => f.elim))
            clear k10
            go_wp2_with fail
            go_ret
            refine ⟨rfl, ?_⟩
            exact (HF.out _ HC11.out).1.below (Nat.le_refl _) (fun _ f => f.elim)
      · go_wp2_with fail
        refine (Entries_any wr g b1 b2 (2 * k) st.F st.S hB.out (by have := HK60.out; omega) hI.out.fine (HT.out.chg (HF.out wr hC.out).1 (fun f => f))).mono ?_
        rintro e w4 ⟨k4, A4, n4, es, rfl, hL4, hE4, hl4⟩
        have HB5 := Lib.hid (hB.out.non k4)
        have HC5 := Lib.hid (hC.out.trans k4 (fun _ f => f.elim))
        obtain ⟨_, p1, p2, p3, p4⟩ := HF.out w4 HC5.out
        clear k4 q0 q1 q2 q3 q4
        go_wp2_with fail
        refine (Move_any w4 g b1 b2 (2 * k) st HB5.out hI.out (by have := HK60.out; omega) s t d HO.out.1 HO.out.2.1 HO.out.2.2.1 n HO.out.2.2.2).mono ?_
        rintro e w5 ⟨rfl, k5, hB6⟩
        have HC6 : Hid (Chg Non wa w5) := Lib.hid (HC5.out.trans k5 (fun j e => .inr (HU.out j e)))
        have hL5 := Lib.hid (entries_stay hL4.out HB5.out k5)
        have HI6 := Lib.hid (moveR_inv hI.out s t d n)
        have HMV := Lib.hid (@back_move st s t d n)
        have HMN := Lib.hid (@moveR_no st s t d n)
        obtain ⟨_, p1, p2, p3, p4⟩ := HF.out w5 HC6.out
        clear k5 HB5 HC5 hL4
        generalize moveR st s t d n = r at *
        generalize hr1 : r.1 = r1 at *
        have HR1 := Lib.hid hr1
        clear hr1
        by_cases hz : r1 = 0
        · have HB := Lib.hid (HMV.out hz)
          have f0 : (r1 == 0) = true := by simpa using hz
          clear hz HMV HMN
          go_wp2_with fail
          refine (Move_any w5 g b1 b2 (2 * k + 2) r.2 hB6.out HI6.out (by have := HK60.out; omega) t s d HO.out.2.1 HO.out.1 HO.out.2.2.1 n HO.out.2.2.2).mono ?_
          rintro e w6 ⟨rfl, k6, hB7'⟩
          have hB7 : Hid (BkP w6 g b1 b2 (2 * k + 4) st.F st.S) := Lib.hid (by have := hB7'.out; rw [HB.out.2] at this; exact this.mono (by omega))
          rw [HB.out.1]
          have HC7 : Hid (Chg Non wa w6) := Lib.hid (HC6.out.trans k6 (fun j e => .inr (HU.out j e)))
          have hL6 := Lib.hid (entries_stay hL5.out hB6.out k6)
          obtain ⟨_, p1, p2, p3, p4⟩ := HF.out w6 HC7.out
          clear k6 hB6 HC6 hL5 hB7'
          go_wp2_with fail
          refine (Mint_any w6 g b1 b2 (2 * k + 4) st hB7.out hI.out (by have := HK60.out; omega) t d HO.out.2.1 HO.out.2.2.1 n HO.out.2.2.2).mono ?_
          rintro e w7 ⟨rfl, k7, hB8⟩
          have HC8 : Hid (Chg Non wa w7) := Lib.hid (HC7.out.trans k7 (fun j e => .inr (HU.out j e)))
          have hL7 := Lib.hid (entries_stay hL6.out hB7.out k7)
          have HI8 := Lib.hid (mintR_inv hI.out t d n)
          have HMV := Lib.hid (@back_mint st hI.out t d n)
          have HMN := Lib.hid (@mintR_no st t d n)
          obtain ⟨_, p1, p2, p3, p4⟩ := HF.out w7 HC8.out
          clear k7 hB7 HC7 hL6
          generalize mintR st t d n = r2 at *
          generalize hr2 : r2.1 = q1 at *
          have HR2 := Lib.hid hr2
          clear hr2
          by_cases hz2 : q1 = 0
          · have HB := Lib.hid (HMV.out hz2)
            have f2 : (q1 == 0) = true := by simpa using hz2
            clear hz2 HMV HMN
            go_wp2_with fail
            refine (Burn_any w7 g b1 b2 (2 * k + 4 + 2) r2.2 hB8.out HI8.out (by have := HK60.out; omega) t d HO.out.2.1 HO.out.2.2.1 n HO.out.2.2.2).mono ?_
            rintro e w8 ⟨rfl, k8, hB9'⟩
            have HI9 := Lib.hid (burnR_inv HI8.out t d n)
            rw [HB.out.1]
            have HC9 : Hid (Chg Non wa w8) := Lib.hid (HC8.out.trans k8 (fun j e => .inr (HU.out j e)))
            have hL8 := Lib.hid (entries_stay hL7.out hB8.out k8)
            have HFE := Lib.hid HB.out.2
            generalize (burnR r2.2 t d n).2 = z at *
            clear k8 hB8 HC8 hL7 HB
            go_wp2_with fail
            refine (Entries_any w8 g b1 b2 (2 * k + 4 + 2 + 2) z.F z.S hB9'.out (by have := HK60.out; omega) HI9.out.fine (HT.out.chg (HF.out w8 HC9.out).1 (fun f => f))).mono ?_
            rintro e w9 ⟨k9, A9, n9, fs, rfl, hL9, hE9, hl9⟩
            have HC10 := Lib.hid (HC9.out.trans k9 (fun _ f => f.elim))
            have hL10 := Lib.hid (hL8.out.chg k9)
            have hfe : fs = es := EntsOf.one HI9.out.fine hE9.out (by rw [HFE.out]; exact hE4.out)
            subst hfe
            clear k9 HC9 hL8
            go_wp2_with fail
            refine (same_yes w9 A9 A4 n9 n4 fs (by have := HK60.out; omega) hL9.out hL10.out).mono ?_
            rintro e w10 ⟨rfl, k10⟩
            have HC11 := Lib.hid (HC10.out.trans k10 (fun _ f => f.elim))
            clear k10
            go_wp2_with fail
            go_ret
            refine ⟨rfl, ?_⟩
            exact (HF.out _ HC11.out).1.below (Nat.le_refl _) (fun _ f => f.elim)
          · have HS := Lib.hid (HMN.out hz2)
            have f2 : (q1 == 0) = false := by simpa using hz2
            have HFE : Hid (r2.2.F = st.F) := Lib.hid (by rw [HS.out])
            clear hz2 HMV HMN
            go_wp2_with fail
            refine (Entries_any w7 g b1 b2 (2 * k + 4 + 2) r2.2.F r2.2.S hB8.out (by have := HK60.out; omega) HI8.out.fine (HT.out.chg (HF.out w7 HC8.out).1 (fun f => f))).mono ?_
            rintro e w9 ⟨k9, A9, n9, fs, rfl, hL9, hE9, hl9⟩
            have HC10 := Lib.hid (HC8.out.trans k9 (fun _ f => f.elim))
            have hL10 := Lib.hid (hL7.out.chg k9)
            have hfe : fs = es := EntsOf.one HI8.out.fine hE9.out (by rw [HFE.out]; exact hE4.out)
            subst hfe
            clear k9 HC8 hL7
            go_wp2_with fail
            refine (same_yes w9 A9 A4 n9 n4 fs (by have := HK60.out; omega) hL9.out hL10.out).mono ?_
            rintro e w10 ⟨rfl, k10⟩
            have HC11 := Lib.hid (HC10.out.trans k10 (fun _ f => f.elim))
            clear k10
            go_wp2_with fail
            go_ret
            refine ⟨rfl, ?_⟩
            exact (HF.out _ HC11.out).1.below (Nat.le_refl _) (fun _ f => f.elim)
        · have HS := Lib.hid (HMN.out hz)
          have f0 : (r1 == 0) = false := by simpa using hz
          have hB7 : Hid (BkP w5 g b1 b2 (2 * k + 4) st.F st.S) := Lib.hid (by have := hB6.out; rw [HS.out] at this; exact this.mono (by omega))
          have HC7 := HC6
          have hL6 := hL5
          clear hz HMV HMN hB6 HC6 hL5
          go_wp2_with fail
          refine (Mint_any w5 g b1 b2 (2 * k + 4) st hB7.out hI.out (by have := HK60.out; omega) t d HO.out.2.1 HO.out.2.2.1 n HO.out.2.2.2).mono ?_
          rintro e w7 ⟨rfl, k7, hB8⟩
          have HC8 : Hid (Chg Non wa w7) := Lib.hid (HC7.out.trans k7 (fun j e => .inr (HU.out j e)))
          have hL7 := Lib.hid (entries_stay hL6.out hB7.out k7)
          have HI8 := Lib.hid (mintR_inv hI.out t d n)
          have HMV := Lib.hid (@back_mint st hI.out t d n)
          have HMN := Lib.hid (@mintR_no st t d n)
          obtain ⟨_, p1, p2, p3, p4⟩ := HF.out w7 HC8.out
          clear k7 hB7 HC7 hL6
          generalize mintR st t d n = r2 at *
          generalize hr2 : r2.1 = q1 at *
          have HR2 := Lib.hid hr2
          clear hr2
          by_cases hz2 : q1 = 0
          · have HB := Lib.hid (HMV.out hz2)
            have f2 : (q1 == 0) = true := by simpa using hz2
            clear hz2 HMV HMN
            go_wp2_with fail
            refine (Burn_any w7 g b1 b2 (2 * k + 4 + 2) r2.2 hB8.out HI8.out (by have := HK60.out; omega) t d HO.out.2.1 HO.out.2.2.1 n HO.out.2.2.2).mono ?_
            rintro e w8 ⟨rfl, k8, hB9'⟩
            have HI9 := Lib.hid (burnR_inv HI8.out t d n)
            rw [HB.out.1]
            have HC9 : Hid (Chg Non wa w8) := Lib.hid (HC8.out.trans k8 (fun j e => .inr (HU.out j e)))
            have hL8 := Lib.hid (entries_stay hL7.out hB8.out k8)
            have HFE := Lib.hid HB.out.2
            generalize (burnR r2.2 t d n).2 = z at *
            clear k8 hB8 HC8 hL7 HB
            go_wp2_with fail
            refine (Entries_any w8 g b1 b2 (2 * k + 4 + 2 + 2) z.F z.S hB9'.out (by have := HK60.out; omega) HI9.out.fine (HT.out.chg (HF.out w8 HC9.out).1 (fun f => f))).mono ?_
            rintro e w9 ⟨k9, A9, n9, fs, rfl, hL9, hE9, hl9⟩
            have HC10 := Lib.hid (HC9.out.trans k9 (fun _ f => f.elim))
            have hL10 := Lib.hid (hL8.out.chg k9)
            have hfe : fs = es := EntsOf.one HI9.out.fine hE9.out (by rw [HFE.out]; exact hE4.out)
            subst hfe
            clear k9 HC9 hL8
            go_wp2_with fail
            refine (same_yes w9 A9 A4 n9 n4 fs (by have := HK60.out; omega) hL9.out hL10.out).mono ?_
            rintro e w10 ⟨rfl, k10⟩
            have HC11 := Lib.hid (HC10.out.trans k10 (fun _ f => f.elim))
            clear k10
            go_wp2_with fail
            go_ret
            refine ⟨rfl, ?_⟩
            exact (HF.out _ HC11.out).1.below (Nat.le_refl _) (fun _ f => f.elim)
          · have HS := Lib.hid (HMN.out hz2)
            have f2 : (q1 == 0) = false := by simpa using hz2
            have HFE : Hid (r2.2.F = st.F) := Lib.hid (by rw [HS.out])
            clear hz2 HMV HMN
            go_wp2_with fail
            refine (Entries_any w7 g b1 b2 (2 * k + 4 + 2) r2.2.F r2.2.S hB8.out (by have := HK60.out; omega) HI8.out.fine (HT.out.chg (HF.out w7 HC8.out).1 (fun f => f))).mono ?_
            rintro e w9 ⟨k9, A9, n9, fs, rfl, hL9, hE9, hl9⟩
            have HC10 := Lib.hid (HC8.out.trans k9 (fun _ f => f.elim))
            have hL10 := Lib.hid (hL7.out.chg k9)
            have hfe : fs = es := EntsOf.one HI8.out.fine hE9.out (by rw [HFE.out]; exact hE4.out)
            subst hfe
            clear k9 HC8 hL7
            go_wp2_with fail
            refine (same_yes w9 A9 A4 n9 n4 fs (by have := HK60.out; omega) hL9.out hL10.out).mono ?_
            rintro e w10 ⟨rfl, k10⟩
            have HC11 := Lib.hid (HC10.out.trans k10 (fun _ f => f.elim))
            clear k10
            go_wp2_with fail
            go_ret
            refine ⟨rfl, ?_⟩
            exact (HF.out _ HC11.out).1.below (Nat.le_refl _) (fun _ f => f.elim)

/-! ### The row's frame -/
theorem own : ownKnob Tryd.prog.godebug = none := by kernel_rfl
theorem walkA (W : World) (args : Array Value) (hsz : args.size = Tryd.f5.params.size) (hok : ∀ (j : Nat) (t : TypeId) (v : Value), Tryd.f5.params[j]? = some t → args[j]? = some v → Okv Tryd.prog W t v) (hL : laidMetH Tryd.prog laidL W) :
    Calls Tryd.prog 5 args W fun e W' => e = .returned (.bool true) ∧ Below W.heap.size W W' := by
  rw [Tryd.params5] at hsz hok
  obtain ⟨v0, v1, rfl⟩ : ∃ v0 v1 : Value, args = #[v0, v1] := by
    obtain ⟨l⟩ := args
    match l, hsz with
    | [v0, v1], _ => exact ⟨v0, v1, rfl⟩
  exact walk W v0 v1 (hok 0 22 v0 rfl rfl) (hok 1 32 v1 rfl rfl) (tab_of_laid hL)
set_option maxRecDepth 100000 in
theorem lifted (os : Os) (started : os.Started) (H : Type) (enc : TypeId × Value → H) :
    ReturnsInHanded {} Tryd.checked os 5 .any (fun w args => (Rows.bankBackSpec.pre enc Tryd.prog Tryd.f5 Rows.bankBackRow.domain false w args ∧ laidMetH Tryd.prog laidL w) ∧ sizedMet enc Tryd.prog Tryd.f5 (OpenSpec.ofChange Rows.bankBackSpec) false w args) (Rows.bankBackSpec.post enc Tryd.prog Tryd.f5 false true false false) :=
  lifted_of_walk_laid (C := Tryd.checked) (s := Rows.bankBackSpec) (conds := Rows.bankBackRow.domain) (apart := false) (fresh := true) (T := 4) (laid := laidL) own started (by kernel_rfl) Tryd.func5
    (ChangeSpec.witness_at (enc := enc) (C := Tryd.checked) (os := os) (X := fun w _ => laidMetH Tryd.prog laidL w) false (laidWorld os) #[.slice none 0 0, .agg #[.int .i64 0, .string ⟨#[]⟩, .string ⟨#[]⟩, .string ⟨#[]⟩, .int .u64 0]] 8 rfl (by kernel_rfl) (by kernel_rfl) (by kernel_rfl) (by kernel_rfl) (by kernel_rfl) (laidWorld_met os _))
    rfl (fun ds hd => by
      rw [Tryd.params5] at hd
      match ds, hd with
      | [d0, d1], _ => exact ⟨rfl, rfl, rfl⟩)
    (by kernel_rfl) Tryd.underlying4 (by kernel_rfl) (by rw [Tryd.params5]; intro t ht; simp only [List.mem_cons, List.not_mem_nil, or_false] at ht; rcases ht with rfl | rfl <;> exact ⟨by kernel_rfl, of_decide_eq_true (by kernel_rfl)⟩) walkA

theorem holds : Rows.bankBackRow.holds Tryd.pinned (OpenSpec.ofChange Rows.bankBackSpec) :=
  OpenClaim.holds_of_wide 5 Tryd.f5 rfl rfl rfl rfl rfl rfl rfl ⟨rfl, rfl, rfl, rfl, rfl⟩ rfl rfl rfl rfl rfl (by kernel_rfl) Tryd.func5 (by kernel_rfl)
    (of_decide_eq_true (by kernel_rfl)) (by unfold Func.isWrapper; first | (rw [if_pos (by decide +kernel)]; kernel_rfl) | (rw [if_neg (by decide +kernel)]; exact ⟨rfl, rfl⟩))
    (fun os started H enc _ => lifted os started H enc)
theorem card : Rows.BankBackCardSaid :=
  Claim7.holds_tied_plain_at .later [] [.data, .data, .data] true Rows.bankBackCard.stood.harness true
    holds (fun _ h => by cases h) (by kernel_rfl) (fun _ h => by cases h) bankBack_row_tie rfl ⟨rfl, rfl⟩ (by kernel_rfl) rfl
    (fun f fn hf hfn => by
      obtain rfl : f = 5 := (Option.some.inj ((show Tryd.prog.funcNamed "nuncio/nunciolaw18.BankBack" = some 5 by kernel_rfl).symm.trans hf)).symm
      obtain rfl : fn = Tryd.f5 := (Option.some.inj (Tryd.func5.symm.trans hfn)).symm
      exact ⟨by kernel_rfl, fun j t ht => by
        rw [Tryd.params5] at ht
        have hm : t ∈ [22, 32] := List.mem_of_getElem? (i := j) (by simpa using ht)
        simp only [List.mem_cons, List.not_mem_nil, or_false] at hm
        rcases hm with rfl | rfl
        · exact (show Tryd.prog.wantsStandIn 22 = false by kernel_rfl)
        · exact (show Tryd.prog.wantsStandIn 32 = false by kernel_rfl)⟩)
    (by kernel_rfl)
end Go.Proofs.YtgoolonmkejpcaaDoor.bankBack
namespace Go.Proofs.YtgoolonmkejpcaaDoor
/-- The statement. -/
theorem bankBack_holds : Rows.BankBackCardSaid := bankBack.card
end Go.Proofs.YtgoolonmkejpcaaDoor
