/- Of the program at this commit: the law BankPlays answers true for any script (each act is answered as the document says, and behind it what accounts have, the supply and all entries are as it says; a copy is apart; its first 60 acts); no condition but that the library's tables hold what the program's text lays in them (tied). -/
import Derived.Test.YtahlfncijbkcoaaDoorRows
import Derived.Test.YtahlfncijbkcoaaDoorCards
import Derived.Test.YtahlfncijbkcoaaDoorTie
import Derived.WalkKit
import Derived.ProofKit
import Derived.SevenTiedAt
import Derived.Stop.Joined
import Derived.Test.YtahlfncijbkcoaaDoorLf
import Derived.Test.YtahlfncijbkcoaaDoorKj
import Derived.Test.YtahlfncijbkcoaaDoorKx
import Derived.Test.YtahlfncijbkcoaaDoorKy
import Derived.Test.YtahlfncijbkcoaaDoorOd
import Derived.Test.YtahlfncijbkcoaaDoorOh
namespace Go.Proofs.YtahlfncijbkcoaaDoor.bankPlays
open Go.ChangeShapes Go.WideShapes Go.ChangeAt Go.RowKit
set_option linter.unusedVariables false

theorem docB_maps {w w' : World} {g b1 b2 n G N : Nat} {F : Key → Nat} {F' : Key → Nat} {S : ByteArray → Nat} (h : DocB w G N F') (hB : BkP w g b1 b2 n F S) (k : Chg (Bb b1 b2) w w') : DocB w' G N F' := by
  obtain ⟨l, h1, h2, h3⟩ := h
  exact ⟨l, h1.maps hB k, h2, h3⟩
theorem docB_none (w : World) : DocB (w.alloc (.cells #[.slice none 0 0] 28)) w.heap.size 0 (fun _ => 0) :=
  ⟨[], ⟨none, 0, Hb.new _ _ _, fun i x hx => by simp at hx, fun j hj hl => by simp at hl⟩, Lsg.none, Nat.le_refl _⟩
set_option maxHeartbeats 12800000 in
set_option maxRecDepth 20000 in
theorem walk (W : World) (v0 : Value) (h0 : Okv Tryd.prog W 22 v0) (hT : Tab W) :
    Calls Tryd.prog 3 #[v0] W fun e W' => e = .returned (.bool true) ∧ Below W.heap.size W W' := by
  obtain ⟨A, c, l, rfl, hl, M, ol⟩ := acts_arg h0
  have HM := Lib.hid M
  have OL := Lib.hid ol
  have HT := Lib.hid hT
  unfold maxLen at hl
  clear M ol hT h0
  generalize hn : l.length = m at *
  have HL := Lib.hid hn
  clear hn
  go_enter Tryd.func3, Tryd.ntmps3
  go_wp2_with fail
  refine (New_any W).mono ?_
  rintro e w1 ⟨k1, g, b1, b2, rfl, hu, h1⟩
  have kG : Chg Non w1 (w1.alloc (.cells #[.slice none 0 0] 28)) := (Chg.refl _ _).alloc _
  have HAP : Hid (W.heap.size ≤ g ∧ W.heap.size ≤ b1 ∧ W.heap.size ≤ b2 ∧ W.heap.size ≤ w1.heap.size ∧ g ≠ w1.heap.size ∧ b1 ≠ w1.heap.size ∧ b2 ≠ w1.heap.size) := Lib.hid (by
    have := h1.out.lts
    obtain ⟨u1, u2, u3⟩ := hu
    exact ⟨u1, u2, u3, k1.size, by omega, by omega, by omega⟩)
  have HK1 := Lib.hid (k1.trans kG (fun _ f => f.elim))
  have HB1 := Lib.hid (h1.out.non kG)
  have HD1 := Lib.hid (docB_none w1)
  clear hu k1 h1 kG
  go_wp2_with fail
  refine (alive_any _).mono ?_
  rintro e w3 ⟨rfl, k3⟩
  have HK3 := Lib.hid (HK1.out.trans k3 (fun _ f => f.elim))
  have HB3 := Lib.hid (HB1.out.non k3)
  have HD3 := Lib.hid (HD1.out.non k3)
  clear k3 HB1 HD1 HK1
  generalize w1.heap.size = G at *
  go_wp2_with fail
  go_loopw [5] (fun i wr => ∃ (k : Nat) (st : Bst), k ≤ m ∧ k ≤ 60 ∧ i = .int .i64 (k : Int) ∧ Hid (BkP wr g b1 b2 (2 * k) st.F st.S) ∧ Hid (DocB wr G (2 * k) st.F) ∧ Hid (Inv st.F st.S) ∧ Hid (Chg Non W wr)) (fun i _ => m - (intOf i).toNat)
  case atStart => exact ⟨0, Bst.none, by omega, by omega, rfl, HB3, HD3, Lib.hid Inv.none, HK3⟩
  case round =>
    obtain ⟨k, st, hk, hk60, rfl, hB, hD, hI, hC⟩ := hrel
    by_cases hlt : k < m
    · by_cases h60 : k < 60
      · have hkl : k < l.length := by rw [HL.out]; exact hlt
        have hx := List.getElem?_eq_getElem hkl
        obtain ⟨a, ao, rfl, hal, r1⟩ := (HM.out.chg hC.out) k _ hx
        have ox := OL.out l[k] (List.getElem_mem hkl)
        generalize l[k] = x at *
        have hki : (k : Int) < (m : Int) := by omega
        have hki60 : (k : Int) < 60 := by omega
        have OX := Lib.hid ox
        have k3 : Chg Non wr (wr.alloc (.cells x.cells.toArray 32)) := (Chg.refl _ _).alloc _
        have hb := Hb.new wr 32 x.cells.toArray
        have HF : Hid (∀ w', Chg (fun j => Bb b1 b2 j ∨ j = G) (wr.alloc (.cells x.cells.toArray 32)) w' → w'.cell? ⟨wr.heap.size, 2, none⟩ = some (.string x.to) ∧ w'.cell? ⟨wr.heap.size, 3, none⟩ = some (.string x.den) ∧ w'.rangeAt wr.heap.size 0 x.cells ∧ Chg Non W w') := Lib.hid fun w' kk => by
          have hl := hB.out.lts
          have hg := hD.out.lt
          have hne : ¬ (Bb b1 b2 wr.heap.size ∨ wr.heap.size = G) := fun e => by
            rcases e with (e | e) | e <;> omega
          have q := hb.chg kk hne
          have hap := HAP.out
          exact ⟨by rw [q.cell]; rfl, by rw [q.cell]; rfl, q.range0, (hC.out.trans k3 (fun _ f => f.elim)).trans kk (fun j e => .inr (by rcases e with (e | e) | e <;> rw [e]; exact hap.2.1; exact hap.2.2.1; exact hap.2.2.2.1))⟩
        have HB3 := Lib.hid (hB.out.non k3)
        have HD3 := Lib.hid (hD.out.non k3)
        have HDO := Lib.hid (fun w' (h : BkP w' g b1 b2 (2 * k) st.F st.S) => do_any w' g b1 b2 (2 * k) st h hI.out (by omega) x ox)
        have HTO := Lib.hid (fun w' (h : DocB w' G (2 * k) st.F) => told_any w' G (2 * k) st h hI.out (by omega) x ox)
        have HI2 := Lib.hid (doR_inv hI.out x)
        have HN : Hid (k < m ∧ k < 60) := Lib.hid ⟨hlt, h60⟩
        have hrow : (Tryd.prog.info? 32).map (·.size) = some 5 := by kernel_rfl
        clear hx hkl ox k3 hb hal hB hD hC
        generalize doR st x = r at *
        obtain ⟨kind, s, t, d, n⟩ := x
        dsimp only at HF
        have HKA : Hid (Chg (fun j => Bb b1 b2 j ∨ j = G) (wr.alloc (.cells (Ac.cells ⟨kind, s, t, d, n⟩).toArray 32)) (wr.alloc (.cells (Ac.cells ⟨kind, s, t, d, n⟩).toArray 32))) := Lib.hid (Chg.refl _ _)
        unfold Ac.cells at *
        obtain ⟨c0, r2⟩ := rangeAt_cons r1
        obtain ⟨c1, r2⟩ := rangeAt_cons r2
        obtain ⟨c2, r2⟩ := rangeAt_cons r2
        obtain ⟨c3, r2⟩ := rangeAt_cons r2
        obtain ⟨c4, r2⟩ := rangeAt_cons r2
        clear r1 r2
        generalize hwa : wr.alloc (.cells [Value.int .i64 kind, .string s, .string t, .string d, .int .u64 (n : Int)].toArray 32) = wa at *
        go_wp2_with fail
        generalize wr.heap.size = ha at *
        clear hwa
        clear c0 c1 c2 c3 c4
        refine (Copy_any wa g b1 b2 (2 * k) st.F st.S HB3.out).mono ?_
        rintro e w4 ⟨k4, og, o1, o2, rfl, hu, hO4⟩
        have HKA4 : Hid (Chg (fun j => Bb b1 b2 j ∨ j = G) wa w4) := Lib.hid (HKA.out.trans k4 (fun _ f => f.elim))
        have HB4 := Lib.hid (HB3.out.non k4)
        have HD4 := Lib.hid (HD3.out.non k4)
        have HUO : Hid (¬ (Bb b1 b2 og ∨ og = G) ∧ ¬ (Bb b1 b2 o1 ∨ o1 = G) ∧ ¬ (Bb b1 b2 o2 ∨ o2 = G)) := Lib.hid (by
          have h1 := HB3.out.lts
          have h2 := HD3.out.lt
          obtain ⟨u1, u2, u3⟩ := hu
          unfold Bb
          omega)
        clear k4 hu HB3 HD3 HKA
        go_wp2_with fail
        refine (rCopy_any w4 G (2 * k) st.F HD4.out (by have := HN.out.2; omega)).mono ?_
        rintro e w5 ⟨k5, G2, rfl, hN5⟩
        have HKA5 : Hid (Chg (fun j => Bb b1 b2 j ∨ j = G) wa w5) := Lib.hid (HKA4.out.trans k5 (fun _ f => f.elim))
        have HNX : Hid (∀ j, w4.heap.size ≤ j → ¬ (Bb b1 b2 j ∨ j = G)) := Lib.hid fun j hj => by
          have h1 := HB4.out.lts
          have h2 := HD4.out.lt
          unfold Bb
          omega
        have HB5 := Lib.hid (HB4.out.non k5)
        have HD5 := Lib.hid (HD4.out.non k5)
        have HO5 := Lib.hid (hO4.out.non k5)
        generalize w4.heap.size = N4 at *
        clear k5 HB4 HD4 HKA4 hO4
        go_wp2_with fail
        rename_i hQ
        have kd : Chg Non w5 w5.drew := (Chg.refl Non w5).drew
        have HKA6 : Hid (Chg (fun j => Bb b1 b2 j ∨ j = G) wa w5.drew) := Lib.hid (HKA5.out.trans kd (fun _ f => f.elim))
        have HB6 := Lib.hid (HB5.out.non kd)
        have HD6 := Lib.hid (HD5.out.non kd)
        have HO6 := Lib.hid (HO5.out.non kd)
        have HN6 := Lib.hid (hN5.out.chg kd (fun _ _ f => f))
        clear kd HB5 HD5 HO5 hN5 HKA5
        refine wp_region_heads [0, 1, 2, 3, 4, 6, 7] 4 #[true, true, true, true, true, false, true, true, false, false, false] (by kernel_rfl) (by kernel_rfl) (by kernel_rfl) (by kernel_rfl) (by kernel_rfl) (fun w' => Chg (fun j => Bb b1 b2 j ∨ j = G) w5.drew w') (Chg.refl _ _) ?_
        refine headI_run rfl (by first | rfl | (simp [Region.wanted, yielded]; done) | (go_simp; done)) (fun w' kk => by (skip); first | (go_simp; rfl) | (go_simp; done)) ?_
        simp only [Act.put, List.setIfInBounds_toArray, List.set_cons_zero, List.set_cons_succ]
        refine headI_run rfl (by first | rfl | (simp [Region.wanted, yielded]; done) | (go_simp; done)) (fun w' kk => by (skip); first | (go_simp; rfl) | (go_simp; done)) ?_
        simp only [Act.put, List.setIfInBounds_toArray, List.set_cons_zero, List.set_cons_succ]
        refine headI_run rfl (by first | rfl | (simp [Region.wanted, yielded]; done) | (go_simp; done)) (fun w' kk => by (skip); first | (go_simp; rfl) | (go_simp; done)) ?_
        simp only [Act.put, List.setIfInBounds_toArray, List.set_cons_zero, List.set_cons_succ]
        refine headI_load rfl (by first | rfl | (simp [Region.wanted, yielded]; done) | (go_simp; done)) 32 _ rfl ha 0 rfl [.int .i64 kind, .string s, .string t, .string d, .int .u64 (n : Int)] _ (fun w' kk => (HF.out w' (HKA6.out.trans kk (fun _ e => .inl e))).2.2.1) Tryd.underlying32 rfl hrow ?_
        simp only [Act.put, List.setIfInBounds_toArray, List.set_cons_zero, List.set_cons_succ]
        refine headI_run rfl (by first | rfl | (simp [Region.wanted, yielded]; done) | (go_simp; done)) (fun w' kk => by (skip); first | (go_simp; rfl) | (go_simp; done)) ?_
        simp only [Act.put, List.setIfInBounds_toArray, List.set_cons_zero, List.set_cons_succ]
        refine headI_load rfl (by first | rfl | (simp [Region.wanted, yielded]; done) | (go_simp; done)) 32 _ rfl ha 0 rfl [.int .i64 kind, .string s, .string t, .string d, .int .u64 (n : Int)] _ (fun w' kk => (HF.out w' (HKA6.out.trans kk (fun _ e => .inl e))).2.2.1) Tryd.underlying32 rfl hrow ?_
        simp only [Act.put, List.setIfInBounds_toArray, List.set_cons_zero, List.set_cons_succ]
        refine headI_run rfl (by first | rfl | (simp [Region.wanted, yielded]; done) | (go_simp; done)) (fun w' kk => by (skip); first | (go_simp; rfl) | (go_simp; done)) ?_
        simp only [Act.put, List.setIfInBounds_toArray, List.set_cons_zero, List.set_cons_succ]
        refine headI_nil ?_
        generalize w5.drew = w6 at *
        have ent1 : ∀ args w, (callFunc 8 args).run Tryd.prog w = .ok (.enter 8 args) w := enters_of Tryd.func8 (by kernel_rfl) rfl
        have ent2 : ∀ args w, (callFunc 9 args).run Tryd.prog w = .ok (.enter 9 args) w := enters_of Tryd.func9 (by kernel_rfl) rfl
        refine held_w (n := 5) (fuel := 3) (L' := #[true, true, true, true, true, true, true, true, false, false, false]) rfl (by kernel_rfl) (by first | rfl | (simp [Region.wanted, yielded]; done) | (go_simp; done)) (by kernel_rfl) ?_
        refine wp_call (vl := [.agg #[.int .i64 kind, .string s, .string t, .string d, .int .u64 (n : Int)], .pointer (some ⟨g, 0, none⟩)]) 8 _ _ rfl rfl ent1 (HDO.out w6 HB6.out) ?_
        rintro e w7 ⟨rfl, k7, hB7⟩
        have kx7 : Chg (fun j => Bb b1 b2 j ∨ j = G) w6 w7 := k7.mono (fun j e => .inl (.inl e))
        refine ⟨_, rfl, kx7, ?_⟩
        simp only [Act.put, List.setIfInBounds_toArray, List.set_cons_zero, List.set_cons_succ]
        have HD7 := Lib.hid (docB_maps HD6.out HB6.out k7)
        refine held_w (n := 8) (fuel := 2) (L' := #[true, true, true, true, true, true, true, true, true, false, false]) rfl (by kernel_rfl) (by first | rfl | (simp [Region.wanted, yielded]; done) | (go_simp; done)) (by kernel_rfl) ?_
        refine wp_call (vl := [.agg #[.int .i64 kind, .string s, .string t, .string d, .int .u64 (n : Int)], .pointer (some ⟨G, 0, none⟩)]) 9 _ _ rfl rfl ent2 (HTO.out w7 HD7.out) ?_
        rintro e w8 ⟨rfl, k8, hD8⟩
        have kx8 : Chg (fun j => Bb b1 b2 j ∨ j = G) w6 w8 := kx7.trans k8 (fun j e => .inl (.inr e))
        refine ⟨_, rfl, kx8, ?_⟩
        simp only [Act.put, List.setIfInBounds_toArray, List.set_cons_zero, List.set_cons_succ]
        have HB8 := Lib.hid (hB7.out.chg k8 (fun e => HAP.out.2.2.2.2.1 e) (fun e => HAP.out.2.2.2.2.2.1 e) (fun e => HAP.out.2.2.2.2.2.2 e))
        have HO8 := Lib.hid (HO6.out.chg kx8 HUO.out.1 HUO.out.2.1 HUO.out.2.2)
        have HN8 := Lib.hid (HN6.out.chg kx8 HNX.out)
        have HKA8 : Hid (Chg (fun j => Bb b1 b2 j ∨ j = G) wa w8) := Lib.hid (HKA6.out.trans kx8 (fun _ e => .inl e))
        generalize hr1 : r.1 = r1 at *
        refine held_w (n := 9) (fuel := 1) (L' := #[true, true, true, true, true, true, true, true, true, true, false]) rfl (by kernel_rfl) (by first | rfl | (simp [Region.wanted, yielded]; done) | (go_simp; done)) (by kernel_rfl) ?_
        refine wp_val (v := .bool false) (by first | (go_simp; rfl) | (go_simp; done)) ?_
        simp only [Act.put, List.setIfInBounds_toArray, List.set_cons_zero, List.set_cons_succ]
        refine ⟨kx8, ?_⟩
        refine held_w (n := 10) (fuel := 0) (L' := #[true, true, true, true, true, true, true, true, true, true, true]) rfl (by kernel_rfl) (by first | rfl | (simp [Region.wanted, yielded]; done) | (go_simp; done)) (by kernel_rfl) ?_
        refine wp_val (v := .bool false) (by first | (go_simp; rfl) | (go_simp; done)) ?_
        simp only [Act.put, List.setIfInBounds_toArray, List.set_cons_zero, List.set_cons_succ]
        refine ⟨kx8, ?_⟩
        refine wpAnyH_done (by kernel_rfl) ?_ _
        clear kx8 kx7 k8 k7 hB7 HD7 HB6 HD6 HO6 HN6 HKA6 hr1 ent1 ent2
        refine hQ _ _ ?_
        clear hQ
        go_wp2_with fail
        refine (Entries_any w8 g b1 b2 (2 * k + 2) r.2.F r.2.S HB8.out (by have := HN.out.2; omega) HI2.out.fine (HT.out.chg (HF.out w8 HKA8.out).2.2.2 (fun f => f))).mono ?_
        rintro e w9 ⟨k9, A1, n1, es, rfl, hL9, hE9, hl9⟩
        have HD9 := Lib.hid (hD8.out.non k9)
        go_wp2_with fail
        refine (rEntries_any w9 G (2 * k + 2) r.2 HD9.out HI2.out (by have := HN.out.2; omega)).mono ?_
        rintro e w10 ⟨k10, A2, n2, fs, rfl, hL10, hE10, hl10⟩
        have hfe : fs = es := EntsOf.one HI2.out.fine hE10.out hE9.out
        subst hfe
        have HS1 := Lib.hid (same_yes w10 A1 A2 n1 n2 fs (by have := HN.out.2; omega) (hL9.out.chg k10) hL10.out)
        have k11 := k9.trans k10 (fun _ f => f.elim)
        have HB10 := Lib.hid (HB8.out.non k11)
        have HD10 := Lib.hid (hD8.out.non k11)
        have HO10 := Lib.hid (HO8.out.non k11)
        have HN10 := Lib.hid (HN8.out.chg k11 (fun _ _ f => f))
        have HKA10 : Hid (Chg (fun j => Bb b1 b2 j ∨ j = G) wa w10) := Lib.hid (HKA8.out.trans k11 (fun _ f => f.elim))
        clear k9 k10 k11 hL9 hL10 hE9 hE10 hl9 hl10 HB8 hD8 HD9 HO8 HN8 HKA8
        generalize fs.length = q1 at *
        go_wp2_with fail
        refine HS1.out.mono ?_
        rintro e w11 ⟨rfl, k11⟩
        have HB11 := Lib.hid (HB10.out.non k11)
        have HD11 := Lib.hid (HD10.out.non k11)
        have HO11 := Lib.hid (HO10.out.non k11)
        have HN11 := Lib.hid (HN10.out.chg k11 (fun _ _ f => f))
        have HKA11 : Hid (Chg (fun j => Bb b1 b2 j ∨ j = G) wa w11) := Lib.hid (HKA10.out.trans k11 (fun _ f => f.elim))
        clear k11 HB10 HD10 HO10 HN10 HKA10 HS1
        go_wp2_with fail
        refine (Entries_any w11 og o1 o2 (2 * k) st.F st.S HO11.out (by have := HN.out.2; omega) hI.out.fine (HT.out.chg (HF.out w11 HKA11.out).2.2.2 (fun f => f))).mono ?_
        rintro e w12 ⟨k12, A3, n3, gs, rfl, hL12, hE12, hl12⟩
        have HN12 := Lib.hid (HN11.out.chg k12 (fun _ _ f => f))
        go_wp2_with fail
        refine (rEntries_any w12 G2 (2 * k) st HN12.out.doc hI.out (by have := HN.out.2; omega)).mono ?_
        rintro e w13 ⟨k13, A4, n4, hs, rfl, hL13, hE13, hl13⟩
        have hfe : hs = gs := EntsOf.one hI.out.fine hE13.out hE12.out
        subst hfe
        have HS2 := Lib.hid (same_yes w13 A3 A4 n3 n4 hs (by have := HN.out.2; omega) (hL12.out.chg k13) hL13.out)
        have k14 := k12.trans k13 (fun _ f => f.elim)
        have HB13 := Lib.hid (HB11.out.non k14)
        have HD13 := Lib.hid (HD11.out.non k14)
        have HO13 := Lib.hid (HO11.out.non k14)
        have HN13 := Lib.hid (HN11.out.chg k14 (fun _ _ f => f))
        have HKA13 : Hid (Chg (fun j => Bb b1 b2 j ∨ j = G) wa w13) := Lib.hid (HKA11.out.trans k14 (fun _ f => f.elim))
        clear k12 k13 k14 hL12 hL13 hE12 hE13 hl12 hl13 HB11 HD11 HO11 HN11 HN12 HKA11
        generalize hs.length = q2 at *
        go_wp2_with fail
        refine HS2.out.mono ?_
        rintro e w14 ⟨rfl, k14⟩
        have HB14 := Lib.hid (HB13.out.non k14)
        have HD14 := Lib.hid (HD13.out.non k14)
        have HO14 := Lib.hid (HO13.out.non k14)
        have HN14 := Lib.hid (HN13.out.chg k14 (fun _ _ f => f))
        have HKA14 : Hid (Chg (fun j => Bb b1 b2 j ∨ j = G) wa w14) := Lib.hid (HKA13.out.trans k14 (fun _ f => f.elim))
        clear k14 HB13 HD13 HO13 HN13 HKA13 HS2
        go_wp2_with fail
        rename_i hQ
        have kd : Chg Non w14 w14.drew := (Chg.refl Non w14).drew
        have HKA15 : Hid (Chg (fun j => Bb b1 b2 j ∨ j = G) wa w14.drew) := Lib.hid (HKA14.out.trans kd (fun _ f => f.elim))
        have HB15 := Lib.hid (HB14.out.non kd)
        have HD15 := Lib.hid (HD14.out.non kd)
        have HO15 := Lib.hid (HO14.out.non kd)
        have HN15 := Lib.hid (HN14.out.chg kd (fun _ _ f => f))
        clear kd HB14 HD14 HO14 HN14 HKA14
        have HX : Hid (∀ w', Chg Non w14.drew w' → w'.cell? ⟨ha, 2, none⟩ = some (.string t) ∧ w'.cell? ⟨ha, 3, none⟩ = some (.string d)) := Lib.hid fun w' kk => by
          have q := HF.out w' (HKA15.out.trans kk (fun _ f => f.elim))
          exact ⟨q.1, q.2.1⟩
        refine wp_region_heads [0, 1, 2, 3, 4, 5, 6, 7, 8, 9, 10, 11, 13, 14, 15, 16, 17] 26 #[true, true, true, true, true, true, true, true, true, true, true, true, false, true, true, true, true, true, false, false, false, false, false, false, false, false, false, false, false, false, false, false, false, false, false, false, false, false, false, false, false, false, false] (by kernel_rfl) (by kernel_rfl) (by kernel_rfl) (by kernel_rfl) (by kernel_rfl) (fun w' => Chg Non w14.drew w') (Chg.refl _ _) ?_
        refine headI_run rfl (by first | rfl | (simp [Region.wanted, yielded]; done) | (go_simp; done)) (fun w' kk => by (skip); first | (go_simp; rfl) | (go_simp; done)) ?_
        simp only [Act.put, List.setIfInBounds_toArray, List.set_cons_zero, List.set_cons_succ]
        refine headI_run rfl (by first | rfl | (simp [Region.wanted, yielded]; done) | (go_simp; done)) (fun w' kk => by (skip); first | (go_simp; rfl) | (go_simp; done)) ?_
        simp only [Act.put, List.setIfInBounds_toArray, List.set_cons_zero, List.set_cons_succ]
        refine headI_run rfl (by first | rfl | (simp [Region.wanted, yielded]; done) | (go_simp; done)) (fun w' kk => by (skip); first | (go_simp; rfl) | (go_simp; done)) ?_
        simp only [Act.put, List.setIfInBounds_toArray, List.set_cons_zero, List.set_cons_succ]
        refine headI_run rfl (by first | rfl | (simp [Region.wanted, yielded]; done) | (go_simp; done)) (fun w' kk => by (skip); first | (go_simp; rfl) | (go_simp; done)) ?_
        simp only [Act.put, List.setIfInBounds_toArray, List.set_cons_zero, List.set_cons_succ]
        refine headI_run rfl (by first | rfl | (simp [Region.wanted, yielded]; done) | (go_simp; done)) (fun w' kk => by (skip); first | (go_simp; rfl) | (go_simp; done)) ?_
        simp only [Act.put, List.setIfInBounds_toArray, List.set_cons_zero, List.set_cons_succ]
        refine headI_run rfl (by first | rfl | (simp [Region.wanted, yielded]; done) | (go_simp; done)) (fun w' kk => by (skip); first | (go_simp; rfl) | (go_simp; done)) ?_
        simp only [Act.put, List.setIfInBounds_toArray, List.set_cons_zero, List.set_cons_succ]
        refine headI_run rfl (by first | rfl | (simp [Region.wanted, yielded]; done) | (go_simp; done)) (fun w' kk => by (skip); first | (go_simp; rfl) | (go_simp; done)) ?_
        simp only [Act.put, List.setIfInBounds_toArray, List.set_cons_zero, List.set_cons_succ]
        refine headI_run rfl (by first | rfl | (simp [Region.wanted, yielded]; done) | (go_simp; done)) (fun w' kk => by (skip); first | (go_simp; rfl) | (go_simp; done)) ?_
        simp only [Act.put, List.setIfInBounds_toArray, List.set_cons_zero, List.set_cons_succ]
        refine headI_run rfl (by first | rfl | (simp [Region.wanted, yielded]; done) | (go_simp; done)) (fun w' kk => by (skip); first | (go_simp; rfl) | (go_simp; done)) ?_
        simp only [Act.put, List.setIfInBounds_toArray, List.set_cons_zero, List.set_cons_succ]
        refine headI_run rfl (by first | rfl | (simp [Region.wanted, yielded]; done) | (go_simp; done)) (fun w' kk => by (have x0 := (HX.out w' kk).1; skip); first | (go_simp; rfl) | (go_simp; done)) ?_
        simp only [Act.put, List.setIfInBounds_toArray, List.set_cons_zero, List.set_cons_succ]
        refine headI_run rfl (by first | rfl | (simp [Region.wanted, yielded]; done) | (go_simp; done)) (fun w' kk => by (skip); first | (go_simp; rfl) | (go_simp; done)) ?_
        simp only [Act.put, List.setIfInBounds_toArray, List.set_cons_zero, List.set_cons_succ]
        refine headI_run rfl (by first | rfl | (simp [Region.wanted, yielded]; done) | (go_simp; done)) (fun w' kk => by (have x0 := (HX.out w' kk).2; skip); first | (go_simp; rfl) | (go_simp; done)) ?_
        simp only [Act.put, List.setIfInBounds_toArray, List.set_cons_zero, List.set_cons_succ]
        refine headI_run rfl (by first | rfl | (simp [Region.wanted, yielded]; done) | (go_simp; done)) (fun w' kk => by (skip); first | (go_simp; rfl) | (go_simp; done)) ?_
        simp only [Act.put, List.setIfInBounds_toArray, List.set_cons_zero, List.set_cons_succ]
        refine headI_run rfl (by first | rfl | (simp [Region.wanted, yielded]; done) | (go_simp; done)) (fun w' kk => by (skip); first | (go_simp; rfl) | (go_simp; done)) ?_
        simp only [Act.put, List.setIfInBounds_toArray, List.set_cons_zero, List.set_cons_succ]
        refine headI_run rfl (by first | rfl | (simp [Region.wanted, yielded]; done) | (go_simp; done)) (fun w' kk => by (have x0 := (HX.out w' kk).1; skip); first | (go_simp; rfl) | (go_simp; done)) ?_
        simp only [Act.put, List.setIfInBounds_toArray, List.set_cons_zero, List.set_cons_succ]
        refine headI_run rfl (by first | rfl | (simp [Region.wanted, yielded]; done) | (go_simp; done)) (fun w' kk => by (skip); first | (go_simp; rfl) | (go_simp; done)) ?_
        simp only [Act.put, List.setIfInBounds_toArray, List.set_cons_zero, List.set_cons_succ]
        refine headI_run rfl (by first | rfl | (simp [Region.wanted, yielded]; done) | (go_simp; done)) (fun w' kk => by (have x0 := (HX.out w' kk).2; skip); first | (go_simp; rfl) | (go_simp; done)) ?_
        simp only [Act.put, List.setIfInBounds_toArray, List.set_cons_zero, List.set_cons_succ]
        refine headI_nil ?_
        generalize w14.drew = w15 at *
        have ent1 : ∀ args w, (callFunc 13 args).run Tryd.prog w = .ok (.enter 13 args) w := enters_of Tryd.func13 (by kernel_rfl) rfl
        have ent2 : ∀ args w, (callFunc 14 args).run Tryd.prog w = .ok (.enter 14 args) w := enters_of Tryd.func14 (by kernel_rfl) rfl
        have ent3 : ∀ args w, (callFunc 15 args).run Tryd.prog w = .ok (.enter 15 args) w := enters_of Tryd.func15 (by kernel_rfl) rfl
        have ent4 : ∀ args w, (callFunc 16 args).run Tryd.prog w = .ok (.enter 16 args) w := enters_of Tryd.func16 (by kernel_rfl) rfl
        have j15 : Chg Non w15 w15 := Chg.refl _ _
        refine held_w (n := 12) (fuel := 25) (L' := #[true, true, true, true, true, true, true, true, true, true, true, true, true, true, true, true, true, true, false, false, false, false, false, false, false, false, false, false, false, false, false, false, false, false, false, false, false, false, false, false, false, false, false]) rfl (by kernel_rfl) (by first | rfl | (simp [Region.wanted, yielded]; done) | (go_simp; done)) (by kernel_rfl) ?_
        refine wp_call (vl := [.pointer (some ⟨g, 0, none⟩), .string t, .string d]) 13 _ _ rfl rfl ent1 (Balance_any w15 g b1 b2 (2 * k + 2) r.2.F r.2.S (HB15.out.non j15) t d OX.out.to OX.out.den) ?_
        rintro e w16 ⟨rfl, y16⟩
        have j16 := j15.trans y16 (fun _ f => f.elim)
        refine ⟨_, rfl, j16, ?_⟩
        simp only [Act.put, List.setIfInBounds_toArray, List.set_cons_zero, List.set_cons_succ]
        refine held_w (n := 18) (fuel := 24) (L' := #[true, true, true, true, true, true, true, true, true, true, true, true, true, true, true, true, true, true, true, false, false, false, false, false, false, false, false, false, false, false, false, false, false, false, false, false, false, false, false, false, false, false, false]) rfl (by kernel_rfl) (by first | rfl | (simp [Region.wanted, yielded]; done) | (go_simp; done)) (by kernel_rfl) ?_
        refine wp_call (vl := [.pointer (some ⟨G, 0, none⟩), .string t, .string d]) 14 _ _ rfl rfl ent2 (dBal w16 G (2 * k + 2) r.2.F (HD15.out.non j16) (by have := HN.out.2; omega) t d) ?_
        rintro e w17 ⟨rfl, y17⟩
        have j17 := j16.trans y17 (fun _ f => f.elim)
        refine ⟨_, rfl, j17, ?_⟩
        simp only [Act.put, List.setIfInBounds_toArray, List.set_cons_zero, List.set_cons_succ]
        generalize ((r.2.F (t, d) : Nat) : Int) = bal at *
        refine held_w (n := 19) (fuel := 23) (L' := #[true, true, true, true, true, true, true, true, true, true, true, true, true, true, true, true, true, true, true, true, false, false, false, false, false, false, false, false, false, false, false, false, false, false, false, false, false, false, false, false, false, false, false]) rfl (by kernel_rfl) (by first | rfl | (simp [Region.wanted, yielded]; done) | (go_simp; done)) (by kernel_rfl) ?_
        refine wp_val (v := .bool false) (by first | (go_simp; rfl) | (go_simp; done)) ?_
        simp only [Act.put, List.setIfInBounds_toArray, List.set_cons_zero, List.set_cons_succ]
        refine ⟨j17, ?_⟩
        refine held_w (n := 20) (fuel := 22) (L' := #[true, true, true, true, true, true, true, true, true, true, true, true, true, true, true, true, true, true, true, true, true, false, false, false, false, false, false, false, false, false, false, false, false, false, false, false, false, false, false, false, false, false, false]) rfl (by kernel_rfl) (by first | rfl | (simp [Region.wanted, yielded]; done) | (go_simp; done)) (by kernel_rfl) ?_
        refine wp_val (v := .bool false) (by first | (go_simp; rfl) | (go_simp; done)) ?_
        simp only [Act.put, List.setIfInBounds_toArray, List.set_cons_zero, List.set_cons_succ]
        refine ⟨j17, ?_⟩
        refine held_w (n := 21) (fuel := 21) (L' := #[true, true, true, true, true, true, true, true, true, true, true, true, true, true, true, true, true, true, true, true, true, true, false, false, false, false, false, false, false, false, false, false, false, false, false, false, false, false, false, false, false, false, false]) rfl (by kernel_rfl) (by first | rfl | (simp [Region.wanted, yielded]; done) | (go_simp; done)) (by kernel_rfl) ?_
        refine wp_val (v := .bool false) (by first | (go_simp; rfl) | (go_simp; done)) ?_
        simp only [Act.put, List.setIfInBounds_toArray, List.set_cons_zero, List.set_cons_succ]
        refine ⟨j17, ?_⟩
        refine heads (g := 15) (by kernel_rfl) (fun _ _ _ _ _ h => h) [22, 23, 24, 26, 27, 28] _ _ w17 (by kernel_rfl) rfl j17 ?_
        refine headI_run rfl (by first | rfl | (simp [Region.wanted, yielded]; done) | (go_simp; done)) (fun w' kk => by (skip); first | (go_simp; rfl) | (go_simp; done)) ?_
        simp only [Act.put, List.setIfInBounds_toArray, List.set_cons_zero, List.set_cons_succ]
        refine headI_run rfl (by first | rfl | (simp [Region.wanted, yielded]; done) | (go_simp; done)) (fun w' kk => by (skip); first | (go_simp; rfl) | (go_simp; done)) ?_
        simp only [Act.put, List.setIfInBounds_toArray, List.set_cons_zero, List.set_cons_succ]
        refine headI_run rfl (by first | rfl | (simp [Region.wanted, yielded]; done) | (go_simp; done)) (fun w' kk => by (have x0 := (HX.out w' kk).2; skip); first | (go_simp; rfl) | (go_simp; done)) ?_
        simp only [Act.put, List.setIfInBounds_toArray, List.set_cons_zero, List.set_cons_succ]
        refine headI_run rfl (by first | rfl | (simp [Region.wanted, yielded]; done) | (go_simp; done)) (fun w' kk => by (skip); first | (go_simp; rfl) | (go_simp; done)) ?_
        simp only [Act.put, List.setIfInBounds_toArray, List.set_cons_zero, List.set_cons_succ]
        refine headI_run rfl (by first | rfl | (simp [Region.wanted, yielded]; done) | (go_simp; done)) (fun w' kk => by (skip); first | (go_simp; rfl) | (go_simp; done)) ?_
        simp only [Act.put, List.setIfInBounds_toArray, List.set_cons_zero, List.set_cons_succ]
        refine headI_run rfl (by first | rfl | (simp [Region.wanted, yielded]; done) | (go_simp; done)) (fun w' kk => by (have x0 := (HX.out w' kk).2; skip); first | (go_simp; rfl) | (go_simp; done)) ?_
        simp only [Act.put, List.setIfInBounds_toArray, List.set_cons_zero, List.set_cons_succ]
        refine headI_nil ?_
        refine held_w (n := 25) (fuel := 14) (L' := #[true, true, true, true, true, true, true, true, true, true, true, true, true, true, true, true, true, true, true, true, true, true, true, true, true, true, true, true, true, false, false, false, false, false, false, false, false, false, false, false, false, false, false]) rfl (by kernel_rfl) (by first | rfl | (simp [Region.wanted, yielded]; done) | (go_simp; done)) (by kernel_rfl) ?_
        refine wp_call (vl := [.pointer (some ⟨g, 0, none⟩), .string d]) 15 _ _ rfl rfl ent3 (Supply_any w17 g b1 b2 (2 * k + 2) r.2.F r.2.S (HB15.out.non j17) d OX.out.den) ?_
        rintro e w18 ⟨rfl, y18⟩
        have j18 := j17.trans y18 (fun _ f => f.elim)
        refine ⟨_, rfl, j18, ?_⟩
        simp only [Act.put, List.setIfInBounds_toArray, List.set_cons_zero, List.set_cons_succ]
        refine held_w (n := 29) (fuel := 13) (L' := #[true, true, true, true, true, true, true, true, true, true, true, true, true, true, true, true, true, true, true, true, true, true, true, true, true, true, true, true, true, true, false, false, false, false, false, false, false, false, false, false, false, false, false]) rfl (by kernel_rfl) (by first | rfl | (simp [Region.wanted, yielded]; done) | (go_simp; done)) (by kernel_rfl) ?_
        refine wp_call (vl := [.pointer (some ⟨G, 0, none⟩), .string d]) 16 _ _ rfl rfl ent4 (dSup w18 G (2 * k + 2) r.2.F r.2.S (HD15.out.non j18) HI2.out (by have := HN.out.2; omega) d) ?_
        rintro e w19 ⟨rfl, y19⟩
        have j19 := j18.trans y19 (fun _ f => f.elim)
        refine ⟨_, rfl, j19, ?_⟩
        simp only [Act.put, List.setIfInBounds_toArray, List.set_cons_zero, List.set_cons_succ]
        generalize ((r.2.S d : Nat) : Int) = sup at *
        refine held_w (n := 30) (fuel := 12) (L' := #[true, true, true, true, true, true, true, true, true, true, true, true, true, true, true, true, true, true, true, true, true, true, true, true, true, true, true, true, true, true, true, false, false, false, false, false, false, false, false, false, false, false, false]) rfl (by kernel_rfl) (by first | rfl | (simp [Region.wanted, yielded]; done) | (go_simp; done)) (by kernel_rfl) ?_
        refine wp_val (v := .bool false) (by first | (go_simp; rfl) | (go_simp; done)) ?_
        simp only [Act.put, List.setIfInBounds_toArray, List.set_cons_zero, List.set_cons_succ]
        refine ⟨j19, ?_⟩
        refine held_w (n := 31) (fuel := 11) (L' := #[true, true, true, true, true, true, true, true, true, true, true, true, true, true, true, true, true, true, true, true, true, true, true, true, true, true, true, true, true, true, true, true, false, false, false, false, false, false, false, false, false, false, false]) rfl (by kernel_rfl) (by first | rfl | (simp [Region.wanted, yielded]; done) | (go_simp; done)) (by kernel_rfl) ?_
        refine wp_val (v := .bool false) (by first | (go_simp; rfl) | (go_simp; done)) ?_
        simp only [Act.put, List.setIfInBounds_toArray, List.set_cons_zero, List.set_cons_succ]
        refine ⟨j19, ?_⟩
        refine held_w (n := 32) (fuel := 10) (L' := #[true, true, true, true, true, true, true, true, true, true, true, true, true, true, true, true, true, true, true, true, true, true, true, true, true, true, true, true, true, true, true, true, true, false, false, false, false, false, false, false, false, false, false]) rfl (by kernel_rfl) (by first | rfl | (simp [Region.wanted, yielded]; done) | (go_simp; done)) (by kernel_rfl) ?_
        refine wp_val (v := .bool false) (by first | (go_simp; rfl) | (go_simp; done)) ?_
        simp only [Act.put, List.setIfInBounds_toArray, List.set_cons_zero, List.set_cons_succ]
        refine ⟨j19, ?_⟩
        refine heads (g := 4) (by kernel_rfl) (fun _ _ _ _ _ h => h) [33, 34, 35, 37, 38, 39] _ _ w19 (by kernel_rfl) rfl j19 ?_
        refine headI_run rfl (by first | rfl | (simp [Region.wanted, yielded]; done) | (go_simp; done)) (fun w' kk => by (skip); first | (go_simp; rfl) | (go_simp; done)) ?_
        simp only [Act.put, List.setIfInBounds_toArray, List.set_cons_zero, List.set_cons_succ]
        refine headI_run rfl (by first | rfl | (simp [Region.wanted, yielded]; done) | (go_simp; done)) (fun w' kk => by (skip); first | (go_simp; rfl) | (go_simp; done)) ?_
        simp only [Act.put, List.setIfInBounds_toArray, List.set_cons_zero, List.set_cons_succ]
        refine headI_run rfl (by first | rfl | (simp [Region.wanted, yielded]; done) | (go_simp; done)) (fun w' kk => by (have x0 := (HX.out w' kk).2; skip); first | (go_simp; rfl) | (go_simp; done)) ?_
        simp only [Act.put, List.setIfInBounds_toArray, List.set_cons_zero, List.set_cons_succ]
        refine headI_run rfl (by first | rfl | (simp [Region.wanted, yielded]; done) | (go_simp; done)) (fun w' kk => by (skip); first | (go_simp; rfl) | (go_simp; done)) ?_
        simp only [Act.put, List.setIfInBounds_toArray, List.set_cons_zero, List.set_cons_succ]
        refine headI_run rfl (by first | rfl | (simp [Region.wanted, yielded]; done) | (go_simp; done)) (fun w' kk => by (skip); first | (go_simp; rfl) | (go_simp; done)) ?_
        simp only [Act.put, List.setIfInBounds_toArray, List.set_cons_zero, List.set_cons_succ]
        refine headI_run rfl (by first | rfl | (simp [Region.wanted, yielded]; done) | (go_simp; done)) (fun w' kk => by (have x0 := (HX.out w' kk).2; skip); first | (go_simp; rfl) | (go_simp; done)) ?_
        simp only [Act.put, List.setIfInBounds_toArray, List.set_cons_zero, List.set_cons_succ]
        refine headI_nil ?_
        refine held_w (n := 36) (fuel := 3) (L' := #[true, true, true, true, true, true, true, true, true, true, true, true, true, true, true, true, true, true, true, true, true, true, true, true, true, true, true, true, true, true, true, true, true, true, true, true, true, true, true, true, false, false, false]) rfl (by kernel_rfl) (by first | rfl | (simp [Region.wanted, yielded]; done) | (go_simp; done)) (by kernel_rfl) ?_
        refine wp_call (vl := [.pointer (some ⟨og, 0, none⟩), .string d]) 15 _ _ rfl rfl ent3 (Supply_any w19 og o1 o2 (2 * k) st.F st.S (HO15.out.non j19) d OX.out.den) ?_
        rintro e w20 ⟨rfl, y20⟩
        have j20 := j19.trans y20 (fun _ f => f.elim)
        refine ⟨_, rfl, j20, ?_⟩
        simp only [Act.put, List.setIfInBounds_toArray, List.set_cons_zero, List.set_cons_succ]
        refine held_w (n := 40) (fuel := 2) (L' := #[true, true, true, true, true, true, true, true, true, true, true, true, true, true, true, true, true, true, true, true, true, true, true, true, true, true, true, true, true, true, true, true, true, true, true, true, true, true, true, true, true, false, false]) rfl (by kernel_rfl) (by first | rfl | (simp [Region.wanted, yielded]; done) | (go_simp; done)) (by kernel_rfl) ?_
        refine wp_call (vl := [.pointer (some ⟨G2, 0, none⟩), .string d]) 16 _ _ rfl rfl ent4 (dSup w20 G2 (2 * k) st.F st.S (HN15.out.doc.non j20) hI.out (by have := HN.out.2; omega) d) ?_
        rintro e w21 ⟨rfl, y21⟩
        have j21 := j20.trans y21 (fun _ f => f.elim)
        refine ⟨_, rfl, j21, ?_⟩
        simp only [Act.put, List.setIfInBounds_toArray, List.set_cons_zero, List.set_cons_succ]
        generalize ((st.S d : Nat) : Int) = sup2 at *
        refine held_w (n := 41) (fuel := 1) (L' := #[true, true, true, true, true, true, true, true, true, true, true, true, true, true, true, true, true, true, true, true, true, true, true, true, true, true, true, true, true, true, true, true, true, true, true, true, true, true, true, true, true, true, false]) rfl (by kernel_rfl) (by first | rfl | (simp [Region.wanted, yielded]; done) | (go_simp; done)) (by kernel_rfl) ?_
        refine wp_val (v := .bool false) (by first | (go_simp; rfl) | (go_simp; done)) ?_
        simp only [Act.put, List.setIfInBounds_toArray, List.set_cons_zero, List.set_cons_succ]
        refine ⟨j21, ?_⟩
        refine held_w (n := 42) (fuel := 0) (L' := #[true, true, true, true, true, true, true, true, true, true, true, true, true, true, true, true, true, true, true, true, true, true, true, true, true, true, true, true, true, true, true, true, true, true, true, true, true, true, true, true, true, true, true]) rfl (by kernel_rfl) (by first | rfl | (simp [Region.wanted, yielded]; done) | (go_simp; done)) (by kernel_rfl) ?_
        refine wp_val (v := .bool false) (by first | (go_simp; rfl) | (go_simp; done)) ?_
        simp only [Act.put, List.setIfInBounds_toArray, List.set_cons_zero, List.set_cons_succ]
        refine ⟨j21, ?_⟩
        refine wpAnyH_done (by kernel_rfl) ?_ _
        have HBZ := Lib.hid ((HB15.out.non j21).mono (show 2 * k + 2 ≤ 2 * (k + 1) by omega))
        have HDZ := Lib.hid ((HD15.out.non j21).mono (show 2 * k + 2 ≤ 2 * (k + 1) by omega))
        have HCZ : Hid (Chg Non W w21) := Lib.hid (HF.out w21 (HKA15.out.trans j21 (fun _ f => f.elim))).2.2.2
        clear j15 j16 j17 j18 j19 j20 j21 y16 y17 y18 y19 y20 y21 HX ent1 ent2 ent3 ent4
        refine hQ _ _ ?_
        clear hQ
        go_wp2_with fail
        go_roundw
        case rel => exact ⟨k + 1, r.2, by have := HN.out.1; omega, by have := HN.out.2; omega, by go_num, HBZ, HDZ, HI2, HCZ⟩
        case measure => have := HN.out.1; simp [intOf]; omega
      · have hki : (k : Int) < (m : Int) := by omega
        have hki60 : ¬ (k : Int) < 60 := by omega
        go_wp2_with fail
        go_ret
        exact ⟨rfl, hC.out.below (Nat.le_refl _) (fun _ f => f.elim)⟩
    · have hki : ¬ (k : Int) < (m : Int) := by omega
      go_wp2_with fail
      go_ret
      exact ⟨rfl, hC.out.below (Nat.le_refl _) (fun _ f => f.elim)⟩

/-! ### The row's frame -/
theorem own : ownKnob Tryd.prog.godebug = none := by kernel_rfl
theorem walkA (W : World) (args : Array Value) (hsz : args.size = Tryd.f3.params.size) (hok : ∀ (j : Nat) (t : TypeId) (v : Value), Tryd.f3.params[j]? = some t → args[j]? = some v → Okv Tryd.prog W t v) (hL : laidMetH Tryd.prog laidL W) :
    Calls Tryd.prog 3 args W fun e W' => e = .returned (.bool true) ∧ Below W.heap.size W W' := by
  rw [Tryd.params3] at hsz hok
  obtain ⟨v0, rfl⟩ : ∃ v0 : Value, args = #[v0] := by
    obtain ⟨l⟩ := args
    match l, hsz with
    | [v0], _ => exact ⟨v0, rfl⟩
  exact walk W v0 (hok 0 22 v0 rfl rfl) (tab_of_laid hL)
set_option maxRecDepth 100000 in
theorem lifted (os : Os) (started : os.Started) (H : Type) (enc : TypeId × Value → H) :
    ReturnsInHanded {} Tryd.checked os 3 .any (fun w args => (Rows.bankPlaysSpec.pre enc Tryd.prog Tryd.f3 Rows.bankPlaysRow.domain false w args ∧ laidMetH Tryd.prog laidL w) ∧ sizedMet enc Tryd.prog Tryd.f3 (OpenSpec.ofChange Rows.bankPlaysSpec) false w args) (Rows.bankPlaysSpec.post enc Tryd.prog Tryd.f3 false true false false) :=
  lifted_of_walk_laid (C := Tryd.checked) (s := Rows.bankPlaysSpec) (conds := Rows.bankPlaysRow.domain) (apart := false) (fresh := true) (T := 4) (laid := laidL) own started (by kernel_rfl) Tryd.func3
    (ChangeSpec.witness_at (enc := enc) (C := Tryd.checked) (os := os) (X := fun w _ => laidMetH Tryd.prog laidL w) false (laidWorld os) #[.slice none 0 0] 8 rfl (by kernel_rfl) (by kernel_rfl) (by kernel_rfl) (by kernel_rfl) (by kernel_rfl) (laidWorld_met os _))
    rfl (fun ds hd => by
      rw [Tryd.params3] at hd
      match ds, hd with
      | [d0], _ => exact ⟨rfl, rfl, rfl⟩)
    (by kernel_rfl) Tryd.underlying4 (by kernel_rfl) (by rw [Tryd.params3]; intro t ht; simp only [List.mem_cons, List.not_mem_nil, or_false] at ht; subst ht; exact ⟨by kernel_rfl, of_decide_eq_true (by kernel_rfl)⟩) walkA

theorem holds : Rows.bankPlaysRow.holds Tryd.pinned (OpenSpec.ofChange Rows.bankPlaysSpec) :=
  OpenClaim.holds_of_wide 3 Tryd.f3 rfl rfl rfl rfl rfl rfl rfl ⟨rfl, rfl, rfl, rfl, rfl⟩ rfl rfl rfl rfl rfl (by kernel_rfl) Tryd.func3 (by kernel_rfl)
    (of_decide_eq_true (by kernel_rfl)) (by unfold Func.isWrapper; first | (rw [if_pos (by decide +kernel)]; kernel_rfl) | (rw [if_neg (by decide +kernel)]; exact ⟨rfl, rfl⟩))
    (fun os started H enc _ => lifted os started H enc)
theorem card : Rows.BankPlaysCardSaid :=
  Claim7.holds_tied_plain_at .later [] [.data, .data, .data] true Rows.bankPlaysCard.stood.harness true
    holds (fun _ h => by cases h) (by kernel_rfl) (fun _ h => by cases h) bankPlays_row_tie rfl ⟨rfl, rfl⟩ (by kernel_rfl) rfl
    (fun f fn hf hfn => by
      obtain rfl : f = 3 := (Option.some.inj ((show Tryd.prog.funcNamed "nuncio/nunciolaw18.BankPlays" = some 3 by kernel_rfl).symm.trans hf)).symm
      obtain rfl : fn = Tryd.f3 := (Option.some.inj (Tryd.func3.symm.trans hfn)).symm
      exact ⟨by kernel_rfl, fun j t ht => by
        rw [Tryd.params3] at ht
        have hm : t ∈ [22] := List.mem_of_getElem? (i := j) (by simpa using ht)
        simp only [List.mem_cons, List.not_mem_nil, or_false] at hm
        subst hm
        exact (show Tryd.prog.wantsStandIn 22 = false by kernel_rfl)⟩)
    (by kernel_rfl)
end Go.Proofs.YtahlfncijbkcoaaDoor.bankPlays
namespace Go.Proofs.YtahlfncijbkcoaaDoor
/-- The statement. -/
theorem bankPlays_holds : Rows.BankPlaysCardSaid := bankPlays.card
end Go.Proofs.YtahlfncijbkcoaaDoor
