import Derived.Test.YtgonbmcfeehfaaaChecked
import Derived.WalkKit
import Derived.WalkLawsBesides
import Derived.Lib.Hide
import Derived.Deep.RegionHeld3
import Derived.Deep.AppendLies
import Derived.Maps.AppendAt
import Derived.Test.YtgonbmcfeehfaaaMFormReads7
import Derived.Test.YtgonbmcfeehfaaaMFormReads10
import Derived.Test.YtgonbmcfeehfaaaMFormReads11
import Derived.Test.YtgonbmcfeehfaaaMFormReads13
/- The document's answers for forms: a packet's bytes. -/
namespace Go.Proofs.Ytgonbmcfeehfaaa
open Go.RowKit
set_option linter.unusedVariables false
set_option linter.unusedSimpArgs false
set_option maxRecDepth 20000

set_option maxHeartbeats 6400000 in
theorem refPacket_any (w : World) (x : Pk) (ox : x.Ok) : Calls Try.prog 28 #[.agg x.cells.toArray] w fun e w' => Chg Non w w' ∧ ∃ v, e = .returned (.tuple #[v, .bool x.right]) ∧ (x.right = true → Own 5 w' v x.enc) := by
  have HNm : Hid (∀ w', Calls Try.prog 48 #[.string x.from] w' fun e w'' => e = .returned (.bool (nameOk x.from)) ∧ ∃ n, w'' = w'.drewN n) := Lib.hid fun w' => refName_any w' x.from ox.from
  have HT : Hid (∀ (s : ByteArray), s.size ≤ 4096 → ∀ w', Calls Try.prog 51 #[.string s] w' (Newb w' (tx s.data.toList))) := Lib.hid fun s h w' => refText_any w' s h
  have HR : Hid (x.right = (inR 1 1099511627776 x.seq && (nameOk x.from && (decide (x.data.size ≤ 256) && inR 1 1099511627776 x.timeout)))) := Lib.hid rfl
  have HE : Hid (x.enc = num 6 ++ (num x.seq ++ (tx x.from.data.toList ++ (tx x.data.data.toList ++ num x.timeout)))) := Lib.hid rfl
  have k0 : Chg Non w (w.alloc (.cells x.cells.toArray 40)) := (Chg.refl _ _).alloc _
  have b0 := Hb.new w 40 x.cells.toArray
  generalize x.right = ok at *
  generalize x.enc = enc at *
  unfold Pk.cells at *
  have HL : Hid (nameOk x.from = true → x.from.size ≤ 16) := Lib.hid nameOk_size
  have ofs := ox.from
  have ods := ox.data
  generalize x.seq = sq at *
  generalize x.from = fr at *
  generalize x.data = da at *
  generalize x.timeout = ti at *
  unfold maxLen at ofs ods
  clear ox
  generalize hnm : nameOk fr = nm at *
  clear hnm
  go_enter Try.func28, Try.ntmps28
  go_wp2_with fail
  refine (HNm.out _).mono ?_
  rintro e w1 ⟨rfl, q, hq⟩
  have k1 : Chg Non w w1 := by rw [hq]; exact k0.drewN q
  have b1 : Hb w1 w.heap.size 40 #[.int .i64 sq, .string fr, .string da, .int .i64 ti] := by rw [hq]; exact b0
  have c0 := b1.cell 0
  have c1 := b1.cell 1
  have c2 := b1.cell 2
  have c3 := b1.cell 3
  simp only [List.getElem?_toArray] at c0 c1 c2 c3
  clear hq k0 b0
  by_cases hd : (256 : Int) < (da.size : Int)
  · go_wp2_with fail
    go_ret2
    refine ⟨k1, .slice none 0 0, by rw [HR.out, decide_eq_false (show ¬ da.size ≤ 256 by omega)]; simp, fun h => ?_⟩
    rw [HR.out, decide_eq_false (show ¬ da.size ≤ 256 by omega)] at h
    simp at h
  cases nm
  · go_wp2_with fail
    go_ret2
    refine ⟨k1, .slice none 0 0, by rw [HR.out]; simp, fun h => ?_⟩
    rw [HR.out] at h
    simp at h
  have hfs : fr.size ≤ 16 := HL.out rfl
  have HB := Lib.hid b1
  have H1 := Lib.hid c1
  have H2 := Lib.hid c2
  have H0 := Lib.hid c0
  have H3 := Lib.hid c3
  clear b1 HL HNm
  go_wp2_with fail
  go_region_held3 (fun w' => w'.cell? ⟨w.heap.size, 0, none⟩ = some (.int .i64 sq) ∧ w'.cell? ⟨w.heap.size, 1, none⟩ = some (.string fr) ∧ w'.cell? ⟨w.heap.size, 2, none⟩ = some (.string da) ∧ w'.cell? ⟨w.heap.size, 3, none⟩ = some (.int .i64 ti)) (first | exact ⟨c0, c1, c2, c3⟩ | exact S8 | exact S7 | exact S6 | assumption)
    (first
      | (go_at_call_of 50 (Value.int IntKind.i64 6); refine (refNumber_any _ 6).mono ?_; rintro e w6 ⟨v6, rfl, o6, n6, j6⟩; have K6 : Chg Non w1 w6 := (by first | exact ((Chg.refl Non w1).drew).trans j6 (fun _ f => f.elim) | exact K7.trans j6 (fun _ f => f.elim)); have B6 : Bts w1 w6 v6 (num 6) := ⟨o6, fun k hk => Nat.le_trans (by first | exact Nat.le_refl _ | exact K7.size) (n6 k hk), K6⟩; have S6 := And.intro (K6.cell c0 (fun f => f)) (And.intro (K6.cell c1 (fun f => f)) (And.intro (K6.cell c2 (fun f => f)) (K6.cell c3 (fun f => f)))))
      | (go_at_call_of 50 (Value.int IntKind.i64 sq); refine (refNumber_any _ sq).mono ?_; rintro e w7 ⟨v7, rfl, o7, n7, j7⟩; obtain ⟨A7, c7, rfl, R7⟩ := o7.rd; have K7 : Chg Non w1 w7 := (by first | exact ((Chg.refl Non w1).drew).trans j7 (fun _ f => f.elim) | exact K6.trans j7 (fun _ f => f.elim)); have S7 := And.intro (K7.cell c0 (fun f => f)) (And.intro (K7.cell c1 (fun f => f)) (And.intro (K7.cell c2 (fun f => f)) (K7.cell c3 (fun f => f)))))
      | (refine step_app _ (by rfl) _ _ (by rfl) (l := num 6) (l2 := num sq) (by rfl) (by first | exact (B6.later j7).own | exact B6.own) (A := A7) (c := c7) (by rfl) (by rfl) (by first | exact R7 | exact R7.later j6) (by simp [num_length]) ?_; intro v8 w8 o8 g8 b8; have B8 : Bts w1 w8 v8 (num 6 ++ num sq) := (by first | exact (B6.later j7).app o8 g8 b8 | exact B6.app o8 g8 b8); have S8 := And.intro (B8.chg.cell c0 (fun f => f)) (And.intro (B8.chg.cell c1 (fun f => f)) (And.intro (B8.chg.cell c2 (fun f => f)) (B8.chg.cell c3 (fun f => f)))))
      | fail)
  all_goals
    clear c0 c1 c2 c3
    obtain ⟨c0, c1, c2, c3⟩ := S8
    have B8' := Lib.hid B8
    clear S6 S7 R7 o6 o7 o8 g8 b8 B6 B8 K6 K7 j6 j7 n6 n7
    go_wp2_with fail
    refine (HT.out fr (by omega) _).mono ?_
    rintro e wa ⟨va, rfl, oa, na, ja⟩
    obtain ⟨Aa, ca, rfl, Ra⟩ := oa.rd
    have Ba := B8'.out.later ja
    have hfl : fr.data.toList.length = fr.size := by rw [Array.length_toList]; rfl
    have hdl : da.data.toList.length = da.size := by rw [Array.length_toList]; rfl
    clear c0 c1 c2 c3
    go_wp2_with (at_builtin; refine wpList_app byt _ rfl _ _ rfl rfl Ba.own (A := Aa) (c := ca) rfl rfl Ra (by simp only [List.length_append, num_length, tx_length, hfl]; omega) ?_; intro v9 w9 o9 g9 b9; have B9 := Ba.app o9 g9 b9; have d2 := B9.chg.cell H2.out (fun f => f))
    refine (HT.out da (by omega) _).mono ?_
    rintro e wb ⟨vb, rfl, ob, nb, jb⟩
    obtain ⟨Ab, cb, rfl, Rb⟩ := ob.rd
    have Bb := B9.later jb
    clear d2 Ba oa Ra na ja o9 g9 b9
    go_wp2_with (at_builtin; refine wpList_app byt _ rfl _ _ rfl rfl Bb.own (A := Ab) (c := cb) rfl rfl Rb (by simp only [List.length_append, num_length, tx_length, hfl, hdl]; omega) ?_; intro v10 w10 o10 g10 b10; have B10 := Bb.app o10 g10 b10; have d0 := B10.chg.cell H0.out (fun f => f); have d3 := B10.chg.cell H3.out (fun f => f))
    clear Bb ob Rb nb jb o10 g10 b10 B9
    have I1 : Hid (∀ w', Calls Try.prog 49 #[.int .i64 sq, .int .i64 1, .int .i64 1099511627776] w' fun e w'' => e = .returned (.bool (inR 1 1099511627776 sq)) ∧ w'' = w') := Lib.hid fun w' => in_any w' _ _ _
    have I2 : Hid (∀ w', Calls Try.prog 49 #[.int .i64 ti, .int .i64 1, .int .i64 1099511627776] w' fun e w'' => e = .returned (.bool (inR 1 1099511627776 ti)) ∧ w'' = w') := Lib.hid fun w' => in_any w' _ _ _
    generalize inR 1 1099511627776 sq = p at *
    generalize inR 1 1099511627776 ti = t at *
    have hln : ((((num 6 ++ num sq) ++ tx fr.data.toList) ++ tx da.data.toList)).length ≤ 10000 := by simp only [List.length_append, num_length, tx_length, hfl, hdl]; omega
    have HLN := Lib.hid hln
    clear hln hfl hdl
    cases p
    · first | (go_region_law
        (first
          | (refine step_call _ (by rfl) 49 _ _ (by rfl) (by rfl) ent_in (I1.out _) ?_; rintro e wx ⟨rfl, rfl⟩; refine ⟨_, rfl, ?_⟩)
          | (refine step_call _ (by rfl) 50 _ _ (by rfl) (by rfl) ent_num (refNumber_any _ ti) ?_; rintro e w11 ⟨v11, rfl, o11, n11, j11⟩; obtain ⟨A11, c11, rfl, R11⟩ := o11.rd; have B11 := B10.later (((Chg.refl Non w10).drew).trans j11 (fun _ f => f.elim)); have S11 := B11.chg.cell H0.out (fun f => f); have T11 := B11.chg.cell H3.out (fun f => f); refine ⟨_, rfl, ?_⟩)
          | (refine step_app _ (by rfl) _ _ (by rfl) (l2 := num ti) (by rfl) B11.own (A := A11) (c := c11) (by rfl) (by rfl) R11 (by have := HLN.out; rw [num_length]; omega) ?_; intro v12 w12 o12 g12 b12; have B12 := B11.app o12 g12 b12; have S12 := B12.chg.cell H0.out (fun f => f); have T12 := B12.chg.cell H3.out (fun f => f))
          | fail)) | fail
      all_goals
        go_wp2_with fail
        go_ret2
        exact ⟨k1.trans B12.chg (fun _ f => f.elim), v12, by rw [HR.out]; rfl, fun h => by rw [HR.out] at h; cases h⟩
    · first | (go_region_law
        (first
          | (refine step_call _ (by rfl) 49 _ _ (by rfl) (by rfl) ent_in (I1.out _) ?_; rintro e wx ⟨rfl, rfl⟩; refine ⟨_, rfl, ?_⟩)
          | (refine step_callW _ (by rfl) 49 _ _ (by rfl) (by rfl) ent_in (I2.out _) ?_; rintro e wx ⟨rfl, rfl⟩; refine ⟨_, rfl, ?_⟩)
          | (refine step_call _ (by rfl) 50 _ _ (by rfl) (by rfl) ent_num (refNumber_any _ ti) ?_; rintro e w11 ⟨v11, rfl, o11, n11, j11⟩; obtain ⟨A11, c11, rfl, R11⟩ := o11.rd; have B11 := B10.later (((Chg.refl Non w10).drew).trans j11 (fun _ f => f.elim)); have S11 := B11.chg.cell H0.out (fun f => f); have T11 := B11.chg.cell H3.out (fun f => f); refine ⟨_, rfl, ?_⟩)
          | (refine step_app _ (by rfl) _ _ (by rfl) (l2 := num ti) (by rfl) B11.own (A := A11) (c := c11) (by rfl) (by rfl) R11 (by have := HLN.out; rw [num_length]; omega) ?_; intro v12 w12 o12 g12 b12; have B12 := B11.app o12 g12 b12; have S12 := B12.chg.cell H0.out (fun f => f); have T12 := B12.chg.cell H3.out (fun f => f))
          | fail)) | fail
      all_goals
        go_wp2_with fail
        go_ret2
        have hok : ok = t := by rw [HR.out, decide_eq_true (show da.size ≤ 256 by omega)]; simp
        exact ⟨k1.trans B12.chg (fun _ f => f.elim), v12, by rw [hok]; rfl, fun h => by rw [HE.out]; simpa only [List.append_assoc] using B12.own⟩
end Go.Proofs.Ytgonbmcfeehfaaa

/- The document's answers for forms: ReadPacket. -/
namespace Go.Proofs.Ytgonbmcfeehfaaa
open Go.RowKit
set_option linter.unusedVariables false
set_option linter.unusedSimpArgs false
set_option maxRecDepth 20000

theorem built_Pk (n : Int) : Try.prog.built 40 [(0, .int .i64 n)] = some (⟨n, ⟨#[]⟩, ⟨#[]⟩, 0⟩ : Pk).cells.toArray := by kernel_rfl
theorem zero_Pk : Try.prog.built 40 [] = some (Pk.zero.cells).toArray := by kernel_rfl
set_option maxHeartbeats 3200000 in
theorem ReadPacket_any (w : World) (A : Option Addr) (c : Nat) (bs : List UInt8) (hr : Rd w A bs) (hc : bs.length ≤ c) (hcm : c ≤ maxLen) (hA : bs ≠ [] → ∀ j, abl A j → j < w.heap.size) :
    Calls Try.prog 10 #[.slice A bs.length c] w (Dec w (Pk.zero.cells) ((whole (dPacket (some bs))).map Pk.cells)) := by
  rw [rPacket_is]
  obtain ⟨hR2, hb2, hk2, hs2⟩ := rdF_new w 40 (Pk.zero.cells) A c bs hr hc hcm hA
  generalize hst : (some bs : St) = st at *
  have ox := rPacket_ok st
  have HN := refRNumber _ (w.heap.size + 1) (fun j => j < w.heap.size) st hR2 (fun j hj => by rw [hs2]; omega)
  have hz := dPacket.alloc0
  have hzl := dPacket.zlen
  have hrow := dPacket.row
  have hzz := zero_Pk
  have hzone := Pk.zero.one
  have hLl : (rPacket st).1.cells.length = 4 := rfl
  have hLone := (rPacket st).1.one
  have HX : Hid (∀ w', Calls Try.prog 28 #[.agg (rPacket st).1.cells.toArray] w' fun e w'' => Chg Non w' w'' ∧ ∃ v, e = .returned (.tuple #[v, .bool (rPacket st).1.right])) := Lib.hid fun w' => (refPacket_any w' _ ox).mono fun e w'' ⟨h1, v, h2, _⟩ => ⟨h1, v, h2⟩
  have hres : ((if (rPacket st).2 = some [] ∧ (rPacket st).1.right = true then some (rPacket st).1 else none).map Pk.cells) = if (rPacket st).2 = some [] ∧ (rPacket st).1.right = true then some (rPacket st).1.cells else none := by split <;> rfl
  rw [hres]
  have HL : Hid ((rPacket st).1.cells = (⟨vN (rBeg 6 st), ⟨(vT (nW (rBeg 6 st))).toArray⟩, ⟨(vT (nT (nW (rBeg 6 st)))).toArray⟩, vN (nT (nT (nW (rBeg 6 st))))⟩ : Pk).cells) := Lib.hid rfl
  have H9 : Hid ((rPacket st).2 = nW (nT (nT (nW (rBeg 6 st))))) := Lib.hid rfl
  have hs0 : rBeg 6 st = if vN st = 6 then nW st else none := rfl
  clear hres ox hst
  generalize (rPacket st).1.cells = L at *
  generalize (rPacket st).1.right = ok at *
  generalize (rPacket st).2 = s9 at *
  generalize rBeg 6 st = s1 at *
  generalize nW st = s0 at *
  generalize vN st = m at *
  generalize (Pk.zero.cells) = z at *
  generalize bs.length = n at *
  generalize hrr : (if s9 = some [] ∧ ok = true then some L else none) = rr
  have HRR := Lib.hid hrr
  clear hrr
  have HZ := Lib.hid hz
  have hz0 := hz w
  have HVV := Lib.hid HN
  clear HN hz hr hc hA hR2
  by_cases hk : m = 6
  · rw [if_pos hk] at hs0
    subst hs0
    subst hk
    go_enter Try.func10, Try.ntmps10
    go_wp2_with (with_reducible refine wpList_alloc_row rfl _ rfl z hz0 ?_)
    generalize (w.alloc (.cells z.toArray 40)).alloc (.cells #[.slice A n c, .bool false] 56) = w2 at *
    refine HVV.out.mono ?_
    rintro e w1 ⟨rfl, hR, hK⟩
    have hb1 := hb2.chg hK (fun e => by unfold Eqg at e; omega)
    have hk1 := hk2.trans hK (fun j hj => .inr (by unfold Eqg at hj; omega))
    obtain ⟨A9, m9, c9, hblk⟩ := hR.blk
    have q1 : w1.cell? ⟨w.heap.size + 1, 1, none⟩ = some (.bool s1.isNone) := hblk.cell 1
    have q2 : w1.frozen? ⟨w.heap.size + 1, 1, none⟩ = false := hblk.frozen 1
    have hw1 := hK.size
    rw [hs2] at hw1
    clear HVV hz0 hK hblk hb2 hk2
    go_wp2_with fail
    have hR2 := hR.same
    have kk := (Chg.refl (Eqg (w.heap.size + 1)) w1).setCell (p := ⟨w.heap.size + 1, 1, none⟩) (.inl rfl) (.bool s1.isNone)
    have hb3 := hb1.chg kk (fun e => by unfold Eqg at e; omega)
    have hk3 := hk1.trans kk (fun j hj => .inr (by unfold Eqg at hj; omega))
    have hw3 := kk.size
    clear hb1 hk1 kk hR q1 q2
    generalize w1.setCell ⟨w.heap.size + 1, 1, none⟩ (.bool s1.isNone) = w3 at *
    refine (refRNumber w3 _ _ s1 hR2 (fun j hj => by omega)).mono ?_
    rintro e w4 ⟨rfl, hR4, hK4⟩
    have hb4 := hb3.chg hK4 (fun e => by unfold Eqg at e; omega)
    have hk4 := hk3.trans hK4 (fun j hj => .inr (by unfold Eqg at hj; omega))
    have hw4 := hK4.size
    have hl0 : ((⟨vN (s1), ⟨#[]⟩, ⟨#[]⟩, 0⟩ : Pk)).cells.length = 4 := rfl
    have hz4 := HZ.out w4
    obtain ⟨K5, hN5, hth5⟩ := storedU w4 40 z ((⟨vN (s1), ⟨#[]⟩, ⟨#[]⟩, 0⟩ : Pk)).cells (hzl.trans hl0.symm)
    rw [hl0] at hth5
    have hbu := built_Pk (vN (s1))
    have hone : ∀ v ∈ ((⟨vN (s1), ⟨#[]⟩, ⟨#[]⟩, 0⟩ : Pk)).cells, v.oneCell' = true := Pk.one _
    have hLs1 : ((⟨vN (s1), ⟨#[]⟩, ⟨#[]⟩, 0⟩ : Pk)).cells.toArray.size = 4 := by rw [List.size_toArray]; exact hl0
    have S : Rfs w (w.heap.size + 1) (fun j => j < w.heap.size) w4.heap.size 40 ((⟨vN (s1), ⟨#[]⟩, ⟨#[]⟩, 0⟩ : Pk)).cells w.heap.size z (nW (s1)) _ := ⟨hR4.chg K5 (fun f => f) (fun _ _ f => f), hN5, hb4.chg K5 (fun f => f), (hk4.mono (S' := fun j => j = w.heap.size + 1 ∨ j = w4.heap.size ∨ j = w.heap.size) (fun _ f => f.elim)).trans K5 (fun j hj => hj.elim), by omega, by omega, by omega, by omega, by omega, fun j hj => by have := K5.size; omega⟩
    clear hb3 hk3 hR2 hb4 hk4 hR4 hK4 K5 hN5 hl0
    generalize hcs : ((⟨vN (s1), ⟨#[]⟩, ⟨#[]⟩, 0⟩ : Pk)).cells = L0 at *
    generalize hw5 : (w4.alloc (.cells z.toArray 40)).setCells w4.heap.size 0 L0 = w5 at *
    have HCS := Lib.hid hcs
    have HW5 := Lib.hid hw5
    clear hcs hw5
    go_wp2_with (first | (with_reducible refine wpList_build_row rfl 40 _ rfl (v := Value.int .i64 (vN (s1))) rfl hbu ?_) | (with_reducible refine wpList_alloc_row rfl _ rfl z hz4 ?_) | (with_reducible refine wpList_store_mid rfl 40 _ _ rfl w4.heap.size 0 L0.toArray rfl rfl (by rw [hLs1]; exact hth5) (by rw [hLs1, hrow]) (one_mem hone) ?_; rw [List.toList_toArray, HW5.out]))
    have S := S.eq HCS.out.symm
    have htb : w.heap.size + 1 < w4.heap.size := by omega
    clear hbu hz4 hth5 hone hLs1 HCS HW5 hw4 hw3 hw1
    generalize w4.heap.size = tb at *
    refine (refRText _ _ _ _ S.rdr S.fsw).mono ?_
    rintro e w6 ⟨rfl, hR, hK⟩
    have S := (S.read hR hK).eq (L' := [Value.int .i64 (vN (s1))] ++ (Value.string ⟨#[]⟩ :: [Value.string ⟨#[]⟩, Value.int .i64 0])) rfl
    obtain ⟨cc, ff⟩ := S.cell (o := 1) rfl
    have S := (S.set (o := 1) rfl (Value.string (⟨(vT (nW (s1))).toArray⟩))).eq (L' := ((⟨vN (s1), ⟨(vT (nW (s1))).toArray⟩, ⟨#[]⟩, 0⟩ : Pk)).cells) rfl
    go_wp2_with fail
    clear cc ff hR hK
    refine (refRText _ _ _ _ S.rdr S.fsw).mono ?_
    rintro e w7 ⟨rfl, hR, hK⟩
    have S := (S.read hR hK).eq (L' := [Value.int .i64 (vN (s1)), Value.string (⟨(vT (nW (s1))).toArray⟩)] ++ (Value.string ⟨#[]⟩ :: [Value.int .i64 0])) rfl
    obtain ⟨cc, ff⟩ := S.cell (o := 2) rfl
    have S := (S.set (o := 2) rfl (Value.string (⟨(vT (nT (nW (s1)))).toArray⟩))).eq (L' := ((⟨vN (s1), ⟨(vT (nW (s1))).toArray⟩, ⟨(vT (nT (nW (s1)))).toArray⟩, 0⟩ : Pk)).cells) rfl
    go_wp2_with fail
    clear cc ff hR hK
    refine (refRNumber _ _ _ _ S.rdr S.fsw).mono ?_
    rintro e w8 ⟨rfl, hR, hK⟩
    have S := (S.read hR hK).eq (L' := [Value.int .i64 (vN (s1)), Value.string (⟨(vT (nW (s1))).toArray⟩), Value.string (⟨(vT (nT (nW (s1)))).toArray⟩)] ++ (Value.int .i64 0 :: [])) rfl
    obtain ⟨cc, ff⟩ := S.cell (o := 3) rfl
    have S := (S.set (o := 3) rfl (Value.int .i64 (vN (nT (nT (nW (s1))))))).eq (L' := ((⟨vN (s1), ⟨(vT (nW (s1))).toArray⟩, ⟨(vT (nT (nW (s1)))).toArray⟩, vN (nT (nT (nW (s1))))⟩ : Pk)).cells) rfl
    have S := S.eq HL.out.symm
    have hLs : L.toArray.size = 4 := by rw [List.size_toArray]; exact hLl
    have hLi : (Try.prog.info? 40).map (·.size) = some L.length := by rw [hLl]; exact hrow
    have hzs : z.toArray.size = 4 := by rw [List.size_toArray]; exact hzl
    have hN4 := S.row
    have r4 := S.row.range0
    have hb4 := S.res
    have hR4 := S.rdr
    have hk4 := (Chg.refl Non w).trans S.chg (fun j hj => .inr (by omega))
    have e9 := H9.out
    clear S hR hK
    rw [← e9] at hR4
    clear e9
    have hne : tb ≠ w.heap.size := by omega
    go_wp2_with (with_reducible refine wpList_load_mid rfl 40 _ rfl tb 0 rfl L _ r4 Try.underlying40 rfl hLi ?_)
    clear r4 cc ff
    refine (HX.out _).mono ?_
    rintro e w5 ⟨k5, v, rfl⟩
    have hb5 := hb4.chg k5 (fun f => f)
    have hN5 := hN4.chg k5 (fun f => f)
    have hk5 := hk4.trans k5 (fun _ f => f.elim)
    have hR5 := hR4.chg k5 (fun f => f) (fun _ _ f => f)
    clear hb4 hN4 hk4 hR4 k5 HX
    have HE := ends_any w5 _ _ s9 ok hR5
    have ht5 := hb5.there0
    rw [hzl] at ht5
    have r5 := hN5.range0
    clear hR5
    by_cases hok : s9 = some [] ∧ ok = true
    · rw [if_pos hok] at HE
      obtain rfl : rr = some L := HRR.out.symm.trans (if_pos hok)
      clear hok HRR
      have b9 := hb5.sets0 (L' := L) (hzl.trans hLl.symm)
      go_wp2_with fail
      refine HE.mono ?_
      rintro e w6 ⟨rfl, rfl⟩
      clear HE
      go_wp2_with (first | (with_reducible refine wpList_load_mid rfl 40 _ rfl tb 0 rfl L _ r5 Try.underlying40 rfl hLi ?_) | (with_reducible refine wpList_store_mid rfl 40 _ _ rfl w.heap.size 0 L.toArray rfl rfl (by rw [hLs]; exact ht5) (by rw [hLs, hrow]) (one_mem hLone) ?_))
      refine bodyPost_ret ((results_cell_tmp rfl _ _ _).trans ?_) rfl (R := Dec w z (some L)) (v := .tuple #[.agg L.toArray, .int .i64 0]) ?_
      · simp only [asAddr, Sem.run_pure, Result.andThen_ok]
        have hl := load_row b9 Try.underlying40 rfl hLi
        simp [hl]
      · exact ⟨hk5.trans (Chg.setCells (S := fun j => j = w.heap.size) rfl L _ 0 (Chg.refl _ _)) (fun j hj => .inr (by omega)), rfl⟩
    · rw [if_neg hok] at HE
      obtain rfl : rr = none := HRR.out.symm.trans (if_neg hok)
      clear hok HRR
      have b9 := hb5.sets0 (L' := z) rfl
      have hzi : (Try.prog.info? 40).map (·.size) = some z.length := by rw [hzl]; exact hrow
      go_wp2_with fail
      refine HE.mono ?_
      rintro e w6 ⟨rfl, rfl⟩
      clear HE
      go_wp2_with (first | (with_reducible refine wpList_build_zero rfl 40 rfl hzz ?_) | (with_reducible refine wpList_store_mid rfl 40 _ _ rfl w.heap.size 0 z.toArray rfl rfl (by rw [hzs]; exact ht5) (by rw [hzs, hrow]) (one_mem hzone) ?_))
      refine bodyPost_ret ((results_cell_tmp rfl _ _ _).trans ?_) rfl (R := Dec w z none) (v := .tuple #[.agg z.toArray, .int .i64 61]) ?_
      · simp only [asAddr, Sem.run_pure, Result.andThen_ok]
        have hl := load_row b9 Try.underlying40 rfl hzi
        simp [hl]
      · exact ⟨hk5.trans (Chg.setCells (S := fun j => j = w.heap.size) rfl z _ 0 (Chg.refl _ _)) (fun j hj => .inr (by omega)), rfl⟩
  · rw [if_neg hk] at hs0
    subst hs0
    go_enter Try.func10, Try.ntmps10
    go_wp2_with (with_reducible refine wpList_alloc_row rfl _ rfl z hz0 ?_)
    generalize (w.alloc (.cells z.toArray 40)).alloc (.cells #[.slice A n c, .bool false] 56) = w2 at *
    refine HVV.out.mono ?_
    rintro e w1 ⟨rfl, hR, hK⟩
    have hb1 := hb2.chg hK (fun e => by unfold Eqg at e; omega)
    have hk1 := hk2.trans hK (fun j hj => .inr (by unfold Eqg at hj; omega))
    obtain ⟨A9, m9, c9, hblk⟩ := hR.blk
    have q1 : w1.cell? ⟨w.heap.size + 1, 1, none⟩ = some (.bool s0.isNone) := hblk.cell 1
    have q2 : w1.frozen? ⟨w.heap.size + 1, 1, none⟩ = false := hblk.frozen 1
    have hw1 := hK.size
    rw [hs2] at hw1
    clear HVV hz0 hK hblk hb2 hk2
    go_wp2_with fail
    have hR2 := hR.brk
    have kk := (Chg.refl (Eqg (w.heap.size + 1)) w1).setCell (p := ⟨w.heap.size + 1, 1, none⟩) (.inl rfl) (.bool true)
    have hb3 := hb1.chg kk (fun e => by unfold Eqg at e; omega)
    have hk3 := hk1.trans kk (fun j hj => .inr (by unfold Eqg at hj; omega))
    have hw3 := kk.size
    clear hb1 hk1 kk hR q1 q2
    generalize w1.setCell ⟨w.heap.size + 1, 1, none⟩ (.bool true) = w3 at *
    refine (refRNumber w3 _ _ none hR2 (fun j hj => by omega)).mono ?_
    rintro e w4 ⟨rfl, hR4, hK4⟩
    have hb4 := hb3.chg hK4 (fun e => by unfold Eqg at e; omega)
    have hk4 := hk3.trans hK4 (fun j hj => .inr (by unfold Eqg at hj; omega))
    have hw4 := hK4.size
    have hl0 : ((⟨vN (none), ⟨#[]⟩, ⟨#[]⟩, 0⟩ : Pk)).cells.length = 4 := rfl
    have hz4 := HZ.out w4
    obtain ⟨K5, hN5, hth5⟩ := storedU w4 40 z ((⟨vN (none), ⟨#[]⟩, ⟨#[]⟩, 0⟩ : Pk)).cells (hzl.trans hl0.symm)
    rw [hl0] at hth5
    have hbu := built_Pk (vN (none))
    have hone : ∀ v ∈ ((⟨vN (none), ⟨#[]⟩, ⟨#[]⟩, 0⟩ : Pk)).cells, v.oneCell' = true := Pk.one _
    have hLs0 : ((⟨vN (none), ⟨#[]⟩, ⟨#[]⟩, 0⟩ : Pk)).cells.toArray.size = 4 := by rw [List.size_toArray]; exact hl0
    have S : Rfs w (w.heap.size + 1) (fun j => j < w.heap.size) w4.heap.size 40 ((⟨vN (none), ⟨#[]⟩, ⟨#[]⟩, 0⟩ : Pk)).cells w.heap.size z (nW (none)) _ := ⟨hR4.chg K5 (fun f => f) (fun _ _ f => f), hN5, hb4.chg K5 (fun f => f), (hk4.mono (S' := fun j => j = w.heap.size + 1 ∨ j = w4.heap.size ∨ j = w.heap.size) (fun _ f => f.elim)).trans K5 (fun j hj => hj.elim), by omega, by omega, by omega, by omega, by omega, fun j hj => by have := K5.size; omega⟩
    clear hb3 hk3 hR2 hb4 hk4 hR4 hK4 K5 hN5 hl0
    generalize hcs : ((⟨vN (none), ⟨#[]⟩, ⟨#[]⟩, 0⟩ : Pk)).cells = L0 at *
    generalize hw5 : (w4.alloc (.cells z.toArray 40)).setCells w4.heap.size 0 L0 = w5 at *
    have HCS := Lib.hid hcs
    have HW5 := Lib.hid hw5
    clear hcs hw5
    go_wp2_with (first | (with_reducible refine wpList_build_row rfl 40 _ rfl (v := Value.int .i64 (vN (none))) rfl hbu ?_) | (with_reducible refine wpList_alloc_row rfl _ rfl z hz4 ?_) | (with_reducible refine wpList_store_mid rfl 40 _ _ rfl w4.heap.size 0 L0.toArray rfl rfl (by rw [hLs0]; exact hth5) (by rw [hLs0, hrow]) (one_mem hone) ?_; rw [List.toList_toArray, HW5.out]))
    have S := S.eq HCS.out.symm
    have htb : w.heap.size + 1 < w4.heap.size := by omega
    clear hbu hz4 hth5 hone hLs0 HCS HW5 hw4 hw3 hw1
    generalize w4.heap.size = tb at *
    refine (refRText _ _ _ _ S.rdr S.fsw).mono ?_
    rintro e w6 ⟨rfl, hR, hK⟩
    have S := (S.read hR hK).eq (L' := [Value.int .i64 (vN (none))] ++ (Value.string ⟨#[]⟩ :: [Value.string ⟨#[]⟩, Value.int .i64 0])) rfl
    obtain ⟨cc, ff⟩ := S.cell (o := 1) rfl
    have S := (S.set (o := 1) rfl (Value.string (⟨(vT (nW (none))).toArray⟩))).eq (L' := ((⟨vN (none), ⟨(vT (nW (none))).toArray⟩, ⟨#[]⟩, 0⟩ : Pk)).cells) rfl
    go_wp2_with fail
    clear cc ff hR hK
    refine (refRText _ _ _ _ S.rdr S.fsw).mono ?_
    rintro e w7 ⟨rfl, hR, hK⟩
    have S := (S.read hR hK).eq (L' := [Value.int .i64 (vN (none)), Value.string (⟨(vT (nW (none))).toArray⟩)] ++ (Value.string ⟨#[]⟩ :: [Value.int .i64 0])) rfl
    obtain ⟨cc, ff⟩ := S.cell (o := 2) rfl
    have S := (S.set (o := 2) rfl (Value.string (⟨(vT (nT (nW (none)))).toArray⟩))).eq (L' := ((⟨vN (none), ⟨(vT (nW (none))).toArray⟩, ⟨(vT (nT (nW (none)))).toArray⟩, 0⟩ : Pk)).cells) rfl
    go_wp2_with fail
    clear cc ff hR hK
    refine (refRNumber _ _ _ _ S.rdr S.fsw).mono ?_
    rintro e w8 ⟨rfl, hR, hK⟩
    have S := (S.read hR hK).eq (L' := [Value.int .i64 (vN (none)), Value.string (⟨(vT (nW (none))).toArray⟩), Value.string (⟨(vT (nT (nW (none)))).toArray⟩)] ++ (Value.int .i64 0 :: [])) rfl
    obtain ⟨cc, ff⟩ := S.cell (o := 3) rfl
    have S := (S.set (o := 3) rfl (Value.int .i64 (vN (nT (nT (nW (none))))))).eq (L' := ((⟨vN (none), ⟨(vT (nW (none))).toArray⟩, ⟨(vT (nT (nW (none)))).toArray⟩, vN (nT (nT (nW (none))))⟩ : Pk)).cells) rfl
    have S := S.eq HL.out.symm
    have hLs : L.toArray.size = 4 := by rw [List.size_toArray]; exact hLl
    have hLi : (Try.prog.info? 40).map (·.size) = some L.length := by rw [hLl]; exact hrow
    have hzs : z.toArray.size = 4 := by rw [List.size_toArray]; exact hzl
    have hN4 := S.row
    have r4 := S.row.range0
    have hb4 := S.res
    have hR4 := S.rdr
    have hk4 := (Chg.refl Non w).trans S.chg (fun j hj => .inr (by omega))
    have e9 := H9.out
    clear S hR hK
    rw [← e9] at hR4
    clear e9
    have hne : tb ≠ w.heap.size := by omega
    go_wp2_with (with_reducible refine wpList_load_mid rfl 40 _ rfl tb 0 rfl L _ r4 Try.underlying40 rfl hLi ?_)
    clear r4 cc ff
    refine (HX.out _).mono ?_
    rintro e w5 ⟨k5, v, rfl⟩
    have hb5 := hb4.chg k5 (fun f => f)
    have hN5 := hN4.chg k5 (fun f => f)
    have hk5 := hk4.trans k5 (fun _ f => f.elim)
    have hR5 := hR4.chg k5 (fun f => f) (fun _ _ f => f)
    clear hb4 hN4 hk4 hR4 k5 HX
    have HE := ends_any w5 _ _ s9 ok hR5
    have ht5 := hb5.there0
    rw [hzl] at ht5
    have r5 := hN5.range0
    clear hR5
    by_cases hok : s9 = some [] ∧ ok = true
    · rw [if_pos hok] at HE
      obtain rfl : rr = some L := HRR.out.symm.trans (if_pos hok)
      clear hok HRR
      have b9 := hb5.sets0 (L' := L) (hzl.trans hLl.symm)
      go_wp2_with fail
      refine HE.mono ?_
      rintro e w6 ⟨rfl, rfl⟩
      clear HE
      go_wp2_with (first | (with_reducible refine wpList_load_mid rfl 40 _ rfl tb 0 rfl L _ r5 Try.underlying40 rfl hLi ?_) | (with_reducible refine wpList_store_mid rfl 40 _ _ rfl w.heap.size 0 L.toArray rfl rfl (by rw [hLs]; exact ht5) (by rw [hLs, hrow]) (one_mem hLone) ?_))
      refine bodyPost_ret ((results_cell_tmp rfl _ _ _).trans ?_) rfl (R := Dec w z (some L)) (v := .tuple #[.agg L.toArray, .int .i64 0]) ?_
      · simp only [asAddr, Sem.run_pure, Result.andThen_ok]
        have hl := load_row b9 Try.underlying40 rfl hLi
        simp [hl]
      · exact ⟨hk5.trans (Chg.setCells (S := fun j => j = w.heap.size) rfl L _ 0 (Chg.refl _ _)) (fun j hj => .inr (by omega)), rfl⟩
    · rw [if_neg hok] at HE
      obtain rfl : rr = none := HRR.out.symm.trans (if_neg hok)
      clear hok HRR
      have b9 := hb5.sets0 (L' := z) rfl
      have hzi : (Try.prog.info? 40).map (·.size) = some z.length := by rw [hzl]; exact hrow
      go_wp2_with fail
      refine HE.mono ?_
      rintro e w6 ⟨rfl, rfl⟩
      clear HE
      go_wp2_with (first | (with_reducible refine wpList_build_zero rfl 40 rfl hzz ?_) | (with_reducible refine wpList_store_mid rfl 40 _ _ rfl w.heap.size 0 z.toArray rfl rfl (by rw [hzs]; exact ht5) (by rw [hzs, hrow]) (one_mem hzone) ?_))
      refine bodyPost_ret ((results_cell_tmp rfl _ _ _).trans ?_) rfl (R := Dec w z none) (v := .tuple #[.agg z.toArray, .int .i64 61]) ?_
      · simp only [asAddr, Sem.run_pure, Result.andThen_ok]
        have hl := load_row b9 Try.underlying40 rfl hzi
        simp [hl]
      · exact ⟨hk5.trans (Chg.setCells (S := fun j => j = w.heap.size) rfl z _ 0 (Chg.refl _ _)) (fun j hj => .inr (by omega)), rfl⟩
end Go.Proofs.Ytgonbmcfeehfaaa

/- What the document's reader reads of proofs, right or not: plain mathematics. -/
namespace Go.Proofs.Ytgonbmcfeehfaaa
open Go.RowKit
set_option linter.unusedVariables false
set_option linter.unusedSimpArgs false
set_option maxRecDepth 20000

theorem fNum_none (st : St) (h : st.bind fNumber = none) : vN st = 0 ∧ nW st = none := by
  refine ⟨by unfold vN; rw [h]; rfl, ?_⟩
  unfold nW
  cases st with
  | none => rfl
  | some l =>
    simp only [Option.bind_some] at h ⊢
    unfold fNumber at h
    cases hw : fWord l with
    | none => rfl
    | some x => rw [hw] at h; simp at h
theorem count_in {most : Int} {st : St} (hm : 0 ≤ most) (h : inR 0 most (vN st) = true) : vC most st = vN st ∧ nC most st = nW st := by
  have h' := inR_iff.1 h
  unfold vC nC vN nW at *
  cases st with
  | none => exact ⟨rfl, rfl⟩
  | some l =>
    simp only [Option.bind_some] at *
    unfold fCount fNumber at *
    cases hw : fWord l with
    | none => exact ⟨rfl, rfl⟩
    | some x =>
      rw [hw] at h'
      simp only [Option.map_some, Option.bind_some, Option.getD_some] at h' ⊢
      rw [if_pos h']
      exact ⟨rfl, rfl⟩
theorem count_out {most : Int} {st : St} (hm : 0 ≤ most) (h : ¬ inR 0 most (vN st) = true) : vC most st = 0 ∧ nC most st = none := by
  have h' : ¬ (0 ≤ vN st ∧ vN st ≤ most) := fun e => h (inR_iff.2 e)
  unfold vC nC vN at *
  cases st with
  | none => exact ⟨rfl, rfl⟩
  | some l =>
    simp only [Option.bind_some] at *
    unfold fCount fNumber at *
    cases hw : fWord l with
    | none => exact ⟨rfl, rfl⟩
    | some x =>
      rw [hw] at h'
      simp only [Option.map_some, Option.bind_some, Option.getD_some] at h' ⊢
      rw [if_neg h']
      exact ⟨rfl, rfl⟩
theorem vC_range (most : Int) (st : St) (hm : 0 ≤ most) : 0 ≤ vC most st ∧ vC most st ≤ most := by
  by_cases h : inR 0 most (vN st) = true
  · rw [(count_in hm h).1]; exact inR_iff.1 h
  · rw [(count_out hm h).1]; omega
theorem nC_none (most : Int) : nC most none = none := rfl
/-- So many hashes. -/
def rHs (st : St) : Nat → List (List UInt8) × St
  | 0 => ([], st)
  | k + 1 => ((rHs st k).1 ++ [vH (rHs st k).2], nH (rHs st k).2)
theorem rHs_len (st : St) : ∀ k, (rHs st k).1.length = k
  | 0 => rfl
  | k + 1 => by unfold rHs; rw [List.length_append, rHs_len st k]; rfl
theorem rHs_none : ∀ k, (rHs none k).2 = none
  | 0 => rfl
  | k + 1 => by unfold rHs; simp only; rw [rHs_none k]; rfl
theorem rHs_32 (st : St) : ∀ k, ∀ x ∈ (rHs st k).1, x.length = 32
  | 0, x, h => by simp [rHs] at h
  | k + 1, x, h => by
    unfold rHs at h
    rcases List.mem_append.1 h with h | h
    · exact rHs_32 st k x h
    · rw [List.mem_singleton.1 h]; exact vH_length _
theorem rHs_is (st : St) : ∀ k, dK dHs st k = some (rHs st k)
  | 0 => rfl
  | k + 1 => by
    unfold dK
    rw [rHs_is st k]
    rfl
/-- A part. -/
def rPa (st : St) : Pa × St :=
  (⟨vN st, ⟨(vT (nW st)).toArray⟩, ⟨(vT (nT (nW st))).toArray⟩, (rHs (nC 16 (nT (nT (nW st)))) (vC 16 (nT (nT (nW st)))).toNat).1⟩, (rHs (nC 16 (nT (nT (nW st)))) (vC 16 (nT (nT (nW st)))).toNat).2)
theorem rPa_path (st : St) : (rPa st).1.path.length ≤ 16 := by
  show (rHs _ _).1.length ≤ 16
  rw [rHs_len]
  have := vC_range 16 (nT (nT (nW st))) (by omega)
  omega
theorem rPa_ok (st : St) : (rPa st).1.Ok := ⟨vN_64 _, vT_max _, vT_max _, rHs_32 _ _⟩
theorem rPa_right (st : St) : (rPa st).1.right = inR 0 4096 (vN st) := by
  unfold Pa.right
  have h1 : inR 0 16 ((rPa st).1.path.length : Int) = true := inR_iff.2 ⟨by omega, by have := rPa_path st; omega⟩
  have h2 : decide ((rPa st).1.key.size ≤ 4096) = true := decide_eq_true (vT_size _)
  have h3 : decide ((rPa st).1.value.size ≤ 4096) = true := decide_eq_true (vT_size _)
  rw [h1, h2, h3]
  simp [rPa]
theorem rPa_none : (rPa none).2 = none := rHs_none _
theorem dPa_is (st : St) : (dPa st = some (rPa st) ∧ (rPa st).1.right = true) ∨ (dPa st = none ∧ ((rPa st).2 = none ∨ (rPa st).1.right = false)) := by
  rw [rPa_right]
  unfold dPa
  by_cases h1 : inR 0 4096 (vN st) = true
  · have e1 : dNum 0 4096 st = some (vN st, nW st) := by unfold dNum; rw [if_pos h1]
    have e2 : dText 4096 (nW st) = some (⟨(vT (nW st)).toArray⟩, nT (nW st)) := by unfold dText; rw [if_pos (vT_le _)]
    have e3 : dText 4096 (nT (nW st)) = some (⟨(vT (nT (nW st))).toArray⟩, nT (nT (nW st))) := by unfold dText; rw [if_pos (vT_le _)]
    rw [e1, Option.bind_some]
    simp only
    rw [e2, Option.bind_some]
    simp only
    rw [e3, Option.bind_some]
    simp only
    unfold dList
    by_cases h2 : inR 0 16 (vN (nT (nT (nW st)))) = true
    · left
      obtain ⟨c1, c2⟩ := count_in (most := 16) (by omega) h2
      have e4 : dNum 0 16 (nT (nT (nW st))) = some (vN (nT (nT (nW st))), nW (nT (nT (nW st)))) := by unfold dNum; rw [if_pos h2]
      rw [e4, Option.bind_some]
      simp only
      rw [rHs_is, Option.bind_some]
      refine ⟨?_, h1⟩
      unfold rPa
      rw [c1, c2]
    · right
      obtain ⟨c1, c2⟩ := count_out (most := 16) (by omega) h2
      have e4 : dNum 0 16 (nT (nT (nW st))) = none := by unfold dNum; rw [if_neg h2]
      rw [e4]
      refine ⟨rfl, .inl ?_⟩
      unfold rPa
      rw [c2]
      exact rHs_none _
  · right
    have e1 : dNum 0 4096 st = none := by unfold dNum; rw [if_neg h1]
    rw [e1]
    exact ⟨rfl, .inr (by simpa using h1)⟩
/-- So many parts. -/
def rPs (st : St) : Nat → List Pa × St
  | 0 => ([], st)
  | k + 1 => ((rPs st k).1 ++ [(rPa (rPs st k).2).1], (rPa (rPs st k).2).2)
theorem rPs_len (st : St) : ∀ k, (rPs st k).1.length = k
  | 0 => rfl
  | k + 1 => by unfold rPs; rw [List.length_append, rPs_len st k]; rfl
theorem rPs_ok (st : St) : ∀ k, ∀ x ∈ (rPs st k).1, x.Ok ∧ x.path.length ≤ 16
  | 0, x, h => by simp [rPs] at h
  | k + 1, x, h => by
    unfold rPs at h
    rcases List.mem_append.1 h with h | h
    · exact rPs_ok st k x h
    · rw [List.mem_singleton.1 h]; exact ⟨rPa_ok _, rPa_path _⟩
theorem rPs_none : ∀ k, (rPs none k).2 = none
  | 0 => rfl
  | k + 1 => by unfold rPs; simp only; rw [rPs_none k]; exact rPa_none
theorem rPs_is (st : St) : ∀ k, (dK dPa st k = some (rPs st k) ∧ (rPs st k).1.all Pa.right = true) ∨ (dK dPa st k = none ∧ ((rPs st k).2 = none ∨ (rPs st k).1.all Pa.right = false))
  | 0 => .inl ⟨rfl, rfl⟩
  | k + 1 => by
    unfold dK rPs
    simp only [List.all_append, List.all_cons, List.all_nil, Bool.and_true]
    rcases rPs_is st k with ⟨h1, h2⟩ | ⟨h1, h2⟩
    · rw [h1, Option.bind_some, h2]
      rcases dPa_is (rPs st k).2 with ⟨h3, h4⟩ | ⟨h3, h4⟩
      · rw [h3]; exact .inl ⟨rfl, by simpa using h4⟩
      · rw [h3]; exact .inr ⟨rfl, by simpa using h4⟩
    · rw [h1]
      refine .inr ⟨rfl, ?_⟩
      rcases h2 with h2 | h2
      · rw [h2]; exact .inl rPa_none
      · rw [h2]; exact .inr rfl
/-- A proof. -/
def rProof (st : St) : Pf × St :=
  (⟨vN (rBeg 7 st), (rPs (nC 2 (nW (rBeg 7 st))) (vC 2 (nW (rBeg 7 st))).toNat).1⟩, (rPs (nC 2 (nW (rBeg 7 st))) (vC 2 (nW (rBeg 7 st))).toNat).2)
theorem rProof_is (st : St) : whole (dProof st) = if (rProof st).2 = some [] ∧ (rProof st).1.right = true then some (rProof st).1 else none := by
  have dead : (rProof st).2 = none → (none : Option Pf) = if (rProof st).2 = some [] ∧ (rProof st).1.right = true then some (rProof st).1 else none := fun h => by rw [h]; simp
  have bad : (rProof st).1.right = false → (none : Option Pf) = if (rProof st).2 = some [] ∧ (rProof st).1.right = true then some (rProof st).1 else none := fun h => by rw [h]; simp
  unfold dProof dBegin
  by_cases h0 : vN st = 7
  · have eb : rBeg 7 st = nW st := by unfold rBeg; rw [if_pos h0]
    rw [if_pos h0, Option.bind_some]
    by_cases h1 : inR 0 4096 (vN (nW st)) = true
    · have e1 : dNum 0 4096 (nW st) = some (vN (nW st), nW (nW st)) := by unfold dNum; rw [if_pos h1]
      rw [e1, Option.bind_some]
      simp only
      unfold dList
      by_cases h2 : inR 0 2 (vN (nW (nW st))) = true
      · obtain ⟨c1, c2⟩ := count_in (most := 2) (by omega) h2
        have e2 : dNum 0 2 (nW (nW st)) = some (vN (nW (nW st)), nW (nW (nW st))) := by unfold dNum; rw [if_pos h2]
        rw [e2, Option.bind_some]
        simp only
        have er : rProof st = (⟨vN (nW st), (rPs (nW (nW (nW st))) (vN (nW (nW st))).toNat).1⟩, (rPs (nW (nW (nW st))) (vN (nW (nW st))).toNat).2) := by unfold rProof; rw [eb, c1, c2]
        have hright : (rProof st).1.right = (rPs (nW (nW (nW st))) (vN (nW (nW st))).toNat).1.all Pa.right := by
          rw [er]
          unfold Pf.right
          simp only
          have hl := rPs_len (nW (nW (nW st))) (vN (nW (nW st))).toNat
          have hv := inR_iff.1 h2
          rw [hl, h1, inR_iff.2 (show (0 : Int) ≤ ((vN (nW (nW st))).toNat : Int) ∧ ((vN (nW (nW st))).toNat : Int) ≤ 2 by omega)]
          rfl
        rcases rPs_is (nW (nW (nW st))) (vN (nW (nW st))).toNat with ⟨h3, h4⟩ | ⟨h3, h4⟩
        · rw [h3, Option.bind_some, hright, h4, er]
          simp only [and_true]
          match (rPs (nW (nW (nW st))) (vN (nW (nW st))).toNat).2 with
          | none => rfl
          | some [] => rfl
          | some (_ :: _) => simp [whole]
        · rw [h3]
          rcases h4 with h4 | h4
          · exact dead (by rw [er]; exact h4)
          · exact bad (by rw [hright]; exact h4)
      · obtain ⟨c1, c2⟩ := count_out (most := 2) (by omega) h2
        have e2 : dNum 0 2 (nW (nW st)) = none := by unfold dNum; rw [if_neg h2]
        rw [e2]
        exact dead (by unfold rProof; rw [eb, c2]; exact rPs_none _)
    · have e1 : dNum 0 4096 (nW st) = none := by unfold dNum; rw [if_neg h1]
      rw [e1]
      refine bad ?_
      unfold rProof Pf.right
      rw [eb]
      have h1' : inR 0 4096 (vN (nW st)) = false := by simpa using h1
      simp only
      rw [h1']
      rfl
  · rw [if_neg h0]
    refine dead ?_
    unfold rProof rBeg
    rw [if_neg h0]
    exact rPs_none _
end Go.Proofs.Ytgonbmcfeehfaaa

/- Lists of the call's own, of elements of any one type: append of one element. -/
namespace Go.Proofs.Ytgonbmcfeehfaaa
open Go.RowKit
set_option linter.unusedVariables false
set_option linter.unusedSimpArgs false
set_option maxRecDepth 20000

theorem fill_list : ∀ (l : List Value) (k : Nat) (a : List Value), k + l.length ≤ a.length → (l.zipIdx k).foldl (fun (cs : Array Value) (p : Value × Nat) => cs.setIfInBounds (0 + p.2) p.1) a.toArray = (a.take k ++ (l ++ a.drop (k + l.length))).toArray
  | [], k, a, h => by simp
  | x :: l, k, a, h => by
    rw [List.zipIdx_cons, List.foldl_cons]
    rw [List.length_cons] at h
    have e : a.toArray.setIfInBounds (0 + k) x = (a.set k x).toArray := by simp
    simp only
    rw [e, fill_list l (k + 1) (a.set k x) (by rw [List.length_set]; omega)]
    congr 1
    have hk : k < a.length := by omega
    rw [List.take_set, List.drop_set_of_lt (by omega), List.length_cons]
    have h1 : (a.take (k + 1)).set k x = a.take k ++ [x] := by
      rw [List.take_add_one, List.getElem?_eq_getElem hk]
      simp only [Option.toList_some]
      rw [List.set_append_right _ _ (by simp; omega)]
      simp [Nat.min_eq_left (Nat.le_of_lt hk)]
    rw [h1, List.append_assoc, List.cons_append, List.nil_append, show k + 1 + l.length = k + (l.length + 1) by omega]
    simp
theorem fill_whole (cs : List Value) (a : Array Value) (h : a.size = cs.length) : (cs.toArray.zipIdx.foldl (fun (b : Array Value) (p : Value × Nat) => b.setIfInBounds (0 + p.2) p.1) a) = cs.toArray := by
  have h1 := fill_list cs 0 a.toList (by simp [h])
  simp only [Array.toArray_toList, List.take_zero, List.nil_append, Nat.zero_add] at h1
  rw [List.drop_of_length_le (by simp [h]), List.append_nil] at h1
  have e : (cs.toArray.zipIdx.foldl (fun (b : Array Value) (p : Value × Nat) => b.setIfInBounds (0 + p.2) p.1) a) = cs.zipIdx.foldl (fun (b : Array Value) (p : Value × Nat) => b.setIfInBounds (0 + p.2) p.1) a := by simp
  rw [e]
  simpa using h1
theorem flat_getU {α : Type} {cells : α → List Value} {sz : Nat} : ∀ (l : List α) (hc : ∀ x ∈ l, (cells x).length = sz) (i : Nat) (x : α), l[i]? = some x → ∀ (j : Nat) (u : Value), (cells x)[j]? = some u → (l.flatMap cells)[i * sz + j]? = some u
  | [], _, i, x, h, _, _, _ => by simp at h
  | y :: l, hc, 0, x, h, j, u, hu => by
    simp only [List.getElem?_cons_zero, Option.some.injEq] at h
    subst h
    rw [Nat.zero_mul, Nat.zero_add, List.flatMap_cons, List.getElem?_append_left (List.getElem?_eq_some_iff.1 hu).1]
    exact hu
  | y :: l, hc, i + 1, x, h, j, u, hu => by
    have hy := hc y (by simp)
    rw [List.flatMap_cons, List.getElem?_append_right (by rw [hy, Nat.succ_mul]; omega), hy]
    have e : (i + 1) * sz + j - sz = i * sz + j := by rw [Nat.succ_mul]; omega
    rw [e]
    exact flat_getU l (fun x hx => hc x (by simp [hx])) i x (by simpa using h) j u hu
theorem run_build1 (w : World) {t e : TypeId} {i : TypeInfo} {z : Value} {sz : Nat} (ht : Try.prog.underlying t = some (.slice e)) (hi : Try.prog.info? e = some i) (hz : i.zero = some z) (hs : i.size = sz) (hpos : 0 < sz) (hsz : sz ≤ 1000) (cs : List Value) (hcs : cs.length = sz) :
    (Instr.buildSlice t 1 #[(0, .agg cs.toArray)]).run Try.prog w = .ok (.slice (some ⟨w.heap.size, 0, none⟩) 1 1) (w.alloc (.cells cs.toArray e)) := by
  subst hs
  have hsz0 : ¬ (1 * i.size = 0) := by omega
  have hbig : ¬ (1 * i.size > 2 ^ 24) := by omega
  have hf : Instr.fill (fun j => some (j * i.size, i.size)) ((Array.range (1 * i.size)).map (z.cells[· % z.cells.size]!)) [(0, .agg cs.toArray)] = some cs.toArray := by
    unfold Instr.fill
    have h1 : (Value.agg cs.toArray).cells = cs.toArray := rfl
    rw [h1]
    simp only [List.size_toArray, Nat.zero_mul, Nat.zero_add, Array.size_map, Array.size_range, hcs]
    rw [if_neg (by simp)]
    unfold Instr.fill
    congr 1
    have := fill_whole cs ((Array.range (1 * i.size)).map (z.cells[· % z.cells.size]!)) (by simp [hcs])
    simpa using this
  unfold Instr.buildSlice
  simp only [Sem.run_bind, run_underlying ht, sizeOf, typeInfo, hi, Result.andThen_ok, Sem.run_pure, if_neg hbig, if_neg hsz0, zeroValue, hz]
  rw [Nat.one_mul] at hf
  simp [hi, hz, newRow]
  rw [if_neg (by omega), if_neg (by omega), hf]
  simp
/-- A list of the call's own. -/
def OwnL {α : Type} (e : TypeId) (sz : Nat) (cells : α → List Value) (w : World) (v : Value) (l : List α) : Prop := w.ownsRow 0 e sz v l.length (l.flatMap cells)
theorem flat_size {α : Type} {cells : α → List Value} {sz : Nat} : ∀ {l : List α}, (∀ x ∈ l, (cells x).length = sz) → (l.flatMap cells).length = l.length * sz
  | [], _ => by simp
  | x :: l, h => by rw [List.flatMap_cons, List.length_append, flat_size (fun y hy => h y (by simp [hy])), h x (by simp), List.length_cons, Nat.succ_mul]; omega
section
variable {α : Type} {e : TypeId} {sz : Nat} {cells : α → List Value} {w w' : World} {v : Value} {l : List α}
theorem OwnL.nil (w : World) : OwnL e sz cells w (.slice none 0 0) ([] : List α) := World.ownsRow_nil w 0 e sz
theorem OwnL.chg {S : Nat → Prop} (h : OwnL e sz cells w v l) (k : Chg S w w') (hS : ∀ j, vbl v j → ¬ S j) : OwnL e sz cells w' v l := by
  refine ⟨h.1, ?_⟩
  rcases h.2 with h0 | ⟨g, cap, cur, rfl, hb, hg, r⟩
  · exact .inl h0
  · exact .inr ⟨g, cap, cur, rfl, hb, (k.block g (Array.getElem?_eq_some_iff.1 hg).1 (hS g rfl)).trans hg, r⟩
theorem OwnL.lt (h : OwnL e sz cells w v l) : ∀ j, vbl v j → j < w.heap.size := by
  intro j hj
  rcases h.2 with ⟨rfl, _⟩ | ⟨g, cap, cur, rfl, hb, hg, r⟩
  · cases hj
  · have : some g = some j := hj
    injection this with this
    subst this
    exact (Array.getElem?_eq_some_iff.1 hg).1
theorem OwnL.ne {k : Nat} {t : TypeId} {cs : Array Value} (h : OwnL e sz cells w v l) (hb : Hb w k t cs) (hne : e ≠ t) : ¬ vbl v k := by
  intro hj
  rcases h.2 with ⟨rfl, _⟩ | ⟨g, cap, cur, rfl, _, hg, _⟩
  · cases hj
  · have : some g = some k := hj
    injection this with this
    subst this
    have h2 : some (Obj.cells cur e (0, 0)) = some (Obj.cells cs t (0, 0)) := hg.symm.trans hb
    injection h2 with h2
    injection h2 with _ h3
    exact hne h3
/-- Where it lies. -/
theorem OwnL.slice (h : OwnL e sz cells w v l) (hc : ∀ x ∈ l, (cells x).length = sz) (hpos : 0 < sz) : ∃ A c, v = .slice A l.length c ∧ l.length ≤ c ∧ (∀ j, abl A j → vbl v j) ∧
    ∀ (i : Nat) (x : α), l[i]? = some x → ∃ eb eo, A = some ⟨eb, eo, none⟩ ∧ eb < w.heap.size ∧ w.rangeAt eb (eo + i * sz) (cells x) := by
  rcases h.2 with ⟨rfl, h0⟩ | ⟨g, cap, cur, rfl, hb, hg, hn, hm, hs, ht⟩
  · have : l = [] := List.eq_nil_of_length_eq_zero h0
    subst this
    exact ⟨none, 0, rfl, Nat.le_refl _, (by rintro j ⟨_, h, _⟩; cases h), by intro i x hx; simp at hx⟩
  · refine ⟨some ⟨g, 0, none⟩, cap, rfl, hn, (by rintro j ⟨_, h, rfl⟩; injection h with h; subst h; rfl), fun i x hx => ⟨g, 0, rfl, (Array.getElem?_eq_some_iff.1 hg).1, fun j u hu => ?_⟩⟩
    have hg' : Hb w g e cur := hg
    have hil := (List.getElem?_eq_some_iff.1 hx).1
    have hxm : x ∈ l := List.mem_of_getElem? hx
    have hj : j < sz := by rw [← hc x hxm]; exact (List.getElem?_eq_some_iff.1 hu).1
    have := flat_getU l hc i x hx j u hu
    have hb1 : i * sz + j < l.length * sz := by
      have : (i + 1) * sz ≤ l.length * sz := Nat.mul_le_mul_right _ hil
      rw [Nat.succ_mul] at this
      omega
    rw [← ht, List.getElem?_take, if_pos hb1] at this
    rw [Nat.zero_add, hg'.cell]
    simpa using this
/-- append of one element. -/
theorem run_app1 (w : World) (ty t : TypeId) {i : TypeInfo} {z : Value} {by' : Nat} (ht : Try.prog.underlying t = some (.slice e)) (hi : Try.prog.info? e = some i) (hz : i.zero = some z) (hs : i.size = sz) (hby : i.bytes = by') (hzs : z.cells.size = sz) (hpos : 0 < sz) (hbb : by' ≤ 1000)
    (hown : OwnL e sz cells w v l) (x : α) (hx : (cells x).length = sz) (h1 : ∀ u ∈ cells x, u.oneCell' = true) {nb c : Nat} (hb : Hb w nb e (cells x).toArray) (hlen : l.length ≤ 1000) :
    ∃ v' w', (Builtin.append_ #[t, t] ty #[v, .slice (some ⟨nb, 0, none⟩) 1 c]).run Try.prog w = .ok v' w' ∧ OwnL e sz cells w' v' (l ++ [x]) ∧ w.grownBy w' v.ownBlock ∧ (v'.ownBlock = v.ownBlock ∨ v'.ownBlock = some w.heap.size) := by
  obtain ⟨v', w', g1, g2, g3, _, g5⟩ := run_append_own_at (P := Try.prog) w 0 t ty e i z sz by' ht hi hz hs hby hzs hpos v l.length (l.flatMap cells) hown ⟨nb, 0, none⟩ 1 c (cells x) (by rw [hx, Nat.one_mul]) (fun j u hu => by
    rw [Addr.add_mid, Nat.zero_add, hb.cell]
    simpa using hu) h1 (by unfold maxLen; omega) (by
      have : (l.length + 1) * by' ≤ 1001 * 1000 := Nat.mul_le_mul (by omega) hbb
      omega) (Nat.zero_le _)
  refine ⟨v', w', g1, ?_, g3, g5⟩
  unfold OwnL
  rw [List.length_append, List.length_singleton, List.flatMap_append]
  simpa using g2
end
end Go.Proofs.Ytgonbmcfeehfaaa
