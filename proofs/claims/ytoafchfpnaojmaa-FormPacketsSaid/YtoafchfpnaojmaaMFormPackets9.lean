import Derived.Test.YtoafchfpnaojmaaChecked
import Derived.WalkKit
import Derived.WalkLawsBesides
import Derived.Lib.Hide
import Derived.Deep.RegionHeld3
import Derived.Test.YtoafchfpnaojmaaMFormPackets3
import Derived.Test.YtoafchfpnaojmaaMFormPackets5
import Derived.Test.YtoafchfpnaojmaaMFormPackets6
import Derived.Test.YtoafchfpnaojmaaMFormPackets8
/- The document's answers for forms: a packet's bytes. -/
namespace Go.Proofs.Ytoafchfpnaojmaa
open Go.RowKit
set_option linter.unusedVariables false
set_option linter.unusedSimpArgs false
set_option maxRecDepth 20000

set_option maxHeartbeats 6400000 in
theorem refPacket_any (w : World) (x : Pk) (ox : x.Ok) : Calls Try.prog 6 #[.agg x.cells.toArray] w fun e w' => Chg Non w w' ∧ ∃ v, e = .returned (.tuple #[v, .bool x.right]) ∧ (x.right = true → Own 5 w' v x.enc) := by
  have HNm : Hid (∀ w', Calls Try.prog 13 #[.string x.from] w' fun e w'' => e = .returned (.bool (nameOk x.from)) ∧ ∃ n, w'' = w'.drewN n) := Lib.hid fun w' => refName_any w' x.from ox.from
  have HT : Hid (∀ (s : ByteArray), s.size ≤ 4096 → ∀ w', Calls Try.prog 15 #[.string s] w' (Newb w' (tx s.data.toList))) := Lib.hid fun s h w' => refText_any w' s h
  have HR : Hid (x.right = (inR 1 1099511627776 x.seq && (nameOk x.from && (decide (x.data.size ≤ 256) && inR 1 1099511627776 x.timeout)))) := Lib.hid rfl
  have HE : Hid (x.enc = num 6 ++ (num x.seq ++ (tx x.from.data.toList ++ (tx x.data.data.toList ++ num x.timeout)))) := Lib.hid rfl
  have k0 : Chg Non w (w.alloc (.cells x.cells.toArray 23)) := (Chg.refl _ _).alloc _
  have b0 := Hb.new w 23 x.cells.toArray
  generalize x.right = ok at *
  generalize x.enc = enc at *
  unfold Pk.cells at *
  have HL : Hid (nameOk x.from = true → x.from.size ≤ 16) := Lib.hid nameOk_size
  have ofs := ox.from
  have ods := ox.data
  generalize x.seq = sq at *
  generalize x.from = fr at *
  generalize x.data = da at *
  generalize x.timeout = ti at *
  unfold maxLen at ofs ods
  clear ox
  generalize hnm : nameOk fr = nm at *
  clear hnm
  go_enter Try.func6, Try.ntmps6
  go_wp2_with fail
  refine (HNm.out _).mono ?_
  rintro e w1 ⟨rfl, q, hq⟩
  have k1 : Chg Non w w1 := by rw [hq]; exact k0.drewN q
  have b1 : Hb w1 w.heap.size 23 #[.int .i64 sq, .string fr, .string da, .int .i64 ti] := by rw [hq]; exact b0
  have c0 := b1.cell 0
  have c1 := b1.cell 1
  have c2 := b1.cell 2
  have c3 := b1.cell 3
  simp only [List.getElem?_toArray] at c0 c1 c2 c3
  clear hq k0 b0
  by_cases hd : (256 : Int) < (da.size : Int)
  · go_wp2_with fail
    go_ret2
    refine ⟨k1, .slice none 0 0, by rw [HR.out, decide_eq_false (show ¬ da.size ≤ 256 by omega)]; simp, fun h => ?_⟩
    rw [HR.out, decide_eq_false (show ¬ da.size ≤ 256 by omega)] at h
    simp at h
  cases nm
  · go_wp2_with fail
    go_ret2
    refine ⟨k1, .slice none 0 0, by rw [HR.out]; simp, fun h => ?_⟩
    rw [HR.out] at h
    simp at h
  have hfs : fr.size ≤ 16 := HL.out rfl
  have HB := Lib.hid b1
  have H1 := Lib.hid c1
  have H2 := Lib.hid c2
  have H0 := Lib.hid c0
  have H3 := Lib.hid c3
  clear b1 HL HNm
  go_wp2_with fail
  go_region_held3 (fun w' => w'.cell? ⟨w.heap.size, 0, none⟩ = some (.int .i64 sq) ∧ w'.cell? ⟨w.heap.size, 1, none⟩ = some (.string fr) ∧ w'.cell? ⟨w.heap.size, 2, none⟩ = some (.string da) ∧ w'.cell? ⟨w.heap.size, 3, none⟩ = some (.int .i64 ti)) (first | exact ⟨c0, c1, c2, c3⟩ | exact S8 | exact S7 | exact S6 | assumption)
    (first
      | (go_at_call_of 14 (Value.int IntKind.i64 6); refine (refNumber_any _ 6).mono ?_; rintro e w6 ⟨v6, rfl, o6, n6, j6⟩; have K6 : Chg Non w1 w6 := (by first | exact ((Chg.refl Non w1).drew).trans j6 (fun _ f => f.elim) | exact K7.trans j6 (fun _ f => f.elim)); have B6 : Bts w1 w6 v6 (num 6) := ⟨o6, fun k hk => Nat.le_trans (by first | exact Nat.le_refl _ | exact K7.size) (n6 k hk), K6⟩; have S6 := And.intro (K6.cell c0 (fun f => f)) (And.intro (K6.cell c1 (fun f => f)) (And.intro (K6.cell c2 (fun f => f)) (K6.cell c3 (fun f => f)))))
      | (go_at_call_of 14 (Value.int IntKind.i64 sq); refine (refNumber_any _ sq).mono ?_; rintro e w7 ⟨v7, rfl, o7, n7, j7⟩; obtain ⟨A7, c7, rfl, R7⟩ := o7.rd; have K7 : Chg Non w1 w7 := (by first | exact ((Chg.refl Non w1).drew).trans j7 (fun _ f => f.elim) | exact K6.trans j7 (fun _ f => f.elim)); have S7 := And.intro (K7.cell c0 (fun f => f)) (And.intro (K7.cell c1 (fun f => f)) (And.intro (K7.cell c2 (fun f => f)) (K7.cell c3 (fun f => f)))))
      | (refine step_app _ (by rfl) _ _ (by rfl) (l := num 6) (l2 := num sq) (by rfl) (by first | exact (B6.later j7).own | exact B6.own) (A := A7) (c := c7) (by rfl) (by rfl) (by first | exact R7 | exact R7.later j6) (by simp [num_length]) ?_; intro v8 w8 o8 g8 b8; have B8 : Bts w1 w8 v8 (num 6 ++ num sq) := (by first | exact (B6.later j7).app o8 g8 b8 | exact B6.app o8 g8 b8); have S8 := And.intro (B8.chg.cell c0 (fun f => f)) (And.intro (B8.chg.cell c1 (fun f => f)) (And.intro (B8.chg.cell c2 (fun f => f)) (B8.chg.cell c3 (fun f => f)))))
      | fail)
  all_goals
    clear c0 c1 c2 c3
    obtain ⟨c0, c1, c2, c3⟩ := S8
    have B8' := Lib.hid B8
    clear S6 S7 R7 o6 o7 o8 g8 b8 B6 B8 K6 K7 j6 j7 n6 n7
    go_wp2_with fail
    refine (HT.out fr (by omega) _).mono ?_
    rintro e wa ⟨va, rfl, oa, na, ja⟩
    obtain ⟨Aa, ca, rfl, Ra⟩ := oa.rd
    have Ba := B8'.out.later ja
    have hfl : fr.data.toList.length = fr.size := by rw [Array.length_toList]; rfl
    have hdl : da.data.toList.length = da.size := by rw [Array.length_toList]; rfl
    clear c0 c1 c2 c3
    go_wp2_with (at_builtin; refine wpList_app byt _ rfl _ _ rfl rfl Ba.own (A := Aa) (c := ca) rfl rfl Ra (by simp only [List.length_append, num_length, tx_length, hfl]; omega) ?_; intro v9 w9 o9 g9 b9; have B9 := Ba.app o9 g9 b9; have d2 := B9.chg.cell H2.out (fun f => f))
    refine (HT.out da (by omega) _).mono ?_
    rintro e wb ⟨vb, rfl, ob, nb, jb⟩
    obtain ⟨Ab, cb, rfl, Rb⟩ := ob.rd
    have Bb := B9.later jb
    clear d2 Ba oa Ra na ja o9 g9 b9
    go_wp2_with (at_builtin; refine wpList_app byt _ rfl _ _ rfl rfl Bb.own (A := Ab) (c := cb) rfl rfl Rb (by simp only [List.length_append, num_length, tx_length, hfl, hdl]; omega) ?_; intro v10 w10 o10 g10 b10; have B10 := Bb.app o10 g10 b10; have d0 := B10.chg.cell H0.out (fun f => f); have d3 := B10.chg.cell H3.out (fun f => f))
    clear Bb ob Rb nb jb o10 g10 b10 B9
    have I1 : Hid (∀ w', Calls Try.prog 16 #[.int .i64 sq, .int .i64 1, .int .i64 1099511627776] w' fun e w'' => e = .returned (.bool (inR 1 1099511627776 sq)) ∧ w'' = w') := Lib.hid fun w' => in_any w' _ _ _
    have I2 : Hid (∀ w', Calls Try.prog 16 #[.int .i64 ti, .int .i64 1, .int .i64 1099511627776] w' fun e w'' => e = .returned (.bool (inR 1 1099511627776 ti)) ∧ w'' = w') := Lib.hid fun w' => in_any w' _ _ _
    generalize inR 1 1099511627776 sq = p at *
    generalize inR 1 1099511627776 ti = t at *
    have hln : ((((num 6 ++ num sq) ++ tx fr.data.toList) ++ tx da.data.toList)).length ≤ 10000 := by simp only [List.length_append, num_length, tx_length, hfl, hdl]; omega
    have HLN := Lib.hid hln
    clear hln hfl hdl
    cases p
    · first | (go_region_law
        (first
          | (refine step_call _ (by rfl) 16 _ _ (by rfl) (by rfl) ent_in (I1.out _) ?_; rintro e wx ⟨rfl, rfl⟩; refine ⟨_, rfl, ?_⟩)
          | (refine step_call _ (by rfl) 14 _ _ (by rfl) (by rfl) ent_num (refNumber_any _ ti) ?_; rintro e w11 ⟨v11, rfl, o11, n11, j11⟩; obtain ⟨A11, c11, rfl, R11⟩ := o11.rd; have B11 := B10.later (((Chg.refl Non w10).drew).trans j11 (fun _ f => f.elim)); have S11 := B11.chg.cell H0.out (fun f => f); have T11 := B11.chg.cell H3.out (fun f => f); refine ⟨_, rfl, ?_⟩)
          | (refine step_app _ (by rfl) _ _ (by rfl) (l2 := num ti) (by rfl) B11.own (A := A11) (c := c11) (by rfl) (by rfl) R11 (by have := HLN.out; rw [num_length]; omega) ?_; intro v12 w12 o12 g12 b12; have B12 := B11.app o12 g12 b12; have S12 := B12.chg.cell H0.out (fun f => f); have T12 := B12.chg.cell H3.out (fun f => f))
          | fail)) | fail
      all_goals
        go_wp2_with fail
        go_ret2
        exact ⟨k1.trans B12.chg (fun _ f => f.elim), v12, by rw [HR.out]; rfl, fun h => by rw [HR.out] at h; cases h⟩
    · first | (go_region_law
        (first
          | (refine step_call _ (by rfl) 16 _ _ (by rfl) (by rfl) ent_in (I1.out _) ?_; rintro e wx ⟨rfl, rfl⟩; refine ⟨_, rfl, ?_⟩)
          | (refine step_callW _ (by rfl) 16 _ _ (by rfl) (by rfl) ent_in (I2.out _) ?_; rintro e wx ⟨rfl, rfl⟩; refine ⟨_, rfl, ?_⟩)
          | (refine step_call _ (by rfl) 14 _ _ (by rfl) (by rfl) ent_num (refNumber_any _ ti) ?_; rintro e w11 ⟨v11, rfl, o11, n11, j11⟩; obtain ⟨A11, c11, rfl, R11⟩ := o11.rd; have B11 := B10.later (((Chg.refl Non w10).drew).trans j11 (fun _ f => f.elim)); have S11 := B11.chg.cell H0.out (fun f => f); have T11 := B11.chg.cell H3.out (fun f => f); refine ⟨_, rfl, ?_⟩)
          | (refine step_app _ (by rfl) _ _ (by rfl) (l2 := num ti) (by rfl) B11.own (A := A11) (c := c11) (by rfl) (by rfl) R11 (by have := HLN.out; rw [num_length]; omega) ?_; intro v12 w12 o12 g12 b12; have B12 := B11.app o12 g12 b12; have S12 := B12.chg.cell H0.out (fun f => f); have T12 := B12.chg.cell H3.out (fun f => f))
          | fail)) | fail
      all_goals
        go_wp2_with fail
        go_ret2
        have hok : ok = t := by rw [HR.out, decide_eq_true (show da.size ≤ 256 by omega)]; simp
        exact ⟨k1.trans B12.chg (fun _ f => f.elim), v12, by rw [hok]; rfl, fun h => by rw [HE.out]; simpa only [List.append_assoc] using B12.own⟩
end Go.Proofs.Ytoafchfpnaojmaa

/- Package forms: EncodeProof. -/
namespace Go.Proofs.Ytoafchfpnaojmaa
open Go.RowKit
set_option linter.unusedVariables false
set_option linter.unusedSimpArgs false
set_option maxRecDepth 20000

theorem Pf.enc_len {sz : Int} {ms : List Pm} (h : Pf.right ⟨sz, ms.map Pm.part⟩ = true) (om : ∀ m ∈ ms, m.part.Ok) : (Pf.enc ⟨sz, ms.map Pm.part⟩).length ≤ 1000000 := by
  unfold Pf.right at h
  simp only [Bool.and_eq_true, List.length_map] at h
  obtain ⟨_, h1, h2⟩ := h
  have h3 := (inR_iff.1 h1).2
  have h4 : ∀ x ∈ ms.map Pm.part, x.enc.length ≤ 20000 := by
    intro x hx
    have hr := List.all_eq_true.1 h2 x hx
    obtain ⟨m, hm, rfl⟩ := List.mem_map.1 hx
    exact Pa.enc_len hr (om m hm)
  have h5 : ∀ l : List Pa, (∀ x ∈ l, x.enc.length ≤ 20000) → (l.flatMap Pa.enc).length ≤ l.length * 20000 := by
    intro l
    induction l with
    | nil => intro _; simp
    | cons x l ih =>
      intro h
      have a := h x (by simp)
      have b := ih (fun y hy => h y (by simp [hy]))
      rw [List.flatMap_cons, List.length_append, List.length_cons]
      omega
  have h6 := h5 _ h4
  rw [List.length_map] at h6
  unfold Pf.enc encL
  simp only [List.length_append, num_length, List.length_map]
  omega

theorem EncodeProof_any (w : World) (A : Option Addr) (c : Nat) (sz : Int) (ms : List Pm) (hsz : I64 sz) (hlm : ms.length ≤ maxLen) (M : LstM w A ms Pm.cells 4) (hm : ∀ m ∈ ms, m.In w) :
    Calls Try.prog 7 #[.agg #[.int .i64 sz, .slice A ms.length c]] w (Enc w (Pf.right ⟨sz, ms.map Pm.part⟩) (Pf.enc ⟨sz, ms.map Pm.part⟩)) := by
  have hC := (Chg.refl Non w).alloc (.cells #[.int .i64 sz, .slice A ms.length c] 26)
  have hb := Hb.new w 26 #[.int .i64 sz, .slice A ms.length c]
  have hs : (w.alloc (.cells #[.int .i64 sz, .slice A ms.length c] 26)).heap.size = w.heap.size + 1 := by simp
  have H := encoded_Proof (w.alloc (.cells #[.int .i64 sz, .slice A ms.length c] 26)) ⟨w.heap.size, 0, none⟩ (Pf.right ⟨sz, ms.map Pm.part⟩) (Pf.enc ⟨sz, ms.map Pm.part⟩) (fun h => by have := Pf.enc_len h (fun m h => (hm m h).1); omega) (fun w1 g k hg hw => by
    have hb1 := hb.chg k (fun f => f)
    have kw := hC.trans k (fun _ f => f.elim)
    have hgw : w.heap.size ≤ g := by omega
    have R : w1.rangeAt w.heap.size 0 [.int .i64 sz, .slice A ms.length c] := (show Hb w1 w.heap.size 26 [Value.int .i64 sz, .slice A ms.length c].toArray from hb1).range0
    exact proof_w g [] w1 _ w.heap.size 0 A c sz ms hw R hsz hlm ⟨M.not kw hgw, fun m h => (hm m h).2.2.not kw hgw⟩ (fun m h => ⟨(hm m h).1, (hm m h).2.1⟩) (by simp) (by rintro (h | h); omega; cases h) (by have := hb1.lt; omega))
  have HH := Lib.hid H
  have HC := Lib.hid hC
  clear H hC hb hs M hm
  generalize Pf.right ⟨sz, ms.map Pm.part⟩ = ok at *
  generalize Pf.enc ⟨sz, ms.map Pm.part⟩ = bs at *
  generalize ms.length = n at *
  go_enter Try.func7, Try.ntmps7
  go_wp2_with fail
  refine HH.out.mono ?_
  rintro e w1 ⟨h1, h2⟩
  clear HH
  have h0 := HC.out.trans h1 (fun _ f => f.elim)
  cases ok with
  | true =>
    obtain ⟨v, rfl, ho, hl⟩ := h2
    go_wp2
    go_ret2
    exact ⟨h0, v, rfl, ho, fun k hk => by have := hl k hk; have := HC.out.size; omega⟩
  | false =>
    obtain rfl := h2
    go_wp2
    go_ret2
    exact ⟨h0, rfl⟩
end Go.Proofs.Ytoafchfpnaojmaa

/- nunciolaw06.wanted: are bytes what the document says, or is there the error? -/
namespace Go.Proofs.Ytoafchfpnaojmaa
open Go.RowKit
set_option linter.unusedVariables false
set_option linter.unusedSimpArgs false
set_option maxRecDepth 20000

/-- What encoding leaves, in one form. -/
structure Was (w : World) (va : Value) (k : Int) (ok : Bool) (bs : List UInt8) : Prop where
  yes : ok = true → k = 0 ∧ Own 5 w va bs
  no : ok = false → k = 61 ∧ va = .slice none 0 0
theorem Was.chg {w w' : World} {va : Value} {k : Int} {ok : Bool} {bs : List UInt8} (h : Was w va k ok bs) (c : Chg Non w w') : Was w' va k ok bs := ⟨fun h2 => ⟨(h.yes h2).1, (h.yes h2).2.chg c (fun _ _ f => f)⟩, h.no⟩
theorem Enc.was {w w' : World} {ok : Bool} {bs : List UInt8} {e : Ending} (h : Enc w ok bs e w') : Chg Non w w' ∧ ∃ va k, e = .returned (.tuple #[va, .int .i64 k]) ∧ Was w' va k ok bs := by
  obtain ⟨h1, h2⟩ := h
  refine ⟨h1, ?_⟩
  cases ok with
  | true =>
    obtain ⟨v, rfl, ho, _⟩ := h2
    exact ⟨v, 0, rfl, ⟨fun _ => ⟨rfl, ho⟩, fun h => nomatch h⟩⟩
  | false =>
    obtain rfl := h2
    exact ⟨_, _, rfl, ⟨fun h => (nomatch h), fun _ => ⟨rfl, rfl⟩⟩⟩
theorem wanted_any (w : World) (va vb : Value) (k : Int) (ok : Bool) (bs : List UInt8) (ha : Was w va k ok bs) (hb : ok = true → Own 5 w vb bs) :
    Calls Try.prog 9 #[va, .int .i64 k, vb, .bool ok] w fun e w' => e = .returned (.bool true) ∧ w' = w := by
  cases ok with
  | false =>
    obtain ⟨rfl, rfl⟩ := ha.no rfl
    clear ha hb
    go_enter Try.func9, Try.ntmps9
    go_wp2_with fail
    go_ret
    exact ⟨rfl, rfl⟩
  | true =>
    obtain ⟨rfl, ho⟩ := ha.yes rfl
    obtain ⟨A, a, rfl, hA⟩ := ho.rd
    obtain ⟨B, b, rfl, hB⟩ := (hb rfl).rd
    have H := same_any w A B bs.length bs.length a b bs bs rfl rfl hA hB
    rw [decide_eq_true (rfl : bs = bs)] at H
    have HH := Lib.hid H
    generalize bs.length = n at *
    clear ha hb ho hA hB H
    go_enter Try.func9, Try.ntmps9
    go_wp2_with fail
    refine HH.out.mono ?_
    rintro e w1 ⟨rfl, rfl⟩
    go_wp2_with fail
    go_ret
    exact ⟨rfl, rfl⟩
theorem In.chg {w w' : World} {ms : List Pm} (h : ∀ m ∈ ms, m.In w) (k : Chg Non w w') : ∀ m ∈ ms, m.In w' := fun m hm => ⟨(h m hm).1, (h m hm).2.1, (h m hm).2.2.chg k⟩
end Go.Proofs.Ytoafchfpnaojmaa
