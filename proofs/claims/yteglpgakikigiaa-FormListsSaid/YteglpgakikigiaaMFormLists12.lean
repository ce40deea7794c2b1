import Derived.Test.YteglpgakikigiaaChecked
import Derived.WalkKit
import Derived.WalkLawsBesides
import Derived.Lib.Hide
import Derived.Deep.RegionHeld3
import Derived.Deep.CutRange
import Derived.Deep.MidRow
import Derived.Recover
import Derived.Test.YteglpgakikigiaaMFormLists4
import Derived.Test.YteglpgakikigiaaMFormLists5
import Derived.Test.YteglpgakikigiaaMFormLists6
import Derived.Test.YteglpgakikigiaaMFormLists7
import Derived.Test.YteglpgakikigiaaMFormLists8
import Derived.Test.YteglpgakikigiaaMFormLists11
/- The document's answers for forms: the bytes of a header. -/
namespace Go.Proofs.Yteglpgakikigiaa
open Go.RowKit
set_option linter.unusedVariables false
set_option linter.unusedSimpArgs false
set_option maxRecDepth 20000

theorem at_Hd {w : World} {b : Nat} {t : TypeId} {x : Hd} (h : Hb w b t x.cells.toArray) (l2 : x.last.length = 32) (l3 : x.set.length = 32) (l4 : x.next.length = 32) (l5 : x.data.length = 32) (l6 : x.app.length = 32) : w.cell? ⟨b, 0, none⟩ = some (.string x.chain) ∧ w.cell? ⟨b, 1, none⟩ = some (.int .i64 x.height) ∧ w.cell? ⟨b, 2, none⟩ = some (.int .i64 x.time) ∧ w.rangeAt b 3 (bv x.last) ∧ w.rangeAt b 35 (bv x.set) ∧ w.rangeAt b 67 (bv x.next) ∧ w.rangeAt b 99 (bv x.data) ∧ w.rangeAt b 131 (bv x.app) := by
  have r := h.range0
  unfold Hd.cells at r
  simp only [List.cons_append, List.nil_append] at r
  obtain ⟨f0, r⟩ := rangeAt_cons r
  obtain ⟨f1, r⟩ := rangeAt_cons r
  obtain ⟨f2, r⟩ := rangeAt_cons r
  obtain ⟨f3, r⟩ := rangeAt_app r
  rw [bv_length, l2] at r
  obtain ⟨f4, r⟩ := rangeAt_app r
  rw [bv_length, l3] at r
  obtain ⟨f5, r⟩ := rangeAt_app r
  rw [bv_length, l4] at r
  obtain ⟨f6, r⟩ := rangeAt_app r
  rw [bv_length, l5] at r
  have f7 := r
  exact ⟨f0, f1, f2, f3, f4, f5, f6, f7⟩
set_option maxHeartbeats 6400000 in
theorem refHeader_any (w : World) (x : Hd) (ox : x.Ok) (hch : x.chain.size ≤ 4096) : Calls Try.prog 57 #[.agg x.cells.toArray] w fun e w' => Chg Non w w' ∧ ∃ v, e = .returned (.tuple #[v, .bool x.right]) ∧ Own 5 w' v x.enc := by
  have HNm : Hid (∀ w', Calls Try.prog 72 #[.string x.chain] w' fun e w'' => e = .returned (.bool (nameOk x.chain)) ∧ ∃ n, w'' = w'.drewN n) := Lib.hid fun w' => refName_any w' x.chain ox.chain
  have HT : Hid (∀ w', Calls Try.prog 73 #[.string x.chain] w' (Newb w' (tx x.chain.data.toList))) := Lib.hid fun w' => refText_any w' x.chain hch
  have hfl : x.chain.data.toList.length = x.chain.size := by rw [Array.length_toList]; rfl
  have H0 : Hid (∀ w', Calls Try.prog 51 #[.int .i64 x.height] w' (Newb w' (num x.height))) := Lib.hid fun w' => refNumber_any w' x.height
  have H1 : Hid (∀ w', Calls Try.prog 51 #[.int .i64 x.time] w' (Newb w' (num x.time))) := Lib.hid fun w' => refNumber_any w' x.time
  have H2 : Hid (∀ w', Calls Try.prog 52 #[.agg (bv x.last).toArray] w' (Newb w' x.last)) := Lib.hid fun w' => refHash_any w' x.last ox.last
  have hl2 := Lib.hid ox.last
  have hi2 : (Try.prog.info? 29).map (·.size) = some (bv x.last).length := by rw [bv_length, ox.last]; exact hash_row
  have H3 : Hid (∀ w', Calls Try.prog 52 #[.agg (bv x.set).toArray] w' (Newb w' x.set)) := Lib.hid fun w' => refHash_any w' x.set ox.set
  have hl3 := Lib.hid ox.set
  have hi3 : (Try.prog.info? 29).map (·.size) = some (bv x.set).length := by rw [bv_length, ox.set]; exact hash_row
  have H4 : Hid (∀ w', Calls Try.prog 52 #[.agg (bv x.next).toArray] w' (Newb w' x.next)) := Lib.hid fun w' => refHash_any w' x.next ox.next
  have hl4 := Lib.hid ox.next
  have hi4 : (Try.prog.info? 29).map (·.size) = some (bv x.next).length := by rw [bv_length, ox.next]; exact hash_row
  have H5 : Hid (∀ w', Calls Try.prog 52 #[.agg (bv x.data).toArray] w' (Newb w' x.data)) := Lib.hid fun w' => refHash_any w' x.data ox.data
  have hl5 := Lib.hid ox.data
  have hi5 : (Try.prog.info? 29).map (·.size) = some (bv x.data).length := by rw [bv_length, ox.data]; exact hash_row
  have H6 : Hid (∀ w', Calls Try.prog 52 #[.agg (bv x.app).toArray] w' (Newb w' x.app)) := Lib.hid fun w' => refHash_any w' x.app ox.app
  have hl6 := Lib.hid ox.app
  have hi6 : (Try.prog.info? 29).map (·.size) = some (bv x.app).length := by rw [bv_length, ox.app]; exact hash_row
  have I0 : Hid (∀ w', Calls Try.prog 50 #[.int .i64 x.height, .int .i64 1, .int .i64 1099511627776] w' fun e w'' => e = .returned (.bool (inR 1 1099511627776 x.height)) ∧ w'' = w') := Lib.hid fun w' => in_any w' _ _ _
  have I1 : Hid (∀ w', Calls Try.prog 50 #[.int .i64 x.time, .int .i64 0, .int .i64 1099511627776] w' fun e w'' => e = .returned (.bool (inR 0 1099511627776 x.time)) ∧ w'' = w') := Lib.hid fun w' => in_any w' _ _ _
  have HR : Hid (x.right = (nameOk x.chain && (inR 1 1099511627776 x.height && (inR 0 1099511627776 x.time)))) := Lib.hid rfl
  have HE : Hid (x.enc = num 2 ++ (tx x.chain.data.toList ++ (num x.height ++ (num x.time ++ (x.last ++ (x.set ++ (x.next ++ (x.data ++ (x.app))))))))) := Lib.hid rfl
  have b0 := Hb.new w 36 x.cells.toArray
  have k0 : Chg Non w (w.alloc (.cells x.cells.toArray 36)) := (Chg.refl _ _).alloc _
  have AT : ∀ w1, Hid (w1 = w.alloc (.cells x.cells.toArray 36)) → ∀ w', Chg Non w1 w' → w'.cell? ⟨w.heap.size, 0, none⟩ = some (.string x.chain) ∧ w'.cell? ⟨w.heap.size, 1, none⟩ = some (.int .i64 x.height) ∧ w'.cell? ⟨w.heap.size, 2, none⟩ = some (.int .i64 x.time) ∧ w'.rangeAt w.heap.size 3 (bv x.last) ∧ w'.rangeAt w.heap.size 35 (bv x.set) ∧ w'.rangeAt w.heap.size 67 (bv x.next) ∧ w'.rangeAt w.heap.size 99 (bv x.data) ∧ w'.rangeAt w.heap.size 131 (bv x.app) := fun w1 e w' k => at_Hd (b0.chg (by rw [← e.out]; exact k) (fun f => f)) ox.last ox.set ox.next ox.data ox.app
  have HAT := Lib.hid AT
  have hc0 := hch
  clear AT b0 hch
  generalize hcs : x.cells = cs at *
  generalize x.right = ok at *
  generalize x.enc = enc at *
  generalize x.chain = ch at *
  generalize x.height = y0 at *
  generalize x.time = y1 at *
  generalize x.last = y2 at *
  generalize x.set = y3 at *
  generalize x.next = y4 at *
  generalize x.data = y5 at *
  generalize x.app = y6 at *
  clear hcs ox
  generalize nameOk ch = nm at *
  generalize inR 1 1099511627776 y0 = p0 at *
  generalize inR 0 1099511627776 y1 = p1 at *
  go_enter Try.func57, Try.ntmps57
  go_wp2_with (with_reducible refine wpList_box_row rfl _ _ rfl (cs := cs.toArray) rfl ?_; intro w1 hw1; have g0 := (HAT.out w1 hw1 w1 (Chg.refl _ _)).1)
  have hk01 : Chg Non w w1 := by rw [hw1.out]; exact k0
  have HAU := Lib.hid (HAT.out w1 hw1)
  clear hw1 k0
  refine (HNm.out _).mono ?_
  rintro e w2 ⟨rfl, q, hq⟩
  have k2 : Chg Non w1 w2 := by rw [hq]; exact (Chg.refl _ _).drewN q
  clear hq g0
  go_upto_region 2 with fail
  have A2 := HAU.out w2 k2
  obtain ⟨a0, a1, a2, a3, a4, a5, a6, a7⟩ := A2
  go_cut [5] from 10 to 20 (fun s5 wx => s5 = .bool (nm && (p0 && (p1))) ∧ wx = w2)
  case first =>
    cases nm
    · go_wp2_with fail
      go_meet
      exact ⟨by simp, rfl⟩
    · go_wp2_with fail
      refine (I0.out _).mono ?_
      rintro e wi ⟨rfl, hwi⟩
      obtain rfl : w2 = wi := hwi.symm
      cases p0
      · go_wp2_with fail
        go_meet
        exact ⟨by simp, rfl⟩
      · go_wp2_with fail
        refine (I1.out _).mono ?_
        rintro e wi ⟨rfl, hwi⟩
        obtain rfl : w2 = wi := hwi.symm
        go_wp2_with fail
        go_meet
        exact ⟨by simp, rfl⟩
  case rest =>
  obtain ⟨rfl, rfl⟩ := hcut
  clear I0 I1 HNm
  generalize hrr : (nm && (p0 && (p1))) = rr at *
  have HRR := Lib.hid hrr
  clear hrr
  have HA0 := Lib.hid a0
  go_upto_region 3 with fail
  go_cut [6] from 21 to 25 (fun s6 wx => Bts wc wx s6 (num 2 ++ tx ch.data.toList))
  case first =>
    go_region_held3 (fun w' => w'.cell? ⟨w.heap.size, 0, none⟩ = some (.string ch)) (first | exact a0 | exact S8 | exact S7 | exact S6 | assumption)
      (first
        | (go_at_call 51; refine (refNumber_any _ 2).mono ?_; rintro e w6 ⟨v6, rfl, o6, n6, j6⟩; have K6 : Chg Non wc w6 := (by first | exact ((Chg.refl Non wc).drew).trans j6 (fun _ f => f.elim) | exact K7.trans j6 (fun _ f => f.elim)); have B6 : Bts wc w6 v6 (num 2) := ⟨o6, fun k hk => Nat.le_trans (by first | exact Nat.le_refl _ | exact K7.size) (n6 k hk), K6⟩; have S6 := K6.cell a0 (fun f => f))
        | (go_at_call 73; refine (HT.out _).mono ?_; rintro e w7 ⟨v7, rfl, o7, n7, j7⟩; obtain ⟨A7, c7, rfl, R7⟩ := o7.rd; have K7 : Chg Non wc w7 := (by first | exact ((Chg.refl Non wc).drew).trans j7 (fun _ f => f.elim) | exact K6.trans j7 (fun _ f => f.elim)); have S7 := K7.cell a0 (fun f => f))
        | (refine step_app _ (by rfl) _ _ (by rfl) (l := num 2) (l2 := tx ch.data.toList) (by rfl) (by first | exact (B6.later j7).own | exact B6.own) (A := A7) (c := c7) (by rfl) (by rfl) (by first | exact R7 | exact R7.later j6) (by simp only [num_length, tx_length, hfl]; omega) ?_; intro v8 w8 o8 g8 b8; have B8 : Bts wc w8 v8 (num 2 ++ tx ch.data.toList) := (by first | exact (B6.later j7).app o8 g8 b8 | exact B6.app o8 g8 b8); have S8 := B8.chg.cell a0 (fun f => f))
        | fail)
    all_goals
      go_wp2_with fail
      go_meet
      exact B8
  case rest =>
  have B := hcut
  have q := HAU.out _ (k2.trans B.chg (fun _ f => f.elim))
  clear hcut a0 a1 a2 a3 a4 a5 a6 a7 HT
  have d := q.2.1
  go_wp2_with fail
  refine (H0.out _).mono ?_
  rintro e wa ⟨va, rfl, oa, na, ja⟩
  obtain ⟨Aa, ca, rfl, Ra⟩ := oa.rd
  have Ba := B.later ja
  clear d q B oa na ja
  go_wp2_with (first | (at_builtin; refine wpList_app byt _ rfl _ _ rfl rfl Ba.own (A := Aa) (c := ca) rfl rfl Ra (by simp only [List.length_append, num_length, tx_length, be_length, hfl, hl2.out, hl3.out, hl4.out, hl5.out, hl6.out]; omega) ?_; intro v9 w9 o9 g9 b9; have B := Ba.app o9 g9 b9; have q := HAU.out _ (k2.trans B.chg (fun _ f => f.elim)); have d := q.2.2.1))
  clear Ra Ba o9 g9 b9
  refine (H1.out _).mono ?_
  rintro e wa ⟨va, rfl, oa, na, ja⟩
  obtain ⟨Aa, ca, rfl, Ra⟩ := oa.rd
  have Ba := B.later ja
  clear d q B oa na ja
  go_wp2_with (first | (at_builtin; refine wpList_app byt _ rfl _ _ rfl rfl Ba.own (A := Aa) (c := ca) rfl rfl Ra (by simp only [List.length_append, num_length, tx_length, be_length, hfl, hl2.out, hl3.out, hl4.out, hl5.out, hl6.out]; omega) ?_; intro v9 w9 o9 g9 b9; have B := Ba.app o9 g9 b9; have q := HAU.out _ (k2.trans B.chg (fun _ f => f.elim)); have d := q.2.2.2.1) | (with_reducible refine wpList_load_mid rfl 29 _ rfl w.heap.size 3 rfl (bv y2) _ d Try.underlying29 rfl hi2 ?_))
  clear Ra Ba o9 g9 b9
  refine (H2.out _).mono ?_
  rintro e wa ⟨va, rfl, oa, na, ja⟩
  obtain ⟨Aa, ca, rfl, Ra⟩ := oa.rd
  have Ba := B.later ja
  clear d q B oa na ja
  go_wp2_with (first | (at_builtin; refine wpList_app byt _ rfl _ _ rfl rfl Ba.own (A := Aa) (c := ca) rfl rfl Ra (by simp only [List.length_append, num_length, tx_length, be_length, hfl, hl2.out, hl3.out, hl4.out, hl5.out, hl6.out]; omega) ?_; intro v9 w9 o9 g9 b9; have B := Ba.app o9 g9 b9; have q := HAU.out _ (k2.trans B.chg (fun _ f => f.elim)); have d := q.2.2.2.2.1) | (with_reducible refine wpList_load_mid rfl 29 _ rfl w.heap.size 35 rfl (bv y3) _ d Try.underlying29 rfl hi3 ?_))
  clear Ra Ba o9 g9 b9
  refine (H3.out _).mono ?_
  rintro e wa ⟨va, rfl, oa, na, ja⟩
  obtain ⟨Aa, ca, rfl, Ra⟩ := oa.rd
  have Ba := B.later ja
  clear d q B oa na ja
  go_wp2_with (first | (at_builtin; refine wpList_app byt _ rfl _ _ rfl rfl Ba.own (A := Aa) (c := ca) rfl rfl Ra (by simp only [List.length_append, num_length, tx_length, be_length, hfl, hl2.out, hl3.out, hl4.out, hl5.out, hl6.out]; omega) ?_; intro v9 w9 o9 g9 b9; have B := Ba.app o9 g9 b9; have q := HAU.out _ (k2.trans B.chg (fun _ f => f.elim)); have d := q.2.2.2.2.2.1) | (with_reducible refine wpList_load_mid rfl 29 _ rfl w.heap.size 67 rfl (bv y4) _ d Try.underlying29 rfl hi4 ?_))
  clear Ra Ba o9 g9 b9
  refine (H4.out _).mono ?_
  rintro e wa ⟨va, rfl, oa, na, ja⟩
  obtain ⟨Aa, ca, rfl, Ra⟩ := oa.rd
  have Ba := B.later ja
  clear d q B oa na ja
  go_wp2_with (first | (at_builtin; refine wpList_app byt _ rfl _ _ rfl rfl Ba.own (A := Aa) (c := ca) rfl rfl Ra (by simp only [List.length_append, num_length, tx_length, be_length, hfl, hl2.out, hl3.out, hl4.out, hl5.out, hl6.out]; omega) ?_; intro v9 w9 o9 g9 b9; have B := Ba.app o9 g9 b9; have q := HAU.out _ (k2.trans B.chg (fun _ f => f.elim)); have d := q.2.2.2.2.2.2.1) | (with_reducible refine wpList_load_mid rfl 29 _ rfl w.heap.size 99 rfl (bv y5) _ d Try.underlying29 rfl hi5 ?_))
  clear Ra Ba o9 g9 b9
  refine (H5.out _).mono ?_
  rintro e wa ⟨va, rfl, oa, na, ja⟩
  obtain ⟨Aa, ca, rfl, Ra⟩ := oa.rd
  have Ba := B.later ja
  clear d q B oa na ja
  go_wp2_with (first | (at_builtin; refine wpList_app byt _ rfl _ _ rfl rfl Ba.own (A := Aa) (c := ca) rfl rfl Ra (by simp only [List.length_append, num_length, tx_length, be_length, hfl, hl2.out, hl3.out, hl4.out, hl5.out, hl6.out]; omega) ?_; intro v9 w9 o9 g9 b9; have B := Ba.app o9 g9 b9; have q := HAU.out _ (k2.trans B.chg (fun _ f => f.elim)); have d := q.2.2.2.2.2.2.2) | (with_reducible refine wpList_load_mid rfl 29 _ rfl w.heap.size 131 rfl (bv y6) _ d Try.underlying29 rfl hi6 ?_))
  clear Ra Ba o9 g9 b9
  refine (H6.out _).mono ?_
  rintro e wa ⟨va, rfl, oa, na, ja⟩
  obtain ⟨Aa, ca, rfl, Ra⟩ := oa.rd
  have Ba := B.later ja
  clear d q B oa na ja
  go_wp2_with (at_builtin; refine wpList_app byt _ rfl _ _ rfl rfl Ba.own (A := Aa) (c := ca) rfl rfl Ra (by simp only [List.length_append, num_length, tx_length, be_length, hfl, hl2.out, hl3.out, hl4.out, hl5.out, hl6.out]; omega) ?_; intro v9 w9 o9 g9 b9; have B := Ba.app o9 g9 b9)
  clear Ra Ba o9 g9 b9
  go_ret2
  exact ⟨(hk01.trans k2 (fun _ f => f.elim)).trans B.chg (fun _ f => f.elim), v9, by first | (rw [HR.out]; done) | (rw [HR.out]; rfl) | (rw [HR.out]; simp), by rw [HE.out]; simpa only [List.append_assoc] using B.own⟩
end Go.Proofs.Yteglpgakikigiaa

/- Package forms: decoded[api.Commit]. -/
namespace Go.Proofs.Yteglpgakikigiaa
open Go.RowKit
set_option linter.unusedVariables false
set_option linter.unusedSimpArgs false
set_option maxRecDepth 20000


theorem cmz_one : ∀ v ∈ cmz, v.oneCell' = true := cm_one _ _ _ _ _ rfl
/-- What decoding a commit leaves. -/
def DecC (w : World) (z : List Value) (r : Option Cm) (e : Ending) (w' : World) : Prop :=
  Chg Non w w' ∧ match r with
    | some x => ∃ nb, w.heap.size ≤ nb ∧ e = .returned (.tuple #[.agg (x.cells (sl nb x.seals.length)).toArray, .int .i64 0]) ∧ Hb w' nb 75 (x.seals.flatMap Se.cells).toArray
    | none => e = .returned (.tuple #[.agg z.toArray, .int .i64 61])

theorem dCommit.row : (Try.prog.info? 32).map (·.size) = some 35 := by kernel_rfl
theorem dCommit.alloc0 (w : World) : (Instr.alloc 32 true (.tuple #[])).run Try.prog w = .ok (.pointer (some ⟨w.heap.size, 0, none⟩)) (w.alloc (.cells cmz.toArray 32)) := by kernel_rfl
theorem dCommit.zlen : cmz.length = 35 := by rfl

theorem catchDP_Commit (w : World) (p q : Nat) (L : List Value) (y : Value) (v : Value) (u : TypeId) (older : List PanicEntry) (hp : Hb w p 32 L.toArray) (hL : L.length = 35) (hq : Hb w q 25 #[y]) (hpq : q ≠ p) :
    CallsD Try.prog 43 #[.pointer (some ⟨p, 0, none⟩), .pointer (some ⟨q, 0, none⟩)] (.panicking ({ v := .iface u v, recovered := false } :: older)) w fun e u' w' =>
      e = .returned (.tuple #[]) ∧ u' = .panicking ({ v := .iface u v, recovered := true } :: older) ∧ w' = (((w.alloc (.cells cmz.toArray 32)).setCells p 0 cmz).setCell ⟨q, 0, none⟩ (.int .i64 61)) := by
  have hz := dCommit.alloc0 w
  have hzl := dCommit.zlen
  have hrow := dCommit.row
  have hn := Hb.new w 32 cmz.toArray
  have hp1 := hp.alloc (.cells cmz.toArray 32)
  have hth := hp1.there0
  rw [hL] at hth
  have hq1 := (hq.alloc (.cells cmz.toArray 32)).farCells hpq cmz 0
  have c1 : _ = some y := hq1.cell 0
  have f1 : _ = false := hq1.frozen 0
  refine callsD_of_wpS Try.func43 rfl fun c₀ cs hu => ?_
  apply wpS_seq
  apply wpS_region
  simp [wpOpsS, go_sem, recoverD, hu, Try.ntmps43, Exit.thenS]
  refine wpS_cond (t := true) (by simp [Act.eval, Array.replicate]) ?_
  simp only [if_true]
  refine wpS_of_wp ?_
  have hone : ∀ v ∈ cmz, v.oneCell' = true := cmz_one
  generalize cmz = z at *
  go_wp2_with (first | (with_reducible refine wpList_alloc_row rfl _ rfl z hz ?_) | (with_reducible refine wpList_load_mid rfl 32 _ rfl w.heap.size 0 rfl z _ hn.range0 Try.underlying32 rfl (by rw [hrow, hzl]) ?_) | (with_reducible refine wpList_store_mid rfl 32 _ _ rfl p 0 z.toArray rfl rfl (by rw [List.size_toArray, hzl]; exact hth) (by rw [List.size_toArray, hrow, hzl]) (one_mem hone) ?_))
  exact ⟨rfl, _, rfl, .tuple #[], by simp [results, Try.results43], rfl, rfl, rfl⟩

theorem catchDI_Commit (w : World) (p q : Addr) : CallsD Try.prog 43 #[.pointer (some p), .pointer (some q)] .returning w fun e u' w' => e = .returned (.tuple #[]) ∧ u' = .returning ∧ w' = w := by
  refine callsD_of_wpS Try.func43 rfl fun c₀ cs hu => ?_
  apply wpS_seq
  apply wpS_region
  simp [wpOpsS, go_sem, recoverD, hu, Try.ntmps43, Exit.thenS]
  refine wpS_cond (t := false) (by simp [Act.eval, Array.replicate]) ?_
  simp only [Bool.false_eq_true, if_false]
  refine wpS_of_wp (wp_skip ?_)
  cases c₀
  simp_all [bodyPostS, results, Try.results43]

/-- The error's way. -/
theorem decErr_Commit (w w2 : World) (h : Chg Non w w2) (L : List Value) (y : Value) (hp : Hb w2 w.heap.size 32 L.toArray) (hL : L.length = 35) (hq : Hb w2 (w.heap.size + 1) 25 #[y]) (r : Option Cm) (hr : r = none) (tmps : Array Value)
    (h4 : tmps.getD 4 undef = .pointer (some ⟨w.heap.size, 0, none⟩)) (h5 : tmps.getD 5 undef = .pointer (some ⟨w.heap.size + 1, 0, none⟩)) :
    Leaves Try.prog Try.f21 tmps (DecC w cmz r) [{ target := .fn (.func 43) #[.pointer (some ⟨w.heap.size, 0, none⟩), .pointer (some ⟨w.heap.size + 1, 0, none⟩)], args := #[] }] (.panicking bad) w2 := by
  subst hr
  refine leaves_cons (f := 43) (args := #[.pointer (some ⟨w.heap.size, 0, none⟩), .pointer (some ⟨w.heap.size + 1, 0, none⟩)]) (by simp) (by simp [go_sem]) ?_
  refine (catchDP_Commit w2 w.heap.size (w.heap.size + 1) L _ _ _ _ hp hL hq (by omega)).mono ?_
  rintro e u' w'' ⟨rfl, rfl, rfl⟩
  have hz : cmz.length = 35 := dCommit.zlen
  have hb3 := ((hp.alloc (.cells cmz.toArray 32)).sets0 (L' := cmz) (by rw [hL, hz])).far (p := ⟨w.heap.size + 1, 0, none⟩) (by simp) (.int .i64 61)
  have he3 := ((hq.alloc (.cells cmz.toArray 32)).farCells (tb := w.heap.size) (by omega) cmz 0).set 0 (.int .i64 61)
  refine ⟨_, results_two rfl _ _ _ ⟨w.heap.size, 0, none⟩ ⟨w.heap.size + 1, 0, none⟩ _ _ h4 h5 (load_row hb3 Try.underlying32 rfl (by rw [dCommit.row, hz])) (load_errno (he3.cell 0)), ?_, rfl⟩
  have K := (Chg.setCells (S := fun k => k = w.heap.size ∨ k = w.heap.size + 1) (.inl rfl) cmz _ 0 ((Chg.refl _ w2).alloc (.cells cmz.toArray 32))).setCell (p := ⟨w.heap.size + 1, 0, none⟩) (.inl (.inr rfl)) (.int .i64 61)
  exact h.trans K (fun j hj => .inr (by omega))

theorem decoded_Commit (w : World) (A : Option Addr) (n c : Nat) (bs : List UInt8) (r : Option (Cm × St)) (hn : n = bs.length) (hr : Rd w A bs) (hsz : bs.length ≤ 1000000000) (hlen : ∀ x s, r = some (x, s) → ∀ a, (Cm.cells x a).length = 35)
    (H : ∀ (w1 : World) (g : Nat) (F : Nat → Prop), Rst w1 g F w.heap.size 32 cmz (some bs) w1 → Calls Try.prog 22 #[.agg #[.pointer none, .pointer (some ⟨g, 0, none⟩)], .pointer (some ⟨w.heap.size, 0, none⟩)] w1 (RCO w1 g F w.heap.size 32 35 [] [] r)) :
    Calls Try.prog 21 #[.slice A n c, .func (.func 22) #[] #[]] w (DecC w cmz (whole r)) := by
  have hmf := mkf
  have hC0 := dw_chg w cmz 32
  have hb0 := dw_b w cmz 32
  have he0 := dw_e w cmz 32
  have hz := dCommit.alloc0 w
  have hrow := dCommit.row
  have HN := newReader_any (dw w cmz 32) A n c bs hn (hr.chg hC0 (fun _ _ f => f)) hsz
  generalize hR : whole r = R
  have HR := Lib.hid hR
  have HLE := Lib.hid hlen
  have HH := Lib.hid H
  have HNN := Lib.hid HN
  clear hR hlen H HN hn hr
  have hzz := dCommit.zlen
  go_enter_defers Try.func21, Try.ntmps21
  go_wp2_with (first | (with_reducible refine wpList_alloc_row rfl _ rfl cmz hz ?_))
  have hdw : dw w cmz 32 = (w.alloc (.cells cmz.toArray 32)).alloc (.cells #[.int .i64 0] 25) := rfl
  rw [← hdw]
  have hds : (dw w cmz 32).heap.size = w.heap.size + 2 := by rw [hdw]; simp
  clear hdw
  generalize dw w cmz 32 = w0 at *
  refine HNN.out.mono ?_
  rintro e w1 ⟨g, F, rfl, hR1, hg, hF, hC1⟩
  have hb1 := hb0.chg hC1 (fun f => f)
  have he1 := he0.chg hC1 (fun f => f)
  have S1 : Rst w1 g F w.heap.size 32 cmz (some bs) w1 := ⟨hR1, hb1, Chg.refl _ _, by omega, fun h => by have := hF _ h; omega⟩
  have H1 := HH.out w1 g F S1
  have hne : ¬ Two g w.heap.size (w.heap.size + 1) := by rintro (h | h) <;> omega
  have hn01 : Chg Non w w1 := hC0.trans hC1 (fun _ f => f.elim)
  have hw1s := hC1.size
  clear HNN hb0 he0 hC0 hC1 HH S1
  go_wp2_with fail
  refine H1.mono ?_
  rintro e w2 h2
  have he2 := he1.chg h2.chg hne
  have hn02 : Chg Non w w2 := hn01.trans h2.chg (fun j hj => .inr (by rcases hj with rfl | rfl <;> omega))
  clear H1 he1 hb1
  rcases h2.cases with ⟨k, rfl, _, L', hL1, hL2⟩ | ⟨⟨x, s⟩, k, rfl, nb, g1, T, B1⟩
  · have hRn : R = none := HR.out.symm.trans (by rw [k]; rfl)
    go_wp2
    refine decErr_Commit w w2 hn02 L' _ hL2 hL1 he2 _ rfl _ ?_ ?_ <;> rfl
  · have hLn : (x.cells (sl nb x.seals.length) : List Value).length = 35 := HLE.out x s k _
    have hL1 : ∀ v ∈ (x.cells (sl nb x.seals.length) : List Value), v.oneCell' = true := cm_one _ _ _ _ _ rfl
    have T := T.eq (L' := x.cells (sl nb x.seals.length)) (by simp)
    have hs1 : w.heap.size + 2 ≤ w1.heap.size := by omega
    have hRx : ∀ h : s = some [], R = some x := fun h => HR.out.symm.trans (by rw [k, h]; rfl)
    simp only at B1
    generalize hL : (x.cells (sl nb x.seals.length) : List Value) = L at *
    have HL := Lib.hid hL
    have HRX := Lib.hid hRx
    clear h2 hL hRx
    go_wp2_with fail
    refine (endR_any _ g F s T.rdr).mono ?_
    rintro e w3 ⟨rfl, rfl⟩
    have hb2 : Hb _ w.heap.size 32 L.toArray := T.row
    by_cases hs : s = some []
    · have hRs : R = some x := HRX.out hs
      have hev : endv s = 0 := by unfold endv; rw [if_pos hs]
      have hth := hb2.there0
      rw [hLn] at hth
      have hLs : L.toArray.size = 35 := by rw [List.size_toArray, hLn]
      rw [hev]
      have hb3 := hb2.sets0 (L' := L) rfl
      have he3 := he2.farCells (tb := w.heap.size) (by omega) L 0
      have c3 : _ = some (Value.int .i64 0) := he3.cell 0
      have f3 : _ = false := he3.frozen 0
      have hrg := hb2.range0
      clear hev hs HR
      go_wp2_with (first | (go_at_call 35; refine (insist_yes _).mono ?_; rintro e w5 ⟨rfl, rfl⟩) | (with_reducible refine wpList_load_mid rfl 32 _ rfl w.heap.size 0 rfl L _ hrg Try.underlying32 rfl (by rw [hrow, hLn]) ?_; refine wpList_store_mid rfl 32 _ _ rfl w.heap.size 0 L.toArray rfl rfl (by rw [hLs]; exact hth) (by rw [hLs, hrow]) (one_mem hL1) ?_) | (with_reducible refine wpList_store_mid rfl 32 _ _ rfl w.heap.size 0 L.toArray rfl rfl (by rw [hLs]; exact hth) (by rw [hLs, hrow]) (one_mem hL1) ?_))
      refine leaves_cons (f := 43) (args := #[.pointer (some ⟨w.heap.size, 0, none⟩), .pointer (some ⟨w.heap.size + 1, 0, none⟩)]) (by simp) (by simp [go_sem]) ?_
      refine (catchDI_Commit _ ⟨w.heap.size, 0, none⟩ ⟨w.heap.size + 1, 0, none⟩).mono ?_
      rintro e u' w'' ⟨rfl, rfl, rfl⟩
      have hb4 := hb3.far (p := ⟨w.heap.size + 1, 0, none⟩) (by simp) (.int .i64 0)
      have he4 := he3.set 0 (.int .i64 0)
      refine ⟨_, results_two rfl _ _ _ ⟨w.heap.size, 0, none⟩ ⟨w.heap.size + 1, 0, none⟩ _ _ rfl rfl (load_row hb4 Try.underlying32 rfl (by rw [hrow, hLn])) (load_errno (he4.cell 0)), ?_, ?_⟩
      · exact hn02.trans ((Chg.setCells (S := fun k => k = w.heap.size ∨ k = w.heap.size + 1) (.inl rfl) L _ 0 (Chg.refl _ _)).setCell (p := ⟨w.heap.size + 1, 0, none⟩) (.inl (.inr rfl)) (.int .i64 0)) (fun j hj => .inr (by omega))
      · rw [hRs]
        exact ⟨nb, by omega, by rw [HL.out]; rfl, (B1.farCells (by omega) L 0).far (p := ⟨w.heap.size + 1, 0, none⟩) (show nb ≠ w.heap.size + 1 by omega) _⟩
    · have hRn : R = none := HR.out.symm.trans (by
        rw [k]
        match s, hs with
        | none, _ => rfl
        | some (_ :: _), _ => rfl)
      have hev : endv s = 21 := by unfold endv; rw [if_neg hs]
      rw [hev]
      clear hev hs HR
      go_wp2_with (go_at_call 35; refine (insist_no _).mono ?_; rintro e w5 ⟨rfl, rfl⟩)
      refine decErr_Commit w _ hn02 L _ hb2 hLn he2 _ rfl _ ?_ ?_ <;> rfl
end Go.Proofs.Yteglpgakikigiaa

/- Package forms: decoded[nuncio/api.Vote]. -/
namespace Go.Proofs.Yteglpgakikigiaa
open Go.RowKit
set_option linter.unusedVariables false
set_option linter.unusedSimpArgs false
set_option maxRecDepth 20000


theorem dVote.zlen : (Vt.zero.cells).length = 39 := by rfl

end Go.Proofs.Yteglpgakikigiaa

/- Package forms: packets, read: contracts. -/
namespace Go.Proofs.Yteglpgakikigiaa
open Go.RowKit
set_option linter.unusedVariables false
set_option linter.unusedSimpArgs false
set_option maxRecDepth 20000
theorem packet_r_old {old : List Value} (h : old.length = 4) : ∃ (a0 : Value) (a1 : Value) (a2 : Value) (a3 : Value), old = [a0] ++ [a1] ++ [a2] ++ [a3] ∧ True := by
  refine ⟨(old[0]'(by omega)), (old[1]'(by omega)), (old[2]'(by omega)), (old[3]'(by omega)), ?_, trivial⟩
  apply List.ext_getElem?
  intro j
  have hone : ∀ (i : Nat) (hi : i < old.length), [old[i]] = (old.drop i).take 1 := by
    intro i hi
    apply List.ext_getElem?
    intro k
    rw [List.getElem?_take, List.getElem?_drop]
    by_cases hk : k < 1
    · obtain rfl : k = 0 := by omega
      simp [List.getElem?_eq_getElem hi]
    · rw [if_neg hk, List.getElem?_eq_none (by simp; omega)]
  simp only [hone]
  have hj : ∀ (a b c : Nat), a + b = c → (old.drop a).take b ++ old.drop c = old.drop a := by
    intro a b c e
    subst e
    rw [← List.drop_drop, List.take_append_drop]
  have he : old.drop 4 = [] := List.drop_of_length_le (by omega)
  have hall : (old.drop 0).take 1 ++ ((old.drop 1).take 1 ++ ((old.drop 2).take 1 ++ ((old.drop 3).take 1 ++ old.drop 4))) = old := by
    rw [hj 3 1 4 rfl, hj 2 1 3 rfl, hj 1 1 2 rfl, hj 0 1 1 rfl]
    rfl
  rw [he, List.append_nil] at hall
  conv => lhs; rw [← hall]
  try simp only [List.append_assoc]

set_option maxHeartbeats 1600000 in
theorem packet_r (w : World) (g : Nat) (F : Nat → Prop) (tb o : Nat) (t : TypeId) (p q old : List Value) (st : St) (S : Rst w g F tb t (p ++ (old ++ q)) st w) (ho : o = p.length) (hold : old.length = 4) :
    Calls Try.prog 31 #[.agg #[.pointer none, .pointer (some ⟨g, 0, none⟩)], .pointer (some ⟨tb, o, none⟩)] w (RO w g F tb t (p ++ (old ++ q)).length ((dPacket st).map fun y => (p ++ (y.1.cells ++ q), y.2))) := by
  obtain ⟨a0, a1, a2, a3, rfl, _⟩ := packet_r_old hold
  generalize hn : (p ++ (_ ++ q)).length = n
  generalize hr : (dPacket st).map _ = r
  have HR := Lib.hid hr
  have HN := Lib.hid hn
  have HO := Lib.hid ho
  clear hr hn ho hold
  have S0 := S.non ((Chg.refl Non w).alloc (.cells #[.pointer none, .pointer (some ⟨g, 0, none⟩)] 84))
  have hw := S.nw (Nat.le_refl w.heap.size)
  have hx := Hb.new w 84 #[.pointer none, .pointer (some ⟨g, 0, none⟩)]
  have hx0 : (w.alloc (.cells #[.pointer none, .pointer (some ⟨g, 0, none⟩)] 84)).cell? ⟨w.heap.size, 0, none⟩ = some (.pointer none) := hx.cell 0
  have hx1 : (w.alloc (.cells #[.pointer none, .pointer (some ⟨g, 0, none⟩)] 84)).cell? ⟨w.heap.size, 1, none⟩ = some (.pointer (some ⟨g, 0, none⟩)) := hx.cell 1
  have S1 := S0.here
  obtain ⟨B, hB⟩ : ∃ B, B = w.alloc (.cells #[.pointer none, .pointer (some ⟨g, 0, none⟩)] 84) := ⟨_, rfl⟩
  clear hx S
  go_enter Try.func31, Try.ntmps31
  go_wp2_with fail
  rw [← hB] at S0 hx0 hx1 S1 ⊢
  clear hB
  have x0 := S1.chg.cell hx0 hw
  have x1 := S1.chg.cell hx1 hw
  go_wp2_with (first | (go_at_call 37; go_loud (refine (begin_r _ g F tb t _ st S1.here 6).mono ?_; rintro e w2 h2; rcases h2.cases with ⟨k, he, C, L', hL1, hL2⟩ | ⟨y, k, he, T2⟩; (subst he; obtain rfl : r = none := HR.out.symm.trans (by (simp only [Option.map_eq_none_iff] at k) <;> simp [dPacket, k]); exact ⟨rfl, rfl, (S0.chg.trans (S1.chg.trans C (fun _ h => .inl h)) (fun _ h => .inl h)), L', by (rw [hL1, ← HN.out]) <;> simp [bv_length, vH_length], hL2⟩); subst he; obtain ⟨z2, k2, rfl⟩ := Option.map_eq_some_iff.1 k; clear k)) | fail)
  have S2 := S1.trans T2
  clear T2 x0 x1
  clear h2
  go_wp2_with fail
  have D3 := S2.non ((Chg.refl Non w2).drew)
  have x0 := D3.chg.cell hx0 hw
  have x1 := D3.chg.cell hx1 hw
  go_region_held (fun w' => w'.cell? ⟨w.heap.size, 0, none⟩ = some (.pointer none) ∧ w'.cell? ⟨w.heap.size, 1, none⟩ = some (.pointer (some ⟨g, 0, none⟩))) (first | exact ⟨y0, y1⟩ | exact ⟨x0, x1⟩ | assumption) (first | (go_at_call 62; go_loud (refine (number_r _ g F tb o t (p) (a1 :: a2 :: a3 :: q) a0 z2 (D3.here.eq (by simp)) HO.out 1 1099511627776).mono ?_; rintro e w3 h3; have y0 := h3.chg.cell x0 hw; have y1 := h3.chg.cell x1 hw; rcases h3.cases with ⟨k, he, C, L', hL1, hL2⟩ | ⟨y, k, he, T3⟩; (subst he; obtain rfl : r = none := HR.out.symm.trans (by (simp only [Option.map_eq_none_iff] at k) <;> simp [dPacket, k2, k]); exact ⟨rfl, rfl, (S0.chg.trans (D3.chg.trans C (fun _ h => .inl h)) (fun _ h => .inl h)), L', by (rw [hL1, ← HN.out]) <;> simp [bv_length, vH_length], hL2⟩); subst he; obtain ⟨z3, k3, rfl⟩ := Option.map_eq_some_iff.1 k; clear k)) | fail)
  have S3 := D3.trans T3
  clear D3 T3 x0 x1 y0 y1
  clear h3
  go_wp2_with fail
  have D4 := S3.non ((Chg.refl Non w3).drew)
  have x0 := D4.chg.cell hx0 hw
  have x1 := D4.chg.cell hx1 hw
  go_region_held (fun w' => w'.cell? ⟨w.heap.size, 0, none⟩ = some (.pointer none) ∧ w'.cell? ⟨w.heap.size, 1, none⟩ = some (.pointer (some ⟨g, 0, none⟩))) (first | exact ⟨y0, y1⟩ | exact ⟨x0, x1⟩ | assumption) (first | (go_at_call 63; go_loud (refine (name_r _ g F tb (o + 1) t (p ++ (.int .i64 z3.1 :: [])) (a2 :: a3 :: q) a1 z3.2 (D4.here.eq (by simp)) (by rw [HO.out]; simp [bv_length, vH_length])).mono ?_; rintro e w4 h4; have y0 := h4.chg.cell x0 hw; have y1 := h4.chg.cell x1 hw; rcases h4.cases with ⟨k, he, C, L', hL1, hL2⟩ | ⟨y, k, he, T4⟩; (subst he; obtain rfl : r = none := HR.out.symm.trans (by (simp only [Option.map_eq_none_iff] at k) <;> simp [dPacket, k2, k3, k]); exact ⟨rfl, rfl, (S0.chg.trans (D4.chg.trans C (fun _ h => .inl h)) (fun _ h => .inl h)), L', by (rw [hL1, ← HN.out]) <;> simp [bv_length, vH_length], hL2⟩); subst he; obtain ⟨z4, k4, rfl⟩ := Option.map_eq_some_iff.1 k; clear k)) | fail)
  have S4 := D4.trans T4
  clear D4 T4 x0 x1 y0 y1
  clear h4
  go_wp2_with fail
  have D5 := S4.non ((Chg.refl Non w4).drew)
  have x0 := D5.chg.cell hx0 hw
  have x1 := D5.chg.cell hx1 hw
  go_region_held (fun w' => w'.cell? ⟨w.heap.size, 0, none⟩ = some (.pointer none) ∧ w'.cell? ⟨w.heap.size, 1, none⟩ = some (.pointer (some ⟨g, 0, none⟩))) (first | exact ⟨y0, y1⟩ | exact ⟨x0, x1⟩ | assumption) (first | (go_at_call 64; go_loud (refine (text_r _ g F tb (o + 2) t (p ++ (.int .i64 z3.1 :: .string z4.1 :: [])) (a3 :: q) a2 z4.2 (D5.here.eq (by simp)) (by rw [HO.out]; simp [bv_length, vH_length]) 256 (by omega)).mono ?_; rintro e w5 h5; have y0 := h5.chg.cell x0 hw; have y1 := h5.chg.cell x1 hw; rcases h5.cases with ⟨k, he, C, L', hL1, hL2⟩ | ⟨y, k, he, T5⟩; (subst he; obtain rfl : r = none := HR.out.symm.trans (by (simp only [Option.map_eq_none_iff] at k) <;> simp [dPacket, k2, k3, k4, k]); exact ⟨rfl, rfl, (S0.chg.trans (D5.chg.trans C (fun _ h => .inl h)) (fun _ h => .inl h)), L', by (rw [hL1, ← HN.out]) <;> simp [bv_length, vH_length], hL2⟩); subst he; obtain ⟨z5, k5, rfl⟩ := Option.map_eq_some_iff.1 k; clear k)) | fail)
  have S5 := D5.trans T5
  clear D5 T5 x0 x1 y0 y1
  clear h5
  go_wp2_with fail
  have D6 := S5.non ((Chg.refl Non w5).drew)
  have x0 := D6.chg.cell hx0 hw
  have x1 := D6.chg.cell hx1 hw
  go_region_held (fun w' => w'.cell? ⟨w.heap.size, 0, none⟩ = some (.pointer none) ∧ w'.cell? ⟨w.heap.size, 1, none⟩ = some (.pointer (some ⟨g, 0, none⟩))) (first | exact ⟨y0, y1⟩ | exact ⟨x0, x1⟩ | assumption) (first | (go_at_call 44; go_loud (refine (height_r _ g F tb (o + 3) t (p ++ (.int .i64 z3.1 :: .string z4.1 :: .string z5.1 :: [])) (q) a3 z5.2 (D6.here.eq (by simp)) (by rw [HO.out]; simp [bv_length, vH_length])).mono ?_; rintro e w6 h6; have y0 := h6.chg.cell x0 hw; have y1 := h6.chg.cell x1 hw; rcases h6.cases with ⟨k, he, C, L', hL1, hL2⟩ | ⟨y, k, he, T6⟩; (subst he; obtain rfl : r = none := HR.out.symm.trans (by (simp only [Option.map_eq_none_iff] at k) <;> simp [dPacket, k2, k3, k4, k5, k]); exact ⟨rfl, rfl, (S0.chg.trans (D6.chg.trans C (fun _ h => .inl h)) (fun _ h => .inl h)), L', by (rw [hL1, ← HN.out]) <;> simp [bv_length, vH_length], hL2⟩); subst he; obtain ⟨z6, k6, rfl⟩ := Option.map_eq_some_iff.1 k; clear k)) | fail)
  have S6 := D6.trans T6
  clear D6 T6 x0 x1 y0 y1
  clear h6
  obtain rfl : r = some (_, z6.2) := HR.out.symm.trans (by simp only [dPacket, k2, k3, k4, k5, k6, Option.bind_some, Option.map_some]; rfl)
  go_wp2
  go_end0
  refine ⟨rfl, (S0.trans S6).eq ?_⟩
  simp [Pk.cells]

end Go.Proofs.Yteglpgakikigiaa

/- Package forms: decoded[nuncio/api.Packet]. -/
namespace Go.Proofs.Yteglpgakikigiaa
open Go.RowKit
set_option linter.unusedVariables false
set_option linter.unusedSimpArgs false
set_option maxRecDepth 20000


theorem dPacket.row : (Try.prog.info? 49).map (·.size) = some 4 := by kernel_rfl
theorem dPacket.alloc0 (w : World) : (Instr.alloc 49 true (.tuple #[])).run Try.prog w = .ok (.pointer (some ⟨w.heap.size, 0, none⟩)) (w.alloc (.cells (Pk.zero.cells).toArray 49)) := by kernel_rfl
theorem dPacket.zlen : (Pk.zero.cells).length = 4 := by rfl

theorem catchDP_Packet (w : World) (p q : Nat) (L : List Value) (y : Value) (v : Value) (u : TypeId) (older : List PanicEntry) (hp : Hb w p 49 L.toArray) (hL : L.length = 4) (hq : Hb w q 25 #[y]) (hpq : q ≠ p) :
    CallsD Try.prog 65 #[.pointer (some ⟨p, 0, none⟩), .pointer (some ⟨q, 0, none⟩)] (.panicking ({ v := .iface u v, recovered := false } :: older)) w fun e u' w' =>
      e = .returned (.tuple #[]) ∧ u' = .panicking ({ v := .iface u v, recovered := true } :: older) ∧ w' = (((w.alloc (.cells (Pk.zero.cells).toArray 49)).setCells p 0 (Pk.zero.cells)).setCell ⟨q, 0, none⟩ (.int .i64 61)) := by
  have hz := dPacket.alloc0 w
  have hzl := dPacket.zlen
  have hrow := dPacket.row
  have hn := Hb.new w 49 (Pk.zero.cells).toArray
  have hp1 := hp.alloc (.cells (Pk.zero.cells).toArray 49)
  have hth := hp1.there0
  rw [hL] at hth
  have hq1 := (hq.alloc (.cells (Pk.zero.cells).toArray 49)).farCells hpq (Pk.zero.cells) 0
  have c1 : _ = some y := hq1.cell 0
  have f1 : _ = false := hq1.frozen 0
  refine callsD_of_wpS Try.func65 rfl fun c₀ cs hu => ?_
  apply wpS_seq
  apply wpS_region
  simp [wpOpsS, go_sem, recoverD, hu, Try.ntmps65, Exit.thenS]
  refine wpS_cond (t := true) (by simp [Act.eval, Array.replicate]) ?_
  simp only [if_true]
  refine wpS_of_wp ?_
  have hone : ∀ v ∈ (Pk.zero.cells), v.oneCell' = true := Pk.one _
  generalize Pk.zero.cells = z at *
  go_wp2_with (first | (with_reducible refine wpList_alloc_row rfl _ rfl z hz ?_) | (with_reducible refine wpList_load_mid rfl 49 _ rfl w.heap.size 0 rfl z _ hn.range0 Try.underlying49 rfl (by rw [hrow, hzl]) ?_) | (with_reducible refine wpList_store_mid rfl 49 _ _ rfl p 0 z.toArray rfl rfl (by rw [List.size_toArray, hzl]; exact hth) (by rw [List.size_toArray, hrow, hzl]) (one_mem hone) ?_))
  exact ⟨rfl, _, rfl, .tuple #[], by simp [results, Try.results65], rfl, rfl, rfl⟩

theorem catchDI_Packet (w : World) (p q : Addr) : CallsD Try.prog 65 #[.pointer (some p), .pointer (some q)] .returning w fun e u' w' => e = .returned (.tuple #[]) ∧ u' = .returning ∧ w' = w := by
  refine callsD_of_wpS Try.func65 rfl fun c₀ cs hu => ?_
  apply wpS_seq
  apply wpS_region
  simp [wpOpsS, go_sem, recoverD, hu, Try.ntmps65, Exit.thenS]
  refine wpS_cond (t := false) (by simp [Act.eval, Array.replicate]) ?_
  simp only [Bool.false_eq_true, if_false]
  refine wpS_of_wp (wp_skip ?_)
  cases c₀
  simp_all [bodyPostS, results, Try.results65]

/-- The error's way. -/
theorem decErr_Packet (w w2 : World) (h : Chg Non w w2) (L : List Value) (y : Value) (hp : Hb w2 w.heap.size 49 L.toArray) (hL : L.length = 4) (hq : Hb w2 (w.heap.size + 1) 25 #[y]) (r : Option (List Value)) (hr : r = none) (tmps : Array Value)
    (h4 : tmps.getD 4 undef = .pointer (some ⟨w.heap.size, 0, none⟩)) (h5 : tmps.getD 5 undef = .pointer (some ⟨w.heap.size + 1, 0, none⟩)) :
    Leaves Try.prog Try.f32 tmps (Dec w (Pk.zero.cells) r) [{ target := .fn (.func 65) #[.pointer (some ⟨w.heap.size, 0, none⟩), .pointer (some ⟨w.heap.size + 1, 0, none⟩)], args := #[] }] (.panicking bad) w2 := by
  subst hr
  refine leaves_cons (f := 65) (args := #[.pointer (some ⟨w.heap.size, 0, none⟩), .pointer (some ⟨w.heap.size + 1, 0, none⟩)]) (by simp) (by simp [go_sem]) ?_
  refine (catchDP_Packet w2 w.heap.size (w.heap.size + 1) L _ _ _ _ hp hL hq (by omega)).mono ?_
  rintro e u' w'' ⟨rfl, rfl, rfl⟩
  have hz : (Pk.zero.cells).length = 4 := dPacket.zlen
  have hb3 := ((hp.alloc (.cells (Pk.zero.cells).toArray 49)).sets0 (L' := Pk.zero.cells) (by rw [hL, hz])).far (p := ⟨w.heap.size + 1, 0, none⟩) (by simp) (.int .i64 61)
  have he3 := ((hq.alloc (.cells (Pk.zero.cells).toArray 49)).farCells (tb := w.heap.size) (by omega) (Pk.zero.cells) 0).set 0 (.int .i64 61)
  refine ⟨_, results_two rfl _ _ _ ⟨w.heap.size, 0, none⟩ ⟨w.heap.size + 1, 0, none⟩ _ _ h4 h5 (load_row hb3 Try.underlying49 rfl (by rw [dPacket.row, hz])) (load_errno (he3.cell 0)), ?_, rfl⟩
  have K := (Chg.setCells (S := fun k => k = w.heap.size ∨ k = w.heap.size + 1) (.inl rfl) (Pk.zero.cells) _ 0 ((Chg.refl _ w2).alloc (.cells (Pk.zero.cells).toArray 49))).setCell (p := ⟨w.heap.size + 1, 0, none⟩) (.inl (.inr rfl)) (.int .i64 61)
  exact h.trans K (fun j hj => .inr (by omega))

theorem decoded_Packet (w : World) (A : Option Addr) (n c : Nat) (bs : List UInt8) (r : Option (List Value × St)) (hn : n = bs.length) (hr : Rd w A bs) (hsz : bs.length ≤ 1000000000) (hlen : ∀ L s, r = some (L, s) → L.length = 4 ∧ ∀ v ∈ L, v.oneCell' = true)
    (H : ∀ (w1 : World) (g : Nat) (F : Nat → Prop), Rst w1 g F w.heap.size 49 (Pk.zero.cells) (some bs) w1 → Calls Try.prog 31 #[.agg #[.pointer none, .pointer (some ⟨g, 0, none⟩)], .pointer (some ⟨w.heap.size, 0, none⟩)] w1 (RO w1 g F w.heap.size 49 4 r)) :
    Calls Try.prog 32 #[.slice A n c, .func (.func 31) #[] #[]] w (Dec w (Pk.zero.cells) (whole r)) := by
  have hmf := mkf
  have hC0 := dw_chg w (Pk.zero.cells) 49
  have hb0 := dw_b w (Pk.zero.cells) 49
  have he0 := dw_e w (Pk.zero.cells) 49
  have hz := dPacket.alloc0 w
  have hrow := dPacket.row
  have HN := newReader_any (dw w (Pk.zero.cells) 49) A n c bs hn (hr.chg hC0 (fun _ _ f => f)) hsz
  generalize hR : whole r = R
  have HR := Lib.hid hR
  have HLE := Lib.hid hlen
  have HH := Lib.hid H
  have HNN := Lib.hid HN
  clear hR hlen H HN hn hr
  have hzz := dPacket.zlen
  go_enter_defers Try.func32, Try.ntmps32
  go_wp2_with (first | (with_reducible refine wpList_alloc_row rfl _ rfl (Pk.zero.cells) hz ?_))
  have hdw : dw w (Pk.zero.cells) 49 = (w.alloc (.cells (Pk.zero.cells).toArray 49)).alloc (.cells #[.int .i64 0] 25) := rfl
  rw [← hdw]
  have hds : (dw w (Pk.zero.cells) 49).heap.size = w.heap.size + 2 := by rw [hdw]; simp
  clear hdw
  generalize dw w (Pk.zero.cells) 49 = w0 at *
  refine HNN.out.mono ?_
  rintro e w1 ⟨g, F, rfl, hR1, hg, hF, hC1⟩
  have hb1 := hb0.chg hC1 (fun f => f)
  have he1 := he0.chg hC1 (fun f => f)
  have S1 : Rst w1 g F w.heap.size 49 (Pk.zero.cells) (some bs) w1 := ⟨hR1, hb1, Chg.refl _ _, by omega, fun h => by have := hF _ h; omega⟩
  have H1 := HH.out w1 g F S1
  have hne : ¬ Two g w.heap.size (w.heap.size + 1) := by rintro (h | h) <;> omega
  have hn01 : Chg Non w w1 := hC0.trans hC1 (fun _ f => f.elim)
  clear HNN hb0 he0 hC0 hC1 HH S1
  go_wp2_with fail
  refine H1.mono ?_
  rintro e w2 h2
  have he2 := he1.chg h2.chg hne
  have hn02 : Chg Non w w2 := hn01.trans h2.chg (fun j hj => .inr (by rcases hj with rfl | rfl <;> omega))
  clear H1 he1 hb1
  rcases h2.cases with ⟨k, rfl, _, L', hL1, hL2⟩ | ⟨⟨L, s⟩, k, rfl, T⟩
  · have hRn : R = none := HR.out.symm.trans (by rw [k]; rfl)
    go_wp2
    refine decErr_Packet w w2 hn02 L' _ hL2 hL1 he2 _ rfl _ ?_ ?_ <;> rfl
  · obtain ⟨hLn, hL1⟩ := HLE.out L s k
    clear HLE h2
    go_wp2_with fail
    refine (endR_any _ g F s T.rdr).mono ?_
    rintro e w3 ⟨rfl, rfl⟩
    have hb2 : Hb _ w.heap.size 49 L.toArray := T.row
    by_cases hs : s = some []
    · have hRs : R = some L := HR.out.symm.trans (by rw [k, hs]; rfl)
      have hev : endv s = 0 := by unfold endv; rw [if_pos hs]
      have hth := hb2.there0
      rw [hLn] at hth
      have hLs : L.toArray.size = 4 := by rw [List.size_toArray, hLn]
      rw [hev]
      have hb3 := hb2.sets0 (L' := L) rfl
      have he3 := he2.farCells (tb := w.heap.size) (by omega) L 0
      have c3 : _ = some (Value.int .i64 0) := he3.cell 0
      have f3 : _ = false := he3.frozen 0
      have hrg := hb2.range0
      clear hev hs HR
      go_wp2_with (first | (go_at_call 35; refine (insist_yes _).mono ?_; rintro e w5 ⟨rfl, rfl⟩) | (with_reducible refine wpList_load_mid rfl 49 _ rfl w.heap.size 0 rfl L _ hrg Try.underlying49 rfl (by rw [hrow, hLn]) ?_; refine wpList_store_mid rfl 49 _ _ rfl w.heap.size 0 L.toArray rfl rfl (by rw [hLs]; exact hth) (by rw [hLs, hrow]) (one_mem hL1) ?_) | (with_reducible refine wpList_store_mid rfl 49 _ _ rfl w.heap.size 0 L.toArray rfl rfl (by rw [hLs]; exact hth) (by rw [hLs, hrow]) (one_mem hL1) ?_))
      refine leaves_cons (f := 65) (args := #[.pointer (some ⟨w.heap.size, 0, none⟩), .pointer (some ⟨w.heap.size + 1, 0, none⟩)]) (by simp) (by simp [go_sem]) ?_
      refine (catchDI_Packet _ ⟨w.heap.size, 0, none⟩ ⟨w.heap.size + 1, 0, none⟩).mono ?_
      rintro e u' w'' ⟨rfl, rfl, rfl⟩
      have hb4 := hb3.far (p := ⟨w.heap.size + 1, 0, none⟩) (by simp) (.int .i64 0)
      have he4 := he3.set 0 (.int .i64 0)
      refine ⟨_, results_two rfl _ _ _ ⟨w.heap.size, 0, none⟩ ⟨w.heap.size + 1, 0, none⟩ _ _ rfl rfl (load_row hb4 Try.underlying49 rfl (by rw [hrow, hLn])) (load_errno (he4.cell 0)), ?_, by rw [hRs]; rfl⟩
      exact hn02.trans ((Chg.setCells (S := fun k => k = w.heap.size ∨ k = w.heap.size + 1) (.inl rfl) L _ 0 (Chg.refl _ _)).setCell (p := ⟨w.heap.size + 1, 0, none⟩) (.inl (.inr rfl)) (.int .i64 0)) (fun j hj => .inr (by omega))
    · have hRn : R = none := HR.out.symm.trans (by
        rw [k]
        match s, hs with
        | none, _ => rfl
        | some (_ :: _), _ => rfl)
      have hev : endv s = 21 := by unfold endv; rw [if_neg hs]
      rw [hev]
      clear hev hs HR
      go_wp2_with (go_at_call 35; refine (insist_no _).mono ?_; rintro e w5 ⟨rfl, rfl⟩)
      refine decErr_Packet w _ hn02 L _ hb2 hLn he2 _ rfl _ ?_ ?_ <;> rfl
end Go.Proofs.Yteglpgakikigiaa

/- Package forms: packets, written: contracts. -/
namespace Go.Proofs.Yteglpgakikigiaa
open Go.RowKit
set_option linter.unusedVariables false
set_option linter.unusedSimpArgs false
set_option maxRecDepth 20000
set_option maxHeartbeats 1600000 in
theorem packet_w (g : Nat) (l : List UInt8) (w : World) (v : Value) (b o : Nat) (x : Pk) (h : Wri w g v (some l)) (hc : w.rangeAt b o x.cells) (hb : ¬ Wft g v b) (hbl : b < w.heap.size) (ox : x.Ok) (hl : l.length ≤ 100000) :
    Calls Try.prog 31 #[.agg #[.pointer (some ⟨g, 0, none⟩), .pointer none], .pointer (some ⟨b, o, none⟩)] w (WO w g v x.right (l ++ x.enc)) := by
  have S0 := (Wst.here h).non ((Chg.refl Non w).alloc (.cells #[.pointer (some ⟨g, 0, none⟩), .pointer none] 84))
  have R0 := ((Chg.refl Non w).alloc (.cells #[.pointer (some ⟨g, 0, none⟩), .pointer none] 84)).range' hc (fun f => f)
  have hw := h.nnew (Nat.le_refl w.heap.size)
  have hx := Hb.new w 84 #[.pointer (some ⟨g, 0, none⟩), .pointer none]
  have hx0 : (w.alloc (.cells #[.pointer (some ⟨g, 0, none⟩), .pointer none] 84)).cell? ⟨w.heap.size, 0, none⟩ = some (.pointer (some ⟨g, 0, none⟩)) := hx.cell 0
  have hx1 : (w.alloc (.cells #[.pointer (some ⟨g, 0, none⟩), .pointer none] 84)).cell? ⟨w.heap.size, 1, none⟩ = some (.pointer none) := hx.cell 1
  have hBl : b < (w.alloc (.cells #[.pointer (some ⟨g, 0, none⟩), .pointer none] 84)).heap.size := by simp; omega
  have hBw : w.heap.size < (w.alloc (.cells #[.pointer (some ⟨g, 0, none⟩), .pointer none] 84)).heap.size := by simp
  have S1 := Wst.here (S0.wri)
  obtain ⟨B, hB⟩ : ∃ B, B = w.alloc (.cells #[.pointer (some ⟨g, 0, none⟩), .pointer none] 84) := ⟨_, rfl⟩
  obtain ⟨f0, f1, f2, f3⟩ := pk_facts R0
  rw [← hB] at f0 f1 f2 f3
  generalize hok : x.right = ok
  have HOK := Lib.hid hok
  clear hok hx hc
  go_enter Try.func31, Try.ntmps31
  go_wp2_with fail
  rw [← hB] at S0 R0 hx0 hx1 hBl hBw S1 ⊢
  clear hB
  have x0 := S1.cell hx0 hw
  have x1 := S1.cell hx1 hw
  have hwn := S1.nw hw hBw
  go_wp2_with (first | (go_at_call 37; refine (begin_w g l _ v 6 S1.wri ⟨by omega, by omega⟩ (by omega)).mono ?_; rintro e w2 h2; obtain ⟨rfl, v2, T2⟩ := h2) | fail)
  have S2 := S1.trans T2
  clear T2 x0 x1 hwn
  go_wp2_with fail
  have D3 := S2.non ((Chg.refl Non w2).drew)
  have x0 := D3.cell hx0 hw
  have x1 := D3.cell hx1 hw
  have hwn := D3.nw hw hBw
  go_region_held (fun w' => w'.cell? ⟨w.heap.size, 0, none⟩ = some (.pointer (some ⟨g, 0, none⟩)) ∧ w'.cell? ⟨w.heap.size, 1, none⟩ = some (.pointer none)) (first | exact ⟨y0, y1⟩ | exact ⟨x0, x1⟩ | assumption) (first | (go_at_call 62; go_loud (refine (numberI_w g _ _ v2 b o x.seq 1 1099511627776 D3.wri (D3.cell f0 hb) (D3.nw hb hBl) ox.seq (by simp [be_length, num_length, tx_length, bytes_len]; omega)).mono ?_; rintro e w3 h3; have y0 := h3.chg.cell x0 hwn; have y1 := h3.chg.cell x1 hwn; rcases h3.cases with ⟨k3, he, C⟩ | ⟨k3, he, v3, T3⟩; (subst he; obtain rfl : ok = false := HOK.out.symm.trans (by simp [Pk.right, k3]); exact ⟨rfl, rfl, S0.chg.trans (D3.chg.trans C D3.wft) S0.wft⟩); subst he)) | fail)
  have S3 := D3.trans T3
  clear D3 T3 x0 x1 hwn y0 y1
  clear h3
  go_wp2_with fail
  have D4 := S3.non ((Chg.refl Non w3).drew)
  have x0 := D4.cell hx0 hw
  have x1 := D4.cell hx1 hw
  have hwn := D4.nw hw hBw
  go_region_held (fun w' => w'.cell? ⟨w.heap.size, 0, none⟩ = some (.pointer (some ⟨g, 0, none⟩)) ∧ w'.cell? ⟨w.heap.size, 1, none⟩ = some (.pointer none)) (first | exact ⟨y0, y1⟩ | exact ⟨x0, x1⟩ | assumption) (first | (go_at_call 63; go_loud (refine (name_w g _ _ v3 b (o + 1) x.from D4.wri (D4.cell f1 hb) (D4.nw hb hBl) ox.from (by simp [be_length, num_length, tx_length, bytes_len]; omega)).mono ?_; rintro e w4 h4; have y0 := h4.chg.cell x0 hwn; have y1 := h4.chg.cell x1 hwn; rcases h4.cases with ⟨k4, he, C⟩ | ⟨k4, he, v4, T4⟩; (subst he; obtain rfl : ok = false := HOK.out.symm.trans (by simp [Pk.right, k3, k4]); exact ⟨rfl, rfl, S0.chg.trans (D4.chg.trans C D4.wft) S0.wft⟩); subst he)) | fail)
  have S4 := D4.trans T4
  clear D4 T4 x0 x1 hwn y0 y1
  clear h4
  go_wp2_with fail
  have D5 := S4.non ((Chg.refl Non w4).drew)
  have x0 := D5.cell hx0 hw
  have x1 := D5.cell hx1 hw
  have hwn := D5.nw hw hBw
  go_region_held (fun w' => w'.cell? ⟨w.heap.size, 0, none⟩ = some (.pointer (some ⟨g, 0, none⟩)) ∧ w'.cell? ⟨w.heap.size, 1, none⟩ = some (.pointer none)) (first | exact ⟨y0, y1⟩ | exact ⟨x0, x1⟩ | assumption) (first | (go_at_call 64; go_loud (refine (textI_w g _ _ v4 b (o + 2) x.data 256 D5.wri (D5.cell f2 hb) (D5.nw hb hBl) ox.data (by omega) (by simp [be_length, num_length, tx_length, bytes_len]; have := nameOk_size k4; omega)).mono ?_; rintro e w5 h5; have y0 := h5.chg.cell x0 hwn; have y1 := h5.chg.cell x1 hwn; rcases h5.cases with ⟨k5, he, C⟩ | ⟨k5, he, v5, T5⟩; (subst he; obtain rfl : ok = false := HOK.out.symm.trans (by simp [Pk.right, k3, k4, k5]); exact ⟨rfl, rfl, S0.chg.trans (D5.chg.trans C D5.wft) S0.wft⟩); subst he)) | fail)
  have S5 := D5.trans T5
  clear D5 T5 x0 x1 hwn y0 y1
  clear h5
  go_wp2_with fail
  have D6 := S5.non ((Chg.refl Non w5).drew)
  have x0 := D6.cell hx0 hw
  have x1 := D6.cell hx1 hw
  have hwn := D6.nw hw hBw
  go_region_held (fun w' => w'.cell? ⟨w.heap.size, 0, none⟩ = some (.pointer (some ⟨g, 0, none⟩)) ∧ w'.cell? ⟨w.heap.size, 1, none⟩ = some (.pointer none)) (first | exact ⟨y0, y1⟩ | exact ⟨x0, x1⟩ | assumption) (first | (go_at_call 44; go_loud (refine (height_w g _ _ v5 b (o + 3) x.timeout D6.wri (D6.cell f3 hb) (D6.nw hb hBl) ox.timeout (by simp [be_length, num_length, tx_length, bytes_len]; have := nameOk_size k4; have := of_decide_eq_true k5; omega)).mono ?_; rintro e w6 h6; have y0 := h6.chg.cell x0 hwn; have y1 := h6.chg.cell x1 hwn; rcases h6.cases with ⟨k6, he, C⟩ | ⟨k6, he, v6, T6⟩; (subst he; obtain rfl : ok = false := HOK.out.symm.trans (by simp [Pk.right, k3, k4, k5, k6]); exact ⟨rfl, rfl, S0.chg.trans (D6.chg.trans C D6.wft) S0.wft⟩); subst he)) | fail)
  have S6 := D6.trans T6
  clear D6 T6 x0 x1 hwn y0 y1
  clear h6
  obtain rfl : ok = true := HOK.out.symm.trans (by simp [Pk.right, k3, k4, k5, k6])
  go_wp2
  go_end0
  refine ⟨rfl, v6, ?_⟩
  have S := S0.trans S6
  simpa [Pk.enc, List.append_assoc] using S

end Go.Proofs.Yteglpgakikigiaa
