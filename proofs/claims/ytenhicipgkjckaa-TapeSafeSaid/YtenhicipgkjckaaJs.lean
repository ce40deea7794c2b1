/- The document's tape: Pick, Append, Sync, Trim. (by gen10s.py) -/
import Derived.Test.YtenhicipgkjckaaJr
namespace Go.Proofs.Ytenhicipgkjckaa
open Go.RowKit
set_option linter.unusedVariables false
set_option linter.unusedSimpArgs false
set_option maxRecDepth 20000

/-- A call that may change the document's tape. -/
def DidR (w w' : World) (m : Nat) (G : Nat → Prop) (r : Int × List St) (e : Ending) : Prop :=
  e = .returned (.int .i64 r.1) ∧ Chg G w w' ∧ ∃ G', RP w' m G' r.2 ∧ ∀ j, G' j → G j ∨ w.heap.size ≤ j

/-- append(append([]T{}, b..), d..): the first, the second. -/
theorem app_first {e : TypeId} {W w : World} {va : Value} {b : List UInt8} (ho : Own e w va ([] ++ b)) (hg : (W.alloc (.cells #[] e)).grownBy w (Value.slice (some ⟨W.heap.size, 0, none⟩) 0 0).ownBlock) (hloc : va.ownBlock = (Value.slice (some ⟨W.heap.size, 0, none⟩) 0 0).ownBlock ∨ va.ownBlock = some (W.alloc (.cells #[] e)).heap.size) :
    Own e w va b ∧ Chg Non W w ∧ ∀ j, vbl va j → W.heap.size ≤ j := by
  refine ⟨by simpa using ho, ((Chg.refl Non W).alloc _).trans ((Chg.refl (fun j => j = W.heap.size) _).grown hg (fun k hk => .inl (by have : some W.heap.size = some k := hk.symm ▸ rfl; injection this with this; exact this.symm))) (fun j hj => .inr (by omega)), fun j hj => ?_⟩
  unfold vbl at hj
  rcases hloc with h | h
  · rw [h] at hj; have : some W.heap.size = some j := hj; injection this with this; omega
  · rw [h] at hj; injection hj with hj; simp at hj; omega
theorem app_second {e : TypeId} {W w3 w4 : World} {va vb : Value} {b d : List UInt8} (k : Chg Non W w3) (hv : ∀ j, vbl va j → W.heap.size ≤ j) (ho : Own e w4 vb (b ++ d)) (hg : w3.grownBy w4 va.ownBlock) (hloc : vb.ownBlock = va.ownBlock ∨ vb.ownBlock = some w3.heap.size) :
    ∃ Ab cb, vb = .slice Ab (b.length + d.length) cb ∧ Chg Non W w4 ∧ ∀ j, vbl vb j → W.heap.size ≤ j := by
  obtain ⟨Ab, cb, hvb, _⟩ := ho.slice
  refine ⟨Ab, cb, by rw [hvb, List.length_append], k.trans ((Chg.refl (fun j => vbl va j) w3).grown hg (fun k hk => .inl hk)) (fun j hj => .inr (hv j hj)), fun j hj => ?_⟩
  rcases hloc with h | h
  · exact hv j (by unfold vbl at hj ⊢; rw [← h]; exact hj)
  · unfold vbl at hj
    rw [h] at hj
    injection hj with hj
    have := k.size
    omega
theorem own_zero (w : World) (e : TypeId) : Own e (w.alloc (.cells #[] e)) (.slice (some ⟨w.heap.size, 0, none⟩) 0 0) [] :=
  ⟨rfl, .inr ⟨w.heap.size, 0, #[], rfl, Nat.zero_le _, heap_alloc_new w _, Nat.le_refl _, by unfold maxLen; omega, rfl, rfl⟩⟩

theorem ent_one {x : Ent} (h : x.v.oneCell' = true) : ∀ u ∈ x.cells, u.oneCell' = true := by
  intro u hu
  simp only [Ent.cells, List.mem_cons, List.not_mem_nil, or_false] at hu
  rcases hu with rfl | rfl
  · exact h
  · rfl
/-- What stands ahead of the append of one more, and behind it. -/
structure Rpre (wb : World) (m : Nat) (vl : Value) (l : List Ent) (x : Ent) : Prop where
  own : OwnL 47 2 Ent.cells (wb.drew.alloc (.cells x.cells.toArray 47)) vl l
  box : Hb (wb.drew.alloc (.cells x.cells.toArray 47)) m 50 #[vl]
  news : ∀ j u, x.cells[j]? = some u → (wb.drew.alloc (.cells x.cells.toArray 47)).cell? ((⟨wb.heap.size, 0, none⟩ : Addr).add j) = some u
  ne : ¬ vbl vl m
theorem rpre {wb : World} {m : Nat} {G : Nat → Prop} {vl : Value} {l : List Ent} (t : Rp 50 47 wb m G vl l) (x : Ent) : Rpre wb m vl l x := by
  have td := t.chg (((Chg.refl Non wb).drew).alloc (.cells x.cells.toArray 47)) (fun _ _ f => f)
  have hx : Hb (wb.drew.alloc (.cells x.cells.toArray 47)) wb.heap.size 47 #[x.v, .int .i64 (x.s : Int)] := Hb.new wb.drew _ _
  exact ⟨td.row, td.box, news2 hx, t.row.ne t.box (by decide)⟩
theorem rpost {w wb : World} {m : Nat} {G : Nat → Prop} {vl : Value} {l : List Ent} {H : List St} (t : Rp 50 47 w m G vl l) (hH : l.map Ent.st = H) (k : Chg Non w wb) (x : Ent) (hx : Sl wb x.v x.b) (blk : ∀ j, vbl x.v j → (G j ∧ j ≠ m ∧ ¬ vbl vl j ∨ w.heap.size ≤ j) ∧ j < wb.heap.size) (ok : x.s ≤ x.b.length ∧ x.b.length ≤ 1048576)
    {g9 cap9 : Nat} {w9 : World} (o9 : w9.ownsRow 0 47 2 (.slice (some ⟨g9, 0, none⟩) (l.length + 1) cap9) (l.length + 1) (l.flatMap Ent.cells ++ x.cells)) (r9 : (wb.drew.alloc (.cells x.cells.toArray 47)).grownBy w9 vl.ownBlock) (b9 : vl.ownBlock = some g9 ∨ g9 = (wb.drew.alloc (.cells x.cells.toArray 47)).heap.size) :
    Chg G w (w9.setCell ⟨m, 0, none⟩ (.slice (some ⟨g9, 0, none⟩) (l.length + 1) cap9)) ∧ ∃ G', RP (w9.setCell ⟨m, 0, none⟩ (.slice (some ⟨g9, 0, none⟩) (l.length + 1) cap9)) m G' (H ++ [x.st]) ∧ ∀ j, G' j → G j ∨ w.heap.size ≤ j := by
  have p := rpre (t.chg k (fun _ _ f => f)) x
  have hbs : (wb.drew.alloc (.cells x.cells.toArray 47)).heap.size = wb.heap.size + 1 := by simp
  have hml := t.box.lt
  have hks := k.size
  have b9' : vbl vl g9 ∨ g9 = wb.heap.size + 1 := by
    rcases b9 with h | h
    · exact .inl h
    · exact .inr (by rw [h, hbs])
  have hb9 := p.box.grown r9 (fun e => p.ne e.symm)
  have n9 : g9 ≠ m := fun e => by
    subst e
    rcases b9' with h | h
    · exact p.ne h
    · omega
  have ks := (Chg.refl (fun j => j = m) w9).setCell (p := ⟨m, 0, none⟩) (.inl rfl) (.slice (some ⟨g9, 0, none⟩) (l.length + 1) cap9)
  have k9 := (Chg.refl (fun j => vbl vl j) _).grown r9 (fun k hk => .inl hk)
  have kd : Chg (fun j => j = m ∨ vbl vl j) wb (wb.drew.alloc (.cells x.cells.toArray 47)) := (((Chg.refl Non wb).drew).alloc _).mono (fun _ f => f.elim)
  have kk := (kd.trans k9 (fun j hj => .inl (.inr hj))).trans ks (fun j hj => .inl (.inl hj))
  have o' : OwnL 47 2 Ent.cells w9 (.slice (some ⟨g9, 0, none⟩) (l.length + 1) cap9) (l ++ [x]) := by
    unfold OwnL
    rw [List.length_append, List.flatMap_append]
    simpa using o9
  have hp := t.push k hx blk ok (hb9.set 0 _) (o'.chg ks (fun j hj e => by
    have : some g9 = some j := hj
    injection this with this
    omega)) kk (fun j hj => by
    have : some g9 = some j := hj
    injection this with this
    subst this
    rcases b9' with h | h
    · exact .inl h
    · exact .inr (by omega))
  refine ⟨(k.mono (fun _ f => f.elim)).trans kk (fun j hj => .inl ?_), _, ⟨_, l, x, hp, by rw [List.map_append, hH]; rfl⟩, ?_⟩
  · rcases hj with rfl | hj
    · exact t.self
    · exact t.rowG j hj
  · rintro j (h | h)
    · exact .inl h
    · exact .inr h.1

set_option maxHeartbeats 1600000 in
theorem rSync_any (w : World) (m : Nat) (G : Nat → Prop) (H : List St) (t : RP w m G H) (hH : H.length ≤ 1000) : Calls Try.prog 16 #[.pointer (some ⟨m, 0, none⟩)] w fun e w' => DidR w w' m G (mSync H) e := by
  obtain ⟨i, z, hi, hz, hzs, hsi, hby⟩ := was_parts
  obtain ⟨vl, h, x, t, hHx⟩ := t
  have hl : h.length ≤ 1000 := by have := len_of hHx; omega
  unfold mSync
  rw [last_of hHx]
  have HL := last_any w m G vl h x t hl
  obtain ⟨A, c, hv, h1, h2, h3⟩ := t.rd x (by simp)
  have hok := t.ok x (by simp)
  have hap := t.apart x (by simp)
  rw [hv] at HL
  obtain ⟨xv, b, s⟩ := x
  simp only at hv h1 h3 hok hap HL ⊢
  subst hv
  generalize hls : h ++ [⟨.slice A b.length c, b, s⟩] = l at *
  have hll : l.length ≤ 1001 := by rw [← hls, List.length_append, List.length_singleton]; omega
  have HT := Lib.hid t
  have HHX := Lib.hid hHx
  clear hls hHx
  go_enter Try.func16, Try.ntmps16
  go_wp2_with fail
  refine HL.mono ?_
  rintro e w1 ⟨rfl, k1⟩
  go_wp2_with fail
  have kb := k1.alloc (.cells #[.slice A b.length c, .int .i64 (s : Int)] 47)
  have bx := Hb.new w1 47 #[.slice A b.length c, .int .i64 (s : Int)]
  generalize w1.heap.size = nb at *
  generalize (w1.alloc (.cells #[.slice A b.length c, .int .i64 (s : Int)] 47)) = wb at *
  have tb := t.chg kb (fun _ _ f => f)
  have x0 : wb.cell? ⟨nb, 0, none⟩ = some (.slice A b.length c) := bx.cell 0
  have x1 : wb.cell? ⟨nb, 1, none⟩ = some (.int .i64 (s : Int)) := bx.cell 1
  have hn1000 : l.length ≤ 1001 := hll
  have HKB := Lib.hid kb
  have HR := Lib.hid h3
  clear k1 HL t kb bx h3
  have P := rpre tb ⟨.slice A b.length c, b, b.length⟩
  have tbl := tb.row.slice (fun x _ => Ent.cells_len x) (by omega)
  obtain ⟨Ap, cp, hvl, _⟩ := tbl
  have cL : wb.cell? ⟨m, 0, none⟩ = some vl := tb.box.cell 0
  have cL2 : (wb.alloc (.cells #[.slice A b.length c, .int .i64 (b.length : Int)] 47)).cell? ⟨m, 0, none⟩ = some vl := (rpre tb ⟨.slice A b.length c, b, b.length⟩).box.cell 0
  have hml := tb.box.lt
  have HP := Lib.hid P
  have HI := Lib.hid (And.intro hi (And.intro hz (And.intro hzs (And.intro hsi hby))))
  have HTB := Lib.hid tb
  clear P tb hi hz hzs hsi hby hvl
  go_region_law (refine step_append_lies _ (by rfl) _ _ 48 (by rfl) 0 47 i z 2 32 Try.underlying48 HI.out.1 HI.out.2.1 HI.out.2.2.2.1 HI.out.2.2.2.2 HI.out.2.2.1 (by omega) vl l.length (l.flatMap Ent.cells) (by rfl) HP.out.own ⟨wb.heap.size, 0, none⟩ 1 1 (Ent.cells ⟨.slice A b.length c, b, b.length⟩) (by rfl) (by rfl) HP.out.news (ent_one rfl) (by omega) (by unfold maxLen; omega) (by omega) (Nat.zero_le _) _ rfl ?_; intro g9 cap9 w9 o9 r9 b9 l9; have hb9 := HP.out.box.grown r9 (fun e => HP.out.ne e.symm); have f9 : w9.frozen? ⟨m, 0, none⟩ = false := hb9.frozen 0; have c9 : w9.cell? ⟨m, 0, none⟩ = some vl := hb9.cell 0)
  all_goals
    go_wp2
    go_ret
    exact ⟨rfl, rpost HT.out HHX.out HKB.out ⟨.slice A b.length c, b, b.length⟩ ⟨A, c, rfl, h1, h2, HR.out.chg HKB.out (fun _ _ f => f)⟩ (fun j hj => ⟨.inl (hap j hj), Nat.lt_of_lt_of_le (HT.out.lt j (hap j hj).1) HKB.out.size⟩) ⟨Nat.le_refl _, hok.2⟩ o9 r9 b9⟩

set_option maxHeartbeats 1600000 in
theorem rTrim_any (w : World) (m : Nat) (G : Nat → Prop) (H : List St) (t : RP w m G H) (n : Int) (hn1 : -9223372036854775808 ≤ n) (hn2 : n ≤ 9223372036854775807) (hH : H.length ≤ 1000) : Calls Try.prog 18 #[.pointer (some ⟨m, 0, none⟩), .int .i64 n] w fun e w' => DidR w w' m G (mTrim H n) e := by
  obtain ⟨i, z, hi, hz, hzs, hsi, hby⟩ := was_parts
  have hRP := t
  obtain ⟨vl, h, x, t, hHx⟩ := t
  have hl : h.length ≤ 1000 := by have := len_of hHx; omega
  have hla : lastS H = (x.b, x.s) := last_of hHx
  have HL := last_any w m G vl h x t hl
  obtain ⟨A, c, hv, h1, h2, h3⟩ := t.rd x (by simp)
  have hok := t.ok x (by simp)
  have hap := t.apart x (by simp)
  rw [hv] at HL
  obtain ⟨xv, b, s⟩ := x
  simp only at hv h1 h3 hok hap HL hla ⊢
  subst hv
  generalize hls : h ++ [⟨.slice A b.length c, b, s⟩] = l at *
  have hll : l.length ≤ 1001 := by rw [← hls, List.length_append, List.length_singleton]; omega
  have HT := Lib.hid t
  have HHX := Lib.hid hHx
  have HLA := Lib.hid hla
  have HRP := Lib.hid hRP
  have hbm : b.length ≤ 1048576 := hok.2
  clear hls hHx hla hRP
  by_cases hneg : n < 0
  · rw [mTrim_no (.inl hneg)]
    clear t h3
    go_enter Try.func18, Try.ntmps18
    go_wp2_with fail
    refine HL.mono ?_
    rintro e w1 ⟨rfl, k1⟩
    go_wp2
    go_ret
    exact ⟨rfl, (k1.alloc _).mono (fun _ f => f.elim), G, HRP.out.chg (k1.alloc _) (fun _ _ f => f), fun j hj => .inl hj⟩
  by_cases hbig : (b.length : Int) < n
  · rw [mTrim_no (.inr (by rw [HLA.out]; exact hbig))]
    clear t h3
    go_enter Try.func18, Try.ntmps18
    go_wp2_with fail
    refine HL.mono ?_
    rintro e w1 ⟨rfl, k1⟩
    go_wp2
    go_ret
    exact ⟨rfl, (k1.alloc _).mono (fun _ f => f.elim), G, HRP.out.chg (k1.alloc _) (fun _ _ f => f), fun j hj => .inl hj⟩
  obtain ⟨k, rfl⟩ := Int.eq_ofNat_of_zero_le (by omega : 0 ≤ n)
  have hkl : k ≤ b.length := by omega
  rw [mTrim_yes (by rw [HLA.out]; exact hkl), HLA.out]
  have hkc : (k : Int) ≤ (c : Int) := by omega
  have hR : Rd w A (b.take k) := h3.take k
  have hkk : (b.take k).length = k := by rw [List.length_take]; omega
  have HR := Lib.hid hR
  have HKK := Lib.hid hkk
  clear hR hkk h3
  go_enter Try.func18, Try.ntmps18
  go_wp2_with fail
  refine HL.mono ?_
  rintro e w1 ⟨rfl, k1⟩
  go_wp2_with fail
  have kb := k1.alloc (.cells #[.slice A b.length c, .int .i64 (s : Int)] 47)
  have bx := Hb.new w1 47 #[.slice A b.length c, .int .i64 (s : Int)]
  generalize w1.heap.size = nb at *
  generalize (w1.alloc (.cells #[.slice A b.length c, .int .i64 (s : Int)] 47)) = wb at *
  have x0 : wb.cell? ⟨nb, 0, none⟩ = some (.slice A b.length c) := bx.cell 0
  have x1 : wb.cell? ⟨nb, 1, none⟩ = some (.int .i64 (s : Int)) := bx.cell 1
  have tb := t.chg kb (fun _ _ f => f)
  have HKB := Lib.hid kb
  have hnb : nb < wb.heap.size := bx.lt
  clear k1 HL t kb bx
  have P := rpre tb ⟨.slice A k c, b.take k, k⟩
  have tbl := tb.row.slice (fun x _ => Ent.cells_len x) (by omega)
  obtain ⟨Ap, cp, hvl, _⟩ := tbl
  have cL : wb.cell? ⟨m, 0, none⟩ = some vl := tb.box.cell 0
  have cL2 : (wb.alloc (.cells #[.slice A k c, .int .i64 (k : Int)] 47)).cell? ⟨m, 0, none⟩ = some vl := (rpre tb ⟨.slice A k c, b.take k, k⟩).box.cell 0
  have hml := tb.box.lt
  have HP := Lib.hid P
  have HI := Lib.hid (And.intro hi (And.intro hz (And.intro hzs (And.intro hsi hby))))
  have HTB := Lib.hid tb
  clear P tb hi hz hzs hsi hby hvl
  go_region_law (refine step_append_lies _ (by rfl) _ _ 48 (by rfl) 0 47 i z 2 32 Try.underlying48 HI.out.1 HI.out.2.1 HI.out.2.2.2.1 HI.out.2.2.2.2 HI.out.2.2.1 (by omega) vl l.length (l.flatMap Ent.cells) (by rfl) HP.out.own ⟨wb.heap.size, 0, none⟩ 1 1 (Ent.cells ⟨.slice A k c, b.take k, k⟩) (by rfl) (by rfl) HP.out.news (ent_one rfl) (by omega) (by unfold maxLen; omega) (by omega) (Nat.zero_le _) _ rfl ?_; intro g9 cap9 w9 o9 r9 b9 l9; have hb9 := HP.out.box.grown r9 (fun e => HP.out.ne e.symm); have f9 : w9.frozen? ⟨m, 0, none⟩ = false := hb9.frozen 0; have c9 : w9.cell? ⟨m, 0, none⟩ = some vl := hb9.cell 0)
  all_goals
    go_wp2
    go_ret
    exact ⟨rfl, rpost HT.out HHX.out HKB.out ⟨.slice A k c, b.take k, k⟩ ⟨A, c, by show Value.slice A k c = _; rw [HKK.out], by show (b.take k).length ≤ c; rw [HKK.out]; omega, h2, HR.out.chg HKB.out (fun _ _ f => f)⟩ (fun j hj => ⟨.inl (hap j (vbl_to hj)), Nat.lt_of_lt_of_le (HT.out.lt j (hap j (vbl_to hj)).1) HKB.out.size⟩) ⟨by show k ≤ (b.take k).length; rw [HKK.out]; exact Nat.le_refl _, by show (b.take k).length ≤ _; rw [HKK.out]; omega⟩ o9 r9 b9⟩

set_option maxHeartbeats 1600000 in
theorem rAppend_any (w : World) (m : Nat) (G : Nat → Prop) (H : List St) (t : RP w m G H) (B : Option Addr) (q qc : Nat) (d : List UInt8) (hq : q = d.length) (hd : d.length ≤ maxLen) (hB : Rd w B d) (hH : H.length ≤ 1000) : Calls Try.prog 15 #[.pointer (some ⟨m, 0, none⟩), .slice B q qc] w fun e w' => DidR w w' m G (mAppend H d) e := by
  subst hq
  obtain ⟨i, z, hi, hz, hzs, hsi, hby⟩ := was_parts
  have hRP := t
  obtain ⟨vl, h, x, t, hHx⟩ := t
  have hl : h.length ≤ 1000 := by have := len_of hHx; omega
  have hla : lastS H = (x.b, x.s) := last_of hHx
  have HL := last_any w m G vl h x t hl
  obtain ⟨A, c, hv, h1, h2, h3⟩ := t.rd x (by simp)
  have hok := t.ok x (by simp)
  have hap := t.apart x (by simp)
  rw [hv] at HL
  obtain ⟨xv, b, s⟩ := x
  simp only at hv h1 h3 hok hap HL hla ⊢
  subst hv
  generalize hls : h ++ [⟨.slice A b.length c, b, s⟩] = l at *
  have hll : l.length ≤ 1001 := by rw [← hls, List.length_append, List.length_singleton]; omega
  have HT := Lib.hid t
  have HHX := Lib.hid hHx
  have HLA := Lib.hid hla
  have HRP := Lib.hid hRP
  have hbm : b.length ≤ 1048576 := hok.2
  clear hls hHx hla hRP
  have hd63 : d.length ≤ 9223372036854775807 := by unfold maxLen at hd; omega
  have HD := Lib.hid hd
  clear hd
  by_cases hfull : 1048576 < b.length + d.length
  · have hgt : ((1048576 : Int) - (b.length : Int)) < (d.length : Int) := by omega
    have hm : mAppend H d = (101, H) := by unfold mAppend; rw [HLA.out, if_pos hfull]
    rw [hm]
    clear t h3 hm
    go_enter Try.func15, Try.ntmps15
    go_wp2_with fail
    refine HL.mono ?_
    rintro e w1 ⟨rfl, k1⟩
    go_wp2
    go_ret
    exact ⟨rfl, (k1.alloc _).mono (fun _ f => f.elim), G, HRP.out.chg (k1.alloc _) (fun _ _ f => f), fun j hj => .inl hj⟩
  · have hgt : ¬ ((1048576 : Int) - (b.length : Int)) < (d.length : Int) := by omega
    have hm : mAppend H d = (0, H ++ [(b ++ d, s)]) := by unfold mAppend; rw [HLA.out, if_neg hfull]
    rw [hm]
    clear hm
    go_enter Try.func15, Try.ntmps15
    go_wp2_with fail
    refine HL.mono ?_
    rintro e w1 ⟨rfl, k1⟩
    have kb := k1.alloc (.cells #[.slice A b.length c, .int .i64 (s : Int)] 47)
    have bx := Hb.new w1 47 #[.slice A b.length c, .int .i64 (s : Int)]
    have o2 := own_zero (w1.alloc (.cells #[.slice A b.length c, .int .i64 (s : Int)] 47)) 5
    have kz := (Chg.refl Non (w1.alloc (.cells #[.slice A b.length c, .int .i64 (s : Int)] 47))).alloc (.cells #[] 5)
    have hz2 : (w1.alloc (.cells #[.slice A b.length c, .int .i64 (s : Int)] 47)).heap.size = w1.heap.size + 1 := by simp
    have rA := h3.chg (kb.trans kz (fun _ f => .inl f)) (fun _ _ f => f)
    rw [hz2] at o2
    have KA : Hid (∀ va w3, Own 5 w3 va ([] ++ b) → ((w1.alloc (.cells #[.slice A b.length c, .int .i64 (s : Int)] 47)).alloc (.cells #[] 5)).grownBy w3 (Value.slice (some ⟨w1.heap.size + 1, 0, none⟩) 0 0).ownBlock → (va.ownBlock = (Value.slice (some ⟨w1.heap.size + 1, 0, none⟩) 0 0).ownBlock ∨ va.ownBlock = some ((w1.alloc (.cells #[.slice A b.length c, .int .i64 (s : Int)] 47)).alloc (.cells #[] 5)).heap.size) →
        Own 5 w3 va b ∧ Chg Non (w1.alloc (.cells #[.slice A b.length c, .int .i64 (s : Int)] 47)) w3 ∧ (∀ j, vbl va j → w1.heap.size + 1 ≤ j) ∧ Rd w3 B d) := Lib.hid (by
      intro va w3 ho hg hloc
      rw [← hz2] at hg hloc
      obtain ⟨a1, a2, a3⟩ := app_first ho hg hloc
      rw [hz2] at a3
      exact ⟨a1, a2, a3, hB.chg (kb.trans a2 (fun _ f => .inl f)) (fun _ _ f => f)⟩)
    have KB : Hid (∀ va w3 vb w4, Chg Non (w1.alloc (.cells #[.slice A b.length c, .int .i64 (s : Int)] 47)) w3 → (∀ j, vbl va j → w1.heap.size + 1 ≤ j) → Own 5 w4 vb (b ++ d) → w3.grownBy w4 va.ownBlock → (vb.ownBlock = va.ownBlock ∨ vb.ownBlock = some w3.heap.size) →
        ∃ Ab cb, vb = .slice Ab (b.length + d.length) cb ∧ Own 5 w4 vb (b ++ d) ∧ Chg Non w w4 ∧ (∀ j, vbl vb j → w.heap.size ≤ j) ∧ Hb w4 w1.heap.size 47 #[.slice A b.length c, .int .i64 (s : Int)] ∧ Rp 50 47 w4 m G vl l) := Lib.hid (by
      intro va w3 vb w4 k hv ho hg hloc
      rw [← hz2] at hv
      obtain ⟨Ab, cb, e, k4, hb4⟩ := app_second k hv ho hg hloc
      have kk := kb.trans k4 (fun _ f => .inl f)
      exact ⟨Ab, cb, e, ho, kk, (fun j hj => by have := hb4 j hj; have := kb.size; omega), bx.chg k4 (fun f => f), t.chg kk (fun _ _ f => f)⟩)
    have O2 := Lib.hid o2
    have RA := Lib.hid rA
    clear kb bx o2 kz rA t h3 hB k1 HL
    go_wp2_with (at_builtin; first
      | (refine wpList_app byt _ rfl _ _ rfl (v := va) (l := b) (by rfl) o10 (by rfl) rfl r10 (by omega) ?_; intro vb w11 o11 g11 l11; obtain ⟨Ab, cb, rfl, o12, kw, bw, bx, tb⟩ := KB.out _ _ _ _ k10 h10 o11 g11 l11)
      | (refine wpList_app byt _ rfl _ _ rfl (v := .slice (some ⟨w1.heap.size + 1, 0, none⟩) 0 0) (l := []) rfl O2.out rfl rfl RA.out (by simp; omega) ?_; intro va w10 o10 g10 l10; obtain ⟨o10, k10, h10, r10⟩ := KA.out _ _ o10 g10 l10))
    clear o11 g11 l11 o10 g10 l10 r10 k10 h10 KA KB O2 RA
    generalize w1.heap.size = nb at *
    have x0 : w11.cell? ⟨nb, 0, none⟩ = some (.slice A b.length c) := bx.cell 0
    have x1 : w11.cell? ⟨nb, 1, none⟩ = some (.int .i64 (s : Int)) := bx.cell 1
    have hnb : nb < w11.heap.size := bx.lt
    have HKB := Lib.hid kw
    have HBW := Lib.hid bw
    have HOW := Lib.hid o12
    clear bx kw bw o12
    generalize w11 = wb at *
    have P := rpre tb ⟨.slice Ab (b.length + d.length) cb, b ++ d, s⟩
    have tbl := tb.row.slice (fun x _ => Ent.cells_len x) (by omega)
    obtain ⟨Ap, cp, hvl, _⟩ := tbl
    have cL : wb.cell? ⟨m, 0, none⟩ = some vl := tb.box.cell 0
    have cL2 : (wb.alloc (.cells #[.slice Ab (b.length + d.length) cb, .int .i64 (s : Int)] 47)).cell? ⟨m, 0, none⟩ = some vl := (rpre tb ⟨.slice Ab (b.length + d.length) cb, b ++ d, s⟩).box.cell 0
    have hml := tb.box.lt
    have HP := Lib.hid P
    have HI := Lib.hid (And.intro hi (And.intro hz (And.intro hzs (And.intro hsi hby))))
    have HTB := Lib.hid tb
    clear P tb hi hz hzs hsi hby hvl
    go_region_law (refine step_append_lies _ (by rfl) _ _ 48 (by rfl) 0 47 i z 2 32 Try.underlying48 HI.out.1 HI.out.2.1 HI.out.2.2.2.1 HI.out.2.2.2.2 HI.out.2.2.1 (by omega) vl l.length (l.flatMap Ent.cells) (by rfl) HP.out.own ⟨wb.heap.size, 0, none⟩ 1 1 (Ent.cells ⟨.slice Ab (b.length + d.length) cb, b ++ d, s⟩) (by rfl) (by rfl) HP.out.news (ent_one rfl) (by omega) (by unfold maxLen; omega) (by omega) (Nat.zero_le _) _ rfl ?_; intro g9 cap9 w9 o9 r9 b9 l9; have hb9 := HP.out.box.grown r9 (fun e => HP.out.ne e.symm); have f9 : w9.frozen? ⟨m, 0, none⟩ = false := hb9.frozen 0; have c9 : w9.cell? ⟨m, 0, none⟩ = some vl := hb9.cell 0)
    all_goals
      go_wp2
      go_ret
      exact ⟨rfl, rpost HT.out HHX.out HKB.out ⟨.slice Ab (b.length + d.length) cb, b ++ d, s⟩ (Nw.sl (.inl HOW.out)) (fun j hj => ⟨.inr (HBW.out j hj), own_lt HOW.out j hj⟩) ⟨by show s ≤ (b ++ d).length; rw [List.length_append]; omega, by show (b ++ d).length ≤ _; rw [List.length_append]; omega⟩ o9 r9 b9⟩
end Go.Proofs.Ytenhicipgkjckaa
