/- slices.Clone of seals and of validators; ownCopy. -/
import Derived.Test.YtflellcbfcakhaaChecked
import Derived.WalkKit
import Derived.WalkLawsBesides
import Derived.OwnWalk
import Derived.Lib.Hide
import Derived.Deep.MidRow
import Derived.Laws.ResultCell
import Derived.Laws.Rows
import Derived.Test.YtflellcbfcakhaaDk
namespace Go.Proofs.Ytflellcbfcakhaa
open Go.RowKit
set_option linter.unusedVariables false
set_option linter.unusedSimpArgs false
set_option maxRecDepth 20000

/-! ### Rows of elements, cloned -/
theorem flat_len {α : Type} {cells : α → List Value} {sz : Nat} (hc : ∀ x, (cells x).length = sz) (l : List α) : (l.flatMap cells).length = l.length * sz := by
  induction l with
  | nil => simp
  | cons x l ih => rw [List.flatMap_cons, List.length_append, ih, List.length_cons, hc, Nat.succ_mul]; omega
theorem flat_one {α : Type} {cells : α → List Value} (h1 : ∀ x, ∀ u ∈ cells x, u.oneCell' = true) (l : List α) : ∀ u ∈ l.flatMap cells, u.oneCell' = true := by
  intro u hu
  rw [List.mem_flatMap] at hu
  obtain ⟨x, _, hu⟩ := hu
  exact h1 x u hu
/-- A slice's value. -/
def Slv (v : Value) : Prop := ∃ A n c, v = .slice A n c
theorem own_slv {w : World} {base e sz n : Nat} {v : Value} {xs : List Value} (h : w.ownsRow base e sz v n xs) : Slv v := by
  rcases h.2 with ⟨rfl, _⟩ | ⟨g, cap, cur, rfl, _⟩
  · exact ⟨_, _, _, rfl⟩
  · exact ⟨_, _, _, rfl⟩
theorem run_appM {α : Type} (w : World) (ty t e : TypeId) (i : TypeInfo) (z : Value) (sz by' : Nat) (cells : α → List Value) (ht : Try.prog.underlying t = some (.slice e)) (hi : Try.prog.info? e = some i) (hz : i.zero = some z) (hs : i.size = sz) (hby : i.bytes = by') (hzs : z.cells.size = sz) (hpos : 0 < sz) (hbb : by' ≤ 1000)
    (hc : ∀ x, (cells x).length = sz) (h1 : ∀ x, ∀ u ∈ cells x, u.oneCell' = true) {v : Value} {A : Option Addr} (m : List α) (c : Nat) (hown : w.ownsRow 0 e sz v 0 []) (hv : ∃ g, v = .slice (some ⟨g, 0, none⟩) 0 0) (hr : LstM w A m cells sz) (hsz : m.length ≤ 100000) :
    ∃ v' w', (Builtin.append_ #[t, t] ty #[v, .slice A m.length c]).run Try.prog w = .ok v' w' ∧ w'.ownsRow 0 e sz v' m.length (m.flatMap cells) ∧ w.grownBy w' v.ownBlock ∧ (v'.ownBlock = v.ownBlock ∨ v'.ownBlock = some w.heap.size) := by
  have hm : 0 + m.length ≤ maxLen := by unfold maxLen; omega
  by_cases h0 : m = []
  · subst h0
    obtain ⟨g, rfl⟩ := hv
    refine ⟨.slice (some ⟨g, 0, none⟩) 0 0, w, ?_, hown, ⟨rfl, rfl, rfl, Nat.le_refl _, fun _ _ _ => rfl⟩, .inl rfl⟩
    cases A <;> simp [Builtin.append_, run_underlying ht, sizeOf, typeInfo, hi, Builtin.lenOf, Builtin.firstCells, storeCells, loadCells, loadCellsFrom]
  · have hposm : 0 < m.length := List.length_pos_iff.2 h0
    obtain ⟨eb, eo, rfl, _, _⟩ := hr 0 _ (List.getElem?_eq_getElem hposm)
    have hcells : ∀ j u, (m.flatMap cells)[j]? = some u → w.cell? ((⟨eb, eo, none⟩ : Addr).add j) = some u := by
      intro j u hu
      have hj : j < m.length * sz := by rw [← flat_len hc]; exact (List.getElem?_eq_some_iff.1 hu).1
      have hq : j / sz < m.length := (Nat.div_lt_iff_lt_mul hpos).2 hj
      obtain ⟨b', o', e, _, r⟩ := hr (j / sz) _ (List.getElem?_eq_getElem hq)
      injection e with e
      injection e with e1 e2
      subst e1; subst e2
      have hlen : j % sz < (cells m[j / sz]).length := by rw [hc]; exact Nat.mod_lt _ hpos
      have h1 := r (j % sz) _ (List.getElem?_eq_getElem hlen)
      have h2 := flat_get (cells := cells) (sz := sz) hc m (j / sz) _ (List.getElem?_eq_getElem hq) (j % sz) _ (List.getElem?_eq_getElem hlen)
      have e3 : j / sz * sz + j % sz = j := by rw [Nat.mul_comm]; exact Nat.div_add_mod j sz
      rw [e3, hu] at h2
      injection h2 with h2
      rw [Nat.add_assoc, e3, ← h2] at h1
      rw [Addr.add_mid]
      exact h1
    have hbm : (0 + m.length) * by' ≤ 140737488355328 := by
      have := Nat.mul_le_mul (show 0 + m.length ≤ 100000 by omega) hbb
      omega
    obtain ⟨v', w', k1, k2, k3, _, k5⟩ := run_append_own_at (P := Try.prog) w 0 t ty e i z sz by' ht hi hz hs hby hzs hpos v 0 [] hown ⟨eb, eo, none⟩ m.length c (m.flatMap cells) (flat_len hc m) hcells (flat_one h1 m) hm hbm (Nat.zero_le _)
    refine ⟨v', w', k1, ?_, k3, k5⟩
    simpa using k2
theorem se_info : (Try.prog.info? 61).map (fun i => (i.zero.map (·.cells.size), i.size, i.bytes)) = some (some 3, 3, 24) := by kernel_rfl
theorem va_info : (Try.prog.info? 53).map (fun i => (i.zero.map (·.cells.size), i.size, i.bytes)) = some (some 2, 2, 16) := by kernel_rfl
theorem parts_of {e : TypeId} {sz by' : Nat} (h : (Try.prog.info? e).map (fun i => (i.zero.map (·.cells.size), i.size, i.bytes)) = some (some sz, sz, by')) : ∃ i z, Try.prog.info? e = some i ∧ i.zero = some z ∧ z.cells.size = sz ∧ i.size = sz ∧ i.bytes = by' := by
  cases hi : Try.prog.info? e with
  | none => rw [hi] at h; cases h
  | some i =>
    rw [hi] at h
    simp only [Option.map_some, Option.some.injEq, Prod.mk.injEq] at h
    obtain ⟨h1, h2, h3⟩ := h
    cases hz : i.zero with
    | none => rw [hz] at h1; cases h1
    | some z =>
      rw [hz] at h1
      simp only [Option.map_some, Option.some.injEq] at h1
      exact ⟨i, z, rfl, hz, h1, h2, h3⟩
theorem Se.one (x : Se) : ∀ u ∈ x.cells, u.oneCell' = true := by
  intro u hu
  simp only [Se.cells, List.mem_cons, List.not_mem_nil, or_false] at hu
  rcases hu with rfl | rfl | rfl <;> rfl
theorem Va.one (x : Va) : ∀ u ∈ x.cells, u.oneCell' = true := by
  intro u hu
  simp only [Va.cells, List.mem_cons, List.not_mem_nil, or_false] at hu
  rcases hu with rfl | rfl <;> rfl
theorem wpList_appM {α : Type} (w : World) {ops : Array Oper} {rest : List Oper} {o : Oper} {a : Act} {Q : Exit → Act → World → Prop} (hgd : o.guard = none) (sl x : Operand) (t e : TypeId) (sz by' : Nat) (cells : α → List Value) (ht : Try.prog.underlying t = some (.slice e))
    (hinfo : (Try.prog.info? e).map (fun i => (i.zero.map (·.cells.size), i.size, i.bytes)) = some (some sz, sz, by')) (hpos : 0 < sz) (hbb : by' ≤ 1000) (hc : ∀ x, (cells x).length = sz) (h1 : ∀ x, ∀ u ∈ cells x, u.oneCell' = true)
    (ho : o.op = .call { callee := .builtin .append, args := #[sl, x], argTypes := #[t, t] }) {g : Nat} (hs : a.eval sl = .slice (some ⟨g, 0, none⟩) 0 0) {cs : Array Value} (hb : Hb w g e cs) (hcs : cs.size = 0) {A : Option Addr} {m : List α} {n c : Nat} (hx : a.eval x = .slice A n c) (hn : n = m.length) (hr : LstM w A m cells sz) (hsz : m.length ≤ 100000)
    (h : ∀ v' w', Slv v' → Chg (· = g) w w' → wpList Try.prog ops Q rest (a.put o.dst v') w') : wpList Try.prog ops Q (o :: rest) a w := by
  subst hn
  refine wpList_plain hgd fun K hK => ?_
  obtain ⟨i, z, hi, hz, hzs, hsi, hby⟩ := parts_of hinfo
  have hown : w.ownsRow 0 e sz (.slice (some ⟨g, 0, none⟩) 0 0) 0 [] := ⟨by simp, .inr ⟨g, 0, cs, rfl, Nat.zero_le _, hb, Nat.le_refl _, by unfold maxLen; omega, by simp [hcs], by simp⟩⟩
  obtain ⟨v', w', hrun, h2, h3, h4⟩ := run_appM w o.type t e i z sz by' cells ht hi hz hsi hby hzs hpos hbb hc h1 m c hown ⟨g, rfl⟩ hr hsz
  unfold Oper.wp execOp
  simp only [ho, resolve, invoke, builtin, Sem.run_bind, Sem.run_pure, Result.andThen_ok, List.map_toArray, List.map_cons, List.map_nil, hs, hx, hrun]
  exact hK _ _ (h v' w' (own_slv h2) ((Chg.refl (· = g) w).grown h3 (fun k hk => .inl (by simpa [Value.ownBlock] using hk.symm))))
theorem run_eql_nil (w : World) (t e : TypeId) (ht : Try.prog.underlying t = some (.slice e)) (A : Option Addr) (n c : Nat) : (binOp .eql t (.slice A n c) (.slice none 0 0)).run Try.prog w = .ok (.bool A.isNone) w := by
  have h := run_equal_slice_nil (P := Try.prog) w t e A n c ht
  simp [binOp, Sem.run_bind, h]
/-- What a clone leaves. -/
def Cln (w : World) (e : Ending) (w' : World) : Prop := Chg Non w w' ∧ ∃ v, e = .returned v ∧ Slv v
set_option maxHeartbeats 1600000 in
theorem cloneS_any (w : World) (A : Option Addr) (c : Nat) (l : List Se) (hl : l.length ≤ 100000) (M : LstM w A l Se.cells 3) :
    Calls Try.prog 15 #[.slice A l.length c] w (Cln w) := by
  by_cases hA : A.isNone = true
  · have hq : ∀ (n : Nat) (w : World), (binOp .eql 26 (.slice A n c) (.slice none 0 0)).run Try.prog w = .ok (.bool true) w := fun n w => (run_eql_nil w _ _ Try.underlying26 A n c).trans (by rw [hA])
    go_enter Try.func15, Try.ntmps15
    go_wp2
    go_ret
    exact ⟨Chg.refl _ _, .slice none 0 0, rfl, _, _, _, rfl⟩
  · have hA : A.isNone = false := by revert hA; cases A <;> simp
    have hq : ∀ (n : Nat) (w : World), (binOp .eql 26 (.slice A n c) (.slice none 0 0)).run Try.prog w = .ok (.bool false) w := fun n w => (run_eql_nil w _ _ Try.underlying26 A n c).trans (by rw [hA])
    have k0 := (Chg.refl Non w).alloc (.cells #[] 61)
    have hb := Hb.new w 61 #[]
    have hr1 := M.chg k0
    go_enter Try.func15, Try.ntmps15
    go_wp2_with (at_builtin; refine wpList_appM _ rfl _ _ 26 61 3 24 Se.cells Try.underlying26 se_info (by omega) (by omega) (fun _ => rfl) Se.one rfl (g := w.heap.size) rfl hb rfl rfl rfl hr1 hl ?_; intro v' w' hv hk)
    go_ret
    exact ⟨k0.fresh hk, v', rfl, hv⟩
set_option maxHeartbeats 1600000 in
theorem cloneV_any (w : World) (A : Option Addr) (c : Nat) (l : List Va) (hl : l.length ≤ 100000) (M : LstM w A l Va.cells 2) :
    Calls Try.prog 16 #[.slice A l.length c] w (Cln w) := by
  by_cases hA : A.isNone = true
  · have hq : ∀ (n : Nat) (w : World), (binOp .eql 29 (.slice A n c) (.slice none 0 0)).run Try.prog w = .ok (.bool true) w := fun n w => (run_eql_nil w _ _ Try.underlying29 A n c).trans (by rw [hA])
    go_enter Try.func16, Try.ntmps16
    go_wp2
    go_ret
    exact ⟨Chg.refl _ _, .slice none 0 0, rfl, _, _, _, rfl⟩
  · have hA : A.isNone = false := by revert hA; cases A <;> simp
    have hq : ∀ (n : Nat) (w : World), (binOp .eql 29 (.slice A n c) (.slice none 0 0)).run Try.prog w = .ok (.bool false) w := fun n w => (run_eql_nil w _ _ Try.underlying29 A n c).trans (by rw [hA])
    have k0 := (Chg.refl Non w).alloc (.cells #[] 53)
    have hb := Hb.new w 53 #[]
    have hr1 := M.chg k0
    go_enter Try.func16, Try.ntmps16
    go_wp2_with (at_builtin; refine wpList_appM _ rfl _ _ 29 53 2 16 Va.cells Try.underlying29 va_info (by omega) (by omega) (fun _ => rfl) Va.one rfl (g := w.heap.size) rfl hb rfl rfl rfl hr1 hl ?_; intro v' w' hv hk)
    go_ret
    exact ⟨k0.fresh hk, v', rfl, hv⟩
/-- A light block's row, whatever it says. -/
structure Rw (R : Array Value) : Prop where
  size : R.size = 200
  one : ∀ u ∈ R.toList, u.oneCell' = true
theorem rw_of {cs : List Value} (h1 : cs.length = 200) (h2 : ∀ u ∈ cs, u.oneCell' = true) : Rw cs.toArray := ⟨by rw [List.size_toArray, h1], by simpa using h2⟩
theorem Rw.set {R : Array Value} (h : Rw R) {i : Nat} {u : Value} (hu : u.oneCell' = true) : Rw (R.setIfInBounds i u) := by
  refine ⟨by simp [h.size], fun v hv => ?_⟩
  rw [Array.toList_setIfInBounds] at hv
  rcases List.mem_or_eq_of_mem_set hv with hv | rfl
  · exact h.one v hv
  · exact hu
theorem Rw.list {R : Array Value} (h : Rw R) : ∃ L : List Value, R = L.toArray ∧ L.length = 200 ∧ ∀ u ∈ L, u.oneCell' = true := ⟨R.toList, by simp, by simp [h.size], h.one⟩
set_option maxHeartbeats 3200000 in
theorem ownCopy_any (w : World) (x : Li) (ox : x.Ok) (nx : x.In w) (h1 : x.se.length ≤ 100000) (h2 : x.sv.length ≤ 100000) (h3 : x.nx.length ≤ 100000) :
    Calls Try.prog 12 #[.agg x.cells.toArray] w fun e w' => Chg Non w w' ∧ ∃ cs : List Value, e = .returned (.agg cs.toArray) ∧ cs.length = 200 ∧ ∀ u ∈ cs, u.oneCell' = true := by
  have C1 : Hid (∀ w', Chg Non w w' → Calls Try.prog 15 #[.slice x.A1 x.se.length x.c1] w' (Cln w')) := Lib.hid fun w' k => cloneS_any w' x.A1 x.c1 x.se h1 (nx.se.chg k)
  have C2 : Hid (∀ w', Chg Non w w' → Calls Try.prog 16 #[.slice x.A2 x.sv.length x.c2] w' (Cln w')) := Lib.hid fun w' k => cloneV_any w' x.A2 x.c2 x.sv h2 (nx.sv.chg k)
  have C3 : Hid (∀ w', Chg Non w w' → Calls Try.prog 16 #[.slice x.A3 x.nx.length x.c3] w' (Cln w')) := Lib.hid fun w' k => cloneV_any w' x.A3 x.c3 x.nx h3 (nx.nx.chg k)
  have HR := Lib.hid ox
  have hlen := x.cells_len ox
  have hrow := light_row x ox
  have hone := x.one
  have HONE := Lib.hid hone
  have hzl : Li.zero.cells.length = 200 := Li.zero.cells_len Li.zero_ok
  have HF : Hid (∀ w1 w2, Chg Non w w1 → Chg Non w1 w2 → Hid (Hb w1 w.heap.size 31 x.cells.toArray) → Hid (Hb w2 w1.heap.size 31 Li.zero.cells.toArray) →
      Hid (Hb w2 w.heap.size 31 x.cells.toArray) ∧ w2.cell? ⟨w.heap.size, 197, none⟩ = some (.slice x.A1 x.se.length x.c1) ∧ Hid (Chg Non w w2)) := Lib.hid fun w1 w2 k1 k2 h1 h2 => by
    have a1 := h1.out.chg k2 (fun f => f)
    exact ⟨Lib.hid a1, by simpa using (Li.rows HR.out a1.range0).se, Lib.hid (k1.trans k2 (fun _ f => f.elim))⟩
  have HC2 : Hid (x.cells.toArray[198]? = some (.slice x.A2 x.sv.length x.c2) ∧ x.cells.toArray[199]? = some (.slice x.A3 x.nx.length x.c3)) := Lib.hid (by
    have a1 := Hb.new w 31 x.cells.toArray
    have r := Li.rows ox a1.range0
    have e1 := r.sv
    have e2 := r.nx
    rw [a1.cell] at e1 e2
    exact ⟨by simpa using e1, by simpa using e2⟩)
  clear nx h1 h2 h3 ox
  generalize x.cells = cs at *
  obtain ⟨V1, hV1⟩ : ∃ V, Value.slice x.A1 x.se.length x.c1 = V := ⟨_, rfl⟩
  obtain ⟨V2, hV2⟩ : ∃ V, Value.slice x.A2 x.sv.length x.c2 = V := ⟨_, rfl⟩
  obtain ⟨V3, hV3⟩ : ∃ V, Value.slice x.A3 x.nx.length x.c3 = V := ⟨_, rfl⟩
  rw [hV1] at C1 HF
  rw [hV2] at C2 HC2
  rw [hV3] at C3 HC2
  clear hV1 hV2 hV3
  have hal := light_alloc
  generalize Li.zero.cells = z at *
  go_enter Try.func12, Try.ntmps12
  go_wp2_with (first | (with_reducible refine wpList_box_h rfl _ _ rfl cs rfl ?_; intro w1 k1 h1) | (with_reducible refine wpList_alloc_h rfl _ rfl z hal ?_; intro w2 k2 h2; obtain ⟨hb, p1, hC⟩ := HF.out w1 w2 k1 k2 h1 h2))
  have hlt := h1.out.lt
  obtain ⟨g, hg⟩ : ∃ g, w.heap.size = g := ⟨_, rfl⟩
  obtain ⟨g2, hg2⟩ : ∃ g2, w1.heap.size = g2 := ⟨_, rfl⟩
  have HG : Hid (w.heap.size = g) := Lib.hid hg
  have hbz := Lib.hid h2.out
  rw [hg2] at hbz ⊢
  rw [hg] at hb ⊢
  have HNE : Hid (g ≠ g2 ∧ w.heap.size ≤ g2) := Lib.hid ⟨by omega, by omega⟩
  clear h1 h2 k1 k2 HF hg p1 HONE hlt hg2
  refine (C1.out w2 hC.out).mono ?_
  rintro e w3 ⟨k3, v1, rfl, A1, n1, d1, rfl⟩
  have hb3 := hb.out.chg k3 (fun f => f)
  have KK3 := Lib.hid (hC.out.trans k3 (fun _ f => f.elim))
  have hbz3 := Lib.hid (hbz.out.chg k3 (fun f => f))
  have f197 := hb3.frozen 197
  obtain ⟨u197, c197⟩ : ∃ u, w3.cell? ⟨g, 197, none⟩ = some u := by rw [hb3.cell]; exact ⟨_, Array.getElem?_eq_getElem (by rw [List.size_toArray, hlen]; omega)⟩
  have c198 : w3.cell? ⟨g, 198, none⟩ = some V2 := by rw [hb3.cell]; exact HC2.out.1
  have HB3 := Lib.hid hb3
  clear hb3 k3 hb hbz
  go_wp2_with fail
  have hb4 := HB3.out.set 197 (.slice A1 n1 d1)
  have hz4 := hbz3.out.far (p := ⟨g, 197, none⟩) (fun e => HNE.out.1 e.symm) (.slice A1 n1 d1)
  have k4 := KK3.out.setCell (p := ⟨g, 197, none⟩) (.inr (Nat.le_of_eq HG.out)) (.slice A1 n1 d1)
  have HR4 : Hid (Rw (cs.toArray.setIfInBounds 197 (.slice A1 n1 d1))) := Lib.hid ((rw_of hlen hone).set rfl)
  have e2 : (cs.toArray.setIfInBounds 197 (.slice A1 n1 d1))[198]? = some V2 := by rw [Array.getElem?_setIfInBounds_ne (by omega)]; exact HC2.out.1
  have e3 : (cs.toArray.setIfInBounds 197 (.slice A1 n1 d1))[199]? = some V3 := by rw [Array.getElem?_setIfInBounds_ne (by omega)]; exact HC2.out.2
  have HE3 := Lib.hid e3
  generalize w3.setCell ⟨g, 197, none⟩ (.slice A1 n1 d1) = w4 at *
  generalize cs.toArray.setIfInBounds 197 (.slice A1 n1 d1) = R4 at *
  clear c197 f197 c198 HB3 KK3 hbz3 e2 e3
  refine (C2.out w4 k4).mono ?_
  rintro e w5 ⟨k5, v2, rfl, A2, n2, d2, rfl⟩
  have hb5 := hb4.chg k5 (fun f => f)
  have KK5 := Lib.hid (k4.trans k5 (fun _ f => f.elim))
  have hz5 := Lib.hid (hz4.chg k5 (fun f => f))
  have f198 := hb5.frozen 198
  obtain ⟨u198, c198⟩ : ∃ u, w5.cell? ⟨g, 198, none⟩ = some u := by rw [hb5.cell]; exact ⟨_, Array.getElem?_eq_getElem (by have := HR4.out.1; omega)⟩
  have c199 : w5.cell? ⟨g, 199, none⟩ = some V3 := by rw [hb5.cell]; exact HE3.out
  have HB5 := Lib.hid hb5
  clear hb5 k5 hb4 hz4 k4
  go_wp2_with fail
  have hb6 := HB5.out.set 198 (.slice A2 n2 d2)
  have hz6 := hz5.out.far (p := ⟨g, 198, none⟩) (fun e => HNE.out.1 e.symm) (.slice A2 n2 d2)
  have k6 := KK5.out.setCell (p := ⟨g, 198, none⟩) (.inr (Nat.le_of_eq HG.out)) (.slice A2 n2 d2)
  have HR6 : Hid (Rw (R4.setIfInBounds 198 (.slice A2 n2 d2))) := Lib.hid (HR4.out.set rfl)
  generalize w5.setCell ⟨g, 198, none⟩ (.slice A2 n2 d2) = w6 at *
  generalize R4.setIfInBounds 198 (.slice A2 n2 d2) = R6 at *
  clear c198 f198 c199 HB5 KK5 hz5 HE3 HR4
  refine (C3.out w6 k6).mono ?_
  rintro e w7 ⟨k7, v3, rfl, A3, n3, d3, rfl⟩
  have hb7 := hb6.chg k7 (fun f => f)
  have KK7 := Lib.hid (k6.trans k7 (fun _ f => f.elim))
  have hz7 := hz6.chg k7 (fun f => f)
  have f199 := hb7.frozen 199
  obtain ⟨u199, c199⟩ : ∃ u, w7.cell? ⟨g, 199, none⟩ = some u := by rw [hb7.cell]; exact ⟨_, Array.getElem?_eq_getElem (by have := HR6.out.1; omega)⟩
  have HR8 : Hid (Rw (R6.setIfInBounds 199 (.slice A3 n3 d3))) := Lib.hid (HR6.out.set rfl)
  have hb8 := hb7.set 199 (.slice A3 n3 d3)
  have hz8 := hz7.far (p := ⟨g, 199, none⟩) (fun e => HNE.out.1 e.symm) (.slice A3 n3 d3)
  have k8 := KK7.out.setCell (p := ⟨g, 199, none⟩) (.inr (Nat.le_of_eq HG.out)) (.slice A3 n3 d3)
  obtain ⟨L, hL, hL1, hL2⟩ := HR8.out.list
  rw [hL] at hb8
  have r8 := hb8.range0
  have hrl : (Try.prog.info? 31).map (·.size) = some L.length := by rw [hL1]; kernel_rfl
  have hzL : z.length = L.length := by rw [hzl, hL1]
  clear hb7 k7 hb6 hz6 k6 hz7 HR6 HR8 KK7 hL hb8
  have HZ8 := Lib.hid hz8
  have HK8 := Lib.hid k8
  generalize hw8 : w7.setCell ⟨g, 199, none⟩ (.slice A3 n3 d3) = w8 at *
  have HW8 := Lib.hid hw8
  clear hz8 k8 hw8
  go_wp2_with (first | (with_reducible refine wpList_load_mid rfl 31 _ rfl g 0 rfl L _ (by rw [HW8.out]; exact r8) Try.underlying31 rfl hrl ?_) | (rw [HW8.out]; with_reducible refine wpList_store_h rfl 31 _ _ rfl g2 z L rfl rfl HZ8.out hzL hrl hL2 ?_; intro w9 k9 h9))
  refine bodyPost_ret (results_cell_row rfl _ _ g2 31 L.toArray (0, 0) _ rfl h9.out Try.underlying31 rfl (by rw [List.size_toArray]; exact hrl)) rfl ?_
  exact ⟨HK8.out.trans k9 (fun j e => .inr (by rw [e]; exact HNE.out.2)), L, rfl, hL1, hL2⟩
end Go.Proofs.Ytflellcbfcakhaa
