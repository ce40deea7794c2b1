/- Copies of both banks. -/
import Derived.Test.YtahlfncijbkcoaaDoorChecked
import Derived.WalkKit
import Derived.WalkLawsBesides
import Derived.Lib.Hide
import Derived.Deep.MidRow
import Derived.Test.YtahlfncijbkcoaaDoorSr
import Derived.Test.YtahlfncijbkcoaaDoorOc
namespace Go.Proofs.YtahlfncijbkcoaaDoor
open Go.RowKit
open Go.Shelf
set_option linter.unusedVariables false
set_option linter.unusedSimpArgs false
set_option maxRecDepth 20000

/-! ### The document's -/
/-- The document's bank in block G, all its blocks from N on. -/
def DocN (w : World) (G N n : Nat) (F : Key → Nat) : Prop := N ≤ G ∧ ∃ l A c, Hb w G 28 #[.slice A l.length c] ∧ LstM w A l am 3 ∧ (∀ j, abl A j → N ≤ j ∧ j ≠ G) ∧ Lsg F l ∧ l.length ≤ n
theorem DocN.doc {w : World} {G N n : Nat} {F : Key → Nat} (h : DocN w G N n F) : DocB w G n F := by
  obtain ⟨h0, l, A, c, h1, h2, h3, h4, h5⟩ := h
  exact ⟨l, ⟨A, c, h1, h2, fun j hj _ => (h3 j hj).2⟩, h4, h5⟩
theorem DocN.chg {w w' : World} {G N n : Nat} {F : Key → Nat} {S : Nat → Prop} (h : DocN w G N n F) (k : Chg S w w') (hS : ∀ j, N ≤ j → ¬ S j) : DocN w' G N n F := by
  obtain ⟨h0, l, A, c, h1, h2, h3, h4, h5⟩ := h
  refine ⟨h0, l, A, c, h1.chg k (hS _ h0), fun i x hx => ?_, h3, h4, h5⟩
  obtain ⟨eb, eo, rfl, e2, e3⟩ := h2 i x hx
  exact ⟨eb, eo, rfl, Nat.lt_of_lt_of_le e2 k.size, k.range' e3 (hS _ (h3 eb ⟨_, rfl, rfl⟩).1)⟩
theorem am_len (x : Key × Nat) : (am x).length = 3 := rfl
theorem amflat_len (l : List (Key × Nat)) : (l.flatMap am).length = l.length * 3 := flat_size (fun x _ => rfl)
theorem amflat_one (l : List (Key × Nat)) : ∀ u ∈ l.flatMap am, u.oneCell' = true := by
  intro u hu
  rw [List.mem_flatMap] at hu
  obtain ⟨x, _, hu⟩ := hu
  exact am_one x u hu
theorem run_appR (w : World) (ty : TypeId) {g : Nat} {cs : Array Value} (hg : Hb w g 60 cs) (hcs : cs.size = 0) {A : Option Addr} (m : List (Key × Nat)) (c : Nat) (hr : LstM w A m am 3) (hsz : m.length ≤ 100000) :
    ∃ v' w', (Builtin.append_ #[26, 26] ty #[.slice (some ⟨g, 0, none⟩) 0 0, .slice A m.length c]).run Tryd.prog w = .ok v' w' ∧ OwnA w' v' m ∧ w.grownBy w' (some g) ∧ (v'.ownBlock = some g ∨ v'.ownBlock = some w.heap.size) := by
  obtain ⟨i, z, hi, hz, hzs, hs, hby⟩ := amount_parts
  have ht := Tryd.underlying26
  have hown : w.ownsRow 0 60 3 (.slice (some ⟨g, 0, none⟩) 0 0) 0 [] := ⟨by simp, .inr ⟨g, 0, cs, rfl, Nat.zero_le _, hg, Nat.le_refl _, by unfold maxLen; omega, by simp [hcs], by simp⟩⟩
  have hm : 0 + m.length ≤ maxLen := by unfold maxLen; omega
  by_cases h0 : m = []
  · subst h0
    refine ⟨.slice (some ⟨g, 0, none⟩) 0 0, w, ?_, hown, ⟨rfl, rfl, rfl, Nat.le_refl _, fun _ _ _ => rfl⟩, .inl rfl⟩
    cases A <;> simp [Builtin.append_, run_underlying ht, sizeOf, typeInfo, hi, Builtin.lenOf, Builtin.firstCells, storeCells, loadCells, loadCellsFrom]
  · have hposm : 0 < m.length := List.length_pos_iff.2 h0
    obtain ⟨eb, eo, rfl, _, _⟩ := hr 0 _ (List.getElem?_eq_getElem hposm)
    have hcells : ∀ j u, (m.flatMap am)[j]? = some u → w.cell? ((⟨eb, eo, none⟩ : Addr).add j) = some u := by
      intro j u hu
      have hj : j < m.length * 3 := by rw [← amflat_len]; exact (List.getElem?_eq_some_iff.1 hu).1
      have hq : j / 3 < m.length := (Nat.div_lt_iff_lt_mul (by omega)).2 hj
      obtain ⟨b', o', e, _, r⟩ := hr (j / 3) _ (List.getElem?_eq_getElem hq)
      injection e with e
      injection e with e1 e2
      subst e1; subst e2
      have hlen : j % 3 < (am m[j / 3]).length := by rw [am_len]; exact Nat.mod_lt _ (by omega)
      have h1 := r (j % 3) _ (List.getElem?_eq_getElem hlen)
      have h2 := flat_getU (cells := am) (sz := 3) m (fun x _ => rfl) (j / 3) _ (List.getElem?_eq_getElem hq) (j % 3) _ (List.getElem?_eq_getElem hlen)
      have e3 : j / 3 * 3 + j % 3 = j := by omega
      rw [e3, hu] at h2
      injection h2 with h2
      rw [Nat.add_assoc, e3, ← h2] at h1
      rw [Addr.add_mid]
      exact h1
    obtain ⟨v', w', k1, k2, k3, _, k5⟩ := run_append_own_at (P := Tryd.prog) w 0 26 ty 60 i z 3 40 ht hi hz hs hby hzs (by omega) _ 0 [] hown ⟨eb, eo, none⟩ m.length c (m.flatMap am) (amflat_len m) hcells (amflat_one m) hm (by omega) (Nat.zero_le _)
    refine ⟨v', w', k1, ?_, k3, k5⟩
    unfold OwnA OwnL
    rw [Nat.zero_add, List.nil_append] at k2
    exact k2
theorem wpList_appR {ops : Array Oper} {rest : List Oper} {o : Oper} {a : Act} {Q : Exit → Act → World → Prop} {w : World} (hgd : o.guard = none) (sl x : Operand)
    (ho : o.op = .call { callee := .builtin .append, args := #[sl, x], argTypes := #[26, 26] }) {g : Nat} (hs : a.eval sl = .slice (some ⟨g, 0, none⟩) 0 0) {cs : Array Value} (hb : Hb w g 60 cs) (hcs : cs.size = 0) {A : Option Addr} {m : List (Key × Nat)} {n c : Nat} (hx : a.eval x = .slice A n c) (hn : m.length = n) (hr : LstM w A m am 3) (hsz : m.length ≤ 100000)
    (h : ∀ v' w', Hid (OwnA w' v' m) → Hid (Chg (· = g) w w') → Hid (∀ j, vbl v' j → j = g ∨ w.heap.size ≤ j) → wpList Tryd.prog ops Q rest (a.put o.dst v') w') : wpList Tryd.prog ops Q (o :: rest) a w := by
  subst hn
  refine wpList_plain hgd fun K hK => ?_
  obtain ⟨v', w', hrun, h2, h3, h4⟩ := run_appR w o.type hb hcs m c hr hsz
  unfold Oper.wp execOp
  simp only [ho, resolve, invoke, builtin, Sem.run_bind, Sem.run_pure, Result.andThen_ok, List.map_toArray, List.map_cons, List.map_nil, hs, hx, hrun]
  refine hK _ _ (h v' w' (Lib.hid h2) (Lib.hid (chg_of_grown h3)) (Lib.hid fun j hj => ?_))
  rcases h4 with h4 | h4
  · left
    have : some g = some j := h4.symm.trans hj
    injection this with this
    exact this.symm
  · right
    have : some w.heap.size = some j := h4.symm.trans hj
    injection this with this
    omega
/-- What the document's Copy leaves. -/
def DocNew (w : World) (n : Nat) (F : Key → Nat) (e : Ending) (w' : World) : Prop := Chg Non w w' ∧ ∃ G, e = .returned (.pointer (some ⟨G, 0, none⟩)) ∧ Hid (DocN w' G w.heap.size n F)
set_option maxHeartbeats 1600000 in
theorem rCopy_any (w : World) (G n : Nat) (F : Key → Nat) (h : DocB w G n F) (hn : n ≤ 900) :
    Calls Tryd.prog 7 #[.pointer (some ⟨G, 0, none⟩)] w (DocNew w n F) := by
  obtain ⟨l, ⟨A, c, hb, M, hne⟩, hL, hlen⟩ := h
  have k0 : Chg Non w (w.alloc (.cells #[] 60)) := (Chg.refl Non w).alloc _
  have HM := Lib.hid (M.chg k0)
  have p0 : (w.alloc (.cells #[] 60)).cell? ⟨G, 0, none⟩ = some (.slice A l.length c) := by rw [(hb.chg k0 (fun f => f)).cell]; rfl
  have HB0 := Lib.hid (Hb.new w 60 #[])
  have HFIN : Hid (∀ q A2 c2 w2, Hid (OwnA w2 (.slice A2 q c2) l) → Hid (Chg (· = w.heap.size) (w.alloc (.cells #[] 60)) w2) → Hid (∀ j, vbl (.slice A2 q c2) j → w.heap.size ≤ j) → DocNew w n F (.returned (.pointer (some ⟨w2.heap.size, 0, none⟩))) (w2.alloc (.cells #[.slice A2 q c2] 28))) := Lib.hid fun q A2 c2 w2 hO hC hv => by
    have kb : Chg Non w2 (w2.alloc (.cells #[.slice A2 q c2] 28)) := (Chg.refl _ _).alloc _
    have k2 : Chg Non w w2 := k0.trans hC.out (fun j e => .inr (by rw [e]; exact Nat.le_refl _))
    have hlt := hO.out.lt
    have hO2 := hO.out.chg kb (fun _ _ f => f)
    obtain ⟨A3, c3, e3, _, ha, hr⟩ := hO2.slice (fun x _ => rfl) (by omega)
    injection e3 with e31 e32 e33
    subst e31
    subst e32
    refine ⟨k2.trans kb (fun _ f => f.elim), w2.heap.size, rfl, Lib.hid ⟨k2.size, l, A2, c2, Hb.new _ _ _, hr, fun j hj => ⟨hv.out j (ha j hj), fun e => ?_⟩, hL, hlen⟩⟩
    have := hlt j (ha j hj)
    omega
  have hlen2 : l.length ≤ 100000 := by omega
  clear hb M hne hL hlen
  generalize hm : l.length = m at *
  have HL := Lib.hid hm
  clear hm
  go_enter Tryd.func7, Tryd.ntmps7
  go_wp2_with (at_builtin; refine wpList_appR rfl _ _ rfl rfl HB0.out rfl rfl HL.out HM.out (by rw [HL.out]; exact hlen2) ?_; intro v2 w2 g1 g2 g3; obtain ⟨q2, A2, c2, rfl⟩ := own_slice g1.out; have HQ := Lib.hid (HFIN.out q2 A2 c2 w2 g1 g2 (Lib.hid fun j hj => (by rcases g3.out j hj with e | e; exact Nat.le_of_eq e.symm; exact Nat.le_trans (k0.size) e))))
  go_ret
  exact HQ.out

/-! ### The program's -/
theorem cloneH_any (w : World) (b n : Nat) (F : Key → Nat) (h : MapK holT w b n F) : Calls Tryd.prog 19 #[.map (some b)] w fun e w' => e = .returned (.map (some w.heap.size)) ∧ Chg Non w w' ∧ Hid (MapK holT w' w.heap.size n F) := by
  obtain ⟨D, ⟨es, clock, hb, X, hs, hD⟩, hsay⟩ := h
  refine (AnyW.maps_Clone lay_cloneH b es clock w hb).mono ?_
  rintro e w' ⟨he, rfl⟩
  exact ⟨he, (Chg.refl _ _).alloc _, Lib.hid ⟨D, ⟨es, clock, (MapKept.heap_alloc w _).1, X, hs, hD⟩, hsay⟩⟩
theorem cloneS_any (w : World) (b n : Nat) (F : ByteArray → Nat) (h : MapK strT w b n F) : Calls Tryd.prog 20 #[.map (some b)] w fun e w' => e = .returned (.map (some w.heap.size)) ∧ Chg Non w w' ∧ Hid (MapK strT w' w.heap.size n F) := by
  obtain ⟨D, ⟨es, clock, hb, X, hs, hD⟩, hsay⟩ := h
  refine (AnyW.maps_Clone lay_cloneS b es clock w hb).mono ?_
  rintro e w' ⟨he, rfl⟩
  exact ⟨he, (Chg.refl _ _).alloc _, Lib.hid ⟨D, ⟨es, clock, (MapKept.heap_alloc w _).1, X, hs, hD⟩, hsay⟩⟩
theorem built_bank (a b : Nat) : Tryd.prog.built 46 [(0, .map (some a)), (1, .map (some b))] = some #[.map (some a), .map (some b)] := by kernel_rfl
/-- What Copy leaves. -/
def CopyP (w : World) (n : Nat) (F : Key → Nat) (S : ByteArray → Nat) (e : Ending) (w' : World) : Prop := Chg Non w w' ∧ ∃ g b1 b2, e = .returned (.pointer (some ⟨g, 0, none⟩)) ∧ Up3 w.heap.size g b1 b2 ∧ Hid (BkP w' g b1 b2 n F S)
set_option maxHeartbeats 3200000 in
theorem Copy_any (w : World) (g b1 b2 n : Nat) (F : Key → Nat) (S : ByteArray → Nat) (h : BkP w g b1 b2 n F S) :
    Calls Tryd.prog 6 #[.pointer (some ⟨g, 0, none⟩)] w (CopyP w n F S) := by
  have HH := Lib.hid h
  have ent1 : ∀ args w, (callFunc 19 args).run Tryd.prog w = .ok (.enter 19 args) w := enters_of Tryd.func19 (by kernel_rfl) rfl
  have ent2 : ∀ args w, (callFunc 20 args).run Tryd.prog w = .ok (.enter 20 args) w := enters_of Tryd.func20 (by kernel_rfl) rfl
  clear h
  go_enter Tryd.func6, Tryd.ntmps6
  go_wp2_with fail
  trace_state
  have HB : Hid (∀ w', Chg Non w.drew w' → w'.cell? ⟨g, 0, none⟩ = some (.map (some b1)) ∧ w'.cell? ⟨g, 1, none⟩ = some (.map (some b2))) := Lib.hid fun w' k => by
    have q := HH.out.non (((Chg.refl Non w).drew).trans k (fun _ f => f.elim))
    exact ⟨q.c1, q.c2⟩
  have KD : Hid (Chg Non w w.drew) := Lib.hid (Chg.refl Non w).drew
  have HH2 := Lib.hid (HH.out.non KD.out)
  refine wp_region_heads [0, 1, 2, 3, 5, 6, 7, 8] 5 #[true, true, true, true, false, true, true, true, true, false, false, false, false] (by kernel_rfl) (by kernel_rfl) (by kernel_rfl) (by kernel_rfl) (by kernel_rfl) (fun w' => Chg Non w.drew w') (Chg.refl _ _) ?_
  refine headI_run rfl rfl (fun w' kk => by (skip); go_simp; rfl) ?_
  simp only [Act.put, List.setIfInBounds_toArray, List.set_cons_zero, List.set_cons_succ]
  refine headI_run rfl rfl (fun w' kk => by (skip); go_simp; rfl) ?_
  simp only [Act.put, List.setIfInBounds_toArray, List.set_cons_zero, List.set_cons_succ]
  refine headI_run rfl rfl (fun w' kk => by (skip); go_simp; rfl) ?_
  simp only [Act.put, List.setIfInBounds_toArray, List.set_cons_zero, List.set_cons_succ]
  refine headI_run rfl rfl (fun w' kk => by (have x0 := (HB.out w' kk).1; skip); go_simp; rfl) ?_
  simp only [Act.put, List.setIfInBounds_toArray, List.set_cons_zero, List.set_cons_succ]
  refine headI_run rfl rfl (fun w' kk => by (skip); go_simp; rfl) ?_
  simp only [Act.put, List.setIfInBounds_toArray, List.set_cons_zero, List.set_cons_succ]
  refine headI_run rfl rfl (fun w' kk => by (skip); go_simp; rfl) ?_
  simp only [Act.put, List.setIfInBounds_toArray, List.set_cons_zero, List.set_cons_succ]
  refine headI_run rfl rfl (fun w' kk => by (skip); go_simp; rfl) ?_
  simp only [Act.put, List.setIfInBounds_toArray, List.set_cons_zero, List.set_cons_succ]
  refine headI_run rfl rfl (fun w' kk => by (have x0 := (HB.out w' kk).2; skip); go_simp; rfl) ?_
  simp only [Act.put, List.setIfInBounds_toArray, List.set_cons_zero, List.set_cons_succ]
  refine headI_nil ?_
  generalize w.drew = w1 at *
  refine held_w (n := 4) (fuel := 4) (L' := #[true, true, true, true, true, true, true, true, true, false, false, false, false]) rfl (by kernel_rfl) rfl (by kernel_rfl) ?_
  refine wp_call (vl := [.map (some b1)]) 19 _ _ rfl rfl ent1 (cloneH_any w1 b1 n F HH2.out.am) ?_
  rintro e w2 ⟨rfl, k2, h2⟩
  refine ⟨_, rfl, k2, ?_⟩
  simp only [Act.put, List.setIfInBounds_toArray, List.set_cons_zero, List.set_cons_succ]
  have HS2 := Lib.hid (HH2.out.non k2)
  refine held_w (n := 9) (fuel := 3) (L' := #[true, true, true, true, true, true, true, true, true, true, false, false, false]) rfl (by kernel_rfl) rfl (by kernel_rfl) ?_
  refine wp_call (vl := [.map (some b2)]) 20 _ _ rfl rfl ent2 (cloneS_any w2 b2 n S HS2.out.su) ?_
  rintro e w3 ⟨rfl, k3, h3⟩
  have k13 := k2.trans k3 (fun _ f => f.elim)
  refine ⟨_, rfl, k13, ?_⟩
  simp only [Act.put, List.setIfInBounds_toArray, List.set_cons_zero, List.set_cons_succ]
  refine held_w (n := 10) (fuel := 2) (L' := #[true, true, true, true, true, true, true, true, true, true, true, false, false]) rfl (by kernel_rfl) rfl (by kernel_rfl) ?_
  refine wp_built _ _ rfl [(0, .map (some w1.heap.size)), (1, .map (some w2.heap.size))] rfl (built_bank _ _) ?_
  simp only [Act.put, List.setIfInBounds_toArray, List.set_cons_zero, List.set_cons_succ]
  refine ⟨k13, ?_⟩
  have HFIN : Hid (CopyP w n F S (.returned (.pointer (some ⟨w3.heap.size, 0, none⟩))) (w3.alloc (.cells #[.map (some w1.heap.size), .map (some w2.heap.size)] 46))) := Lib.hid (by
    have kb : Chg Non w3 (w3.alloc (.cells #[.map (some w1.heap.size), .map (some w2.heap.size)] 46)) := (Chg.refl _ _).alloc _
    have a1 := h2.out.lt
    have a2 := h3.out.lt
    have s1 := KD.out.size
    have s2 := k2.size
    have s3 := k3.size
    exact ⟨(KD.out.trans k13 (fun _ f => f.elim)).trans kb (fun _ f => f.elim), w3.heap.size, w1.heap.size, w2.heap.size, rfl, ⟨by omega, by omega, by omega⟩, Lib.hid ⟨Hb.new _ _ _, (h2.out.chg k3 (fun f => f)).chg kb (fun f => f), h3.out.chg kb (fun f => f), by omega, by omega, by omega⟩⟩)
  refine held_w (n := 11) (fuel := 1) (L' := #[true, true, true, true, true, true, true, true, true, true, true, true, false]) rfl (by kernel_rfl) rfl (by kernel_rfl) ?_
  refine wp_step (v := .pointer (some ⟨w3.heap.size, 0, none⟩)) (w' := w3.alloc (.cells #[.map (some w1.heap.size), .map (some w2.heap.size)] 46)) (by go_simp) ?_
  simp only [Act.put, List.setIfInBounds_toArray, List.set_cons_zero, List.set_cons_succ]
  refine ⟨k13.alloc _, ?_⟩
  refine held_w (n := 12) (fuel := 0) (L' := #[true, true, true, true, true, true, true, true, true, true, true, true, true]) rfl (by kernel_rfl) rfl (by kernel_rfl) ?_
  refine wp_val (v := .pointer (some ⟨w3.heap.size, 0, none⟩)) (by go_simp) ?_
  simp only [Act.put, List.setIfInBounds_toArray, List.set_cons_zero, List.set_cons_succ]
  refine ⟨k13.alloc _, ?_⟩
  refine wpAnyH_done (by kernel_rfl) ?_ _
  refine NoPanic.normal ?_
  go_wp2_with fail
  go_ret
  exact HFIN.out
end Go.Proofs.YtahlfncijbkcoaaDoor
