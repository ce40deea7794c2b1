/- Walk laws and words for structs and lists of them; arguments out of a reading. -/
import Derived.Test.YtahlfncijbkcoaaDoorChecked
import Derived.WalkKit
import Derived.WalkLawsBesides
import Derived.Lib.Hide
import Derived.Deep.MidRow
import Derived.ChangeKeysEq
import Derived.Laws.StructEq
import Derived.Deep.QuietTactic
import Derived.BigQuiet
import Derived.Deep.RegionHeld3
import Derived.Test.YtahlfncijbkcoaaDoorFm
import Derived.Test.YtahlfncijbkcoaaDoorWd
import Derived.Test.YtahlfncijbkcoaaDoorVm
namespace Go.Proofs.YtahlfncijbkcoaaDoor
open Go.RowKit
set_option linter.unusedVariables false
set_option linter.unusedSimpArgs false
set_option maxRecDepth 20000

def Zero (w : World) (z : Value) (e : Ending) (w' : World) : Prop := e = .returned z ∧ Chg Non w w'
theorem rangeAt_app {w : World} {b o : Nat} {p q : List Value} (h : w.rangeAt b o (p ++ q)) : w.rangeAt b o p ∧ w.rangeAt b (o + p.length) q := by
  refine ⟨fun j u hu => h j u ?_, fun j u hu => ?_⟩
  · rw [List.getElem?_append_left (List.getElem?_eq_some_iff.1 hu).1]; exact hu
  · rw [Nat.add_assoc]
    exact h _ u (by rw [List.getElem?_append_right (by omega)]; rw [Nat.add_sub_cancel_left]; exact hu)
theorem rangeAt_cons {w : World} {b o : Nat} {u : Value} {q : List Value} (h : w.rangeAt b o (u :: q)) : w.cell? ⟨b, o, none⟩ = some u ∧ w.rangeAt b (o + 1) q :=
  ⟨h 0 u rfl, (rangeAt_app (p := [u]) h).2⟩
theorem Chg.range' {S : Nat → Prop} {w w' : World} (k : Chg S w w') {b o : Nat} {cs : List Value} (h : w.rangeAt b o cs) (hb : ¬ S b) : w'.rangeAt b o cs := fun j u hu => k.cell (h j u hu) hb
theorem wpList_alloc_row {ops : Array Oper} {rest : List Oper} {o : Oper} {a : Act} {w : World} {Q : Exit → Act → World → Prop} (hgd : o.guard = none) (ty : TypeId) (ho : o.op = .alloc ty) (z : List Value)
    (hz : (Instr.alloc ty true (.tuple #[])).run Tryd.prog w = .ok (.pointer (some ⟨w.heap.size, 0, none⟩)) (w.alloc (.cells z.toArray ty)))
    (hK : wpList Tryd.prog ops Q rest (a.put o.dst (.pointer (some ⟨w.heap.size, 0, none⟩))) (w.alloc (.cells z.toArray ty))) : wpList Tryd.prog ops Q (o :: rest) a w := by
  refine wpList_plain hgd fun K hK' => ?_
  unfold Oper.wp execOp
  simp only [ho, Sem.run_bind, Sem.run_pure, Result.andThen_ok, hz]
  exact hK' _ _ hK
theorem wpList_box_row {ops : Array Oper} {rest : List Oper} {o : Oper} {a : Act} {w : World} {Q : Exit → Act → World → Prop} (hgd : o.guard = none) (ty : TypeId) (x : Operand) (ho : o.op = .box ty x) {cs : Array Value} (hx : a.eval x = .agg cs)
    (hK : ∀ w1, Hid (w1 = w.alloc (.cells cs ty)) → wpList Tryd.prog ops Q rest (a.put o.dst (.pointer (some ⟨w.heap.size, 0, none⟩))) w1) : wpList Tryd.prog ops Q (o :: rest) a w := by
  refine wpList_plain hgd fun K hK' => ?_
  unfold Oper.wp execOp
  simp only [ho, hx, Sem.run_bind, Sem.run_pure, Instr.box]
  exact hK' _ _ (hK _ (Lib.hid rfl))
theorem wpList_load_w {ops : Array Oper} {rest : List Oper} {op : Oper} {a : Act} {w : World} {Q : Exit → Act → World → Prop} (ty : TypeId) (x : Operand) (ho : op.op = .load ty x) (hw : Region.wanted op (yielded ops a.tmps) = true)
    (b o : Nat) (hx : a.eval x = .pointer (some ⟨b, o, none⟩)) (cs : List Value) (d : TypeDesc) (hc : w.rangeAt b o cs)
    (hu : Tryd.prog.underlying ty = some d) (hd : d.isRow = true) (hi : (Tryd.prog.info? ty).map (·.size) = some cs.length)
    (h : wpList Tryd.prog ops Q rest (a.put op.dst (.agg cs.toArray)) w) : wpList Tryd.prog ops Q (op :: rest) a w := by
  unfold wpList
  rw [if_pos hw]
  exact .inl (wp_load_mid ty x ho b o hx cs d hc hu hd hi h)
theorem Hb.range0 {w : World} {b : Nat} {t : TypeId} {L : List Value} (h : Hb w b t L.toArray) : w.rangeAt b 0 L := by
  intro j u hu
  rw [Nat.zero_add, h.cell]
  simpa using hu
theorem Hb.there0 {w : World} {b : Nat} {t : TypeId} {L : List Value} (h : Hb w b t L.toArray) : w.there b 0 L.length := by
  intro j hj
  refine ⟨?_, h.frozen _⟩
  rw [Nat.zero_add, h.cell, List.getElem?_toArray, List.getElem?_eq_getElem hj]
  rfl
theorem eqF {P : Program} {w : World} {d : Nat} {xs ys : Array Value} {f : Field} {fs : List Field} {a b : Value} {p q : Prop} [Decidable p] [Decidable q] (hn : f.name ≠ "_") (ha : (part f.type xs f.offset).run P w = .ok a w) (hb : (part f.type ys f.offset).run P w = .ok b w)
    (he : (Op.equalIn d f.type a b).run P w = .ok (decide p) w) (ht : (Op.eqFields d xs ys fs).run P w = .ok (decide q) w) : (Op.eqFields d xs ys (f :: fs)).run P w = .ok (decide (p ∧ q)) w := by
  simp only [Op.eqFields, hn, ne_eq, not_false_eq_true, if_true, Sem.run_bind, ha, hb, he, Result.andThen_ok]
  by_cases hp : p
  · simp only [decide_eq_true hp, Bool.not_true, Bool.false_eq_true, if_false]
    rw [ht]
    congr 1
    rw [decide_eq_decide]
    simp [hp]
  · simp only [decide_eq_false hp, Bool.not_false, if_true, Sem.run_pure]
    congr 1
    symm
    rw [decide_eq_false_iff_not]
    exact fun h => hp h.1
theorem eqF0 {P : Program} {w : World} {d : Nat} {xs ys : Array Value} : (Op.eqFields d xs ys []).run P w = .ok (decide True) w := by simp [Op.eqFields]
theorem eqInt {w : World} (d : Nat) {t : TypeId} {k k' : IntKind} (a b : Int) (h : Tryd.prog.underlying t = some (.int k')) : (Op.equalIn (d + 1) t (.int k a) (.int k b)).run Tryd.prog w = .ok (decide (a = b)) w := by
  rw [run_equalIn_int w d t k k' a b h]
  congr 1
theorem eqNat {w : World} (d : Nat) {t : TypeId} {k k' : IntKind} (a b : Nat) (h : Tryd.prog.underlying t = some (.int k')) : (Op.equalIn (d + 1) t (.int k (a : Int)) (.int k (b : Int))).run Tryd.prog w = .ok (decide (a = b)) w := by
  rw [eqInt d (a : Int) (b : Int) h]
  congr 1
  rw [decide_eq_decide]
  omega
/-- A cell of a row. -/
theorem part1 {w : World} {e : TypeId} (he : Tryd.prog.plainKey e = true) {L : List Value} {off : Nat} {v : Value} (h : L[off]? = some v) : (part e L.toArray off).run Tryd.prog w = .ok v w := run_part_plain w he (by simpa using h)
/-- == of two structs, under a guard or none: by what 'equalIn' answers. -/
theorem wpList_eql_w {ops : Array Oper} {rest : List Oper} {op : Oper} {a : Act} {w : World} {Q : Exit → Act → World → Prop} (t : TypeId) (x y : Operand) (u : TypeId) (ho : op.op = .binOp .eql t x y u) (hw : Region.wanted op (yielded ops a.tmps) = true)
    {xs ys : Array Value} (hx : a.eval x = .agg xs) (hy : a.eval y = .agg ys) (hg : Tryd.prog.eqGuardType Tryd.prog.depth t = false) {b : Bool} (hrun : (Op.equalIn 10000 t (.agg xs) (.agg ys)).run Tryd.prog w = .ok b w)
    (h : wpList Tryd.prog ops Q rest (a.put op.dst (.bool b)) w) : wpList Tryd.prog ops Q (op :: rest) a w := by
  unfold wpList
  rw [if_pos hw]
  left
  unfold Oper.wp execOp
  simp only [ho, hx, hy, Sem.run_bind, run_eqGuard_agg w .eql t x y xs ys hg, Result.andThen_ok, run_eql_struct, hrun, Sem.run_pure]
  exact h
theorem wpList_neq_w {ops : Array Oper} {rest : List Oper} {op : Oper} {a : Act} {w : World} {Q : Exit → Act → World → Prop} (t : TypeId) (x y : Operand) (u : TypeId) (ho : op.op = .binOp .neq t x y u) (hw : Region.wanted op (yielded ops a.tmps) = true)
    {xs ys : Array Value} (hx : a.eval x = .agg xs) (hy : a.eval y = .agg ys) (hg : Tryd.prog.eqGuardType Tryd.prog.depth t = false) {b : Bool} (hrun : (Op.equalIn 10000 t (.agg xs) (.agg ys)).run Tryd.prog w = .ok b w)
    (h : wpList Tryd.prog ops Q rest (a.put op.dst (.bool (!b))) w) : wpList Tryd.prog ops Q (op :: rest) a w := by
  unfold wpList
  rw [if_pos hw]
  left
  unfold Oper.wp execOp
  simp only [ho, hx, hy, Sem.run_bind, run_eqGuard_agg w .neq t x y xs ys hg, Result.andThen_ok, run_neq_struct, hrun, Sem.run_pure]
  exact h
theorem u64_cells : Tryd.prog.cellsOf 30 = 1 := by kernel_rfl
theorem int_cells : Tryd.prog.cellsOf 3 = 1 := by kernel_rfl
theorem u64_nat {x : Int} (h : (Lit.int .u64 x).wf = true) : ∃ n : Nat, x = (n : Int) ∧ n < 18446744073709551616 := by
  have hmin : IntKind.u64.min = 0 := rfl
  have hmax : IntKind.u64.max = 18446744073709551615 := rfl
  simp only [Lit.wf, Bool.and_eq_true, decide_eq_true_eq, hmin, hmax] at h
  exact ⟨x.toNat, by omega, by omega⟩
theorem i64_bounds {x : Int} (h : (Lit.int .i64 x).wf = true) : -9223372036854775808 ≤ x ∧ x ≤ 9223372036854775807 := by
  have hmin : IntKind.i64.min = -9223372036854775808 := rfl
  have hmax : IntKind.i64.max = 9223372036854775807 := rfl
  simp only [Lit.wf, Bool.and_eq_true, decide_eq_true_eq, hmin, hmax] at h
  exact h
theorem cut (cs : List Value) (a b c : Nat) (h : a + b = c) : cs.drop a = (cs.drop a).take b ++ cs.drop c := by
  subst h
  rw [← List.drop_drop, List.take_append_drop]
theorem okc_u64 {w : World} {n : Nat} {cs : List Value} (h : Okc Tryd.prog w (n + 1) 30 cs) : ∃ x : Nat, cs = [.int .u64 (x : Int)] ∧ x < 18446744073709551616 := by
  unfold Okc at h
  simp only [Tryd.underlying30] at h
  obtain ⟨x, h1, h2⟩ := h
  obtain ⟨m, rfl, hm⟩ := u64_nat h2
  exact ⟨m, h1, hm⟩
theorem okc_i64 {w : World} {n : Nat} {t : TypeId} {cs : List Value} (hu : Tryd.prog.underlying t = some (.int .i64)) (h : Okc Tryd.prog w (n + 1) t cs) : ∃ x, cs = [.int .i64 x] ∧ -9223372036854775808 ≤ x ∧ x ≤ 9223372036854775807 := by
  unfold Okc at h
  simp only [hu] at h
  obtain ⟨x, h1, h2⟩ := h
  exact ⟨x, h1, (i64_bounds h2).1, (i64_bounds h2).2⟩
/-- A struct's cells. -/
theorem agg_arg {w : World} {t : TypeId} {fs : Array Field} {v : Value} (hu : Tryd.prog.underlying t = some (.struct fs)) (h : Okv Tryd.prog w t v) : ∃ cs, v = .agg cs ∧ ∀ n, Okc Tryd.prog w n t cs.toList := by
  obtain ⟨hv, ho⟩ := h
  simp only [hu] at hv
  obtain ⟨cs, rfl⟩ := hv
  exact ⟨cs, rfl, ho⟩
/-- A list's elements lie from A on. -/
def LstM {α : Type} (w : World) (A : Option Addr) (l : List α) (cells : α → List Value) (sz : Nat) : Prop :=
  ∀ (i : Nat) (x : α), l[i]? = some x → ∃ eb eo, A = some ⟨eb, eo, none⟩ ∧ eb < w.heap.size ∧ w.rangeAt eb (eo + i * sz) (cells x)
theorem LstM.chg {α : Type} {w w' : World} {A : Option Addr} {l : List α} {cells : α → List Value} {sz : Nat} (h : LstM w A l cells sz) (k : Chg Non w w') : LstM w' A l cells sz := by
  intro i x hx
  obtain ⟨eb, eo, e, h2, h3⟩ := h i x hx
  exact ⟨eb, eo, e, Nat.lt_of_lt_of_le h2 k.size, k.range' h3 (fun f => f)⟩
theorem flat_get {α : Type} {cells : α → List Value} {sz : Nat} (hc : ∀ x, (cells x).length = sz) : ∀ (l : List α) (i : Nat) (x : α), l[i]? = some x → ∀ (j : Nat) (u : Value), (cells x)[j]? = some u → (l.flatMap cells)[i * sz + j]? = some u
  | [], i, x, h, _, _, _ => by simp at h
  | y :: l, 0, x, h, j, u, hu => by
    simp only [List.getElem?_cons_zero, Option.some.injEq] at h
    subst h
    rw [Nat.zero_mul, Nat.zero_add, List.flatMap_cons, List.getElem?_append_left (List.getElem?_eq_some_iff.1 hu).1]
    exact hu
  | y :: l, i + 1, x, h, j, u, hu => by
    rw [List.flatMap_cons, List.getElem?_append_right (by rw [hc, Nat.succ_mul]; omega), hc]
    have e : (i + 1) * sz + j - sz = i * sz + j := by rw [Nat.succ_mul]; omega
    rw [e]
    exact flat_get hc l i x (by simpa using h) j u hu
/-- A new block of elements. -/
theorem lstM_new {α : Type} {w : World} {n : Nat} {t : TypeId} {l : List α} {cells : α → List Value} {sz : Nat} (hc : ∀ x, (cells x).length = sz) (h : Hb w n t (l.flatMap cells).toArray) : LstM w (some ⟨n, 0, none⟩) l cells sz := by
  intro i x hx
  refine ⟨n, 0, rfl, h.lt, fun j u hu => ?_⟩
  rw [Nat.zero_add, h.cell]
  simpa using flat_get hc l i x hx j u hu
/-- A slice of elements, out of a reading. -/
theorem slice_of {α : Type} {w : World} {n : Nat} {t e : TypeId} {cs : List Value} (ht : Tryd.prog.underlying t = some (.slice e)) {cells : α → List Value} {Ok : α → Prop} {sz : Nat} (hsz : Tryd.prog.cellsOf e = sz) (hpos : 0 < sz)
    (hel : ∀ es, Okc Tryd.prog w n e es → ∃ x : α, es = cells x ∧ Ok x) (h : Okc Tryd.prog w (n + 1) t cs) : ∃ A c l, cs = [.slice A l.length c] ∧ l.length ≤ maxLen ∧ LstM w A l cells sz ∧ ∀ x ∈ l, Ok x := by
  unfold Okc at h
  simp only [ht, hsz] at h
  rcases h with h | ⟨a, len, c, h, hlc, hcm, hi⟩
  · exact ⟨none, 0, [], h, by simp, fun i x hx => by simp at hx, by simp⟩
  · have hex : ∀ i, i < len → ∃ x : α, Ok x ∧ ∀ j, j < sz → w.cell? (a.add (i * sz + j)) = (cells x)[j]? ∧ (cells x).length = sz := by
      intro i hil
      obtain ⟨es, hl, hc, ho⟩ := hi i hil
      obtain ⟨x, rfl, ox⟩ := hel es ho
      exact ⟨x, ox, fun j hj => ⟨hc j hj, hl⟩⟩
    obtain ⟨l, hl, hP⟩ : ∃ l : List α, l.length = len ∧ ∀ i x, l[i]? = some x → Ok x ∧ ∀ j, j < sz → w.cell? (a.add (i * sz + j)) = (cells x)[j]? ∧ (cells x).length = sz := by
      clear h hlc
      have : ∀ m, m ≤ len → ∃ l : List α, l.length = m ∧ ∀ i x, l[i]? = some x → Ok x ∧ ∀ j, j < sz → w.cell? (a.add (i * sz + j)) = (cells x)[j]? ∧ (cells x).length = sz := by
        intro m
        induction m with
        | zero => intro _; exact ⟨[], rfl, by simp⟩
        | succ m ih =>
          intro hm
          obtain ⟨l, hl, hP⟩ := ih (by omega)
          obtain ⟨x, hx⟩ := hex m (by omega)
          refine ⟨l ++ [x], by simp [hl], fun i y hy => ?_⟩
          rcases Nat.lt_or_ge i m with hlt | hge
          · rw [List.getElem?_append_left (by omega)] at hy
            exact hP i y hy
          · rw [List.getElem?_append_right (by omega)] at hy
            have : i = m := by
              have := (List.getElem?_eq_some_iff.1 hy).1
              simp at this
              omega
            subst this
            simp [hl] at hy
            subst hy
            exact hx
      exact this len (Nat.le_refl _)
    subst hl
    refine ⟨some a, c, l, h, by omega, fun i x hx => ?_, fun x hx => ?_⟩
    · obtain ⟨_, hc⟩ := hP i x hx
      have h0l : 0 < l.length := by have := (List.getElem?_eq_some_iff.1 hx).1; omega
      obtain ⟨_, h0⟩ := hP 0 _ (List.getElem?_eq_getElem h0l)
      have h00 := h0 0 hpos
      rw [Nat.zero_mul, Nat.zero_add, List.getElem?_eq_getElem (by omega)] at h00
      have hadd : a.add 0 = a := by unfold Addr.add; simp
      rw [hadd] at h00
      have hsp : a.spot = none := by
        cases hs : a.spot with
        | none => rfl
        | some s =>
          have h1 := h00.1
          unfold World.cell? at h1
          simp [hs] at h1
          split at h1 <;> simp_all
      have hlt := World.block_lt_of_cell? w a h00.1
      obtain ⟨b, o, s⟩ := a
      simp only at hsp
      subst hsp
      refine ⟨b, o, rfl, hlt, fun j u hu => ?_⟩
      have hj : j < sz := by have := (List.getElem?_eq_some_iff.1 hu).1; have := (hc 0 hpos).2; omega
      have := (hc j hj).1
      rw [Addr.add_mid, ← Nat.add_assoc, hu] at this
      exact this
    · obtain ⟨i, hi⟩ := List.mem_iff_getElem?.1 hx
      exact (hP i x hi).1
end Go.Proofs.YtahlfncijbkcoaaDoor
