/- Lists of the call's own, of elements of any one type: append of one element; entries. -/
import Derived.Test.YtahlfncijbkcoaaDoorChecked
import Derived.WalkKit
import Derived.WalkLawsBesides
import Derived.Lib.Hide
import Derived.Deep.AppendLies
import Derived.Maps.AppendAt
import Derived.Laws.MakeOwn
import Derived.Test.YtahlfncijbkcoaaDoorKs
namespace Go.Proofs.YtahlfncijbkcoaaDoor
open Go.RowKit
set_option linter.unusedVariables false
set_option linter.unusedSimpArgs false
set_option maxRecDepth 20000

theorem fill_list : ∀ (l : List Value) (k : Nat) (a : List Value), k + l.length ≤ a.length → (l.zipIdx k).foldl (fun (cs : Array Value) (p : Value × Nat) => cs.setIfInBounds (0 + p.2) p.1) a.toArray = (a.take k ++ (l ++ a.drop (k + l.length))).toArray
  | [], k, a, h => by simp
  | x :: l, k, a, h => by
    rw [List.zipIdx_cons, List.foldl_cons]
    rw [List.length_cons] at h
    have e : a.toArray.setIfInBounds (0 + k) x = (a.set k x).toArray := by simp
    simp only
    rw [e, fill_list l (k + 1) (a.set k x) (by rw [List.length_set]; omega)]
    congr 1
    have hk : k < a.length := by omega
    rw [List.take_set, List.drop_set_of_lt (by omega), List.length_cons]
    have h1 : (a.take (k + 1)).set k x = a.take k ++ [x] := by
      rw [List.take_add_one, List.getElem?_eq_getElem hk]
      simp only [Option.toList_some]
      rw [List.set_append_right _ _ (by simp; omega)]
      simp [Nat.min_eq_left (Nat.le_of_lt hk)]
    rw [h1, List.append_assoc, List.cons_append, List.nil_append, show k + 1 + l.length = k + (l.length + 1) by omega]
    simp
theorem fill_whole (cs : List Value) (a : Array Value) (h : a.size = cs.length) : (cs.toArray.zipIdx.foldl (fun (b : Array Value) (p : Value × Nat) => b.setIfInBounds (0 + p.2) p.1) a) = cs.toArray := by
  have h1 := fill_list cs 0 a.toList (by simp [h])
  simp only [Array.toArray_toList, List.take_zero, List.nil_append, Nat.zero_add] at h1
  rw [List.drop_of_length_le (by simp [h]), List.append_nil] at h1
  have e : (cs.toArray.zipIdx.foldl (fun (b : Array Value) (p : Value × Nat) => b.setIfInBounds (0 + p.2) p.1) a) = cs.zipIdx.foldl (fun (b : Array Value) (p : Value × Nat) => b.setIfInBounds (0 + p.2) p.1) a := by simp
  rw [e]
  simpa using h1
theorem flat_getU {α : Type} {cells : α → List Value} {sz : Nat} : ∀ (l : List α) (hc : ∀ x ∈ l, (cells x).length = sz) (i : Nat) (x : α), l[i]? = some x → ∀ (j : Nat) (u : Value), (cells x)[j]? = some u → (l.flatMap cells)[i * sz + j]? = some u
  | [], _, i, x, h, _, _, _ => by simp at h
  | y :: l, hc, 0, x, h, j, u, hu => by
    simp only [List.getElem?_cons_zero, Option.some.injEq] at h
    subst h
    rw [Nat.zero_mul, Nat.zero_add, List.flatMap_cons, List.getElem?_append_left (List.getElem?_eq_some_iff.1 hu).1]
    exact hu
  | y :: l, hc, i + 1, x, h, j, u, hu => by
    have hy := hc y (by simp)
    rw [List.flatMap_cons, List.getElem?_append_right (by rw [hy, Nat.succ_mul]; omega), hy]
    have e : (i + 1) * sz + j - sz = i * sz + j := by rw [Nat.succ_mul]; omega
    rw [e]
    exact flat_getU l (fun x hx => hc x (by simp [hx])) i x (by simpa using h) j u hu
theorem run_build1 (w : World) {t e : TypeId} {i : TypeInfo} {z : Value} {sz : Nat} (ht : Tryd.prog.underlying t = some (.slice e)) (hi : Tryd.prog.info? e = some i) (hz : i.zero = some z) (hs : i.size = sz) (hpos : 0 < sz) (hsz : sz ≤ 1000) (cs : List Value) (hcs : cs.length = sz) :
    (Instr.buildSlice t 1 #[(0, .agg cs.toArray)]).run Tryd.prog w = .ok (.slice (some ⟨w.heap.size, 0, none⟩) 1 1) (w.alloc (.cells cs.toArray e)) := by
  subst hs
  have hsz0 : ¬ (1 * i.size = 0) := by omega
  have hbig : ¬ (1 * i.size > 2 ^ 24) := by omega
  have hf : Instr.fill (fun j => some (j * i.size, i.size)) ((Array.range (1 * i.size)).map (z.cells[· % z.cells.size]!)) [(0, .agg cs.toArray)] = some cs.toArray := by
    unfold Instr.fill
    have h1 : (Value.agg cs.toArray).cells = cs.toArray := rfl
    rw [h1]
    simp only [List.size_toArray, Nat.zero_mul, Nat.zero_add, Array.size_map, Array.size_range, hcs]
    rw [if_neg (by simp)]
    unfold Instr.fill
    congr 1
    have := fill_whole cs ((Array.range (1 * i.size)).map (z.cells[· % z.cells.size]!)) (by simp [hcs])
    simpa using this
  unfold Instr.buildSlice
  simp only [Sem.run_bind, run_underlying ht, sizeOf, typeInfo, hi, Result.andThen_ok, Sem.run_pure, if_neg hbig, if_neg hsz0, zeroValue, hz]
  rw [Nat.one_mul] at hf
  simp [hi, hz, newRow]
  rw [if_neg (by omega), if_neg (by omega), hf]
  simp
/-- A list of the call's own. -/
def OwnL {α : Type} (e : TypeId) (sz : Nat) (cells : α → List Value) (w : World) (v : Value) (l : List α) : Prop := w.ownsRow 0 e sz v l.length (l.flatMap cells)
theorem flat_size {α : Type} {cells : α → List Value} {sz : Nat} : ∀ {l : List α}, (∀ x ∈ l, (cells x).length = sz) → (l.flatMap cells).length = l.length * sz
  | [], _ => by simp
  | x :: l, h => by rw [List.flatMap_cons, List.length_append, flat_size (fun y hy => h y (by simp [hy])), h x (by simp), List.length_cons, Nat.succ_mul]; omega
section
variable {α : Type} {e : TypeId} {sz : Nat} {cells : α → List Value} {w w' : World} {v : Value} {l : List α}
theorem OwnL.nil (w : World) : OwnL e sz cells w (.slice none 0 0) ([] : List α) := World.ownsRow_nil w 0 e sz
theorem OwnL.chg {S : Nat → Prop} (h : OwnL e sz cells w v l) (k : Chg S w w') (hS : ∀ j, vbl v j → ¬ S j) : OwnL e sz cells w' v l := by
  refine ⟨h.1, ?_⟩
  rcases h.2 with h0 | ⟨g, cap, cur, rfl, hb, hg, r⟩
  · exact .inl h0
  · exact .inr ⟨g, cap, cur, rfl, hb, (k.block g (Array.getElem?_eq_some_iff.1 hg).1 (hS g rfl)).trans hg, r⟩
theorem OwnL.lt (h : OwnL e sz cells w v l) : ∀ j, vbl v j → j < w.heap.size := by
  intro j hj
  rcases h.2 with ⟨rfl, _⟩ | ⟨g, cap, cur, rfl, hb, hg, r⟩
  · cases hj
  · have : some g = some j := hj
    injection this with this
    subst this
    exact (Array.getElem?_eq_some_iff.1 hg).1
theorem OwnL.ne {k : Nat} {t : TypeId} {cs : Array Value} (h : OwnL e sz cells w v l) (hb : Hb w k t cs) (hne : e ≠ t) : ¬ vbl v k := by
  intro hj
  rcases h.2 with ⟨rfl, _⟩ | ⟨g, cap, cur, rfl, _, hg, _⟩
  · cases hj
  · have : some g = some k := hj
    injection this with this
    subst this
    have h2 : some (Obj.cells cur e (0, 0)) = some (Obj.cells cs t (0, 0)) := hg.symm.trans hb
    injection h2 with h2
    injection h2 with _ h3
    exact hne h3
/-- Where it lies. -/
theorem OwnL.slice (h : OwnL e sz cells w v l) (hc : ∀ x ∈ l, (cells x).length = sz) (hpos : 0 < sz) : ∃ A c, v = .slice A l.length c ∧ l.length ≤ c ∧ (∀ j, abl A j → vbl v j) ∧
    ∀ (i : Nat) (x : α), l[i]? = some x → ∃ eb eo, A = some ⟨eb, eo, none⟩ ∧ eb < w.heap.size ∧ w.rangeAt eb (eo + i * sz) (cells x) := by
  rcases h.2 with ⟨rfl, h0⟩ | ⟨g, cap, cur, rfl, hb, hg, hn, hm, hs, ht⟩
  · have : l = [] := List.eq_nil_of_length_eq_zero h0
    subst this
    exact ⟨none, 0, rfl, Nat.le_refl _, (by rintro j ⟨_, h, _⟩; cases h), by intro i x hx; simp at hx⟩
  · refine ⟨some ⟨g, 0, none⟩, cap, rfl, hn, (by rintro j ⟨_, h, rfl⟩; injection h with h; subst h; rfl), fun i x hx => ⟨g, 0, rfl, (Array.getElem?_eq_some_iff.1 hg).1, fun j u hu => ?_⟩⟩
    have hg' : Hb w g e cur := hg
    have hil := (List.getElem?_eq_some_iff.1 hx).1
    have hxm : x ∈ l := List.mem_of_getElem? hx
    have hj : j < sz := by rw [← hc x hxm]; exact (List.getElem?_eq_some_iff.1 hu).1
    have := flat_getU l hc i x hx j u hu
    have hb1 : i * sz + j < l.length * sz := by
      have : (i + 1) * sz ≤ l.length * sz := Nat.mul_le_mul_right _ hil
      rw [Nat.succ_mul] at this
      omega
    rw [← ht, List.getElem?_take, if_pos hb1] at this
    rw [Nat.zero_add, hg'.cell]
    simpa using this
/-- append of one element. -/
theorem run_app1 (w : World) (ty t : TypeId) {i : TypeInfo} {z : Value} {by' : Nat} (ht : Tryd.prog.underlying t = some (.slice e)) (hi : Tryd.prog.info? e = some i) (hz : i.zero = some z) (hs : i.size = sz) (hby : i.bytes = by') (hzs : z.cells.size = sz) (hpos : 0 < sz) (hbb : by' ≤ 1000)
    (hown : OwnL e sz cells w v l) (x : α) (hx : (cells x).length = sz) (h1 : ∀ u ∈ cells x, u.oneCell' = true) {nb c : Nat} (hb : Hb w nb e (cells x).toArray) (hlen : l.length ≤ 1000) :
    ∃ v' w', (Builtin.append_ #[t, t] ty #[v, .slice (some ⟨nb, 0, none⟩) 1 c]).run Tryd.prog w = .ok v' w' ∧ OwnL e sz cells w' v' (l ++ [x]) ∧ w.grownBy w' v.ownBlock ∧ (v'.ownBlock = v.ownBlock ∨ v'.ownBlock = some w.heap.size) := by
  obtain ⟨v', w', g1, g2, g3, _, g5⟩ := run_append_own_at (P := Tryd.prog) w 0 t ty e i z sz by' ht hi hz hs hby hzs hpos v l.length (l.flatMap cells) hown ⟨nb, 0, none⟩ 1 c (cells x) (by rw [hx, Nat.one_mul]) (fun j u hu => by
    rw [Addr.add_mid, Nat.zero_add, hb.cell]
    simpa using hu) h1 (by unfold maxLen; omega) (by
      have : (l.length + 1) * by' ≤ 1001 * 1000 := Nat.mul_le_mul (by omega) hbb
      omega) (Nat.zero_le _)
  refine ⟨v', w', g1, ?_, g3, g5⟩
  unfold OwnL
  rw [List.length_append, List.length_singleton, List.flatMap_append]
  simpa using g2
end
theorem wpList_build1 (w : World) {ops : Array Oper} {rest : List Oper} {o : Oper} {a : Act} {Q : Exit → Act → World → Prop} {t e : TypeId} {i : TypeInfo} {z : Value} {sz : Nat} (hgd : o.guard = none) (x : Operand)
    (ho : o.op = .buildSlice t 1 #[(0, x)]) (ht : Tryd.prog.underlying t = some (.slice e)) (hi : Tryd.prog.info? e = some i) (hz : i.zero = some z) (hs : i.size = sz) (hpos : 0 < sz) (hsz : sz ≤ 1000) (cs : List Value) (hx : a.eval x = .agg cs.toArray) (hcs : cs.length = sz)
    (h : wpList Tryd.prog ops Q rest (a.put o.dst (.slice (some ⟨w.heap.size, 0, none⟩) 1 1)) (w.alloc (.cells cs.toArray e))) : wpList Tryd.prog ops Q (o :: rest) a w := by
  refine wpList_plain hgd fun K hK => ?_
  have hrun := run_build1 w ht hi hz hs hpos hsz cs hcs
  unfold Oper.wp execOp
  simp only [ho, Sem.run_bind, Sem.run_pure, Result.andThen_ok, List.map_toArray, List.map_cons, List.map_nil, hx, hrun]
  exact hK _ _ h
theorem step_app1 {α : Type} (w : World) {ops : Array Oper} {o : Oper} {a : Act} {K : Act → World → Prop} {Q : Exit → Act → World → Prop} {E : Prop} {t e : TypeId} {i : TypeInfo} {z : Value} {sz by' : Nat} {cells : α → List Value} (hgd : o.guard = none) (sl x : Operand)
    (ho : o.op = .call { callee := .builtin .append, args := #[sl, x], argTypes := #[t, t] }) (ht : Tryd.prog.underlying t = some (.slice e)) (hi : Tryd.prog.info? e = some i) (hz : i.zero = some z) (hs : i.size = sz) (hby : i.bytes = by') (hzs : z.cells.size = sz) (hpos : 0 < sz) (hbb : by' ≤ 1000)
    {v : Value} {l : List α} (hv : a.eval sl = v) (hown : OwnL e sz cells w v l) (y : α) (hy : (cells y).length = sz) (h1 : ∀ u ∈ cells y, u.oneCell' = true) {nb : Nat} (hx : a.eval x = .slice (some ⟨nb, 0, none⟩) 1 1) (hb : Hb w nb e (cells y).toArray) (hlen : l.length ≤ 1000)
    (h : ∀ v' w', OwnL e sz cells w' v' (l ++ [y]) → w.grownBy w' v.ownBlock → (v'.ownBlock = v.ownBlock ∨ v'.ownBlock = some w.heap.size) → K (a.put o.dst v') w') :
    if Region.wanted o (yielded ops a.tmps) = true then Oper.wp Tryd.prog o a w K Q else E := by
  have hw : Region.wanted o (yielded ops a.tmps) = true := by simp [Region.wanted, hgd]
  rw [if_pos hw]
  obtain ⟨v', w', hrun, h2, h3, h4⟩ := run_app1 w o.type t ht hi hz hs hby hzs hpos hbb hown y hy h1 (c := 1) hb hlen
  unfold Oper.wp execOp
  simp only [ho, resolve, invoke, builtin, Sem.run_bind, Sem.run_pure, Result.andThen_ok, List.map_toArray, List.map_cons, List.map_nil, hv, hx, hrun]
  exact h v' w' h2 h3 h4
theorem wpList_app1 {α : Type} (w : World) {ops : Array Oper} {rest : List Oper} {o : Oper} {a : Act} {Q : Exit → Act → World → Prop} {t e : TypeId} {i : TypeInfo} {z : Value} {sz by' : Nat} {cells : α → List Value} (hgd : o.guard = none) (sl x : Operand)
    (ho : o.op = .call { callee := .builtin .append, args := #[sl, x], argTypes := #[t, t] }) (ht : Tryd.prog.underlying t = some (.slice e)) (hi : Tryd.prog.info? e = some i) (hz : i.zero = some z) (hs : i.size = sz) (hby : i.bytes = by') (hzs : z.cells.size = sz) (hpos : 0 < sz) (hbb : by' ≤ 1000)
    {v : Value} {l : List α} (hv : a.eval sl = v) (hown : OwnL e sz cells w v l) (y : α) (hy : (cells y).length = sz) (h1 : ∀ u ∈ cells y, u.oneCell' = true) {nb : Nat} (hx : a.eval x = .slice (some ⟨nb, 0, none⟩) 1 1) (hb : Hb w nb e (cells y).toArray) (hlen : l.length ≤ 1000)
    (h : ∀ v' w', OwnL e sz cells w' v' (l ++ [y]) → w.grownBy w' v.ownBlock → (v'.ownBlock = v.ownBlock ∨ v'.ownBlock = some w.heap.size) → wpList Tryd.prog ops Q rest (a.put o.dst v') w') : wpList Tryd.prog ops Q (o :: rest) a w := by
  refine wpList_plain hgd fun K hK => ?_
  obtain ⟨v', w', hrun, h2, h3, h4⟩ := run_app1 w o.type t ht hi hz hs hby hzs hpos hbb hown y hy h1 (c := 1) hb hlen
  unfold Oper.wp execOp
  simp only [ho, resolve, invoke, builtin, Sem.run_bind, Sem.run_pure, Result.andThen_ok, List.map_toArray, List.map_cons, List.map_nil, hv, hx, hrun]
  exact hK _ _ (h v' w' h2 h3 h4)
theorem OwnL.blk {α : Type} {e : TypeId} {sz : Nat} {cells : α → List Value} {w : World} {v : Value} {l : List α} (h : OwnL e sz cells w v l) {j : Nat} (hj : vbl v j) : ∃ cs, Hb w j e cs := by
  rcases h.2 with ⟨rfl, _⟩ | ⟨g, cap, cur, rfl, _, hg, _⟩
  · cases hj
  · have : some g = some j := hj
    injection this with this
    subst this
    exact ⟨cur, hg⟩

/-! ### Entries -/
theorem entry_parts : ∃ i z, Tryd.prog.info? 54 = some i ∧ i.zero = some z ∧ z.cells.size = 2 ∧ i.size = 2 ∧ i.bytes = 32 := by
  have h : (Tryd.prog.info? 54).map (fun i => (i.zero.map (·.cells.size), i.size, i.bytes)) = some (some 2, 2, 32) := by kernel_rfl
  cases hi : Tryd.prog.info? 54 with
  | none => rw [hi] at h; cases h
  | some i =>
    rw [hi] at h
    simp only [Option.map_some, Option.some.injEq, Prod.mk.injEq] at h
    obtain ⟨h1, h2, h3⟩ := h
    cases hz : i.zero with
    | none => rw [hz] at h1; cases h1
    | some z => rw [hz] at h1; exact ⟨i, z, rfl, hz, by simpa using h1, h2, h3⟩
theorem En.one (x : En) : ∀ u ∈ x.cells, u.oneCell' = true := by
  intro u hu
  simp only [En.cells, List.mem_cons, List.not_mem_nil, or_false] at hu
  rcases hu with rfl | rfl <;> rfl
theorem chg_grown {w w' : World} {v : Value} (h : w.grownBy w' v.ownBlock) : Chg (vbl v) w w' := (Chg.refl _ w).grown h (fun k hk => .inl hk)
/-- A list of the call's own, on a block. -/
def OwnE (w : World) (v : Value) (es : List En) : Prop := OwnL 54 2 En.cells w v es ∧ ∃ g, vbl v g
theorem OwnE.chg {w w' : World} {v : Value} {es : List En} {S : Nat → Prop} (h : OwnE w v es) (k : Chg S w w') (hS : ∀ j, vbl v j → ¬ S j) : OwnE w' v es := ⟨h.1.chg k hS, h.2⟩
theorem OwnE.form {w : World} {v : Value} {es : List En} (h : OwnE w v es) : ∃ g cap, v = .slice (some ⟨g, 0, none⟩) es.length cap ∧ vbl v g ∧ g < w.heap.size ∧ es.length ≤ cap ∧ ∀ i x, es[i]? = some x → w.rangeAt g (i * 2) x.cells ∧ ∀ j, w.frozen? ⟨g, j, none⟩ = false := by
  obtain ⟨h, g0, hg0⟩ := h
  obtain ⟨A, c, hv, hc, ha, hr⟩ := h.slice (fun x _ => rfl) (by omega)
  rcases h.2 with ⟨rfl, _⟩ | ⟨g, cap, cur, rfl, _, hg, hn, hm, hs, ht⟩
  · cases hg0
  · have hg' : Hb w g 54 cur := hg
    refine ⟨g, cap, rfl, rfl, hg'.lt, hn, fun i x hx => ?_⟩
    obtain ⟨eb, eo, e, _, r⟩ := hr i x hx
    injection hv with hA
    rw [← hA] at e
    injection e with e
    injection e with e1 e2
    subst e1
    subst e2
    rw [Nat.zero_add] at r
    exact ⟨r, fun j => hg'.frozen j⟩
/-- make([]api.Entry, 0, c). -/
theorem make_entries (W : World) (c : Nat) (hc : c ≤ 1000000) : ∃ v w', (Instr.makeSlice 38 (.int .i64 0) (.int .i64 (c : Int))).run Tryd.prog W = .ok v w' ∧ OwnE w' v [] ∧ Chg Non W w' ∧ ∀ j, vbl v j → W.heap.size ≤ j := by
  obtain ⟨i, z, hi, hz, _, hs, hb⟩ := entry_parts
  obtain ⟨w', h1, h2, h3⟩ := run_make_own (P := Tryd.prog) W 0 38 54 i z 2 Tryd.underlying38 hi hz hs .i64 .i64 c (by rw [hb]; omega) (by unfold maxLen; omega) (Nat.zero_le _)
  refine ⟨_, w', h1, ⟨h2, W.heap.size, rfl⟩, (Chg.refl _ _).grown h3 (fun k e => by cases e), fun j hj => ?_⟩
  have : some W.heap.size = some j := hj
  injection this with this
  omega
end Go.Proofs.YtahlfncijbkcoaaDoor
