/- Rows of validators in memory: read, written, appended to. -/
import Derived.Test.YtmmacimneaehiaaChecked
import Derived.WalkKit
import Derived.WalkLawsBesides
import Derived.Lib.Hide
import Derived.Lib.AppendZeros
import Derived.Lib.SliceRun
import Derived.Test.YtmmacimneaehiaaGw
namespace Go.Proofs.Ytmmacimneaehiaa
open Go.RowKit
set_option linter.unusedVariables false
set_option linter.unusedSimpArgs false
set_option maxRecDepth 20000

theorem Chg.frozen {S : Nat → Prop} {w w' : World} (k : Chg S w w') {p : Addr} (hl : p.block < w.heap.size) (hp : ¬ S p.block) : w'.frozen? p = w.frozen? p := by
  unfold World.frozen?
  rw [k.block p.block hl hp]
theorem there_lt {w : World} {b o n : Nat} (h : w.there b o n) (hn : 0 < n) : b < w.heap.size := by
  obtain ⟨h1, _⟩ := h 0 hn
  obtain ⟨v, hv⟩ := Option.isSome_iff_exists.1 h1
  exact World.block_lt_of_cell? w _ hv
theorem there_chg {S : Nat → Prop} {w w' : World} {b o n : Nat} (h : w.there b o n) (k : Chg S w w') (hb : ¬ S b) : w'.there b o n := by
  intro j hj
  obtain ⟨h1, h2⟩ := h j hj
  obtain ⟨v, hv⟩ := Option.isSome_iff_exists.1 h1
  refine ⟨?_, ?_⟩
  · rw [k.cell hv hb]; rfl
  · rw [k.frozen (World.block_lt_of_cell? w _ hv) hb]; exact h2
theorem there_set {w : World} {b o n : Nat} (h : w.there b o n) (p : Addr) (u : Value) : (w.setCell p u).there b o n := by
  intro j hj
  obtain ⟨h1, h2⟩ := h j hj
  refine ⟨?_, ?_⟩
  · obtain ⟨v, hv⟩ := Option.isSome_iff_exists.1 h1
    obtain ⟨v', hv'⟩ := cell?_setCell_some (p := p) (x := u) hv
    rw [hv']; rfl
  · rw [World.frozen?_setCell]; exact h2
theorem there_sets {b o n c : Nat} : ∀ (vs : List Value) (q : Nat) {w : World}, w.there b o n → (w.setCells c q vs).there b o n
  | [], _, _, h => h
  | v :: vs, q, w, h => there_sets vs (q + 1) (there_set h ⟨c, q, none⟩ v)

/-- The block g holds the validators l from its beginning on, and may be written there. -/
def RowV (w : World) (g : Nat) (l : List Va) : Prop := ∀ (i : Nat) (x : Va), l[i]? = some x → w.rangeAt g (i * 2) x.cells ∧ w.there g (i * 2) 2
section
variable {w w' : World} {g : Nat} {l : List Va}
theorem RowV.chg {S : Nat → Prop} (h : RowV w g l) (k : Chg S w w') (hg : ¬ S g) : RowV w' g l := fun i x hx => ⟨k.range' (h i x hx).1 hg, there_chg (h i x hx).2 k hg⟩
theorem RowV.lst (h : RowV w g l) : LstM w (some ⟨g, 0, none⟩) l Va.cells 2 := fun i x hx => ⟨g, 0, rfl, there_lt (h i x hx).2 (by omega), by rw [Nat.zero_add]; exact (h i x hx).1⟩
theorem RowV.take (h : RowV w g l) (k : Nat) : RowV w g (l.take k) := fun i x hx => h i x (by
  rw [List.getElem?_take] at hx
  split at hx
  · exact hx
  · cases hx)
theorem RowV.cells (h : RowV w g l) {i : Nat} {x : Va} (hx : l[i]? = some x) : (w.cell? ⟨g, i * 2, none⟩ = some (.int .u64 (x.key : Int)) ∧ w.cell? ⟨g, i * 2 + 1, none⟩ = some (.int .i64 x.power)) ∧ w.frozen? ⟨g, i * 2, none⟩ = false ∧ w.frozen? ⟨g, i * 2 + 1, none⟩ = false := by
  obtain ⟨h1, h2⟩ := h i x hx
  obtain ⟨a, b⟩ := rangeAt_cons h1
  obtain ⟨b, _⟩ := rangeAt_cons b
  exact ⟨⟨a, b⟩, (h2 0 (by omega)).2, (h2 1 (by omega)).2⟩
/-- Another power at a place. -/
theorem RowV.setP (h : RowV w g l) {k : Nat} {y : Va} (hy : l[k]? = some y) (p : Int) : RowV (w.setCell ⟨g, k * 2 + 1, none⟩ (.int .i64 p)) g (l.set k ⟨y.key, p⟩) := by
  intro i x hx
  by_cases e : i = k
  · subst e
    rw [List.getElem?_set_self (List.getElem?_eq_some_iff.1 hy).1] at hx
    injection hx with hx
    subst hx
    obtain ⟨⟨a, b⟩, _⟩ := h.cells hy
    refine ⟨fun j u hu => ?_, there_set (h i y hy).2 _ _⟩
    match j, hu with
    | 0, hu =>
      injection hu with hu
      subst hu
      rw [World.cell?_setCell_other w _ _ _ (by simp)]
      exact a
    | 1, hu =>
      injection hu with hu
      subst hu
      exact World.cell?_setCell_same w _ _ b
    | j + 2, hu => simp [Va.cells] at hu
  · rw [List.getElem?_set_ne (Ne.symm e)] at hx
    obtain ⟨h1, h2⟩ := h i x hx
    refine ⟨fun j u hu => ?_, there_set h2 _ _⟩
    have hj : j < 2 := (List.getElem?_eq_some_iff.1 hu).1
    rw [World.cell?_setCell_other w _ _ _ (by first | (simp; done) | (simp; omega))]
    exact h1 j u hu
/-- Another validator at a place. -/
theorem RowV.setX (h : RowV w g l) {k : Nat} (hk : k < l.length) (y : Va) : RowV (w.setCells g (k * 2) y.cells) g (l.set k y) := by
  intro i x hx
  by_cases e : i = k
  · subst e
    rw [List.getElem?_set_self hk] at hx
    injection hx with hx
    subst hx
    obtain ⟨_, h2⟩ := h i _ (List.getElem?_eq_getElem hk)
    refine ⟨fun j u hu => ?_, there_sets _ _ h2⟩
    obtain ⟨hj, e⟩ := List.getElem?_eq_some_iff.1 hu
    rw [World.cell?_setCells_in g y.cells (i * 2) w (fun j hj => (h2 j hj).1) j hj, e]
  · rw [List.getElem?_set_ne (Ne.symm e)] at hx
    obtain ⟨h1, h2⟩ := h i x hx
    refine ⟨fun j u hu => ?_, there_sets _ _ h2⟩
    have hj : j < 2 := (List.getElem?_eq_some_iff.1 hu).1
    rw [World.cell?_setCells_out g y.cells (k * 2) w _ (fun _ _ => by show _ ∨ _; simp [Va.cells]; omega)]
    exact h1 j u hu
end

/-- The value v is a slice of the call's own that holds the validators l. -/
def OwnV (w : World) (v : Value) (l : List Va) : Prop := w.ownsRow 0 32 2 v l.length (l.flatMap Va.cells)
theorem flatV_len (l : List Va) : (l.flatMap Va.cells).length = l.length * 2 := by
  induction l with
  | nil => rfl
  | cons x l ih => rw [List.flatMap_cons, List.length_append, ih, List.length_cons, Va.cells_len]; omega
theorem flatV_one (l : List Va) : ∀ u ∈ l.flatMap Va.cells, u.oneCell' = true := by
  intro u hu
  rw [List.mem_flatMap] at hu
  obtain ⟨x, _, hu⟩ := hu
  simp only [Va.cells, List.mem_cons, List.not_mem_nil, or_false] at hu
  rcases hu with rfl | rfl <;> rfl
section
variable {w w' : World} {v : Value} {l : List Va}
theorem OwnV.nil (w : World) : OwnV w (.slice none 0 0) [] := World.ownsRow_nil w 0 _ 2
theorem OwnV.chg {S : Nat → Prop} (h : OwnV w v l) (k : Chg S w w') (hS : ∀ j, vbl v j → ¬ S j) : OwnV w' v l := by
  refine ⟨h.1, ?_⟩
  rcases h.2 with h0 | ⟨g, cap, cur, rfl, hb, hg, r⟩
  · exact .inl h0
  · exact .inr ⟨g, cap, cur, rfl, hb, (k.block g (Array.getElem?_eq_some_iff.1 hg).1 (hS g rfl)).trans hg, r⟩
theorem OwnV.form (h : OwnV w v l) : (v = .slice none 0 0 ∧ l = []) ∨ ∃ g cap, v = .slice (some ⟨g, 0, none⟩) l.length cap ∧ l.length ≤ cap ∧ cap ≤ maxLen ∧ g < w.heap.size ∧ RowV w g l := by
  rcases h.2 with ⟨rfl, h0⟩ | ⟨g, cap, cur, rfl, hb, hg, hn, hm, hs, ht⟩
  · exact .inl ⟨rfl, List.eq_nil_of_length_eq_zero h0⟩
  · refine .inr ⟨g, cap, rfl, hn, hm, (Array.getElem?_eq_some_iff.1 hg).1, fun i x hx => ?_⟩
    have hil := (List.getElem?_eq_some_iff.1 hx).1
    have hg' : Hb w g 32 cur := hg
    refine ⟨fun j u hu => ?_, fun j hj => ⟨?_, hg'.frozen _⟩⟩
    · have hj : j < 2 := (List.getElem?_eq_some_iff.1 hu).1
      have := flat_get (cells := Va.cells) (sz := 2) (fun _ => rfl) l i x hx j u hu
      rw [← ht, List.getElem?_take, if_pos (by omega)] at this
      rw [hg'.cell]
      simpa using this
    · rw [hg'.cell, Array.getElem?_eq_getElem (by omega)]; rfl
theorem OwnV.slice (h : OwnV w v l) : ∃ A c, v = .slice A l.length c ∧ l.length ≤ c ∧ c ≤ maxLen ∧ LstM w A l Va.cells 2 := by
  rcases h.form with ⟨rfl, rfl⟩ | ⟨g, cap, rfl, hn, hm, hg, hr⟩
  · exact ⟨none, 0, rfl, Nat.le_refl _, by unfold maxLen; omega, fun i x hx => by simp at hx⟩
  · exact ⟨some ⟨g, 0, none⟩, cap, rfl, hn, hm, hr.lst⟩
end

theorem va_info : (Try.prog.info? 32).map (fun i => (i.zero.map (·.cells.size), i.size, i.bytes)) = some (some 2, 2, 16) := by kernel_rfl
theorem va_row : (Try.prog.info? 32).map (·.size) = some 2 := by kernel_rfl
theorem va_parts : ∃ i z, Try.prog.info? 32 = some i ∧ i.zero = some z ∧ z.cells.size = 2 ∧ i.size = 2 ∧ i.bytes = 16 := by
  have h := va_info
  cases hi : Try.prog.info? 32 with
  | none => rw [hi] at h; cases h
  | some i =>
    rw [hi] at h
    simp only [Option.map_some, Option.some.injEq, Prod.mk.injEq] at h
    obtain ⟨h1, h2, h3⟩ := h
    cases hz : i.zero with
    | none => rw [hz] at h1; cases h1
    | some z =>
      rw [hz] at h1
      simp only [Option.map_some, Option.some.injEq] at h1
      exact ⟨i, z, rfl, hz, h1, h2, h3⟩

/-- append of validators onto a slice of the call's own. -/
theorem run_appV (w : World) (ty : TypeId) {v : Value} {l m : List Va} (hown : OwnV w v l) {A : Option Addr} (c : Nat) (hr : LstM w A m Va.cells 2) (hsz : l.length + m.length ≤ 1000000000000) :
    ∃ v' w', (Builtin.append_ #[22, 22] ty #[v, .slice A m.length c]).run Try.prog w = .ok v' w' ∧ OwnV w' v' (l ++ m) ∧ w.grownBy w' v.ownBlock ∧ (v'.ownBlock = v.ownBlock ∨ v'.ownBlock = some w.heap.size) := by
  obtain ⟨i, z, hi, hz, hzs, hsi, hby⟩ := va_parts
  have hm : l.length + m.length ≤ maxLen := by unfold maxLen; omega
  by_cases h0 : m = []
  · subst h0
    refine ⟨v, w, ?_, by simpa using hown, ⟨rfl, rfl, rfl, Nat.le_refl _, fun _ _ _ => rfl⟩, .inl rfl⟩
    rcases hown.2 with ⟨rfl, _⟩ | ⟨g, cap, cur, rfl, _, _, hnc, _⟩
    · cases A <;> simp [Builtin.append_, run_underlying Try.underlying22, sizeOf, typeInfo, hi, Builtin.lenOf, Builtin.firstCells, loadCells, loadCellsFrom]
    · cases A <;> simp [Builtin.append_, run_underlying Try.underlying22, sizeOf, typeInfo, hi, Builtin.lenOf, Builtin.firstCells, hnc, storeCells, loadCells, loadCellsFrom]
  · have hpos : 0 < m.length := List.length_pos_iff.2 h0
    obtain ⟨eb, eo, rfl, _, _⟩ := hr 0 _ (List.getElem?_eq_getElem hpos)
    have hcells : ∀ j u, (m.flatMap Va.cells)[j]? = some u → w.cell? ((⟨eb, eo, none⟩ : Addr).add j) = some u := by
      intro j u hu
      have hj : j < m.length * 2 := by rw [← flatV_len]; exact (List.getElem?_eq_some_iff.1 hu).1
      have hq : j / 2 < m.length := by omega
      obtain ⟨b', o', e, _, r⟩ := hr (j / 2) _ (List.getElem?_eq_getElem hq)
      injection e with e
      injection e with e1 e2
      subst e1; subst e2
      have hlen : j % 2 < (m[j / 2].cells).length := by rw [Va.cells_len]; omega
      have h1 := r (j % 2) _ (List.getElem?_eq_getElem hlen)
      have h2 := flat_get (cells := Va.cells) (sz := 2) (fun _ => rfl) m (j / 2) _ (List.getElem?_eq_getElem hq) (j % 2) _ (List.getElem?_eq_getElem hlen)
      have e3 : j / 2 * 2 + j % 2 = j := by omega
      rw [e3, hu] at h2
      injection h2 with h2
      rw [Addr.add_mid, ← e3, ← Nat.add_assoc, h2]
      exact h1
    obtain ⟨v', w', h1, h2, h3, _, h5⟩ := run_append_own_at (P := Try.prog) w 0 22 ty 32 i z 2 16 Try.underlying22 hi hz hsi hby hzs (by omega) v l.length (l.flatMap Va.cells) hown ⟨eb, eo, none⟩ m.length c (m.flatMap Va.cells) (flatV_len m) hcells (flatV_one m) hm (by omega) (Nat.zero_le _)
    refine ⟨v', w', h1, ?_, h3, h5⟩
    unfold OwnV
    rw [List.length_append, List.flatMap_append]
    exact h2
theorem wpList_appV (w : World) {ops : Array Oper} {rest : List Oper} {o : Oper} {a : Act} {Q : Exit → Act → World → Prop} (hgd : o.guard = none) (sl x : Operand)
    (ho : o.op = .call { callee := .builtin .append, args := #[sl, x], argTypes := #[22, 22] })
    {v : Value} {l m : List Va} (hs : a.eval sl = v) (hown : OwnV w v l) {A : Option Addr} {n c : Nat} (hx : a.eval x = .slice A n c) (hn : n = m.length) (hr : LstM w A m Va.cells 2) (hsz : l.length + m.length ≤ 1000000000000)
    (h : ∀ v' w', OwnV w' v' (l ++ m) → w.grownBy w' v.ownBlock → (v'.ownBlock = v.ownBlock ∨ v'.ownBlock = some w.heap.size) → wpList Try.prog ops Q rest (a.put o.dst v') w') : wpList Try.prog ops Q (o :: rest) a w := by
  subst hn
  refine wpList_plain hgd fun K hK => ?_
  obtain ⟨v', w', hrun, h2, h3, h4⟩ := run_appV w o.type hown c hr hsz
  unfold Oper.wp execOp
  simp only [ho, resolve, invoke, builtin, Sem.run_bind, Sem.run_pure, Result.andThen_ok, List.map_toArray, List.map_cons, List.map_nil, hs, hx, hrun]
  exact hK _ _ (h v' w' h2 h3 h4)

theorem Va.eqv {x y : Va} : (x.key = y.key ∧ x.power = y.power ∧ True) ↔ x = y := by
  cases x
  cases y
  simp
theorem run_eq_va (w : World) (x y : Va) : (Op.equalIn 10000 32 (.agg x.cells.toArray) (.agg y.cells.toArray)).run Try.prog w = .ok (decide (x = y)) w := by
  rw [run_equalIn_struct w 9999 32 _ _ (by kernel_rfl) (by kernel_rfl)]
  unfold Program.fieldsOf
  rw [Try.underlying32]
  refine (eqF (by decide) (part1 (by kernel_rfl) rfl) (part1 (by kernel_rfl) rfl) (eqNat 9998 _ _ Try.underlying30) (eqF (by decide) (part1 (by kernel_rfl) rfl) (part1 (by kernel_rfl) rfl) (eqInt 9998 _ _ Try.underlying3) eqF0)).trans ?_
  congr 1
  rw [decide_eq_decide]
  exact Va.eqv
theorem va_guard : Try.prog.eqGuardType Try.prog.depth 32 = false := by kernel_rfl
end Go.Proofs.Ytmmacimneaehiaa
