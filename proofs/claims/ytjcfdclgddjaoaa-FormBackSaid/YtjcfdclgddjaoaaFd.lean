/- Package forms: words for decoded[T]. -/
import Derived.Test.YtjcfdclgddjaoaaChecked
import Derived.WalkKit
import Derived.WalkLawsBesides
import Derived.Lib.Hide
import Derived.Recover
import Derived.Test.YtjcfdclgddjaoaaFr
import Derived.Test.YtjcfdclgddjaoaaFe
namespace Go.Proofs.Ytjcfdclgddjaoaa
open Go.RowKit
set_option linter.unusedVariables false
set_option maxRecDepth 20000


theorem wpList_alloc_row {ops : Array Oper} {rest : List Oper} {o : Oper} {a : Act} {w : World} {Q : Exit → Act → World → Prop} (hgd : o.guard = none) (ty : TypeId) (ho : o.op = .alloc ty) (z : List Value)
    (hz : (Instr.alloc ty true (.tuple #[])).run Try.prog w = .ok (.pointer (some ⟨w.heap.size, 0, none⟩)) (w.alloc (.cells z.toArray ty)))
    (hK : wpList Try.prog ops Q rest (a.put o.dst (.pointer (some ⟨w.heap.size, 0, none⟩))) (w.alloc (.cells z.toArray ty))) : wpList Try.prog ops Q (o :: rest) a w := by
  refine wpList_plain hgd fun K hK' => ?_
  unfold Oper.wp execOp
  simp only [ho, Sem.run_bind, Sem.run_pure, Result.andThen_ok, hz]
  exact hK' _ _ hK
theorem wpList_box_row {ops : Array Oper} {rest : List Oper} {o : Oper} {a : Act} {w : World} {Q : Exit → Act → World → Prop} (hgd : o.guard = none) (ty : TypeId) (x : Operand) (ho : o.op = .box ty x) {cs : Array Value} (hx : a.eval x = .agg cs)
    (hK : ∀ w1, Hid (w1 = w.alloc (.cells cs ty)) → wpList Try.prog ops Q rest (a.put o.dst (.pointer (some ⟨w.heap.size, 0, none⟩))) w1) : wpList Try.prog ops Q (o :: rest) a w := by
  refine wpList_plain hgd fun K hK' => ?_
  unfold Oper.wp execOp
  simp only [ho, hx, Sem.run_bind, Sem.run_pure, Instr.box]
  exact hK' _ _ (hK _ (Lib.hid rfl))
theorem wpList_load_w {ops : Array Oper} {rest : List Oper} {op : Oper} {a : Act} {w : World} {Q : Exit → Act → World → Prop} (ty : TypeId) (x : Operand) (ho : op.op = .load ty x) (hw : Region.wanted op (yielded ops a.tmps) = true)
    (b o : Nat) (hx : a.eval x = .pointer (some ⟨b, o, none⟩)) (cs : List Value) (d : TypeDesc) (hc : w.rangeAt b o cs)
    (hu : Try.prog.underlying ty = some d) (hd : d.isRow = true) (hi : (Try.prog.info? ty).map (·.size) = some cs.length)
    (h : wpList Try.prog ops Q rest (a.put op.dst (.agg cs.toArray)) w) : wpList Try.prog ops Q (op :: rest) a w := by
  unfold wpList
  rw [if_pos hw]
  exact .inl (wp_load_mid ty x ho b o hx cs d hc hu hd hi h)
theorem Hb.range0 {w : World} {b : Nat} {t : TypeId} {L : List Value} (h : Hb w b t L.toArray) : w.rangeAt b 0 L := by
  intro j u hu
  rw [Nat.zero_add, h.cell]
  simpa using hu
theorem Hb.there0 {w : World} {b : Nat} {t : TypeId} {L : List Value} (h : Hb w b t L.toArray) : w.there b 0 L.length := by
  intro j hj
  refine ⟨?_, h.frozen _⟩
  rw [Nat.zero_add, h.cell, List.getElem?_toArray, List.getElem?_eq_getElem hj]
  rfl
theorem Hb.sets0 {w : World} {b : Nat} {t : TypeId} {L L' : List Value} (h : Hb w b t L.toArray) (hl : L.length = L'.length) : Hb (w.setCells b 0 L') b t L'.toArray := by
  have := Hb.setCells L' L [] [] w hl (by simpa using h)
  simpa using this
theorem Hb.farCells {w : World} {b tb : Nat} {t : TypeId} {cs : Array Value} (h : Hb w b t cs) (hne : b ≠ tb) (vs : List Value) (o : Nat) : Hb (w.setCells tb o vs) b t cs :=
  h.chg (Chg.setCells (S := fun k => k = tb) rfl vs w o (Chg.refl _ w)) hne
theorem one_mem {L : List Value} (h : ∀ v ∈ L, v.oneCell' = true) : L.toArray.all (·.oneCell') = true := all_oneCell_toArray h

/-- What was read, if nothing stands behind it. -/
def whole {α : Type} (r : Option (α × St)) : Option α := match r with | some (x, some []) => some x | _ => none
/-- What decoding leaves: the thing's cells, or none and the error. -/
def Dec (w : World) (z : List Value) (r : Option (List Value)) (e : Ending) (w' : World) : Prop :=
  Chg Non w w' ∧ e = (match r with | some L => .returned (.tuple #[.agg L.toArray, .int .i64 0]) | none => .returned (.tuple #[.agg z.toArray, .int .i64 61]))
/-- The two results. -/
def dw (w : World) (z : List Value) (t : TypeId) : World := (w.alloc (.cells z.toArray t)).alloc (.cells #[.int .i64 0] 34)
theorem dw_chg (w : World) (z : List Value) (t : TypeId) : Chg Non w (dw w z t) := ((Chg.refl Non w).alloc _).alloc _
theorem dw_b (w : World) (z : List Value) (t : TypeId) : Hb (dw w z t) w.heap.size t z.toArray := (Hb.new w _ _).alloc _
theorem dw_e (w : World) (z : List Value) (t : TypeId) : Hb (dw w z t) (w.heap.size + 1) 34 #[.int .i64 0] := by
  have h := Hb.new (w.alloc (.cells z.toArray t)) 34 #[.int .i64 0]
  rwa [show (w.alloc (.cells z.toArray t)).heap.size = w.heap.size + 1 by simp] at h
theorem endv_eq (st : St) : (endv st == 0) = decide (st = some []) := by
  unfold endv
  by_cases h : st = some []
  · rw [if_pos h, decide_eq_true h]; rfl
  · rw [if_neg h, decide_eq_false h]; rfl
theorem load_row {w : World} {b : Nat} {t ty : TypeId} {L : List Value} {d : TypeDesc} (h : Hb w b t L.toArray) (hu : Try.prog.underlying ty = some d) (hd : d.isRow = true) (hi : (Try.prog.info? ty).map (·.size) = some L.length) : (loadVar ty ⟨b, 0, none⟩).run Try.prog w = .ok (.agg L.toArray) w :=
  run_loadVar_mid w b 0 ty L d h.range0 hu hd hi
end Go.Proofs.Ytjcfdclgddjaoaa
