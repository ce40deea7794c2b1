/- The live question. -/
import Derived.Test.YtflellcbfcakhaaChecked
import Derived.WalkKit
import Derived.WalkLawsBesides
import Derived.Lib.Hide
import Derived.Deep.MidRow
import Derived.Laws.Tables
import Derived.Test.YtflellcbfcakhaaDh
import Derived.Test.YtflellcbfcakhaaDq
import Derived.Test.YtflellcbfcakhaaDr
namespace Go.Proofs.Ytflellcbfcakhaa
open Go.RowKit
set_option linter.unusedVariables false
set_option linter.unusedSimpArgs false
set_option maxRecDepth 20000

theorem wpList_build_1 {ops : Array Oper} {rest : List Oper} {o : Oper} {a : Act} {w : World} {Q : Exit → Act → World → Prop} (hgd : o.guard = none) (ty : TypeId) (i : Nat) (x : Operand) (ho : o.op = .build ty #[(i, x)])
    {v : Value} (hx : a.eval x = v) {cs : Array Value} (hb : Try.prog.built ty [(i, v)] = some cs) (h : wpList Try.prog ops Q rest (a.put o.dst (.agg cs)) w) : wpList Try.prog ops Q (o :: rest) a w := by
  have e : (#[(i, x)].map fun (i, x) => (i, a.eval x)).toList = [(i, v)] := by simp [hx]
  refine wpList_build hgd ty #[(i, x)] ho ?_ ?_
  · rw [e, hb]; rfl
  · rw [e, hb]; exact h
theorem wpList_build_2 {ops : Array Oper} {rest : List Oper} {o : Oper} {a : Act} {w : World} {Q : Exit → Act → World → Prop} (hgd : o.guard = none) (ty : TypeId) (i j : Nat) (x y : Operand) (ho : o.op = .build ty #[(i, x), (j, y)])
    {v u : Value} (hx : a.eval x = v) (hy : a.eval y = u) {cs : Array Value} (hb : Try.prog.built ty [(i, v), (j, u)] = some cs) (h : wpList Try.prog ops Q rest (a.put o.dst (.agg cs)) w) : wpList Try.prog ops Q (o :: rest) a w := by
  have e : (#[(i, x), (j, y)].map fun (i, x) => (i, a.eval x)).toList = [(i, v), (j, u)] := by simp [hx, hy]
  refine wpList_build hgd ty #[(i, x), (j, y)] ho ?_ ?_
  · rw [e, hb]; rfl
  · rw [e, hb]; exact h
theorem wpList_build_1c {ops : Array Oper} {rest : List Oper} {o : Oper} {a : Act} {w : World} {Q : Exit → Act → World → Prop} (hgd : o.guard = none) (ty : TypeId) (i : Nat) (v : Value) (ho : o.op = .build ty #[(i, .const v)])
    {cs : Array Value} (hb : Try.prog.built ty [(i, v)] = some cs) (h : wpList Try.prog ops Q rest (a.put o.dst (.agg cs)) w) : wpList Try.prog ops Q (o :: rest) a w := wpList_build_1 hgd ty i (.const v) ho rfl hb h
theorem wpList_build_2c {ops : Array Oper} {rest : List Oper} {o : Oper} {a : Act} {w : World} {Q : Exit → Act → World → Prop} (hgd : o.guard = none) (ty : TypeId) (i j : Nat) (v u : Value) (ho : o.op = .build ty #[(i, .const v), (j, .const u)])
    {cs : Array Value} (hb : Try.prog.built ty [(i, v), (j, u)] = some cs) (h : wpList Try.prog ops Q rest (a.put o.dst (.agg cs)) w) : wpList Try.prog ops Q (o :: rest) a w := wpList_build_2 hgd ty i j (.const v) (.const u) ho rfl rfl hb h
theorem wpList_bslice2 {ops : Array Oper} {rest : List Oper} {o : Oper} {a : Act} {w : World} {Q : Exit → Act → World → Prop} (hgd : o.guard = none) (t e : TypeId) (x y : Operand) (ho : o.op = .buildSlice t 2 #[(0, x), (1, y)])
    {u v : Value} (hx : a.eval x = u) (hy : a.eval y = v) {cs : List Value} (hrun : ∀ w : World, (Instr.buildSlice t 2 #[(0, u), (1, v)]).run Try.prog w = .ok (.slice (some ⟨w.heap.size, 0, none⟩) 2 2) (w.alloc (.cells cs.toArray e)))
    (hK : ∀ w1, Chg Non w w1 → Hid (Hb w1 w.heap.size e cs.toArray) → wpList Try.prog ops Q rest (a.put o.dst (.slice (some ⟨w.heap.size, 0, none⟩) 2 2)) w1) : wpList Try.prog ops Q (o :: rest) a w := by
  refine wpList_plain hgd fun K hK' => ?_
  have e : (#[(0, x), (1, y)] : Array (Nat × Operand)).map (fun (i, x) => (i, a.eval x)) = #[(0, u), (1, v)] := by simp [hx, hy]
  unfold Oper.wp execOp
  simp only [ho, Sem.run_bind, Sem.run_pure, Result.andThen_ok, e, hrun w]
  exact hK' _ _ (hK _ ((Chg.refl _ _).alloc _) (Lib.hid (Hb.new w _ _)))

def hA : Hd := { Hd.zero with height := 1 }
def hB : Hd := { Hd.zero with height := 2 }
def hC : Hd := { Hd.zero with height := 2, time := 1 }
def lA : Li := { Li.zero with hd := hA }
def lB : Li := { Li.zero with hd := hB }
def lC : Li := { Li.zero with hd := hC }
theorem li_ok {h : Hd} (oh : h.Ok) : ({ Li.zero with hd := h } : Li).Ok := ⟨oh, Li.zero_ok.h, Li.zero_ok.r, Li.zero_ok.b, Li.zero_ok.se, Li.zero_ok.sv, Li.zero_ok.nx, Li.zero_ok.l1, Li.zero_ok.l2, Li.zero_ok.l3⟩
theorem hA_ok : hA.Ok := ⟨by decide, ⟨by decide, by decide⟩, ⟨by decide, by decide⟩, rfl, rfl, rfl, rfl, rfl⟩
theorem hB_ok : hB.Ok := ⟨by decide, ⟨by decide, by decide⟩, ⟨by decide, by decide⟩, rfl, rfl, rfl, rfl, rfl⟩
theorem hC_ok : hC.Ok := ⟨by decide, ⟨by decide, by decide⟩, ⟨by decide, by decide⟩, rfl, rfl, rfl, rfl, rfl⟩
theorem lA_ok : lA.Ok := li_ok hA_ok
theorem lB_ok : lB.Ok := li_ok hB_ok
theorem lC_ok : lC.Ok := li_ok hC_ok
theorem lstM_nil {α : Type} (w : World) (A : Option Addr) (cells : α → List Value) (sz : Nat) : LstM w A [] cells sz := fun i x h => by simp at h
theorem lA_in (w : World) : lA.In w := ⟨lstM_nil _ _ _ _, lstM_nil _ _ _ _, lstM_nil _ _ _ _⟩
theorem lB_in (w : World) : lB.In w := ⟨lstM_nil _ _ _ _, lstM_nil _ _ _ _, lstM_nil _ _ _ _⟩
theorem lC_in (w : World) : lC.In w := ⟨lstM_nil _ _ _ _, lstM_nil _ _ _ _, lstM_nil _ _ _ _⟩
theorem bA : Try.prog.built 25 [(1, .int .i64 1)] = some hA.cells.toArray := by kernel_rfl
theorem bB : Try.prog.built 25 [(1, .int .i64 2)] = some hB.cells.toArray := by kernel_rfl
theorem bC : Try.prog.built 25 [(1, .int .i64 2), (2, .int .i64 1)] = some hC.cells.toArray := by kernel_rfl
theorem cA : Try.prog.built 31 [(0, .agg hA.cells.toArray)] = some lA.cells.toArray := by kernel_rfl
theorem cB : Try.prog.built 31 [(0, .agg hB.cells.toArray)] = some lB.cells.toArray := by kernel_rfl
theorem cC : Try.prog.built 31 [(0, .agg hC.cells.toArray)] = some lC.cells.toArray := by kernel_rfl
theorem sAB (w : World) : (Instr.buildSlice 34 2 #[(0, Value.agg lA.cells.toArray), (1, .agg lB.cells.toArray)]).run Try.prog w = .ok (.slice (some ⟨w.heap.size, 0, none⟩) 2 2) (w.alloc (.cells ([lA, lB].flatMap Li.cells).toArray 31)) := by kernel_rfl
theorem sAC (w : World) : (Instr.buildSlice 34 2 #[(0, Value.agg lA.cells.toArray), (1, .agg lC.cells.toArray)]).run Try.prog w = .ok (.slice (some ⟨w.heap.size, 0, none⟩) 2 2) (w.alloc (.cells ([lA, lC].flatMap Li.cells).toArray 31)) := by kernel_rfl
theorem dv_live : dv [lA, lB] [lA, lC] = (1, 0) := by
  have h1 : shw [lA, lC] lA.hd.height = some lA.hd := rfl
  have h2 : prt [lA, lC] lB = true := by
    have h3 : shw [lA, lC] lB.hd.height = some lC.hd := rfl
    unfold prt
    rw [h3]
    have : lC.hd ≠ lB.hd := fun e => by have := congrArg Hd.time e; exact absurd this (by decide)
    simpa using this
  exact dv_found (r := lA) rfl h1 (k := 0) (x := lB) (by simp) rfl h2
theorem conf_live : conf lA.hd lB.hd lC.hd = true := by
  have : lB.hd ≠ lC.hd := fun e => by have := congrArg Hd.time e; exact absurd this (by decide)
  unfold conf
  rw [decide_eq_true this]
  decide
theorem kd_live : kd lB lC = sEqu := by decide
/-- Two blocks in a new row. -/
theorem lst2 {w : World} {n : Nat} {t : TypeId} {x y : Li} (ox : x.Ok) (h : Hb w n t ([x, y].flatMap Li.cells).toArray) : LstM w (some ⟨n, 0, none⟩) [x, y] Li.cells 200 := by
  have e : [x, y].flatMap Li.cells = x.cells ++ y.cells := by simp
  rw [e] at h
  have r := h.range0
  obtain ⟨r1, r2⟩ := rangeAt_app r
  rw [x.cells_len ox] at r2
  intro i z hz
  match i, hz with
  | 0, hz =>
    simp only [List.getElem?_cons_zero, Option.some.injEq] at hz
    subst hz
    exact ⟨n, 0, rfl, h.lt, by simpa using r1⟩
  | 1, hz =>
    simp only [List.getElem?_cons_succ, List.getElem?_cons_zero, Option.some.injEq] at hz
    subst hz
    exact ⟨n, 0, rfl, h.lt, by simpa using r2⟩
/-- What the two calls of the live question answer. -/
theorem live_dv (w : World) (n4 n5 : Nat) (h4 : Hb w n4 31 ([lA, lB].flatMap Li.cells).toArray) (h5 : Hb w n5 31 ([lA, lC].flatMap Li.cells).toArray) :
    Calls Try.prog 9 #[.slice (some ⟨n4, 0, none⟩) 2 2, .slice (some ⟨n5, 0, none⟩) 2 2] w (Two w (1, 0)) := by
  have H := Diverge_any w (some ⟨n4, 0, none⟩) (some ⟨n5, 0, none⟩) 2 2 [lA, lB] [lA, lC] (Nat.le_refl _) (by unfold maxLen; omega) (by unfold maxLen; simp) (by
    intro x hx
    simp only [List.mem_cons, List.not_mem_nil, or_false] at hx
    rcases hx with rfl | rfl
    · exact lA_ok
    · exact lB_ok) (by
    intro x hx
    simp only [List.mem_cons, List.not_mem_nil, or_false] at hx
    rcases hx with rfl | rfl
    · exact lA_ok
    · exact lC_ok) (lst2 lA_ok h4) (lst2 lA_ok h5)
  rw [dv_live] at H
  exact H
theorem live_cl (w : World) : Calls Try.prog 6 #[.agg lA.cells.toArray, .agg lB.cells.toArray, .agg lC.cells.toArray] w fun e w' => Chg Non w w' ∧ ∃ L : List Value, L.length = 203 ∧ (∀ u ∈ L, u.oneCell' = true) ∧ L[0]? = some (.string sEqu) ∧ e = .returned (.tuple #[.agg L.toArray, .int .i64 0]) := by
  refine (Classify_all 0 (by omega) sort_0 w lA lB lC lA_ok lB_ok lC_ok (lA_in w) (lB_in w) (lC_in w) (Nat.le_refl _) (Nat.zero_le _) (Nat.zero_le _) (Nat.le_refl _)).mono ?_
  rintro e w' ⟨k, h⟩
  refine ⟨k, ?_⟩
  rcases h with ⟨h, _⟩ | ⟨_, Lc, A, n, c, h1, h2, h3, _⟩
  · rw [conf_live] at h; cases h
  · refine ⟨_, by rw [evc_len, h1], evc_one _ _ _ _ h2 rfl, ?_, h3⟩
    rw [kd_live]
    rfl
end Go.Proofs.Ytflellcbfcakhaa
