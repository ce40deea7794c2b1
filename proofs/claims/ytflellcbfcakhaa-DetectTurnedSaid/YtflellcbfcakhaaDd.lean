/- The document's Diverge. -/
import Derived.Test.YtflellcbfcakhaaChecked
import Derived.WalkKit
import Derived.WalkLawsBesides
import Derived.Lib.Hide
import Derived.Deep.MidRow
import Derived.Deep.QuietTactic
import Derived.BigQuiet
import Derived.Test.YtflellcbfcakhaaDc
namespace Go.Proofs.Ytflellcbfcakhaa
open Go.RowKit
set_option linter.unusedVariables false
set_option linter.unusedSimpArgs false
set_option maxRecDepth 20000

/-- A row is loaded, in each world of a class ('go_big_quiet_want' ahead). -/
theorem quiet_load_b {o : Oper} {a : Act} {C : World → Prop} {K : Act → Prop} (ty : TypeId) (x : Operand) (ho : o.op = .load ty x) (b off : Nat) (hx : a.eval x = .pointer (some ⟨b, off, none⟩)) (cs : List Value) (d : TypeDesc)
    (hC : ∀ w', C w' → w'.rangeAt b off cs) (hu : Try.prog.underlying ty = some d) (hd : d.isRow = true) (hi : (Try.prog.info? ty).map (·.size) = some cs.length) (h : K (a.put o.dst (.agg cs.toArray))) : o.quiet Try.prog a C K := by
  refine ⟨_, fun w' hw' => ?_, h⟩
  have hl := run_loadVar_mid w' b off ty cs d (hC w' hw') hu hd hi
  unfold Oper.quietAt execOp
  simp only [ho, hx, Instr.loadAt, Instr.sureAddr, Sem.run_bind, Sem.run_pure, Result.andThen_ok, hl]
  exact ⟨rfl, rfl⟩
/-- Two rows are held against each other, in each world of a class. -/
theorem quiet_neq_b {o : Oper} {a : Act} {C : World → Prop} {K : Act → Prop} (t : TypeId) (x y : Operand) (u : TypeId) (ho : o.op = .binOp .neq t x y u)
    {xs ys : Array Value} (hx : a.eval x = .agg xs) (hy : a.eval y = .agg ys) (hg : Try.prog.eqGuardType Try.prog.depth t = false) {b : Bool} (hrun : ∀ w, (Op.equalIn 10000 t (.agg xs) (.agg ys)).run Try.prog w = .ok b w) (h : K (a.put o.dst (.bool (!b)))) : o.quiet Try.prog a C K := by
  refine ⟨_, fun w' hw' => ?_, h⟩
  unfold Oper.quietAt execOp
  simp only [ho, hx, hy, Sem.run_bind, run_eqGuard_agg w' .neq t x y xs ys hg, Result.andThen_ok, run_neq_struct, hrun, Sem.run_pure]
  exact ⟨rfl, rfl⟩
theorem header_eq (x y : Hd) (ox : x.Ok) (oy : y.Ok) (w : World) : (Op.equalIn 10000 25 (.agg x.cells.toArray) (.agg y.cells.toArray)).run Try.prog w = .ok (decide (x = y)) w := run_eq_header 9997 w x y ox oy
theorem header_row (x : Hd) (ox : x.Ok) : (Try.prog.info? 25).map (·.size) = some x.cells.length := by rw [x.cells_len ox]; kernel_rfl

def idxI : Option Nat → Int
  | none => -1
  | some k => (k : Int)
theorem idx_some {o : Option Nat} (h : 0 ≤ idxI o) : ∃ k, o = some k ∧ idxI o = (k : Int) := by
  cases o with
  | none => simp [idxI] at h
  | some k => exact ⟨k, rfl, rfl⟩
theorem idx_none {o : Option Nat} (h : idxI o < 0) : o = none ∧ idxI o = -1 := by
  cases o with
  | none => exact ⟨rfl, rfl⟩
  | some k => simp [idxI] at h; omega

def Two (w : World) (p : Int × Int) (e : Ending) (w' : World) : Prop := e = .returned (.tuple #[.int .i64 p.1, .int .i64 p.2]) ∧ Chg Non w w'
/-- What stands at a place of a list, in each world behind. -/
theorem at_li {w : World} {A : Option Addr} {l : List Li} (M : LstM w A l Li.cells 200) (ol : ∀ x ∈ l, x.Ok) {k : Nat} {x : Li} (hx : l[k]? = some x) : ∃ b o, A = some ⟨b, o, none⟩ ∧ b < w.heap.size ∧ x.Rows w b (o + k * 200) ∧ x.Ok := by
  obtain ⟨b, o, e, hb, r⟩ := M k x hx
  have ox := ol x (List.mem_of_getElem? hx)
  exact ⟨b, o, e, hb, Li.rows ox r, ox⟩
end Go.Proofs.Ytflellcbfcakhaa
