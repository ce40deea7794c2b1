/- The document's Diverge. -/
import Derived.Test.YtogkdeiknhminaaChecked
import Derived.WalkKit
import Derived.WalkLawsBesides
import Derived.Lib.Hide
import Derived.Deep.MidRow
import Derived.Deep.QuietTactic
import Derived.BigQuiet
import Derived.Test.YtogkdeiknhminaaDc
namespace Go.Proofs.Ytogkdeiknhminaa
open Go.RowKit
set_option linter.unusedVariables false
set_option linter.unusedSimpArgs false
set_option maxRecDepth 20000

/-- A row is loaded, in each world of a class ('go_big_quiet_want' ahead). -/
theorem quiet_load_b {o : Oper} {a : Act} {C : World → Prop} {K : Act → Prop} (ty : TypeId) (x : Operand) (ho : o.op = .load ty x) (b off : Nat) (hx : a.eval x = .pointer (some ⟨b, off, none⟩)) (cs : List Value) (d : TypeDesc)
    (hC : ∀ w', C w' → w'.rangeAt b off cs) (hu : Try.prog.underlying ty = some d) (hd : d.isRow = true) (hi : (Try.prog.info? ty).map (·.size) = some cs.length) (h : K (a.put o.dst (.agg cs.toArray))) : o.quiet Try.prog a C K := by
  refine ⟨_, fun w' hw' => ?_, h⟩
  have hl := run_loadVar_mid w' b off ty cs d (hC w' hw') hu hd hi
  unfold Oper.quietAt execOp
  simp only [ho, hx, Instr.loadAt, Instr.sureAddr, Sem.run_bind, Sem.run_pure, Result.andThen_ok, hl]
  exact ⟨rfl, rfl⟩
/-- Two rows are held against each other, in each world of a class. -/
theorem quiet_neq_b {o : Oper} {a : Act} {C : World → Prop} {K : Act → Prop} (t : TypeId) (x y : Operand) (u : TypeId) (ho : o.op = .binOp .neq t x y u)
    {xs ys : Array Value} (hx : a.eval x = .agg xs) (hy : a.eval y = .agg ys) (hg : Try.prog.eqGuardType Try.prog.depth t = false) {b : Bool} (hrun : ∀ w, (Op.equalIn 10000 t (.agg xs) (.agg ys)).run Try.prog w = .ok b w) (h : K (a.put o.dst (.bool (!b)))) : o.quiet Try.prog a C K := by
  refine ⟨_, fun w' hw' => ?_, h⟩
  unfold Oper.quietAt execOp
  simp only [ho, hx, hy, Sem.run_bind, run_eqGuard_agg w' .neq t x y xs ys hg, Result.andThen_ok, run_neq_struct, hrun, Sem.run_pure]
  exact ⟨rfl, rfl⟩
theorem header_eq (x y : Hd) (ox : x.Ok) (oy : y.Ok) (w : World) : (Op.equalIn 10000 32 (.agg x.cells.toArray) (.agg y.cells.toArray)).run Try.prog w = .ok (decide (x = y)) w := run_eq_header 9997 w x y ox oy
theorem header_row (x : Hd) (ox : x.Ok) : (Try.prog.info? 32).map (·.size) = some x.cells.length := by rw [x.cells_len ox]; kernel_rfl

def idxI : Option Nat → Int
  | none => -1
  | some k => (k : Int)
theorem idx_some {o : Option Nat} (h : 0 ≤ idxI o) : ∃ k, o = some k ∧ idxI o = (k : Int) := by
  cases o with
  | none => simp [idxI] at h
  | some k => exact ⟨k, rfl, rfl⟩
theorem idx_none {o : Option Nat} (h : idxI o < 0) : o = none ∧ idxI o = -1 := by
  cases o with
  | none => exact ⟨rfl, rfl⟩
  | some k => simp [idxI] at h; omega

set_option maxHeartbeats 1600000 in
theorem of_any (w : World) (A : Option Addr) (c : Nat) (l : List Li) (hl : l.length ≤ maxLen) (ol : ∀ x ∈ l, x.Ok) (M : LstM w A l Li.cells 200) (h : Int) :
    Calls Try.prog 14 #[.slice A l.length c, .int .i64 h] w (Zero w (.int .i64 (idxI (fstOf l h)))) := by
  have HM := Lib.hid M
  have OL := Lib.hid ol
  unfold maxLen at hl
  clear M ol
  generalize hi : idxI (fstOf l h) = ix at *
  have HI := Lib.hid hi
  clear hi
  generalize hn : l.length = n at *
  have HL := Lib.hid hn
  clear hn
  go_enter Try.func14, Try.ntmps14
  go_wp2_with fail
  go_loopw [5] (fun i wr => ∃ k : Nat, k ≤ n ∧ i = .int .i64 (k : Int) ∧ Hid (fstOf (l.take k) h = none) ∧ Chg Non w wr) (fun i _ => n - (intOf i).toNat)
  case atStart => exact ⟨0, by omega, rfl, Lib.hid (by simp [fstOf]), Chg.refl _ _⟩
  case round =>
    obtain ⟨k, hk, rfl, hF, hC⟩ := hrel
    by_cases hlt : k < n
    · have hkl : k < l.length := by rw [HL.out]; exact hlt
      have hx := List.getElem?_eq_getElem hkl
      obtain ⟨a, ao, rfl, _, r1⟩ := (HM.out.chg hC) _ _ hx
      have HX := Lib.hid hx
      obtain ⟨_, c1, _, _, _, _⟩ := Li.rows (OL.out l[k] (List.getElem_mem hkl)) r1
      generalize l[k] = x at *
      have hki : (k : Int) < (n : Int) := by omega
      clear r1 hx hkl hk
      by_cases e : x.hd.height = h
      · have HE := Lib.hid (fst_found hF.out HX.out e)
        have E2 : (x.hd.height == h) = true := by simpa using e
        obtain rfl : (k : Int) = ix := by rw [← HI.out, HE.out]; rfl
        clear e
        go_wp2_with fail
        go_ret
        exact ⟨rfl, hC⟩
      · have HE : Hid (fstOf (l.take (k + 1)) h = none) := Lib.hid (by rw [take_one HX.out, fst_snoc, hF.out, if_neg e]; rfl)
        go_wp2_with fail
        go_roundw
        case rel => exact ⟨k + 1, by omega, by go_num, HE, hC⟩
        case measure => simp [intOf]; omega
    · obtain rfl : k = n := by omega
      go_wp2
      go_ret
      have e : l.take k = l := List.take_of_length_le (by have := HL.out; omega)
      rw [e] at hF
      obtain rfl : -1 = ix := by rw [← HI.out, hF.out]; rfl
      exact ⟨rfl, hC⟩

def Two (w : World) (p : Int × Int) (e : Ending) (w' : World) : Prop := e = .returned (.tuple #[.int .i64 p.1, .int .i64 p.2]) ∧ Chg Non w w'
/-- What stands at a place of a list, in each world behind. -/
theorem at_li {w : World} {A : Option Addr} {l : List Li} (M : LstM w A l Li.cells 200) (ol : ∀ x ∈ l, x.Ok) {k : Nat} {x : Li} (hx : l[k]? = some x) : ∃ b o, A = some ⟨b, o, none⟩ ∧ b < w.heap.size ∧ x.Rows w b (o + k * 200) ∧ x.Ok := by
  obtain ⟨b, o, e, hb, r⟩ := M k x hx
  have ox := ol x (List.mem_of_getElem? hx)
  exact ⟨b, o, e, hb, Li.rows ox r, ox⟩
end Go.Proofs.Ytogkdeiknhminaa
