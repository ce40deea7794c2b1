/- The function that shown answers. -/
import Derived.Test.YtflellcbfcakhaaChecked
import Derived.WalkKit
import Derived.WalkLawsBesides
import Derived.Lib.Hide
import Derived.Deep.MidRow
import Derived.Laws.ResultCell
import Derived.Test.YtflellcbfcakhaaDf
namespace Go.Proofs.Ytflellcbfcakhaa
open Go.RowKit
set_option linter.unusedVariables false
set_option linter.unusedSimpArgs false
set_option maxRecDepth 20000

/-- A struct's zero value is built. -/
theorem wpList_build_zero {ops : Array Oper} {rest : List Oper} {o : Oper} {a : Act} {w : World} {Q : Exit → Act → World → Prop} (hgd : o.guard = none) (ty : TypeId) (ho : o.op = .build ty #[]) {cs : Array Value} (hb : Try.prog.built ty [] = some cs)
    (h : wpList Try.prog ops Q rest (a.put o.dst (.agg cs)) w) : wpList Try.prog ops Q (o :: rest) a w := by
  have e : ((#[] : Array (Nat × Operand)).map fun (i, x) => (i, a.eval x)).toList = [] := by simp
  refine wpList_build hgd ty #[] ho ?_ ?_
  · rw [e, hb]; rfl
  · rw [e, hb]; exact h
theorem load_row {w : World} {b : Nat} {t ty : TypeId} {L : List Value} {d : TypeDesc} (h : Hb w b t L.toArray) (hu : Try.prog.underlying ty = some d) (hd : d.isRow = true) (hi : (Try.prog.info? ty).map (·.size) = some L.length) : (loadVar ty ⟨b, 0, none⟩).run Try.prog w = .ok (.agg L.toArray) w :=
  run_loadVar_mid w b 0 ty L d h.range0 hu hd hi
/-- A row out of a box, and a cell, are answered. -/
theorem ret_row2 {fn : Func} {p u : Tmp} {ty : TypeId} {R : Ending → World → Prop} {a : Act} {w : World} {g : Nat} {L : List Value} {v : Value} {d : TypeDesc} (hf : fn.results = #[.cell p ty, .tmp u]) (hp : a.tmps.getD p undef = .pointer (some ⟨g, 0, none⟩)) (hu : a.tmps.getD u undef = v)
    (hb : Hb w g ty L.toArray) (hd : Try.prog.underlying ty = some d) (hr : d.isRow = true) (hi : (Try.prog.info? ty).map (·.size) = some L.length) (h0 : a.defers = []) (hR : R (.returned (.tuple #[.agg L.toArray, v])) w) : bodyPost Try.prog fn R .ret a w := by
  refine bodyPost_ret ((results_cell_tmp hf _ _ _).trans ?_) h0 hR
  rw [hp, hu]
  simp only [asAddr, Sem.run_pure, Result.andThen_ok]
  rw [load_row hb hd hr hi]
  rfl
theorem header_zero : Try.prog.built 25 [] = some Hd.zero.cells.toArray := by kernel_rfl
/-- What is told of a height. -/
def Told (w : World) (o : Option Hd) (e : Ending) (w' : World) : Prop := Chg Non w w' ∧ e = .returned (.tuple #[.agg (o.getD Hd.zero).cells.toArray, .bool o.isSome])
theorem shw_ok {m : List Li} (om : ∀ x ∈ m, x.Ok) (h : Int) : ((shw m h).getD Hd.zero).Ok := by
  cases hs : shw m h with
  | none => exact Hd.zero_ok
  | some y =>
    obtain ⟨_, x, hx, rfl⟩ := shw_height hs
    exact (om x hx).hd

set_option maxHeartbeats 3200000 in
theorem tells_any (w : World) (B : Option Addr) (d : Nat) (m : List Li) (bw bm bM : Nat) (hm : m.length ≤ maxLen) (om : ∀ x ∈ m, x.Ok) (N : LstM w B m Li.cells 200) (S : Shn w B d m m.length m bw bm bM) (h : Int) (hh : I64 h) :
    Calls Try.prog 23 #[.int .i64 h, .pointer (some ⟨bm, 0, none⟩), .pointer (some ⟨bw, 0, none⟩)] w (Told w (shw m h)) := by
  have HN := Lib.hid N
  have OM := Lib.hid om
  have hwf : (Lit.int .i64 h).wf = true := i64_wf hh
  obtain ⟨s1, s2, s3⟩ := S
  have HM := Lib.hid s3
  have hzl := Hd.zero.cells_len Hd.zero_ok
  have HO := Lib.hid (shw_ok om h)
  have HS2 := Lib.hid s2
  have HS1 := Lib.hid s1
  unfold maxLen at hm
  have hmm : ∀ q y, m[q]? = some y → q < m.length := fun q y hy => (List.getElem?_eq_some_iff.1 hy).1
  have HMM := Lib.hid hmm
  clear N om s1 s2 s3 hmm
  have HF : Hid (∀ w1, Chg Non w w1 → w1.cell? ⟨bm, 0, none⟩ = some (.map (some bM)) ∧ w1.cell? ⟨bw, 0, none⟩ = some (.slice B m.length d) ∧ Hid (MapI .i64 3 w1 bM m.length (fun h => (fstOf m h).map fun (i : Nat) => (i : Int)))) := Lib.hid fun w1 k => ⟨k.cell HS2.out (fun f => f), k.cell HS1.out (fun f => f), Lib.hid (HM.out.chg k (fun f => f))⟩
  cases hf : fstOf m h with
  | none =>
    have HV : Hid (((fun h => (fstOf m h).map fun (i : Nat) => (i : Int)) h).getD 0 = 0) := Lib.hid (by simp only [hf]; rfl)
    have HI : Hid (((fun h => (fstOf m h).map fun (i : Nat) => (i : Int)) h).isSome = false) := Lib.hid (by simp only [hf]; rfl)
    rw [shw_none hf] at HO ⊢
    clear hf
    go_enter Try.func23, Try.ntmps23
    have hone := Hd.zero.one
    have hrow := header_row Hd.zero Hd.zero_ok
    have hzc : Try.prog.built 25 [] = some Hd.zero.cells.toArray := header_zero
    have hal := header_alloc
    unfold Told
    simp only [Option.getD_none, Option.isSome_none]
    generalize Hd.zero.cells = z at *
    go_wp2_with (first | (with_reducible refine wpList_alloc_h rfl _ rfl z hal ?_; intro wa ka hA; obtain ⟨p1, p2, p3⟩ := HF.out wa ka) | (with_reducible refine wpList_look_ok' rfl _ _ _ rfl map_of Try.underlying3 rfl p3.out rfl hwf HV.out HI.out ?_) | (with_reducible refine wpList_build_zero rfl 25 rfl hzc ?_) | (with_reducible refine wpList_store_h rfl 25 _ _ rfl w.heap.size z z rfl rfl hA.out rfl hrow hone ?_; intro wb kb hB))
    exact ret_row2 rfl rfl rfl hB.out Try.underlying25 rfl hrow rfl ⟨ka.fresh kb, rfl⟩
  | some q =>
    obtain ⟨y, hy, ey⟩ := fst_some hf
    rw [shw_some hf hy] at HO ⊢
    have hq := HMM.out q y hy
    obtain ⟨b, bo, rfl, hbl, R, oy⟩ := at_li HN.out OM.out hy
    have HR := Lib.hid R.hd
    have HV : Hid (((fun h => (fstOf m h).map fun (i : Nat) => (i : Int)) h).getD 0 = (q : Int)) := Lib.hid (by simp only [hf]; rfl)
    have HI : Hid (((fun h => (fstOf m h).map fun (i : Nat) => (i : Int)) h).isSome = true) := Lib.hid (by simp only [hf]; rfl)
    clear hf R
    go_enter Try.func23, Try.ntmps23
    have hone := y.hd.one
    have hrow := header_row y.hd oy.hd
    have hal := header_alloc
    have hzy : Hd.zero.cells.length = y.hd.cells.length := by rw [hzl, y.hd.cells_len oy.hd]
    have hqi : (q : Int) < (m.length : Int) := by omega
    have HG : Hid (∀ wa, Chg Non w wa → wa.rangeAt b (bo + q * 200) y.hd.cells) := Lib.hid fun wa k => k.range' HR.out (fun f => f)
    unfold Told
    simp only [Option.getD_some, Option.isSome_some]
    generalize Hd.zero.cells = z at *
    generalize y.hd.cells = cs at *
    generalize hmn : m.length = mn at *
    clear hzl hy hmn oy ey hbl hh HR HO HMM
    go_wp2_with (first | (with_reducible refine wpList_alloc_h rfl _ rfl z hal ?_; intro wa ka hA; obtain ⟨p1, p2, p3⟩ := HF.out wa ka; have p4 := HG.out wa ka) | (with_reducible refine wpList_look_ok' rfl _ _ _ rfl map_of Try.underlying3 rfl p3.out rfl hwf HV.out HI.out ?_) | (with_reducible refine wpList_load_mid rfl 25 _ rfl b (bo + q * 200) rfl cs _ p4 Try.underlying25 rfl hrow ?_) | (with_reducible refine wpList_store_h rfl 25 _ _ rfl w.heap.size z cs rfl rfl hA.out hzy hrow hone ?_; intro wb kb hB))
    exact ret_row2 rfl rfl rfl hB.out Try.underlying25 rfl hrow rfl ⟨ka.fresh kb, rfl⟩
end Go.Proofs.Ytflellcbfcakhaa
