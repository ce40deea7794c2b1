/- Package round: New; the live question. -/
import Derived.Test.YtdejfamcmebdiaaRd8
namespace Go.Proofs.Ytdejfamcmebdiaa
open Go.RowKit mach
set_option linter.unusedVariables false
set_option linter.unusedSimpArgs false
set_option maxRecDepth 20000

theorem wpList_build_parts {ops : Array Oper} {rest : List Oper} {o : Oper} {a : Act} {w : World} {Q : Exit → Act → World → Prop} (hgd : o.guard = none) (ty : TypeId) (parts : Array (Nat × Operand)) (ho : o.op = .build ty parts) (vs : List (Nat × Value)) (hx : (parts.toList.map fun (i, x) => (i, a.eval x)) = vs) {cs : Array Value} (hb : Try.prog.built ty vs = some cs)
    (h : wpList Try.prog ops Q rest (a.put o.dst (.agg cs)) w) : wpList Try.prog ops Q (o :: rest) a w := by
  have e : (parts.map fun (i, x) => (i, a.eval x)).toList = vs := by rw [Array.toList_map]; exact hx
  refine wpList_build hgd ty parts ho ?_ ?_
  · rw [e, hb]; rfl
  · rw [e, hb]; exact h
theorem built_start : Try.prog.built 25 [(0, .int .i64 (-1)), (1, .int .i64 0), (3, .int .i64 (-1)), (5, .int .i64 (-1)), (7, .int .i64 (-1)), (8, .int .i64 (-1))] = some mach.start.cells.toArray := by kernel_rfl
def New1 (w : World) (e : Ending) (w' : World) : Prop := e = .returned (.agg mach.start.cells.toArray) ∧ Chg Non w w'
theorem ret_S {fn : Func} {p : Tmp} {R : Ending → World → Prop} {a : Act} {w : World} {g : Nat} {t : TypeId} {s : State} (hf : fn.results = #[.cell p 25]) (hp : a.tmps.getD p undef = .pointer (some ⟨g, 0, none⟩))
    (hb : Hb w g t s.cells.toArray) (ok : s.Ok) (hd : a.defers = []) (hR : R (.returned (.agg s.cells.toArray)) w) : bodyPost Try.prog fn R .ret a w :=
  bodyPost_ret (results_cell_row hf _ _ g t _ (0, 0) _ hp hb Try.underlying25 rfl (by rw [row_S]; simp [ok.len])) hd hR
theorem New_any (w : World) : Calls Try.prog 15 #[] w (New1 w) := by
  go_enter Try.func15, Try.ntmps15
  go_wp2_with (first
    | (with_reducible refine wpList_alloc_named rfl _ rfl s0.cells z_S ?_; intro w1 hw1; have hb1 : Hb w1 w.heap.size 25 s0.cells.toArray := (by rw [hw1.out]; exact Hb.new _ _ _); have k1 : Chg Non w w1 := (by rw [hw1.out]; exact (Chg.refl _ _).alloc _))
    | (with_reducible refine wpList_build_parts rfl _ _ rfl [(0, .int .i64 (-1)), (1, .int .i64 0), (3, .int .i64 (-1)), (5, .int .i64 (-1)), (7, .int .i64 (-1)), (8, .int .i64 (-1))] rfl built_start ?_)
    | (with_reducible refine wpList_store_S rfl _ _ rfl w.heap.size mach.start s0 rfl rfl hb1 start_ok s0_ok ?_; intro w2 h2 k2))
  exact ret_S rfl rfl h2 start_ok rfl ⟨rfl, k1.trans k2 (fun j hj => .inr (by have : j = w.heap.size := hj; omega))⟩

def hash1 : Hash := 1 :: List.replicate 31 0
theorem hash1_len : hash1.length = 32 := rfl
theorem built_hash1 : Try.prog.built 23 [(0, .int .u8 1)] = some (bv hash1).toArray := by kernel_rfl
def in1 : In := ⟨1, 0, zero, 0, false, hash1⟩
theorem in1_ok : in1.Ok := ⟨rfl, rfl, by decide, by decide⟩
theorem built_in1 : Try.prog.built 27 [(0, .int .i64 1), (5, .agg (bv hash1).toArray)] = some in1.cells.toArray := by kernel_rfl
def st1 : State := { mach.start with round := 0, step := 1 }
def out1 : Out := ⟨1, 0, hash1, -1⟩
theorem step1 : stepM mach.start in1 = (st1, [out1]) := by rfl
theorem st1_ok : st1.Ok := ⟨rfl, rfl, rfl⟩
set_option maxHeartbeats 1600000 in
theorem alive_any (w : World) : Calls Try.prog 14 #[] w (Asks w true) := by
  have HS := Lib.hid (fun w => StepM_any w mach.start in1 start_ok in1_ok)
  rw [step1] at HS
  go_enter Try.func14, Try.ntmps14
  go_wp2_with (first
    | (go_at_call 15; go_loud (refine (New_any _).mono ?_; rintro e w1 ⟨rfl, k1⟩))
    | (with_reducible refine wpList_build_parts rfl _ _ rfl [(0, .int .u8 1)] rfl built_hash1 ?_)
    | (with_reducible refine wpList_build_parts rfl _ _ rfl [(0, .int .i64 1), (5, .agg (bv hash1).toArray)] rfl built_in1 ?_)
    | (go_at_call 10; go_loud (refine (HS.out _).mono ?_; rintro e w2 ⟨k2, _, v, rfl, oC⟩; obtain ⟨g, rfl, hg, ho, _⟩ := oC))
    | (with_reducible refine wpList_alloc_named rfl _ rfl s0.cells z_S ?_; intro w3 hw3; have hb3 : Hb w3 w2.heap.size 25 s0.cells.toArray := (by rw [hw3.out]; exact Hb.new _ _ _); have k3 : Chg Non w2 w3 := (by rw [hw3.out]; exact (Chg.refl _ _).alloc _))
    | ((with_reducible refine wpList_store_S rfl _ _ rfl w2.heap.size st1 s0 rfl rfl hb3 st1_ok s0_ok ?_); go_loud (intro w4 h4 k4; have k24 : Chg Non w2 w4 := k3.trans k4 (fun j hj => .inr (by have : j = w2.heap.size := hj; omega)); have c0 : w4.cell? ⟨w2.heap.size, 0, none⟩ = some (.int .i64 0) := sb0 h4; have c1 : w4.cell? ⟨w2.heap.size, 1, none⟩ = some (.int .i64 1) := sb1 h4; have ho4 := ho.chg k24 (fun f => f); have o0 : w4.cell? ⟨g, 0, none⟩ = some (.int .i64 1) := ob0 ho4.range0; have o34 : w4.cell? ⟨g, 34, none⟩ = some (.int .i64 (-1)) := ob34 ho4.range0 ⟨rfl⟩)))
  go_ret
  exact ⟨by simp, (k1.trans k2 (fun _ f => .inl f)).trans k24 (fun _ f => .inl f)⟩
end Go.Proofs.Ytdejfamcmebdiaa
