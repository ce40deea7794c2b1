/- Package round: isNone, mayBe, prevote, precommit. -/
import Derived.Test.YtdejfamcmebdiaaRp
namespace Go.Proofs.Ytdejfamcmebdiaa
open Go.RowKit mach
set_option linter.unusedVariables false
set_option linter.unusedSimpArgs false
set_option maxRecDepth 20000

theorem wpList_build_zero {ops : Array Oper} {rest : List Oper} {o : Oper} {a : Act} {w : World} {Q : Exit → Act → World → Prop} (hgd : o.guard = none) (ty : TypeId) (ho : o.op = .build ty #[]) {cs : Array Value} (hb : Try.prog.built ty [] = some cs)
    (h : wpList Try.prog ops Q rest (a.put o.dst (.agg cs)) w) : wpList Try.prog ops Q (o :: rest) a w := by
  have e : ((#[] : Array (Nat × Operand)).map fun (i, x) => (i, a.eval x)).toList = [] := by simp
  refine wpList_build hgd ty #[] ho ?_ ?_
  · rw [e, hb]; rfl
  · rw [e, hb]; exact h
def Asks (w : World) (b : Bool) (e : Ending) (w' : World) : Prop := e = .returned (.bool b) ∧ Chg Non w w'
theorem isNone_any (w : World) (h : Hash) (hl : h.length = 32) : Calls Try.prog 29 #[.agg (bv h).toArray] w (Asks w (decide (h = zero))) := by
  have hr := rowH hl
  have EQ := Lib.hid (run_eq_hash · hl zero_length)
  go_enter Try.func29, Try.ntmps29
  go_wp2_with (first
    | (with_reducible refine wpList_box_row rfl _ _ rfl (cs := (bv h).toArray) rfl ?_; intro w1 hw1; have hb1 : Hb w1 w.heap.size 23 (bv h).toArray := (by rw [hw1.out]; exact Hb.new _ _ _); have rg := hb1.range0)
    | (with_reducible refine wpList_load_mid rfl 23 _ rfl w.heap.size 0 rfl (bv h) _ rg Try.underlying23 rfl hr ?_)
    | (with_reducible refine wpList_build_zero rfl 23 rfl built_zero ?_)
    | (with_reducible refine wpList_eql_w 23 _ _ _ rfl rfl (xs := (bv h).toArray) (ys := (bv zero).toArray) rfl rfl hash_guard (EQ.out w1) ?_))
  go_ret
  exact ⟨rfl, by rw [hw1.out]; exact (Chg.refl Non w).alloc _⟩
theorem mayBe_any (w : World) (i : In) (ok : i.Ok) : Calls Try.prog 23 #[.agg i.cells.toArray] w (Asks w (decide (i.good = true ∧ i.block ≠ zero))) := by
  have hr := rowH ok.b
  have HI := Lib.hid (isNone_any · i.block ok.b)
  obtain ⟨g, hg⟩ : ∃ g, i.good = g := ⟨_, rfl⟩
  have FX : ∀ w1, Hb w1 w.heap.size 27 i.cells.toArray → w1.cell? ⟨w.heap.size, 35, none⟩ = some (.bool g) ∧ w1.rangeAt w.heap.size 2 (bv i.block) := fun w1 hb => ⟨by rw [← hg]; simpa using ib35 (o := 0) hb.range0 ok, by simpa using ib2 (o := 0) hb.range0⟩
  rw [hg]
  have HF := Lib.hid FX
  clear FX hg ok
  generalize i.block = bl at *
  generalize i.cells = cs at *
  obtain ⟨z, hz⟩ : ∃ z, decide (bl = zero) = z := ⟨_, rfl⟩
  have hz2 : decide (g = true ∧ bl ≠ zero) = (g && !z) := by rw [← hz]; cases g <;> simp
  rw [hz2]
  rw [hz] at HI
  clear hz hz2
  cases g with
  | true =>
    go_enter Try.func23, Try.ntmps23
    go_wp2_with (first
      | (with_reducible refine wpList_box_row rfl _ _ rfl (cs := cs.toArray) rfl ?_; intro w1 hw1; obtain ⟨c35, rg⟩ := HF.out w1 (by rw [hw1.out]; exact Hb.new _ _ _))
      | (with_reducible refine wpList_load_w 23 _ rfl ?_ w.heap.size 2 rfl (bv bl) _ rg Try.underlying23 rfl hr ?_; focus (first | (simp [Region.wanted, yielded]; done) | kernel_rfl))
      | (go_at_call 29; go_loud (refine (HI.out _).mono ?_; rintro e w2 ⟨rfl, k2⟩)))
    go_ret
    have k1 : Chg Non w w1 := by rw [hw1.out]; exact (Chg.refl Non w).alloc _
    exact ⟨by simp, k1.trans k2 (fun _ f => .inl f)⟩
  | false =>
    go_enter Try.func23, Try.ntmps23
    go_wp2_with (first
      | (with_reducible refine wpList_box_row rfl _ _ rfl (cs := cs.toArray) rfl ?_; intro w1 hw1; obtain ⟨c35, rg⟩ := HF.out w1 (by rw [hw1.out]; exact Hb.new _ _ _)))
    go_ret
    exact ⟨by simp, by rw [hw1.out]; exact (Chg.refl Non w).alloc _⟩
def prevM (s : State) (b : Hash) : State × List Out := ({ s with step := 2 }, [⟨2, s.round, b, 0⟩])
def precM (s : State) (b : Hash) : State × List Out := ({ s with step := 3 }, [⟨3, s.round, b, 0⟩])
set_option maxHeartbeats 800000 in
theorem prevote_any (w : World) (s : State) (ok : s.Ok) (b : Hash) (hb : b.length = 32) : Calls Try.prog 30 #[.agg s.cells.toArray, .agg (bv b).toArray] w (Did 45 w (prevM s b)) := by
  have ok2 : ({ s with step := 2 } : State).Ok := ⟨ok.l, ok.v, ok.b⟩
  go_enter Try.func30, Try.ntmps30
  go_wp2_with (first
    | (with_reducible refine wpList_box_row rfl _ _ rfl (cs := s.cells.toArray) rfl ?_; intro w1 hw1)
    | (with_reducible refine wpList_box_row rfl _ _ rfl (cs := (bv b).toArray) rfl ?_; intro w2 hw2)
    | (with_reducible refine wpList_alloc_named rfl _ rfl s0.cells z_S ?_; intro w3 hw3; have F := Lib.hid (pro hw1.out hw2.out hw3.out); clear hw1 hw2 hw3; have c1 := sb1 F.out.s; have f1 := F.out.s.frozen 1))
  have F4 := F.out.put (ss1 F.out.s 2)
  have hro := rowS ok2
  have hrb := rowH hb
  have hbu := built_o3 2 s.round b hb
  rename_i ha
  refine wp_region_lexH 5 3 #[true, true, true, true, true, false, false, false] (by kernel_rfl) (by kernel_rfl) (by kernel_rfl) (by kernel_rfl) (by kernel_rfl) (fun w' => Chg (fun j => j = w2.heap.size) (w3.setCell ⟨w.heap.size, 1, none⟩ (.int .i64 2)) w') ((Chg.refl _ _).drew) ?_
  refine head_load rfl _ _ rfl w.heap.size 0 rfl ({ s with step := 2 } : State).cells _ (fun w' k => (F4.held k).1.range0) Try.underlying25 rfl hro ?_
  simp only [Act.put, List.setIfInBounds_toArray, List.set_cons_zero, List.set_cons_succ]
  refine head_run rfl (fun w' k => by go_simp; rfl) ?_
  simp only [Act.put, List.setIfInBounds_toArray, List.set_cons_zero, List.set_cons_succ]
  refine head_run rfl (fun w' k => by (have x0 := sb0 (F4.held k).1); go_simp; rfl) ?_
  simp only [Act.put, List.setIfInBounds_toArray, List.set_cons_zero, List.set_cons_succ]
  refine head_load rfl _ _ rfl w1.heap.size 0 rfl (bv b) _ (fun w' k => (F4.held k).2.range0) Try.underlying23 rfl hrb ?_
  simp only [Act.put, List.setIfInBounds_toArray, List.set_cons_zero, List.set_cons_succ]
  refine head_build (vs := [(0, .int .i64 2), (1, .int .i64 s.round), (2, .agg (bv b).toArray)]) rfl _ _ rfl rfl hbu ?_
  simp only [Act.put, List.setIfInBounds_toArray, List.set_cons_zero, List.set_cons_succ]
  refine head_nil ?_
  exact out_end (n := 5) (o := ⟨2, s.round, b, 0⟩) (s := { s with step := 2 }) F4 ok2 ⟨hb⟩ rfl rfl ha (fun a w h => h) rfl rfl rfl rfl rfl rfl (by kernel_rfl) (by kernel_rfl) (by kernel_rfl) (by kernel_rfl) (by kernel_rfl) rfl rfl rfl rfl rfl rfl rfl (fun v => rfl) (fun v => rfl) rfl rfl (fun v => rfl) (fun v => rfl) (fun v => rfl) rfl
set_option maxHeartbeats 800000 in
theorem precommit_any (w : World) (s : State) (ok : s.Ok) (b : Hash) (hb : b.length = 32) : Calls Try.prog 31 #[.agg s.cells.toArray, .agg (bv b).toArray] w (Did 45 w (precM s b)) := by
  have ok2 : ({ s with step := 3 } : State).Ok := ⟨ok.l, ok.v, ok.b⟩
  go_enter Try.func31, Try.ntmps31
  go_wp2_with (first
    | (with_reducible refine wpList_box_row rfl _ _ rfl (cs := s.cells.toArray) rfl ?_; intro w1 hw1)
    | (with_reducible refine wpList_box_row rfl _ _ rfl (cs := (bv b).toArray) rfl ?_; intro w2 hw2)
    | (with_reducible refine wpList_alloc_named rfl _ rfl s0.cells z_S ?_; intro w3 hw3; have F := Lib.hid (pro hw1.out hw2.out hw3.out); clear hw1 hw2 hw3; have c1 := sb1 F.out.s; have f1 := F.out.s.frozen 1))
  have F4 := F.out.put (ss1 F.out.s 3)
  have hro := rowS ok2
  have hrb := rowH hb
  have hbu := built_o3 3 s.round b hb
  rename_i ha
  refine wp_region_lexH 5 3 #[true, true, true, true, true, false, false, false] (by kernel_rfl) (by kernel_rfl) (by kernel_rfl) (by kernel_rfl) (by kernel_rfl) (fun w' => Chg (fun j => j = w2.heap.size) (w3.setCell ⟨w.heap.size, 1, none⟩ (.int .i64 3)) w') ((Chg.refl _ _).drew) ?_
  refine head_load rfl _ _ rfl w.heap.size 0 rfl ({ s with step := 3 } : State).cells _ (fun w' k => (F4.held k).1.range0) Try.underlying25 rfl hro ?_
  simp only [Act.put, List.setIfInBounds_toArray, List.set_cons_zero, List.set_cons_succ]
  refine head_run rfl (fun w' k => by go_simp; rfl) ?_
  simp only [Act.put, List.setIfInBounds_toArray, List.set_cons_zero, List.set_cons_succ]
  refine head_run rfl (fun w' k => by (have x0 := sb0 (F4.held k).1); go_simp; rfl) ?_
  simp only [Act.put, List.setIfInBounds_toArray, List.set_cons_zero, List.set_cons_succ]
  refine head_load rfl _ _ rfl w1.heap.size 0 rfl (bv b) _ (fun w' k => (F4.held k).2.range0) Try.underlying23 rfl hrb ?_
  simp only [Act.put, List.setIfInBounds_toArray, List.set_cons_zero, List.set_cons_succ]
  refine head_build (vs := [(0, .int .i64 3), (1, .int .i64 s.round), (2, .agg (bv b).toArray)]) rfl _ _ rfl rfl hbu ?_
  simp only [Act.put, List.setIfInBounds_toArray, List.set_cons_zero, List.set_cons_succ]
  refine head_nil ?_
  exact out_end (n := 5) (o := ⟨3, s.round, b, 0⟩) (s := { s with step := 3 }) F4 ok2 ⟨hb⟩ rfl rfl ha (fun a w h => h) rfl rfl rfl rfl rfl rfl (by kernel_rfl) (by kernel_rfl) (by kernel_rfl) (by kernel_rfl) (by kernel_rfl) rfl rfl rfl rfl rfl rfl rfl (fun v => rfl) (fun v => rfl) rfl rfl (fun v => rfl) (fun v => rfl) (fun v => rfl) rfl
end Go.Proofs.Ytdejfamcmebdiaa
