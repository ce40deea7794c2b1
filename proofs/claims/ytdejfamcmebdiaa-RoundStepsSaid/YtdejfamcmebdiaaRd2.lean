/- Package round: begin. (Written by wip/tools/gen12.py.) -/
import Derived.Test.YtdejfamcmebdiaaRd1
namespace Go.Proofs.Ytdejfamcmebdiaa
open Go.RowKit mach
set_option linter.unusedVariables false
set_option linter.unusedSimpArgs false
set_option maxRecDepth 20000

def beginM (s : State) (i : In) : State × List Out :=
  if i.own = zero then ({ s with round := i.round, step := 1 }, [⟨4, i.round, zero, 0⟩])
  else if -1 < s.validR then ({ s with round := i.round, step := 1 }, [⟨1, i.round, s.valid, s.validR⟩])
  else ({ s with round := i.round, step := 1 }, [⟨1, i.round, i.own, -1⟩])
set_option maxHeartbeats 1600000 in
theorem begin_any (w : World) (s : State) (i : In) (ok : s.Ok) (oi : i.Ok) : Calls Try.prog 24 #[.agg s.cells.toArray, .agg i.cells.toArray] w (Did 45 w (beginM s i)) := by
  have HM := Lib.hid (isNone_any · i.own oi.o)
  by_cases ho : i.own = zero
  · have HR := Lib.hid (show beginM s i = ({ s with round := i.round, step := 1 }, [⟨4, i.round, zero, 0⟩]) from if_pos ho)
    rw [decide_eq_true ho] at HM
    clear ho
    have hbu := built_o2 4 i.round
    go_enter Try.func24, Try.ntmps24
    go_wp2_with (first
      | (with_reducible refine wpList_box_row rfl _ _ rfl (cs := s.cells.toArray) rfl ?_; intro w1 hw1)
      | (with_reducible refine wpList_box_row rfl _ _ rfl (cs := i.cells.toArray) rfl ?_; intro w2 hw2)
      | (with_reducible refine wpList_alloc_named rfl _ rfl s0.cells z_S ?_; intro w3 hw3; have F3 := Lib.hid (pro hw1.out hw2.out hw3.out); clear hw1 hw2 hw3; have c0_3 := sb0 F3.out.s; have c1_3 := sb1 F3.out.s; have c34_3 := sb34 F3.out.s ok; have c67_3 := sb67 F3.out.s ok; have c100_3 := sb100 F3.out.s ok; have c101_3 := sb101 F3.out.s ok; have f0_3 := F3.out.s.frozen 0; have f1_3 := F3.out.s.frozen 1; have f34_3 := F3.out.s.frozen 34; have f67_3 := F3.out.s.frozen 67; have f100_3 := F3.out.s.frozen 100; have f101_3 := F3.out.s.frozen 101; have e0_3 := jb0 F3.out.x; have e1_3 := jb1 F3.out.x; have e34_3 := jb34 F3.out.x oi; have e35_3 := jb35 F3.out.x oi; have F4 : Hid (Fr 25 27 w w.heap.size w1.heap.size w2.heap.size (w3.setCell ⟨w.heap.size, 0, none⟩ (.int .i64 (i.round))) ({ s with round := i.round } : State) i.cells) := Lib.hid (F3.out.put (ss0 F3.out.s (i.round))); have ok4 := (⟨ok.l, ok.v, ok.b⟩ : ({ s with round := i.round } : State).Ok); have c0_4 := sb0 F4.out.s; have c1_4 := sb1 F4.out.s; have c34_4 := sb34 F4.out.s ok4; have c67_4 := sb67 F4.out.s ok4; have c100_4 := sb100 F4.out.s ok4; have c101_4 := sb101 F4.out.s ok4; have f0_4 := F4.out.s.frozen 0; have f1_4 := F4.out.s.frozen 1; have f34_4 := F4.out.s.frozen 34; have f67_4 := F4.out.s.frozen 67; have f100_4 := F4.out.s.frozen 100; have f101_4 := F4.out.s.frozen 101; have e0_4 := jb0 F4.out.x; have e1_4 := jb1 F4.out.x; have e34_4 := jb34 F4.out.x oi; have e35_4 := jb35 F4.out.x oi; have F5 : Hid (Fr 25 27 w w.heap.size w1.heap.size w2.heap.size ((w3.setCell ⟨w.heap.size, 0, none⟩ (.int .i64 (i.round))).setCell ⟨w.heap.size, 1, none⟩ (.int .i64 1)) ({ s with round := i.round, step := 1 } : State) i.cells) := Lib.hid (F4.out.put (ss1 F4.out.s 1)); have ok5 := (⟨ok.l, ok.v, ok.b⟩ : ({ s with round := i.round, step := 1 } : State).Ok); have c0_5 := sb0 F5.out.s; have c1_5 := sb1 F5.out.s; have c34_5 := sb34 F5.out.s ok5; have c67_5 := sb67 F5.out.s ok5; have c100_5 := sb100 F5.out.s ok5; have c101_5 := sb101 F5.out.s ok5; have f0_5 := F5.out.s.frozen 0; have f1_5 := F5.out.s.frozen 1; have f34_5 := F5.out.s.frozen 34; have f67_5 := F5.out.s.frozen 67; have f100_5 := F5.out.s.frozen 100; have f101_5 := F5.out.s.frozen 101; have e0_5 := jb0 F5.out.x; have e1_5 := jb1 F5.out.x; have e34_5 := jb34 F5.out.x oi; have e35_5 := jb35 F5.out.x oi)
      | (with_reducible refine wpList_load_mid rfl 23 _ rfl w1.heap.size 36 rfl (bv i.own) _ (jb36 F5.out.x oi) Try.underlying23 rfl (rowH oi.o) ?_)
      | (go_at_call 29; go_loud (refine (HM.out _).mono ?_; rintro e w6 ⟨rfl, k6⟩; have F6 := Lib.hid (F5.out.chg k6); have c0_6 := sb0 F6.out.s; have c1_6 := sb1 F6.out.s; have c34_6 := sb34 F6.out.s ok5; have c67_6 := sb67 F6.out.s ok5; have c100_6 := sb100 F6.out.s ok5; have c101_6 := sb101 F6.out.s ok5; have f0_6 := F6.out.s.frozen 0; have f1_6 := F6.out.s.frozen 1; have f34_6 := F6.out.s.frozen 34; have f67_6 := F6.out.s.frozen 67; have f100_6 := F6.out.s.frozen 100; have f101_6 := F6.out.s.frozen 101; have e0_6 := jb0 F6.out.x; have e1_6 := jb1 F6.out.x; have e34_6 := jb34 F6.out.x oi; have e35_6 := jb35 F6.out.x oi)))
    rename_i ha
    refine wp_region_lexH 4 3 #[true, true, true, true, false, false, false] (by kernel_rfl) (by kernel_rfl) (by kernel_rfl) (by kernel_rfl) (by kernel_rfl) (fun w' => Chg (fun j => j = w2.heap.size) w6 w') ((Chg.refl _ _).drew) ?_
    refine head_load rfl _ _ rfl w.heap.size 0 rfl ({ s with round := i.round, step := 1 } : State).cells _ (fun w' k => (F6.out.held k).1.range0) Try.underlying25 rfl (rowS ok5) ?_
    simp only [Act.put, List.setIfInBounds_toArray, List.set_cons_zero, List.set_cons_succ]
    refine head_run rfl (fun w' k => by go_simp; rfl) ?_
    simp only [Act.put, List.setIfInBounds_toArray, List.set_cons_zero, List.set_cons_succ]
    refine head_run rfl (fun w' k => by (have x0 := sb0 (F6.out.held k).1); go_simp; rfl) ?_
    simp only [Act.put, List.setIfInBounds_toArray, List.set_cons_zero, List.set_cons_succ]
    refine head_build (vs := [(0, .int .i64 4), (1, .int .i64 i.round)]) rfl _ _ rfl rfl hbu ?_
    simp only [Act.put, List.setIfInBounds_toArray, List.set_cons_zero, List.set_cons_succ]
    refine head_nil ?_
    exact out_end (n := 4) (o := ⟨4, i.round, zero, 0⟩) (s := ({ s with round := i.round, step := 1 } : State)) F6.out ok5 ⟨rfl⟩ HR.out rfl ha (fun a w h => h) rfl rfl rfl rfl rfl rfl (by kernel_rfl) (by kernel_rfl) (by kernel_rfl) (by kernel_rfl) (by kernel_rfl) rfl rfl rfl rfl rfl rfl rfl (fun v => rfl) (fun v => rfl) rfl rfl (fun v => rfl) (fun v => rfl) (fun v => rfl) rfl
  by_cases hv : -1 < s.validR
  · have HR := Lib.hid (show beginM s i = ({ s with round := i.round, step := 1 }, [⟨1, i.round, s.valid, s.validR⟩]) from by unfold beginM; rw [if_neg ho, if_pos hv])
    rw [decide_eq_false ho] at HM
    clear ho
    have hv2 : decide (-1 < s.validR) = true := decide_eq_true hv
    have hbu := built_o4 1 i.round s.validR s.valid ok.v
    go_enter Try.func24, Try.ntmps24
    go_wp2_with (first
      | (with_reducible refine wpList_box_row rfl _ _ rfl (cs := s.cells.toArray) rfl ?_; intro w1 hw1)
      | (with_reducible refine wpList_box_row rfl _ _ rfl (cs := i.cells.toArray) rfl ?_; intro w2 hw2)
      | (with_reducible refine wpList_alloc_named rfl _ rfl s0.cells z_S ?_; intro w3 hw3; have F3 := Lib.hid (pro hw1.out hw2.out hw3.out); clear hw1 hw2 hw3; have c0_3 := sb0 F3.out.s; have c1_3 := sb1 F3.out.s; have c34_3 := sb34 F3.out.s ok; have c67_3 := sb67 F3.out.s ok; have c100_3 := sb100 F3.out.s ok; have c101_3 := sb101 F3.out.s ok; have f0_3 := F3.out.s.frozen 0; have f1_3 := F3.out.s.frozen 1; have f34_3 := F3.out.s.frozen 34; have f67_3 := F3.out.s.frozen 67; have f100_3 := F3.out.s.frozen 100; have f101_3 := F3.out.s.frozen 101; have e0_3 := jb0 F3.out.x; have e1_3 := jb1 F3.out.x; have e34_3 := jb34 F3.out.x oi; have e35_3 := jb35 F3.out.x oi; have F4 : Hid (Fr 25 27 w w.heap.size w1.heap.size w2.heap.size (w3.setCell ⟨w.heap.size, 0, none⟩ (.int .i64 (i.round))) ({ s with round := i.round } : State) i.cells) := Lib.hid (F3.out.put (ss0 F3.out.s (i.round))); have ok4 := (⟨ok.l, ok.v, ok.b⟩ : ({ s with round := i.round } : State).Ok); have c0_4 := sb0 F4.out.s; have c1_4 := sb1 F4.out.s; have c34_4 := sb34 F4.out.s ok4; have c67_4 := sb67 F4.out.s ok4; have c100_4 := sb100 F4.out.s ok4; have c101_4 := sb101 F4.out.s ok4; have f0_4 := F4.out.s.frozen 0; have f1_4 := F4.out.s.frozen 1; have f34_4 := F4.out.s.frozen 34; have f67_4 := F4.out.s.frozen 67; have f100_4 := F4.out.s.frozen 100; have f101_4 := F4.out.s.frozen 101; have e0_4 := jb0 F4.out.x; have e1_4 := jb1 F4.out.x; have e34_4 := jb34 F4.out.x oi; have e35_4 := jb35 F4.out.x oi; have F5 : Hid (Fr 25 27 w w.heap.size w1.heap.size w2.heap.size ((w3.setCell ⟨w.heap.size, 0, none⟩ (.int .i64 (i.round))).setCell ⟨w.heap.size, 1, none⟩ (.int .i64 1)) ({ s with round := i.round, step := 1 } : State) i.cells) := Lib.hid (F4.out.put (ss1 F4.out.s 1)); have ok5 := (⟨ok.l, ok.v, ok.b⟩ : ({ s with round := i.round, step := 1 } : State).Ok); have c0_5 := sb0 F5.out.s; have c1_5 := sb1 F5.out.s; have c34_5 := sb34 F5.out.s ok5; have c67_5 := sb67 F5.out.s ok5; have c100_5 := sb100 F5.out.s ok5; have c101_5 := sb101 F5.out.s ok5; have f0_5 := F5.out.s.frozen 0; have f1_5 := F5.out.s.frozen 1; have f34_5 := F5.out.s.frozen 34; have f67_5 := F5.out.s.frozen 67; have f100_5 := F5.out.s.frozen 100; have f101_5 := F5.out.s.frozen 101; have e0_5 := jb0 F5.out.x; have e1_5 := jb1 F5.out.x; have e34_5 := jb34 F5.out.x oi; have e35_5 := jb35 F5.out.x oi)
      | (with_reducible refine wpList_load_mid rfl 23 _ rfl w1.heap.size 36 rfl (bv i.own) _ (jb36 F5.out.x oi) Try.underlying23 rfl (rowH oi.o) ?_)
      | (go_at_call 29; go_loud (refine (HM.out _).mono ?_; rintro e w6 ⟨rfl, k6⟩; have F6 := Lib.hid (F5.out.chg k6); have c0_6 := sb0 F6.out.s; have c1_6 := sb1 F6.out.s; have c34_6 := sb34 F6.out.s ok5; have c67_6 := sb67 F6.out.s ok5; have c100_6 := sb100 F6.out.s ok5; have c101_6 := sb101 F6.out.s ok5; have f0_6 := F6.out.s.frozen 0; have f1_6 := F6.out.s.frozen 1; have f34_6 := F6.out.s.frozen 34; have f67_6 := F6.out.s.frozen 67; have f100_6 := F6.out.s.frozen 100; have f101_6 := F6.out.s.frozen 101; have e0_6 := jb0 F6.out.x; have e1_6 := jb1 F6.out.x; have e34_6 := jb34 F6.out.x oi; have e35_6 := jb35 F6.out.x oi)))
    rename_i ha
    refine wp_region_lexH 8 3 #[true, true, true, true, true, true, true, true, false, false, false] (by kernel_rfl) (by kernel_rfl) (by kernel_rfl) (by kernel_rfl) (by kernel_rfl) (fun w' => Chg (fun j => j = w2.heap.size) w6 w') ((Chg.refl _ _).drew) ?_
    refine head_load rfl _ _ rfl w.heap.size 0 rfl ({ s with round := i.round, step := 1 } : State).cells _ (fun w' k => (F6.out.held k).1.range0) Try.underlying25 rfl (rowS ok5) ?_
    simp only [Act.put, List.setIfInBounds_toArray, List.set_cons_zero, List.set_cons_succ]
    refine head_run rfl (fun w' k => by go_simp; rfl) ?_
    simp only [Act.put, List.setIfInBounds_toArray, List.set_cons_zero, List.set_cons_succ]
    refine head_run rfl (fun w' k => by (have x0 := sb0 (F6.out.held k).1); go_simp; rfl) ?_
    simp only [Act.put, List.setIfInBounds_toArray, List.set_cons_zero, List.set_cons_succ]
    refine head_run rfl (fun w' k => by go_simp; rfl) ?_
    simp only [Act.put, List.setIfInBounds_toArray, List.set_cons_zero, List.set_cons_succ]
    refine head_load rfl _ _ rfl w.heap.size 35 rfl (bv s.valid) _ (fun w' k => (sb35 (F6.out.held k).1 ok5).1) Try.underlying23 rfl (rowH ok.v) ?_
    simp only [Act.put, List.setIfInBounds_toArray, List.set_cons_zero, List.set_cons_succ]
    refine head_run rfl (fun w' k => by go_simp; rfl) ?_
    simp only [Act.put, List.setIfInBounds_toArray, List.set_cons_zero, List.set_cons_succ]
    refine head_run rfl (fun w' k => by (have x0 := sb67 (F6.out.held k).1 ok5); go_simp; rfl) ?_
    simp only [Act.put, List.setIfInBounds_toArray, List.set_cons_zero, List.set_cons_succ]
    refine head_build (vs := [(0, .int .i64 1), (1, .int .i64 i.round), (2, .agg (bv s.valid).toArray), (3, .int .i64 s.validR)]) rfl _ _ rfl rfl hbu ?_
    simp only [Act.put, List.setIfInBounds_toArray, List.set_cons_zero, List.set_cons_succ]
    refine head_nil ?_
    exact out_end (n := 8) (o := ⟨1, i.round, s.valid, s.validR⟩) (s := ({ s with round := i.round, step := 1 } : State)) F6.out ok5 ⟨ok.v⟩ HR.out rfl ha (fun a w h => h) rfl rfl rfl rfl rfl rfl (by kernel_rfl) (by kernel_rfl) (by kernel_rfl) (by kernel_rfl) (by kernel_rfl) rfl rfl rfl rfl rfl rfl rfl (fun v => rfl) (fun v => rfl) rfl rfl (fun v => rfl) (fun v => rfl) (fun v => rfl) rfl
  · have HR := Lib.hid (show beginM s i = ({ s with round := i.round, step := 1 }, [⟨1, i.round, i.own, -1⟩]) from by unfold beginM; rw [if_neg ho, if_neg hv])
    rw [decide_eq_false ho] at HM
    clear ho
    have hv2 : decide (-1 < s.validR) = false := decide_eq_false hv
    have hbu := built_o4 1 i.round (-1) i.own oi.o
    go_enter Try.func24, Try.ntmps24
    go_wp2_with (first
      | (with_reducible refine wpList_box_row rfl _ _ rfl (cs := s.cells.toArray) rfl ?_; intro w1 hw1)
      | (with_reducible refine wpList_box_row rfl _ _ rfl (cs := i.cells.toArray) rfl ?_; intro w2 hw2)
      | (with_reducible refine wpList_alloc_named rfl _ rfl s0.cells z_S ?_; intro w3 hw3; have F3 := Lib.hid (pro hw1.out hw2.out hw3.out); clear hw1 hw2 hw3; have c0_3 := sb0 F3.out.s; have c1_3 := sb1 F3.out.s; have c34_3 := sb34 F3.out.s ok; have c67_3 := sb67 F3.out.s ok; have c100_3 := sb100 F3.out.s ok; have c101_3 := sb101 F3.out.s ok; have f0_3 := F3.out.s.frozen 0; have f1_3 := F3.out.s.frozen 1; have f34_3 := F3.out.s.frozen 34; have f67_3 := F3.out.s.frozen 67; have f100_3 := F3.out.s.frozen 100; have f101_3 := F3.out.s.frozen 101; have e0_3 := jb0 F3.out.x; have e1_3 := jb1 F3.out.x; have e34_3 := jb34 F3.out.x oi; have e35_3 := jb35 F3.out.x oi; have F4 : Hid (Fr 25 27 w w.heap.size w1.heap.size w2.heap.size (w3.setCell ⟨w.heap.size, 0, none⟩ (.int .i64 (i.round))) ({ s with round := i.round } : State) i.cells) := Lib.hid (F3.out.put (ss0 F3.out.s (i.round))); have ok4 := (⟨ok.l, ok.v, ok.b⟩ : ({ s with round := i.round } : State).Ok); have c0_4 := sb0 F4.out.s; have c1_4 := sb1 F4.out.s; have c34_4 := sb34 F4.out.s ok4; have c67_4 := sb67 F4.out.s ok4; have c100_4 := sb100 F4.out.s ok4; have c101_4 := sb101 F4.out.s ok4; have f0_4 := F4.out.s.frozen 0; have f1_4 := F4.out.s.frozen 1; have f34_4 := F4.out.s.frozen 34; have f67_4 := F4.out.s.frozen 67; have f100_4 := F4.out.s.frozen 100; have f101_4 := F4.out.s.frozen 101; have e0_4 := jb0 F4.out.x; have e1_4 := jb1 F4.out.x; have e34_4 := jb34 F4.out.x oi; have e35_4 := jb35 F4.out.x oi; have F5 : Hid (Fr 25 27 w w.heap.size w1.heap.size w2.heap.size ((w3.setCell ⟨w.heap.size, 0, none⟩ (.int .i64 (i.round))).setCell ⟨w.heap.size, 1, none⟩ (.int .i64 1)) ({ s with round := i.round, step := 1 } : State) i.cells) := Lib.hid (F4.out.put (ss1 F4.out.s 1)); have ok5 := (⟨ok.l, ok.v, ok.b⟩ : ({ s with round := i.round, step := 1 } : State).Ok); have c0_5 := sb0 F5.out.s; have c1_5 := sb1 F5.out.s; have c34_5 := sb34 F5.out.s ok5; have c67_5 := sb67 F5.out.s ok5; have c100_5 := sb100 F5.out.s ok5; have c101_5 := sb101 F5.out.s ok5; have f0_5 := F5.out.s.frozen 0; have f1_5 := F5.out.s.frozen 1; have f34_5 := F5.out.s.frozen 34; have f67_5 := F5.out.s.frozen 67; have f100_5 := F5.out.s.frozen 100; have f101_5 := F5.out.s.frozen 101; have e0_5 := jb0 F5.out.x; have e1_5 := jb1 F5.out.x; have e34_5 := jb34 F5.out.x oi; have e35_5 := jb35 F5.out.x oi)
      | (with_reducible refine wpList_load_mid rfl 23 _ rfl w1.heap.size 36 rfl (bv i.own) _ (jb36 F5.out.x oi) Try.underlying23 rfl (rowH oi.o) ?_)
      | (go_at_call 29; go_loud (refine (HM.out _).mono ?_; rintro e w6 ⟨rfl, k6⟩; have F6 := Lib.hid (F5.out.chg k6); have c0_6 := sb0 F6.out.s; have c1_6 := sb1 F6.out.s; have c34_6 := sb34 F6.out.s ok5; have c67_6 := sb67 F6.out.s ok5; have c100_6 := sb100 F6.out.s ok5; have c101_6 := sb101 F6.out.s ok5; have f0_6 := F6.out.s.frozen 0; have f1_6 := F6.out.s.frozen 1; have f34_6 := F6.out.s.frozen 34; have f67_6 := F6.out.s.frozen 67; have f100_6 := F6.out.s.frozen 100; have f101_6 := F6.out.s.frozen 101; have e0_6 := jb0 F6.out.x; have e1_6 := jb1 F6.out.x; have e34_6 := jb34 F6.out.x oi; have e35_6 := jb35 F6.out.x oi)))
    rename_i ha
    refine wp_region_lexH 6 3 #[true, true, true, true, true, true, false, false, false] (by kernel_rfl) (by kernel_rfl) (by kernel_rfl) (by kernel_rfl) (by kernel_rfl) (fun w' => Chg (fun j => j = w2.heap.size) w6 w') ((Chg.refl _ _).drew) ?_
    refine head_load rfl _ _ rfl w.heap.size 0 rfl ({ s with round := i.round, step := 1 } : State).cells _ (fun w' k => (F6.out.held k).1.range0) Try.underlying25 rfl (rowS ok5) ?_
    simp only [Act.put, List.setIfInBounds_toArray, List.set_cons_zero, List.set_cons_succ]
    refine head_run rfl (fun w' k => by go_simp; rfl) ?_
    simp only [Act.put, List.setIfInBounds_toArray, List.set_cons_zero, List.set_cons_succ]
    refine head_run rfl (fun w' k => by (have x0 := sb0 (F6.out.held k).1); go_simp; rfl) ?_
    simp only [Act.put, List.setIfInBounds_toArray, List.set_cons_zero, List.set_cons_succ]
    refine head_run rfl (fun w' k => by go_simp; rfl) ?_
    simp only [Act.put, List.setIfInBounds_toArray, List.set_cons_zero, List.set_cons_succ]
    refine head_load rfl _ _ rfl w1.heap.size 36 rfl (bv i.own) _ (fun w' k => jb36 (F6.out.held k).2 oi) Try.underlying23 rfl (rowH oi.o) ?_
    simp only [Act.put, List.setIfInBounds_toArray, List.set_cons_zero, List.set_cons_succ]
    refine head_build (vs := [(0, .int .i64 1), (1, .int .i64 i.round), (2, .agg (bv i.own).toArray), (3, .int .i64 (-1))]) rfl _ _ rfl rfl hbu ?_
    simp only [Act.put, List.setIfInBounds_toArray, List.set_cons_zero, List.set_cons_succ]
    refine head_nil ?_
    exact out_end (n := 6) (o := ⟨1, i.round, i.own, -1⟩) (s := ({ s with round := i.round, step := 1 } : State)) F6.out ok5 ⟨oi.o⟩ HR.out rfl ha (fun a w h => h) rfl rfl rfl rfl rfl rfl (by kernel_rfl) (by kernel_rfl) (by kernel_rfl) (by kernel_rfl) (by kernel_rfl) rfl rfl rfl rfl rfl rfl rfl (fun v => rfl) (fun v => rfl) rfl rfl (fun v => rfl) (fun v => rfl) (fun v => rfl) rfl
end Go.Proofs.Ytdejfamcmebdiaa
