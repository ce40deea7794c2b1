/- Package round: agreed. (Written by wip/tools/gen12.py.) -/
import Derived.Test.YtdejfamcmebdiaaRd5
namespace Go.Proofs.Ytdejfamcmebdiaa
open Go.RowKit mach
set_option linter.unusedVariables false
set_option linter.unusedSimpArgs false
set_option maxRecDepth 20000

def agreedM (s : State) (i : In) : State × List Out :=
  if s.step = 2 then ({ s with locked := i.block, lockedR := i.round, step := 3, valid := i.block, validR := i.round }, [⟨3, s.round, i.block, 0⟩])
  else if s.step = 3 then ({ s with valid := i.block, validR := i.round }, []) else (s, [])
set_option maxHeartbeats 1600000 in
theorem agreed_any (w : World) (s : State) (i : In) (ok : s.Ok) (oi : i.Ok) : Calls Try.prog 27 #[.agg s.cells.toArray, .agg i.cells.toArray] w (Did 45 w (agreedM s i)) := by
  by_cases n2 : s.step = 2
  · have HR := Lib.hid (show agreedM s i = ({ s with locked := i.block, lockedR := i.round, step := 3, valid := i.block, validR := i.round }, [⟨3, s.round, i.block, 0⟩]) from if_pos n2)
    have HK := Lib.hid n2
    clear n2
    have okM : ({ s with locked := i.block } : State).Ok := ⟨oi.b, ok.v, ok.b⟩
    have okA : ({ s with locked := i.block, lockedR := i.round } : State).Ok := ⟨oi.b, ok.v, ok.b⟩
    have okB : ({ s with locked := i.block, lockedR := i.round, step := 3 } : State).Ok := ⟨oi.b, ok.v, ok.b⟩
    have okC : ({ s with locked := i.block, lockedR := i.round, step := 3, valid := i.block } : State).Ok := ⟨oi.b, oi.b, ok.b⟩
    have okD : ({ s with locked := i.block, lockedR := i.round, step := 3, valid := i.block, validR := i.round } : State).Ok := ⟨oi.b, oi.b, ok.b⟩
    have HP := Lib.hid (fun w' => precommit_any w' { s with locked := i.block, lockedR := i.round } okA i.block oi.b)
    go_enter Try.func27, Try.ntmps27
    go_wp2_with (first
      | (with_reducible refine wpList_box_row rfl _ _ rfl (cs := s.cells.toArray) rfl ?_; intro w1 hw1)
      | (with_reducible refine wpList_box_row rfl _ _ rfl (cs := i.cells.toArray) rfl ?_; intro w2 hw2)
      | (with_reducible refine wpList_alloc_named rfl _ rfl s0.cells z_S ?_; intro w3 hw3; have F3 := Lib.hid (pro hw1.out hw2.out hw3.out); clear hw1 hw2 hw3; have c0_3 := sb0 F3.out.s; have c1_3 := sb1 F3.out.s; have c34_3 := sb34 F3.out.s ok; have c67_3 := sb67 F3.out.s ok; have c100_3 := sb100 F3.out.s ok; have c101_3 := sb101 F3.out.s ok; have f0_3 := F3.out.s.frozen 0; have f1_3 := F3.out.s.frozen 1; have f34_3 := F3.out.s.frozen 34; have f67_3 := F3.out.s.frozen 67; have f100_3 := F3.out.s.frozen 100; have f101_3 := F3.out.s.frozen 101; have e0_3 := jb0 F3.out.x; have e1_3 := jb1 F3.out.x; have e34_3 := jb34 F3.out.x oi; have e35_3 := jb35 F3.out.x oi; rw [HK.out] at c1_3))
    rename_i ha
    have GA := (F3.out).drew
    have HA : Fr 25 27 w w.heap.size w1.heap.size w2.heap.size _ ({ s with locked := i.block } : State) i.cells := GA.puts (ss2 GA.s ok i.block oi.b)
    have IA : Fr 25 27 w w.heap.size w1.heap.size w2.heap.size _ ({ s with locked := i.block, lockedR := i.round } : State) i.cells := HA.put (ss34 HA.s okM i.round)
    refine wp_region_lexH 5 3 #[true, true, true, true, true, false, false, false] (by kernel_rfl) (by kernel_rfl) (by kernel_rfl) (by kernel_rfl) (by kernel_rfl) (fun w' => Chg (fun j => j = w.heap.size) w3 w') ((Chg.refl _ _).drew) ?_
    refine head_run rfl (fun w' k => by go_simp; rfl) ?_
    simp only [Act.put, List.setIfInBounds_toArray, List.set_cons_zero, List.set_cons_succ]
    refine head_load rfl _ _ rfl w1.heap.size 2 rfl (bv i.block) _ (fun w' k => jb2 ((F3.out).x.chg k (by have := (F3.out).lt1; show ¬ (w1.heap.size = w.heap.size); omega))) Try.underlying23 rfl (rowH oi.b) ?_
    simp only [Act.put, List.setIfInBounds_toArray, List.set_cons_zero, List.set_cons_succ]
    refine head_run rfl (fun w' k => by go_simp; rfl) ?_
    simp only [Act.put, List.setIfInBounds_toArray, List.set_cons_zero, List.set_cons_succ]
    refine head_run rfl (fun w' k => by (have x0 := jb1 ((F3.out).x.chg k (by have := (F3.out).lt1; show ¬ (w1.heap.size = w.heap.size); omega))); go_simp; rfl) ?_
    simp only [Act.put, List.setIfInBounds_toArray, List.set_cons_zero, List.set_cons_succ]
    refine head_run rfl (fun w' k => by go_simp; rfl) ?_
    simp only [Act.put, List.setIfInBounds_toArray, List.set_cons_zero, List.set_cons_succ]
    refine head_nil ?_
    refine two_stores (n := 5) (v := i.round) rfl rfl rfl rfl rfl rfl (by kernel_rfl) (by kernel_rfl) (by kernel_rfl) (by kernel_rfl) rfl rfl rfl rfl oi.b (sb2 GA.s ok).2 rfl rfl (fun w' => by go_simp) rfl rfl rfl rfl (sb34 HA.s okM) (HA.s.frozen _) (fun w' k => ⟨k.os, k.tape, k.output, k.size, k.block⟩) ?_
    refine ha _ _ ?_
    simp only [Act.put, List.setIfInBounds_toArray, List.set_cons_zero, List.set_cons_succ]
    go_wp2_with (first
      | (with_reducible refine wpList_load_mid rfl 25 _ rfl w.heap.size 0 rfl ({ s with locked := i.block, lockedR := i.round } : State).cells _ IA.s.range0 Try.underlying25 rfl (rowS okA) ?_)
      | (with_reducible refine wpList_load_mid rfl 23 _ rfl w1.heap.size 2 rfl (bv i.block) _ (jb2 IA.x) Try.underlying23 rfl (rowH oi.b) ?_)
      | (go_at_call 31; go_loud (refine (HP.out _).mono ?_; rintro e w5 ⟨k5, _, v, rfl, oC⟩; have J5 := Lib.hid (IA.chg k5); have OC := Lib.hid oC; have LT := Lib.hid IA.s.lt; have LT2 := Lib.hid IA.r.lt; clear oC IA HA GA))
      | (with_reducible refine wpList_store_S rfl _ _ rfl w.heap.size ({ s with locked := i.block, lockedR := i.round, step := 3 } : State) ({ s with locked := i.block, lockedR := i.round } : State) rfl rfl J5.out.s okB okA ?_; intro w6 h6 k6; have J6 := Lib.hid (J5.out.to k6 h6); have OC6 := Lib.hid (Outs.far OC.out k6 (fun j hj => by have : j = w.heap.size := hj; have := LT.out; omega)); clear OC))
    rename_i ha
    have GB := (J6.out).drew
    have HB : Fr 25 27 w w.heap.size w1.heap.size w2.heap.size _ ({ s with locked := i.block, lockedR := i.round, step := 3, valid := i.block } : State) i.cells := GB.puts (ss35 GB.s okB i.block oi.b)
    have IB : Fr 25 27 w w.heap.size w1.heap.size w2.heap.size _ ({ s with locked := i.block, lockedR := i.round, step := 3, valid := i.block, validR := i.round } : State) i.cells := HB.put (ss67 HB.s okC i.round)
    refine wp_region_lexH 5 3 #[true, true, true, true, true, false, false, false] (by kernel_rfl) (by kernel_rfl) (by kernel_rfl) (by kernel_rfl) (by kernel_rfl) (fun w' => Chg (fun j => j = w.heap.size) w6 w') ((Chg.refl _ _).drew) ?_
    refine head_run rfl (fun w' k => by go_simp; rfl) ?_
    simp only [Act.put, List.setIfInBounds_toArray, List.set_cons_zero, List.set_cons_succ]
    refine head_load rfl _ _ rfl w1.heap.size 2 rfl (bv i.block) _ (fun w' k => jb2 ((J6.out).x.chg k (by have := (J6.out).lt1; show ¬ (w1.heap.size = w.heap.size); omega))) Try.underlying23 rfl (rowH oi.b) ?_
    simp only [Act.put, List.setIfInBounds_toArray, List.set_cons_zero, List.set_cons_succ]
    refine head_run rfl (fun w' k => by go_simp; rfl) ?_
    simp only [Act.put, List.setIfInBounds_toArray, List.set_cons_zero, List.set_cons_succ]
    refine head_run rfl (fun w' k => by (have x0 := jb1 ((J6.out).x.chg k (by have := (J6.out).lt1; show ¬ (w1.heap.size = w.heap.size); omega))); go_simp; rfl) ?_
    simp only [Act.put, List.setIfInBounds_toArray, List.set_cons_zero, List.set_cons_succ]
    refine head_run rfl (fun w' k => by go_simp; rfl) ?_
    simp only [Act.put, List.setIfInBounds_toArray, List.set_cons_zero, List.set_cons_succ]
    refine head_nil ?_
    refine two_stores (n := 5) (v := i.round) rfl rfl rfl rfl rfl rfl (by kernel_rfl) (by kernel_rfl) (by kernel_rfl) (by kernel_rfl) rfl rfl rfl rfl oi.b (sb35 GB.s okB).2 rfl rfl (fun w' => by go_simp) rfl rfl rfl rfl (sb67 HB.s okC) (HB.s.frozen _) (fun w' k => ⟨k.os, k.tape, k.output, k.size, k.block⟩) ?_
    refine ha _ _ ?_
    simp only [Act.put, List.setIfInBounds_toArray, List.set_cons_zero, List.set_cons_succ]
    have OC7 := Lib.hid (Outs.far OC6.out ((Chg.refl _ w6).drew.trans (Chg.setCells (S := fun j => j = w.heap.size) (.inl rfl) (bv i.block) _ 35 (Chg.refl _ w6.drew) |>.setCell (p := ⟨w.heap.size, 67, none⟩) (.inl rfl) (.int .i64 i.round)) (fun _ h => .inl h)) (fun j hj => by have : j = w.heap.size := hj; have := LT.out; omega))
    generalize (w6.drew.setCells w.heap.size 35 (bv i.block)).setCell ⟨w.heap.size, 67, none⟩ (.int .i64 i.round) = w7 at *
    go_wp2_with (first
      | (with_reducible refine wpList_load_mid rfl 25 _ rfl w.heap.size 0 rfl ({ s with locked := i.block, lockedR := i.round, step := 3, valid := i.block, validR := i.round } : State).cells _ IB.s.range0 Try.underlying25 rfl (rowS okD) ?_)
      | (with_reducible refine wpList_store_S rfl _ _ rfl w2.heap.size ({ s with locked := i.block, lockedR := i.round, step := 3, valid := i.block, validR := i.round } : State) s0 rfl rfl IB.r okD s0_ok ?_; intro w9 h9 k9))
    exact ret_end rfl rfl rfl IB h9 k9 okD rfl (outs_ho OC7.out LT2.out) HR.out
  by_cases n3 : s.step = 3
  · have HR := Lib.hid (show agreedM s i = ({ s with valid := i.block, validR := i.round }, []) from by unfold agreedM; rw [if_neg n2, if_pos n3])
    have HK := Lib.hid n3
    clear n2 n3
    have okC : ({ s with valid := i.block } : State).Ok := ⟨ok.l, oi.b, ok.b⟩
    have okD : ({ s with valid := i.block, validR := i.round } : State).Ok := ⟨ok.l, oi.b, ok.b⟩
    go_enter Try.func27, Try.ntmps27
    go_wp2_with (first
      | (with_reducible refine wpList_box_row rfl _ _ rfl (cs := s.cells.toArray) rfl ?_; intro w1 hw1)
      | (with_reducible refine wpList_box_row rfl _ _ rfl (cs := i.cells.toArray) rfl ?_; intro w2 hw2)
      | (with_reducible refine wpList_alloc_named rfl _ rfl s0.cells z_S ?_; intro w3 hw3; have F3 := Lib.hid (pro hw1.out hw2.out hw3.out); clear hw1 hw2 hw3; have c0_3 := sb0 F3.out.s; have c1_3 := sb1 F3.out.s; have c34_3 := sb34 F3.out.s ok; have c67_3 := sb67 F3.out.s ok; have c100_3 := sb100 F3.out.s ok; have c101_3 := sb101 F3.out.s ok; have f0_3 := F3.out.s.frozen 0; have f1_3 := F3.out.s.frozen 1; have f34_3 := F3.out.s.frozen 34; have f67_3 := F3.out.s.frozen 67; have f100_3 := F3.out.s.frozen 100; have f101_3 := F3.out.s.frozen 101; have e0_3 := jb0 F3.out.x; have e1_3 := jb1 F3.out.x; have e34_3 := jb34 F3.out.x oi; have e35_3 := jb35 F3.out.x oi; rw [HK.out] at c1_3))
    rename_i ha
    have GB := (F3.out).drew
    have HB : Fr 25 27 w w.heap.size w1.heap.size w2.heap.size _ ({ s with valid := i.block } : State) i.cells := GB.puts (ss35 GB.s ok i.block oi.b)
    have IB : Fr 25 27 w w.heap.size w1.heap.size w2.heap.size _ ({ s with valid := i.block, validR := i.round } : State) i.cells := HB.put (ss67 HB.s okC i.round)
    refine wp_region_lexH 5 3 #[true, true, true, true, true, false, false, false] (by kernel_rfl) (by kernel_rfl) (by kernel_rfl) (by kernel_rfl) (by kernel_rfl) (fun w' => Chg (fun j => j = w.heap.size) w3 w') ((Chg.refl _ _).drew) ?_
    refine head_run rfl (fun w' k => by go_simp; rfl) ?_
    simp only [Act.put, List.setIfInBounds_toArray, List.set_cons_zero, List.set_cons_succ]
    refine head_load rfl _ _ rfl w1.heap.size 2 rfl (bv i.block) _ (fun w' k => jb2 ((F3.out).x.chg k (by have := (F3.out).lt1; show ¬ (w1.heap.size = w.heap.size); omega))) Try.underlying23 rfl (rowH oi.b) ?_
    simp only [Act.put, List.setIfInBounds_toArray, List.set_cons_zero, List.set_cons_succ]
    refine head_run rfl (fun w' k => by go_simp; rfl) ?_
    simp only [Act.put, List.setIfInBounds_toArray, List.set_cons_zero, List.set_cons_succ]
    refine head_run rfl (fun w' k => by (have x0 := jb1 ((F3.out).x.chg k (by have := (F3.out).lt1; show ¬ (w1.heap.size = w.heap.size); omega))); go_simp; rfl) ?_
    simp only [Act.put, List.setIfInBounds_toArray, List.set_cons_zero, List.set_cons_succ]
    refine head_run rfl (fun w' k => by go_simp; rfl) ?_
    simp only [Act.put, List.setIfInBounds_toArray, List.set_cons_zero, List.set_cons_succ]
    refine head_nil ?_
    refine two_stores (n := 5) (v := i.round) rfl rfl rfl rfl rfl rfl (by kernel_rfl) (by kernel_rfl) (by kernel_rfl) (by kernel_rfl) rfl rfl rfl rfl oi.b (sb35 GB.s ok).2 rfl rfl (fun w' => by go_simp) rfl rfl rfl rfl (sb67 HB.s okC) (HB.s.frozen _) (fun w' k => ⟨k.os, k.tape, k.output, k.size, k.block⟩) ?_
    refine ha _ _ ?_
    simp only [Act.put, List.setIfInBounds_toArray, List.set_cons_zero, List.set_cons_succ]
    go_wp2_with (first
      | (with_reducible refine wpList_load_mid rfl 25 _ rfl w.heap.size 0 rfl ({ s with valid := i.block, validR := i.round } : State).cells _ IB.s.range0 Try.underlying25 rfl (rowS okD) ?_)
      | (with_reducible refine wpList_store_S rfl _ _ rfl w2.heap.size ({ s with valid := i.block, validR := i.round } : State) s0 rfl rfl IB.r okD s0_ok ?_; intro w9 h9 k9))
    exact ret_end rfl rfl rfl IB h9 k9 okD rfl (.inl ⟨rfl, rfl⟩) HR.out
  · have HR := Lib.hid (show agreedM s i = (s, []) from by unfold agreedM; rw [if_neg n2, if_neg n3])
    have nk2 : (s.step == 2) = false := by simpa using n2
    have nk3 : (s.step == 3) = false := by simpa using n3
    clear n2 n3
    go_enter Try.func27, Try.ntmps27
    go_wp2_with (first
      | (with_reducible refine wpList_box_row rfl _ _ rfl (cs := s.cells.toArray) rfl ?_; intro w1 hw1)
      | (with_reducible refine wpList_box_row rfl _ _ rfl (cs := i.cells.toArray) rfl ?_; intro w2 hw2)
      | (with_reducible refine wpList_alloc_named rfl _ rfl s0.cells z_S ?_; intro w3 hw3; have F3 := Lib.hid (pro hw1.out hw2.out hw3.out); clear hw1 hw2 hw3; have c0_3 := sb0 F3.out.s; have c1_3 := sb1 F3.out.s; have c34_3 := sb34 F3.out.s ok; have c67_3 := sb67 F3.out.s ok; have c100_3 := sb100 F3.out.s ok; have c101_3 := sb101 F3.out.s ok; have f0_3 := F3.out.s.frozen 0; have f1_3 := F3.out.s.frozen 1; have f34_3 := F3.out.s.frozen 34; have f67_3 := F3.out.s.frozen 67; have f100_3 := F3.out.s.frozen 100; have f101_3 := F3.out.s.frozen 101; have e0_3 := jb0 F3.out.x; have e1_3 := jb1 F3.out.x; have e34_3 := jb34 F3.out.x oi; have e35_3 := jb35 F3.out.x oi)
      | (with_reducible refine wpList_load_mid rfl 25 _ rfl w.heap.size 0 rfl (s).cells _ F3.out.s.range0 Try.underlying25 rfl (rowS ok) ?_)
      | (with_reducible refine wpList_store_S rfl _ _ rfl w2.heap.size (s) s0 rfl rfl F3.out.r ok s0_ok ?_; intro w9 h9 k9))
    exact ret_end rfl rfl rfl F3.out h9 k9 ok rfl (.inl ⟨rfl, rfl⟩) HR.out
end Go.Proofs.Ytdejfamcmebdiaa
