/- Package round: ahead. (Written by wip/tools/gen12.py.) -/
import Derived.Test.YtdejfamcmebdiaaRd2
namespace Go.Proofs.Ytdejfamcmebdiaa
open Go.RowKit mach
set_option linter.unusedVariables false
set_option linter.unusedSimpArgs false
set_option maxRecDepth 20000

def aheadM (s : State) (i : In) : State × List Out := if i.kind = 1 then beginM s i else if i.kind = 9 then (s, [⟨7, i.round, zero, 0⟩]) else (s, [])
set_option maxHeartbeats 1600000 in
theorem ahead_any (w : World) (s : State) (i : In) (ok : s.Ok) (oi : i.Ok) : Calls Try.prog 18 #[.agg s.cells.toArray, .agg i.cells.toArray] w (Did 45 w (aheadM s i)) := by
  by_cases n1 : i.kind = 1
  · have HR0 : aheadM s i = beginM s i := if_pos n1
    have HC := Lib.hid (fun w' => begin_any w' s i ok oi)
    generalize beginM s i = r at HR0 HC
    obtain ⟨s1, l1⟩ := r
    have HR := Lib.hid HR0
    clear HR0
    have HK := Lib.hid n1
    clear n1
    go_enter Try.func18, Try.ntmps18
    go_wp2_with (first
      | (with_reducible refine wpList_box_row rfl _ _ rfl (cs := s.cells.toArray) rfl ?_; intro w1 hw1)
      | (with_reducible refine wpList_box_row rfl _ _ rfl (cs := i.cells.toArray) rfl ?_; intro w2 hw2)
      | (with_reducible refine wpList_alloc_named rfl _ rfl s0.cells z_S ?_; intro w3 hw3; have F3 := Lib.hid (pro hw1.out hw2.out hw3.out); clear hw1 hw2 hw3; have c0_3 := sb0 F3.out.s; have c1_3 := sb1 F3.out.s; have c34_3 := sb34 F3.out.s ok; have c67_3 := sb67 F3.out.s ok; have c100_3 := sb100 F3.out.s ok; have c101_3 := sb101 F3.out.s ok; have f0_3 := F3.out.s.frozen 0; have f1_3 := F3.out.s.frozen 1; have f34_3 := F3.out.s.frozen 34; have f67_3 := F3.out.s.frozen 67; have f100_3 := F3.out.s.frozen 100; have f101_3 := F3.out.s.frozen 101; have e0_3 := jb0 F3.out.x; have e1_3 := jb1 F3.out.x; have e34_3 := jb34 F3.out.x oi; have e35_3 := jb35 F3.out.x oi; rw [HK.out] at e0_3)
      | (with_reducible refine wpList_load_mid rfl 25 _ rfl w.heap.size 0 rfl (s).cells _ F3.out.s.range0 Try.underlying25 rfl (rowS ok) ?_)
      | (with_reducible refine wpList_load_mid rfl 27 _ rfl w1.heap.size 0 rfl i.cells _ F3.out.x.range0 Try.underlying27 rfl (rowI oi) ?_)
      | (go_at_call 24; go_loud (refine (HC.out _).mono ?_; rintro e w4 ⟨k4, okC, v, rfl, oC⟩; have F4 := Lib.hid (F3.out.chg k4); have OC := Lib.hid oC; clear oC))
      | (with_reducible refine wpList_store_S rfl _ _ rfl w2.heap.size s1 s0 rfl rfl F4.out.r okC s0_ok ?_; intro w9 h9 k9))
    exact ret_end rfl rfl rfl F4.out h9 k9 okC rfl (outs_ho OC.out F3.out.r.lt) HR.out
  by_cases n9 : i.kind = 9
  · have HR := Lib.hid (show aheadM s i = (s, [⟨7, i.round, zero, 0⟩]) from by unfold aheadM; rw [if_neg n1, if_pos n9])
    have HK := Lib.hid n9
    clear n1 n9
    have hbu := built_o2 7 i.round
    go_enter Try.func18, Try.ntmps18
    go_wp2_with (first
      | (with_reducible refine wpList_box_row rfl _ _ rfl (cs := s.cells.toArray) rfl ?_; intro w1 hw1)
      | (with_reducible refine wpList_box_row rfl _ _ rfl (cs := i.cells.toArray) rfl ?_; intro w2 hw2)
      | (with_reducible refine wpList_alloc_named rfl _ rfl s0.cells z_S ?_; intro w3 hw3; have F3 := Lib.hid (pro hw1.out hw2.out hw3.out); clear hw1 hw2 hw3; have c0_3 := sb0 F3.out.s; have c1_3 := sb1 F3.out.s; have c34_3 := sb34 F3.out.s ok; have c67_3 := sb67 F3.out.s ok; have c100_3 := sb100 F3.out.s ok; have c101_3 := sb101 F3.out.s ok; have f0_3 := F3.out.s.frozen 0; have f1_3 := F3.out.s.frozen 1; have f34_3 := F3.out.s.frozen 34; have f67_3 := F3.out.s.frozen 67; have f100_3 := F3.out.s.frozen 100; have f101_3 := F3.out.s.frozen 101; have e0_3 := jb0 F3.out.x; have e1_3 := jb1 F3.out.x; have e34_3 := jb34 F3.out.x oi; have e35_3 := jb35 F3.out.x oi; rw [HK.out] at e0_3))
    rename_i ha
    refine wp_region_lexH 4 3 #[true, true, true, true, false, false, false] (by kernel_rfl) (by kernel_rfl) (by kernel_rfl) (by kernel_rfl) (by kernel_rfl) (fun w' => Chg (fun j => j = w2.heap.size) w3 w') ((Chg.refl _ _).drew) ?_
    refine head_load rfl _ _ rfl w.heap.size 0 rfl s.cells _ (fun w' k => (F3.out.held k).1.range0) Try.underlying25 rfl (rowS ok) ?_
    simp only [Act.put, List.setIfInBounds_toArray, List.set_cons_zero, List.set_cons_succ]
    refine head_run rfl (fun w' k => by go_simp; rfl) ?_
    simp only [Act.put, List.setIfInBounds_toArray, List.set_cons_zero, List.set_cons_succ]
    refine head_run rfl (fun w' k => by (have x0 := jb1 (F3.out.held k).2); go_simp; rfl) ?_
    simp only [Act.put, List.setIfInBounds_toArray, List.set_cons_zero, List.set_cons_succ]
    refine head_build (vs := [(0, .int .i64 7), (1, .int .i64 i.round)]) rfl _ _ rfl rfl hbu ?_
    simp only [Act.put, List.setIfInBounds_toArray, List.set_cons_zero, List.set_cons_succ]
    refine head_nil ?_
    exact out_end (n := 4) (o := ⟨7, i.round, zero, 0⟩) (s := s) F3.out ok ⟨rfl⟩ HR.out rfl ha (fun a w h => h) rfl rfl rfl rfl rfl rfl (by kernel_rfl) (by kernel_rfl) (by kernel_rfl) (by kernel_rfl) (by kernel_rfl) rfl rfl rfl rfl rfl rfl rfl (fun v => rfl) (fun v => rfl) rfl rfl (fun v => rfl) (fun v => rfl) (fun v => rfl) rfl
  · have HR := Lib.hid (show aheadM s i = (s, []) from by unfold aheadM; rw [if_neg n1, if_neg n9])
    have nk1 : (i.kind == 1) = false := by simpa using n1
    have nk9 : (i.kind == 9) = false := by simpa using n9
    clear n1 n9
    go_enter Try.func18, Try.ntmps18
    go_wp2_with (first
      | (with_reducible refine wpList_box_row rfl _ _ rfl (cs := s.cells.toArray) rfl ?_; intro w1 hw1)
      | (with_reducible refine wpList_box_row rfl _ _ rfl (cs := i.cells.toArray) rfl ?_; intro w2 hw2)
      | (with_reducible refine wpList_alloc_named rfl _ rfl s0.cells z_S ?_; intro w3 hw3; have F3 := Lib.hid (pro hw1.out hw2.out hw3.out); clear hw1 hw2 hw3; have c0_3 := sb0 F3.out.s; have c1_3 := sb1 F3.out.s; have c34_3 := sb34 F3.out.s ok; have c67_3 := sb67 F3.out.s ok; have c100_3 := sb100 F3.out.s ok; have c101_3 := sb101 F3.out.s ok; have f0_3 := F3.out.s.frozen 0; have f1_3 := F3.out.s.frozen 1; have f34_3 := F3.out.s.frozen 34; have f67_3 := F3.out.s.frozen 67; have f100_3 := F3.out.s.frozen 100; have f101_3 := F3.out.s.frozen 101; have e0_3 := jb0 F3.out.x; have e1_3 := jb1 F3.out.x; have e34_3 := jb34 F3.out.x oi; have e35_3 := jb35 F3.out.x oi)
      | (with_reducible refine wpList_load_mid rfl 25 _ rfl w.heap.size 0 rfl (s).cells _ F3.out.s.range0 Try.underlying25 rfl (rowS ok) ?_)
      | (with_reducible refine wpList_store_S rfl _ _ rfl w2.heap.size (s) s0 rfl rfl F3.out.r ok s0_ok ?_; intro w9 h9 k9))
    exact ret_end rfl rfl rfl F3.out h9 k9 ok rfl (.inl ⟨rfl, rfl⟩) HR.out
end Go.Proofs.Ytdejfamcmebdiaa
