/- Package round: prevoted, precommitted. (Written by wip/tools/gen12.py.) -/
import Derived.Test.YtdejfamcmebdiaaRd3
namespace Go.Proofs.Ytdejfamcmebdiaa
open Go.RowKit mach
set_option linter.unusedVariables false
set_option linter.unusedSimpArgs false
set_option maxRecDepth 20000

def prevotedM (s : State) (i : In) : State × List Out := if i.kind = 4 then (if s.waits < i.round then ({ s with waits := i.round }, [⟨5, s.round, zero, 0⟩]) else (s, [])) else if i.kind = 6 ∨ i.kind = 11 then precM s zero else (s, [])
def precommittedM (s : State) (i : In) : State × List Out := if i.kind = 7 then (if s.waited < i.round then ({ s with waited := i.round }, [⟨6, s.round, zero, 0⟩]) else (s, [])) else if i.kind = 12 then (if i.round < 1048576 then (s, [⟨7, i.round + 1, zero, 0⟩]) else (s, [])) else (s, [])
set_option maxHeartbeats 1600000 in
theorem prevoted_any (w : World) (s : State) (i : In) (ok : s.Ok) (oi : i.Ok) : Calls Try.prog 26 #[.agg s.cells.toArray, .agg i.cells.toArray] w (Did 45 w (prevotedM s i)) := by
  by_cases n4 : i.kind = 4
  · by_cases hw : s.waits < i.round
    · have HR := Lib.hid (show prevotedM s i = ({ s with waits := i.round }, [⟨5, s.round, zero, 0⟩]) from by unfold prevotedM; rw [if_pos n4, if_pos hw])
      have HK := Lib.hid n4
      clear n4
      have hbu := built_o2 5 s.round
      go_enter Try.func26, Try.ntmps26
      go_wp2_with (first
        | (with_reducible refine wpList_box_row rfl _ _ rfl (cs := s.cells.toArray) rfl ?_; intro w1 hw1)
        | (with_reducible refine wpList_box_row rfl _ _ rfl (cs := i.cells.toArray) rfl ?_; intro w2 hw2)
        | (with_reducible refine wpList_alloc_named rfl _ rfl s0.cells z_S ?_; intro w3 hw3; have F3 := Lib.hid (pro hw1.out hw2.out hw3.out); clear hw1 hw2 hw3; have c0_3 := sb0 F3.out.s; have c1_3 := sb1 F3.out.s; have c34_3 := sb34 F3.out.s ok; have c67_3 := sb67 F3.out.s ok; have c100_3 := sb100 F3.out.s ok; have c101_3 := sb101 F3.out.s ok; have f0_3 := F3.out.s.frozen 0; have f1_3 := F3.out.s.frozen 1; have f34_3 := F3.out.s.frozen 34; have f67_3 := F3.out.s.frozen 67; have f100_3 := F3.out.s.frozen 100; have f101_3 := F3.out.s.frozen 101; have e0_3 := jb0 F3.out.x; have e1_3 := jb1 F3.out.x; have e34_3 := jb34 F3.out.x oi; have e35_3 := jb35 F3.out.x oi; rw [HK.out] at e0_3; have F4 : Hid (Fr 25 27 w w.heap.size w1.heap.size w2.heap.size (w3.setCell ⟨w.heap.size, 100, none⟩ (.int .i64 (i.round))) ({ s with waits := i.round } : State) i.cells) := Lib.hid (F3.out.put (ss100 F3.out.s ok (i.round))); have ok4 := (⟨ok.l, ok.v, ok.b⟩ : ({ s with waits := i.round } : State).Ok); have c0_4 := sb0 F4.out.s; have c1_4 := sb1 F4.out.s; have c34_4 := sb34 F4.out.s ok4; have c67_4 := sb67 F4.out.s ok4; have c100_4 := sb100 F4.out.s ok4; have c101_4 := sb101 F4.out.s ok4; have f0_4 := F4.out.s.frozen 0; have f1_4 := F4.out.s.frozen 1; have f34_4 := F4.out.s.frozen 34; have f67_4 := F4.out.s.frozen 67; have f100_4 := F4.out.s.frozen 100; have f101_4 := F4.out.s.frozen 101; have e0_4 := jb0 F4.out.x; have e1_4 := jb1 F4.out.x; have e34_4 := jb34 F4.out.x oi; have e35_4 := jb35 F4.out.x oi; rw [HK.out] at e0_4))
      rename_i ha
      refine wp_region_lexH 4 3 #[true, true, true, true, false, false, false] (by kernel_rfl) (by kernel_rfl) (by kernel_rfl) (by kernel_rfl) (by kernel_rfl) (fun w' => Chg (fun j => j = w2.heap.size) (w3.setCell ⟨w.heap.size, 100, none⟩ (.int .i64 (i.round))) w') ((Chg.refl _ _).drew) ?_
      refine head_load rfl _ _ rfl w.heap.size 0 rfl ({ s with waits := i.round } : State).cells _ (fun w' k => (F4.out.held k).1.range0) Try.underlying25 rfl (rowS ok4) ?_
      simp only [Act.put, List.setIfInBounds_toArray, List.set_cons_zero, List.set_cons_succ]
      refine head_run rfl (fun w' k => by go_simp; rfl) ?_
      simp only [Act.put, List.setIfInBounds_toArray, List.set_cons_zero, List.set_cons_succ]
      refine head_run rfl (fun w' k => by (have x0 := sb0 (F4.out.held k).1); go_simp; rfl) ?_
      simp only [Act.put, List.setIfInBounds_toArray, List.set_cons_zero, List.set_cons_succ]
      refine head_build (vs := [(0, .int .i64 5), (1, .int .i64 s.round)]) rfl _ _ rfl rfl hbu ?_
      simp only [Act.put, List.setIfInBounds_toArray, List.set_cons_zero, List.set_cons_succ]
      refine head_nil ?_
      exact out_end (n := 4) (o := ⟨5, s.round, zero, 0⟩) (s := ({ s with waits := i.round } : State)) F4.out ok4 ⟨rfl⟩ HR.out rfl ha (fun a w h => h) rfl rfl rfl rfl rfl rfl (by kernel_rfl) (by kernel_rfl) (by kernel_rfl) (by kernel_rfl) (by kernel_rfl) rfl rfl rfl rfl rfl rfl rfl (fun v => rfl) (fun v => rfl) rfl rfl (fun v => rfl) (fun v => rfl) (fun v => rfl) rfl
    · have HR := Lib.hid (show prevotedM s i = (s, []) from by unfold prevotedM; rw [if_pos n4, if_neg hw])
      have HK := Lib.hid n4
      clear n4
      go_enter Try.func26, Try.ntmps26
      go_wp2_with (first
        | (with_reducible refine wpList_box_row rfl _ _ rfl (cs := s.cells.toArray) rfl ?_; intro w1 hw1)
        | (with_reducible refine wpList_box_row rfl _ _ rfl (cs := i.cells.toArray) rfl ?_; intro w2 hw2)
        | (with_reducible refine wpList_alloc_named rfl _ rfl s0.cells z_S ?_; intro w3 hw3; have F3 := Lib.hid (pro hw1.out hw2.out hw3.out); clear hw1 hw2 hw3; have c0_3 := sb0 F3.out.s; have c1_3 := sb1 F3.out.s; have c34_3 := sb34 F3.out.s ok; have c67_3 := sb67 F3.out.s ok; have c100_3 := sb100 F3.out.s ok; have c101_3 := sb101 F3.out.s ok; have f0_3 := F3.out.s.frozen 0; have f1_3 := F3.out.s.frozen 1; have f34_3 := F3.out.s.frozen 34; have f67_3 := F3.out.s.frozen 67; have f100_3 := F3.out.s.frozen 100; have f101_3 := F3.out.s.frozen 101; have e0_3 := jb0 F3.out.x; have e1_3 := jb1 F3.out.x; have e34_3 := jb34 F3.out.x oi; have e35_3 := jb35 F3.out.x oi; rw [HK.out] at e0_3)
        | (with_reducible refine wpList_load_mid rfl 25 _ rfl w.heap.size 0 rfl (s).cells _ F3.out.s.range0 Try.underlying25 rfl (rowS ok) ?_)
        | (with_reducible refine wpList_store_S rfl _ _ rfl w2.heap.size (s) s0 rfl rfl F3.out.r ok s0_ok ?_; intro w9 h9 k9))
      exact ret_end rfl rfl rfl F3.out h9 k9 ok rfl (.inl ⟨rfl, rfl⟩) HR.out
  by_cases n6 : i.kind = 6
  · have HR0 : prevotedM s i = precM s zero := by unfold prevotedM; rw [if_neg n4, if_pos (.inl n6)]
    have HC := Lib.hid (fun w' => precommit_any w' s ok zero rfl)
    generalize precM s zero = r at HR0 HC
    obtain ⟨s1, l1⟩ := r
    have HR := Lib.hid HR0
    clear HR0
    have HK := Lib.hid n6
    clear n4 n6
    go_enter Try.func26, Try.ntmps26
    go_wp2_with (first
      | (with_reducible refine wpList_box_row rfl _ _ rfl (cs := s.cells.toArray) rfl ?_; intro w1 hw1)
      | (with_reducible refine wpList_box_row rfl _ _ rfl (cs := i.cells.toArray) rfl ?_; intro w2 hw2)
      | (with_reducible refine wpList_alloc_named rfl _ rfl s0.cells z_S ?_; intro w3 hw3; have F3 := Lib.hid (pro hw1.out hw2.out hw3.out); clear hw1 hw2 hw3; have c0_3 := sb0 F3.out.s; have c1_3 := sb1 F3.out.s; have c34_3 := sb34 F3.out.s ok; have c67_3 := sb67 F3.out.s ok; have c100_3 := sb100 F3.out.s ok; have c101_3 := sb101 F3.out.s ok; have f0_3 := F3.out.s.frozen 0; have f1_3 := F3.out.s.frozen 1; have f34_3 := F3.out.s.frozen 34; have f67_3 := F3.out.s.frozen 67; have f100_3 := F3.out.s.frozen 100; have f101_3 := F3.out.s.frozen 101; have e0_3 := jb0 F3.out.x; have e1_3 := jb1 F3.out.x; have e34_3 := jb34 F3.out.x oi; have e35_3 := jb35 F3.out.x oi; rw [HK.out] at e0_3)
      | (with_reducible refine wpList_load_mid rfl 25 _ rfl w.heap.size 0 rfl (s).cells _ F3.out.s.range0 Try.underlying25 rfl (rowS ok) ?_)
      | (with_reducible refine wpList_build_zero rfl 23 rfl built_zero ?_)
      | (with_reducible refine wpList_load_mid rfl 25 _ rfl w.heap.size 0 rfl (s).cells _ F3.out.s.range0 Try.underlying25 rfl (rowS ok) ?_)
      | (with_reducible refine wpList_load_mid rfl 27 _ rfl w1.heap.size 0 rfl i.cells _ F3.out.x.range0 Try.underlying27 rfl (rowI oi) ?_)
      | (go_at_call 31; go_loud (refine (HC.out _).mono ?_; rintro e w4 ⟨k4, okC, v, rfl, oC⟩; have F4 := Lib.hid (F3.out.chg k4); have OC := Lib.hid oC; clear oC))
      | (with_reducible refine wpList_store_S rfl _ _ rfl w2.heap.size s1 s0 rfl rfl F4.out.r okC s0_ok ?_; intro w9 h9 k9))
    exact ret_end rfl rfl rfl F4.out h9 k9 okC rfl (outs_ho OC.out F3.out.r.lt) HR.out
  by_cases n11 : i.kind = 11
  · have HR0 : prevotedM s i = precM s zero := by unfold prevotedM; rw [if_neg n4, if_pos (.inr n11)]
    have HC := Lib.hid (fun w' => precommit_any w' s ok zero rfl)
    generalize precM s zero = r at HR0 HC
    obtain ⟨s1, l1⟩ := r
    have HR := Lib.hid HR0
    clear HR0
    have HK := Lib.hid n11
    clear n4 n6 n11
    go_enter Try.func26, Try.ntmps26
    go_wp2_with (first
      | (with_reducible refine wpList_box_row rfl _ _ rfl (cs := s.cells.toArray) rfl ?_; intro w1 hw1)
      | (with_reducible refine wpList_box_row rfl _ _ rfl (cs := i.cells.toArray) rfl ?_; intro w2 hw2)
      | (with_reducible refine wpList_alloc_named rfl _ rfl s0.cells z_S ?_; intro w3 hw3; have F3 := Lib.hid (pro hw1.out hw2.out hw3.out); clear hw1 hw2 hw3; have c0_3 := sb0 F3.out.s; have c1_3 := sb1 F3.out.s; have c34_3 := sb34 F3.out.s ok; have c67_3 := sb67 F3.out.s ok; have c100_3 := sb100 F3.out.s ok; have c101_3 := sb101 F3.out.s ok; have f0_3 := F3.out.s.frozen 0; have f1_3 := F3.out.s.frozen 1; have f34_3 := F3.out.s.frozen 34; have f67_3 := F3.out.s.frozen 67; have f100_3 := F3.out.s.frozen 100; have f101_3 := F3.out.s.frozen 101; have e0_3 := jb0 F3.out.x; have e1_3 := jb1 F3.out.x; have e34_3 := jb34 F3.out.x oi; have e35_3 := jb35 F3.out.x oi; rw [HK.out] at e0_3)
      | (with_reducible refine wpList_load_mid rfl 25 _ rfl w.heap.size 0 rfl (s).cells _ F3.out.s.range0 Try.underlying25 rfl (rowS ok) ?_)
      | (with_reducible refine wpList_build_zero rfl 23 rfl built_zero ?_)
      | (with_reducible refine wpList_load_mid rfl 25 _ rfl w.heap.size 0 rfl (s).cells _ F3.out.s.range0 Try.underlying25 rfl (rowS ok) ?_)
      | (with_reducible refine wpList_load_mid rfl 27 _ rfl w1.heap.size 0 rfl i.cells _ F3.out.x.range0 Try.underlying27 rfl (rowI oi) ?_)
      | (go_at_call 31; go_loud (refine (HC.out _).mono ?_; rintro e w4 ⟨k4, okC, v, rfl, oC⟩; have F4 := Lib.hid (F3.out.chg k4); have OC := Lib.hid oC; clear oC))
      | (with_reducible refine wpList_store_S rfl _ _ rfl w2.heap.size s1 s0 rfl rfl F4.out.r okC s0_ok ?_; intro w9 h9 k9))
    exact ret_end rfl rfl rfl F4.out h9 k9 okC rfl (outs_ho OC.out F3.out.r.lt) HR.out
  · have HR := Lib.hid (show prevotedM s i = (s, []) from by unfold prevotedM; rw [if_neg n4, if_neg (fun h => h.elim n6 n11)])
    have nk4 : (i.kind == 4) = false := by simpa using n4
    have nk6 : (i.kind == 6) = false := by simpa using n6
    have nk11 : (i.kind == 11) = false := by simpa using n11
    clear n4 n6 n11
    go_enter Try.func26, Try.ntmps26
    go_wp2_with (first
      | (with_reducible refine wpList_box_row rfl _ _ rfl (cs := s.cells.toArray) rfl ?_; intro w1 hw1)
      | (with_reducible refine wpList_box_row rfl _ _ rfl (cs := i.cells.toArray) rfl ?_; intro w2 hw2)
      | (with_reducible refine wpList_alloc_named rfl _ rfl s0.cells z_S ?_; intro w3 hw3; have F3 := Lib.hid (pro hw1.out hw2.out hw3.out); clear hw1 hw2 hw3; have c0_3 := sb0 F3.out.s; have c1_3 := sb1 F3.out.s; have c34_3 := sb34 F3.out.s ok; have c67_3 := sb67 F3.out.s ok; have c100_3 := sb100 F3.out.s ok; have c101_3 := sb101 F3.out.s ok; have f0_3 := F3.out.s.frozen 0; have f1_3 := F3.out.s.frozen 1; have f34_3 := F3.out.s.frozen 34; have f67_3 := F3.out.s.frozen 67; have f100_3 := F3.out.s.frozen 100; have f101_3 := F3.out.s.frozen 101; have e0_3 := jb0 F3.out.x; have e1_3 := jb1 F3.out.x; have e34_3 := jb34 F3.out.x oi; have e35_3 := jb35 F3.out.x oi)
      | (with_reducible refine wpList_load_mid rfl 25 _ rfl w.heap.size 0 rfl (s).cells _ F3.out.s.range0 Try.underlying25 rfl (rowS ok) ?_)
      | (with_reducible refine wpList_store_S rfl _ _ rfl w2.heap.size (s) s0 rfl rfl F3.out.r ok s0_ok ?_; intro w9 h9 k9))
    exact ret_end rfl rfl rfl F3.out h9 k9 ok rfl (.inl ⟨rfl, rfl⟩) HR.out
set_option maxHeartbeats 1600000 in
theorem precommitted_any (w : World) (s : State) (i : In) (ok : s.Ok) (oi : i.Ok) : Calls Try.prog 28 #[.agg s.cells.toArray, .agg i.cells.toArray] w (Did 45 w (precommittedM s i)) := by
  by_cases n7 : i.kind = 7
  · by_cases hw : s.waited < i.round
    · have HR := Lib.hid (show precommittedM s i = ({ s with waited := i.round }, [⟨6, s.round, zero, 0⟩]) from by unfold precommittedM; rw [if_pos n7, if_pos hw])
      have HK := Lib.hid n7
      clear n7
      have hbu := built_o2 6 s.round
      go_enter Try.func28, Try.ntmps28
      go_wp2_with (first
        | (with_reducible refine wpList_box_row rfl _ _ rfl (cs := s.cells.toArray) rfl ?_; intro w1 hw1)
        | (with_reducible refine wpList_box_row rfl _ _ rfl (cs := i.cells.toArray) rfl ?_; intro w2 hw2)
        | (with_reducible refine wpList_alloc_named rfl _ rfl s0.cells z_S ?_; intro w3 hw3; have F3 := Lib.hid (pro hw1.out hw2.out hw3.out); clear hw1 hw2 hw3; have c0_3 := sb0 F3.out.s; have c1_3 := sb1 F3.out.s; have c34_3 := sb34 F3.out.s ok; have c67_3 := sb67 F3.out.s ok; have c100_3 := sb100 F3.out.s ok; have c101_3 := sb101 F3.out.s ok; have f0_3 := F3.out.s.frozen 0; have f1_3 := F3.out.s.frozen 1; have f34_3 := F3.out.s.frozen 34; have f67_3 := F3.out.s.frozen 67; have f100_3 := F3.out.s.frozen 100; have f101_3 := F3.out.s.frozen 101; have e0_3 := jb0 F3.out.x; have e1_3 := jb1 F3.out.x; have e34_3 := jb34 F3.out.x oi; have e35_3 := jb35 F3.out.x oi; rw [HK.out] at e0_3; have F4 : Hid (Fr 25 27 w w.heap.size w1.heap.size w2.heap.size (w3.setCell ⟨w.heap.size, 101, none⟩ (.int .i64 (i.round))) ({ s with waited := i.round } : State) i.cells) := Lib.hid (F3.out.put (ss101 F3.out.s ok (i.round))); have ok4 := (⟨ok.l, ok.v, ok.b⟩ : ({ s with waited := i.round } : State).Ok); have c0_4 := sb0 F4.out.s; have c1_4 := sb1 F4.out.s; have c34_4 := sb34 F4.out.s ok4; have c67_4 := sb67 F4.out.s ok4; have c100_4 := sb100 F4.out.s ok4; have c101_4 := sb101 F4.out.s ok4; have f0_4 := F4.out.s.frozen 0; have f1_4 := F4.out.s.frozen 1; have f34_4 := F4.out.s.frozen 34; have f67_4 := F4.out.s.frozen 67; have f100_4 := F4.out.s.frozen 100; have f101_4 := F4.out.s.frozen 101; have e0_4 := jb0 F4.out.x; have e1_4 := jb1 F4.out.x; have e34_4 := jb34 F4.out.x oi; have e35_4 := jb35 F4.out.x oi; rw [HK.out] at e0_4))
      rename_i ha
      refine wp_region_lexH 4 3 #[true, true, true, true, false, false, false] (by kernel_rfl) (by kernel_rfl) (by kernel_rfl) (by kernel_rfl) (by kernel_rfl) (fun w' => Chg (fun j => j = w2.heap.size) (w3.setCell ⟨w.heap.size, 101, none⟩ (.int .i64 (i.round))) w') ((Chg.refl _ _).drew) ?_
      refine head_load rfl _ _ rfl w.heap.size 0 rfl ({ s with waited := i.round } : State).cells _ (fun w' k => (F4.out.held k).1.range0) Try.underlying25 rfl (rowS ok4) ?_
      simp only [Act.put, List.setIfInBounds_toArray, List.set_cons_zero, List.set_cons_succ]
      refine head_run rfl (fun w' k => by go_simp; rfl) ?_
      simp only [Act.put, List.setIfInBounds_toArray, List.set_cons_zero, List.set_cons_succ]
      refine head_run rfl (fun w' k => by (have x0 := sb0 (F4.out.held k).1); go_simp; rfl) ?_
      simp only [Act.put, List.setIfInBounds_toArray, List.set_cons_zero, List.set_cons_succ]
      refine head_build (vs := [(0, .int .i64 6), (1, .int .i64 s.round)]) rfl _ _ rfl rfl hbu ?_
      simp only [Act.put, List.setIfInBounds_toArray, List.set_cons_zero, List.set_cons_succ]
      refine head_nil ?_
      exact out_end (n := 4) (o := ⟨6, s.round, zero, 0⟩) (s := ({ s with waited := i.round } : State)) F4.out ok4 ⟨rfl⟩ HR.out rfl ha (fun a w h => h) rfl rfl rfl rfl rfl rfl (by kernel_rfl) (by kernel_rfl) (by kernel_rfl) (by kernel_rfl) (by kernel_rfl) rfl rfl rfl rfl rfl rfl rfl (fun v => rfl) (fun v => rfl) rfl rfl (fun v => rfl) (fun v => rfl) (fun v => rfl) rfl
    · have HR := Lib.hid (show precommittedM s i = (s, []) from by unfold precommittedM; rw [if_pos n7, if_neg hw])
      have HK := Lib.hid n7
      clear n7
      go_enter Try.func28, Try.ntmps28
      go_wp2_with (first
        | (with_reducible refine wpList_box_row rfl _ _ rfl (cs := s.cells.toArray) rfl ?_; intro w1 hw1)
        | (with_reducible refine wpList_box_row rfl _ _ rfl (cs := i.cells.toArray) rfl ?_; intro w2 hw2)
        | (with_reducible refine wpList_alloc_named rfl _ rfl s0.cells z_S ?_; intro w3 hw3; have F3 := Lib.hid (pro hw1.out hw2.out hw3.out); clear hw1 hw2 hw3; have c0_3 := sb0 F3.out.s; have c1_3 := sb1 F3.out.s; have c34_3 := sb34 F3.out.s ok; have c67_3 := sb67 F3.out.s ok; have c100_3 := sb100 F3.out.s ok; have c101_3 := sb101 F3.out.s ok; have f0_3 := F3.out.s.frozen 0; have f1_3 := F3.out.s.frozen 1; have f34_3 := F3.out.s.frozen 34; have f67_3 := F3.out.s.frozen 67; have f100_3 := F3.out.s.frozen 100; have f101_3 := F3.out.s.frozen 101; have e0_3 := jb0 F3.out.x; have e1_3 := jb1 F3.out.x; have e34_3 := jb34 F3.out.x oi; have e35_3 := jb35 F3.out.x oi; rw [HK.out] at e0_3)
        | (with_reducible refine wpList_load_mid rfl 25 _ rfl w.heap.size 0 rfl (s).cells _ F3.out.s.range0 Try.underlying25 rfl (rowS ok) ?_)
        | (with_reducible refine wpList_store_S rfl _ _ rfl w2.heap.size (s) s0 rfl rfl F3.out.r ok s0_ok ?_; intro w9 h9 k9))
      exact ret_end rfl rfl rfl F3.out h9 k9 ok rfl (.inl ⟨rfl, rfl⟩) HR.out
  by_cases n12 : i.kind = 12
  · by_cases hw : i.round < 1048576
    · have HR := Lib.hid (show precommittedM s i = (s, [⟨7, i.round + 1, zero, 0⟩]) from by unfold precommittedM; rw [if_neg n7, if_pos n12, if_pos hw])
      have HK := Lib.hid n12
      clear n7 n12
      have hbu := built_o2 7 (i.round + 1)
      have hwr : IntKind.i64.wrap (i.round + 1) = i.round + 1 := by have := oi.r1; have := oi.r2; rw [IntKind.wrap_i64]; omega
      go_enter Try.func28, Try.ntmps28
      go_wp2_with (first
        | (with_reducible refine wpList_box_row rfl _ _ rfl (cs := s.cells.toArray) rfl ?_; intro w1 hw1)
        | (with_reducible refine wpList_box_row rfl _ _ rfl (cs := i.cells.toArray) rfl ?_; intro w2 hw2)
        | (with_reducible refine wpList_alloc_named rfl _ rfl s0.cells z_S ?_; intro w3 hw3; have F3 := Lib.hid (pro hw1.out hw2.out hw3.out); clear hw1 hw2 hw3; have c0_3 := sb0 F3.out.s; have c1_3 := sb1 F3.out.s; have c34_3 := sb34 F3.out.s ok; have c67_3 := sb67 F3.out.s ok; have c100_3 := sb100 F3.out.s ok; have c101_3 := sb101 F3.out.s ok; have f0_3 := F3.out.s.frozen 0; have f1_3 := F3.out.s.frozen 1; have f34_3 := F3.out.s.frozen 34; have f67_3 := F3.out.s.frozen 67; have f100_3 := F3.out.s.frozen 100; have f101_3 := F3.out.s.frozen 101; have e0_3 := jb0 F3.out.x; have e1_3 := jb1 F3.out.x; have e34_3 := jb34 F3.out.x oi; have e35_3 := jb35 F3.out.x oi; rw [HK.out] at e0_3))
      rename_i ha
      refine wp_region_lexH 5 3 #[true, true, true, true, true, false, false, false] (by kernel_rfl) (by kernel_rfl) (by kernel_rfl) (by kernel_rfl) (by kernel_rfl) (fun w' => Chg (fun j => j = w2.heap.size) w3 w') ((Chg.refl _ _).drew) ?_
      refine head_load rfl _ _ rfl w.heap.size 0 rfl s.cells _ (fun w' k => (F3.out.held k).1.range0) Try.underlying25 rfl (rowS ok) ?_
      simp only [Act.put, List.setIfInBounds_toArray, List.set_cons_zero, List.set_cons_succ]
      refine head_run rfl (fun w' k => by go_simp; rfl) ?_
      simp only [Act.put, List.setIfInBounds_toArray, List.set_cons_zero, List.set_cons_succ]
      refine head_run rfl (fun w' k => by (have x0 := jb1 (F3.out.held k).2); go_simp; rfl) ?_
      simp only [Act.put, List.setIfInBounds_toArray, List.set_cons_zero, List.set_cons_succ]
      refine head_run rfl (fun w' k => by (have x0 := hwr); go_simp; rfl) ?_
      simp only [Act.put, List.setIfInBounds_toArray, List.set_cons_zero, List.set_cons_succ]
      refine head_build (vs := [(0, .int .i64 7), (1, .int .i64 (i.round + 1))]) rfl _ _ rfl rfl hbu ?_
      simp only [Act.put, List.setIfInBounds_toArray, List.set_cons_zero, List.set_cons_succ]
      refine head_nil ?_
      exact out_end (n := 5) (o := ⟨7, i.round + 1, zero, 0⟩) (s := s) F3.out ok ⟨rfl⟩ HR.out rfl ha (fun a w h => h) rfl rfl rfl rfl rfl rfl (by kernel_rfl) (by kernel_rfl) (by kernel_rfl) (by kernel_rfl) (by kernel_rfl) rfl rfl rfl rfl rfl rfl rfl (fun v => rfl) (fun v => rfl) rfl rfl (fun v => rfl) (fun v => rfl) (fun v => rfl) rfl
    · have HR := Lib.hid (show precommittedM s i = (s, []) from by unfold precommittedM; rw [if_neg n7, if_pos n12, if_neg hw])
      have HK := Lib.hid n12
      clear n7 n12
      go_enter Try.func28, Try.ntmps28
      go_wp2_with (first
        | (with_reducible refine wpList_box_row rfl _ _ rfl (cs := s.cells.toArray) rfl ?_; intro w1 hw1)
        | (with_reducible refine wpList_box_row rfl _ _ rfl (cs := i.cells.toArray) rfl ?_; intro w2 hw2)
        | (with_reducible refine wpList_alloc_named rfl _ rfl s0.cells z_S ?_; intro w3 hw3; have F3 := Lib.hid (pro hw1.out hw2.out hw3.out); clear hw1 hw2 hw3; have c0_3 := sb0 F3.out.s; have c1_3 := sb1 F3.out.s; have c34_3 := sb34 F3.out.s ok; have c67_3 := sb67 F3.out.s ok; have c100_3 := sb100 F3.out.s ok; have c101_3 := sb101 F3.out.s ok; have f0_3 := F3.out.s.frozen 0; have f1_3 := F3.out.s.frozen 1; have f34_3 := F3.out.s.frozen 34; have f67_3 := F3.out.s.frozen 67; have f100_3 := F3.out.s.frozen 100; have f101_3 := F3.out.s.frozen 101; have e0_3 := jb0 F3.out.x; have e1_3 := jb1 F3.out.x; have e34_3 := jb34 F3.out.x oi; have e35_3 := jb35 F3.out.x oi; rw [HK.out] at e0_3)
        | (with_reducible refine wpList_load_mid rfl 25 _ rfl w.heap.size 0 rfl (s).cells _ F3.out.s.range0 Try.underlying25 rfl (rowS ok) ?_)
        | (with_reducible refine wpList_store_S rfl _ _ rfl w2.heap.size (s) s0 rfl rfl F3.out.r ok s0_ok ?_; intro w9 h9 k9))
      exact ret_end rfl rfl rfl F3.out h9 k9 ok rfl (.inl ⟨rfl, rfl⟩) HR.out
  · have HR := Lib.hid (show precommittedM s i = (s, []) from by unfold precommittedM; rw [if_neg n7, if_neg n12])
    have nk7 : (i.kind == 7) = false := by simpa using n7
    have nk12 : (i.kind == 12) = false := by simpa using n12
    clear n7 n12
    go_enter Try.func28, Try.ntmps28
    go_wp2_with (first
      | (with_reducible refine wpList_box_row rfl _ _ rfl (cs := s.cells.toArray) rfl ?_; intro w1 hw1)
      | (with_reducible refine wpList_box_row rfl _ _ rfl (cs := i.cells.toArray) rfl ?_; intro w2 hw2)
      | (with_reducible refine wpList_alloc_named rfl _ rfl s0.cells z_S ?_; intro w3 hw3; have F3 := Lib.hid (pro hw1.out hw2.out hw3.out); clear hw1 hw2 hw3; have c0_3 := sb0 F3.out.s; have c1_3 := sb1 F3.out.s; have c34_3 := sb34 F3.out.s ok; have c67_3 := sb67 F3.out.s ok; have c100_3 := sb100 F3.out.s ok; have c101_3 := sb101 F3.out.s ok; have f0_3 := F3.out.s.frozen 0; have f1_3 := F3.out.s.frozen 1; have f34_3 := F3.out.s.frozen 34; have f67_3 := F3.out.s.frozen 67; have f100_3 := F3.out.s.frozen 100; have f101_3 := F3.out.s.frozen 101; have e0_3 := jb0 F3.out.x; have e1_3 := jb1 F3.out.x; have e34_3 := jb34 F3.out.x oi; have e35_3 := jb35 F3.out.x oi)
      | (with_reducible refine wpList_load_mid rfl 25 _ rfl w.heap.size 0 rfl (s).cells _ F3.out.s.range0 Try.underlying25 rfl (rowS ok) ?_)
      | (with_reducible refine wpList_store_S rfl _ _ rfl w2.heap.size (s) s0 rfl rfl F3.out.r ok s0_ok ?_; intro w9 h9 k9))
    exact ret_end rfl rfl rfl F3.out h9 k9 ok rfl (.inl ⟨rfl, rfl⟩) HR.out
end Go.Proofs.Ytdejfamcmebdiaa
