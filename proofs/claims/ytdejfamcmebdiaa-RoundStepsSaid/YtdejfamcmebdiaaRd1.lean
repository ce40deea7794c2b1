/- Package round: decide. (Written by wip/tools/gen12.py.) -/
import Derived.Test.YtdejfamcmebdiaaRq
namespace Go.Proofs.Ytdejfamcmebdiaa
open Go.RowKit mach
set_option linter.unusedVariables false
set_option linter.unusedSimpArgs false
set_option maxRecDepth 20000

theorem outs_ho {t : TypeId} {w : World} {n b : Nat} {v : Value} {l : List Out} (h : Outs t w n v l) (hb : b < n) : l = [] ∧ v = .slice none 0 0 ∨ ∃ o g, l = [o] ∧ v = .slice (some ⟨g, 0, none⟩) 1 1 ∧ b < g ∧ Hb w g t o.cells.toArray ∧ o.Ok := by
  match l, h with
  | [], h => exact .inl ⟨rfl, h⟩
  | [o], ⟨g, h1, h2, h3, h4⟩ => exact .inr ⟨o, g, rfl, h1, by omega, h3, h4⟩
def decideM (s : State) (i : In) : State × List Out := if i.good = true ∧ i.block ≠ zero then ({ s with block := i.block, step := 4 }, [⟨8, i.round, i.block, 0⟩]) else (s, [])
set_option maxHeartbeats 1600000 in
theorem decide_any (w : World) (s : State) (i : In) (ok : s.Ok) (oi : i.Ok) : Calls Try.prog 17 #[.agg s.cells.toArray, .agg i.cells.toArray] w (Did 45 w (decideM s i)) := by
  have HM := Lib.hid (mayBe_any · i oi)
  by_cases hm : i.good = true ∧ i.block ≠ zero
  · have HR := Lib.hid (show decideM s i = ({ s with block := i.block, step := 4 }, [⟨8, i.round, i.block, 0⟩]) from if_pos hm)
    rw [decide_eq_true hm] at HM
    clear hm
    have hbu := built_o3 8 i.round i.block oi.b
    go_enter Try.func17, Try.ntmps17
    go_wp2_with (first
      | (with_reducible refine wpList_box_row rfl _ _ rfl (cs := s.cells.toArray) rfl ?_; intro w1 hw1)
      | (with_reducible refine wpList_box_row rfl _ _ rfl (cs := i.cells.toArray) rfl ?_; intro w2 hw2)
      | (with_reducible refine wpList_alloc_named rfl _ rfl s0.cells z_S ?_; intro w3 hw3; have F3 := Lib.hid (pro hw1.out hw2.out hw3.out); clear hw1 hw2 hw3; have c0_3 := sb0 F3.out.s; have c1_3 := sb1 F3.out.s; have c34_3 := sb34 F3.out.s ok; have c67_3 := sb67 F3.out.s ok; have c100_3 := sb100 F3.out.s ok; have c101_3 := sb101 F3.out.s ok; have f0_3 := F3.out.s.frozen 0; have f1_3 := F3.out.s.frozen 1; have f34_3 := F3.out.s.frozen 34; have f67_3 := F3.out.s.frozen 67; have f100_3 := F3.out.s.frozen 100; have f101_3 := F3.out.s.frozen 101; have e0_3 := jb0 F3.out.x; have e1_3 := jb1 F3.out.x; have e34_3 := jb34 F3.out.x oi; have e35_3 := jb35 F3.out.x oi)
      | (with_reducible refine wpList_load_mid rfl 27 _ rfl w1.heap.size 0 rfl i.cells _ F3.out.x.range0 Try.underlying27 rfl (rowI oi) ?_)
      | (go_at_call 23; go_loud (refine (HM.out _).mono ?_; rintro e w4 ⟨rfl, k4⟩; have F4 := Lib.hid (F3.out.chg k4); have c0_4 := sb0 F4.out.s; have c1_4 := sb1 F4.out.s; have c34_4 := sb34 F4.out.s ok; have c67_4 := sb67 F4.out.s ok; have c100_4 := sb100 F4.out.s ok; have c101_4 := sb101 F4.out.s ok; have f0_4 := F4.out.s.frozen 0; have f1_4 := F4.out.s.frozen 1; have f34_4 := F4.out.s.frozen 34; have f67_4 := F4.out.s.frozen 67; have f100_4 := F4.out.s.frozen 100; have f101_4 := F4.out.s.frozen 101; have e0_4 := jb0 F4.out.x; have e1_4 := jb1 F4.out.x; have e34_4 := jb34 F4.out.x oi; have e35_4 := jb35 F4.out.x oi))
      | (with_reducible refine wpList_load_mid rfl 23 _ rfl w1.heap.size 2 rfl (bv i.block) _ (jb2 F4.out.x) Try.underlying23 rfl (rowH oi.b) ?_)
      | (with_reducible refine wpList_store_H rfl _ _ rfl w.heap.size 68 i.block oi.b rfl rfl (sb68 F4.out.s ok).2 ?_; have F5 : Hid (Fr 25 27 w w.heap.size w1.heap.size w2.heap.size (w4.setCells w.heap.size 68 (bv i.block)) ({ s with block := i.block } : State) i.cells) := Lib.hid (F4.out.puts (ss68 F4.out.s ok i.block oi.b)); have ok5 := (⟨ok.l, ok.v, oi.b⟩ : ({ s with block := i.block } : State).Ok); have c0_5 := sb0 F5.out.s; have c1_5 := sb1 F5.out.s; have c34_5 := sb34 F5.out.s ok5; have c67_5 := sb67 F5.out.s ok5; have c100_5 := sb100 F5.out.s ok5; have c101_5 := sb101 F5.out.s ok5; have f0_5 := F5.out.s.frozen 0; have f1_5 := F5.out.s.frozen 1; have f34_5 := F5.out.s.frozen 34; have f67_5 := F5.out.s.frozen 67; have f100_5 := F5.out.s.frozen 100; have f101_5 := F5.out.s.frozen 101; have e0_5 := jb0 F5.out.x; have e1_5 := jb1 F5.out.x; have e34_5 := jb34 F5.out.x oi; have e35_5 := jb35 F5.out.x oi; have F6 : Hid (Fr 25 27 w w.heap.size w1.heap.size w2.heap.size ((w4.setCells w.heap.size 68 (bv i.block)).setCell ⟨w.heap.size, 1, none⟩ (.int .i64 4)) ({ s with block := i.block, step := 4 } : State) i.cells) := Lib.hid (F5.out.put (ss1 F5.out.s 4)); have ok6 := (⟨ok.l, ok.v, oi.b⟩ : ({ s with block := i.block, step := 4 } : State).Ok); have c0_6 := sb0 F6.out.s; have c1_6 := sb1 F6.out.s; have c34_6 := sb34 F6.out.s ok6; have c67_6 := sb67 F6.out.s ok6; have c100_6 := sb100 F6.out.s ok6; have c101_6 := sb101 F6.out.s ok6; have f0_6 := F6.out.s.frozen 0; have f1_6 := F6.out.s.frozen 1; have f34_6 := F6.out.s.frozen 34; have f67_6 := F6.out.s.frozen 67; have f100_6 := F6.out.s.frozen 100; have f101_6 := F6.out.s.frozen 101; have e0_6 := jb0 F6.out.x; have e1_6 := jb1 F6.out.x; have e34_6 := jb34 F6.out.x oi; have e35_6 := jb35 F6.out.x oi))
    rename_i ha
    refine wp_region_lexH 6 3 #[true, true, true, true, true, true, false, false, false] (by kernel_rfl) (by kernel_rfl) (by kernel_rfl) (by kernel_rfl) (by kernel_rfl) (fun w' => Chg (fun j => j = w2.heap.size) ((w4.setCells w.heap.size 68 (bv i.block)).setCell ⟨w.heap.size, 1, none⟩ (.int .i64 4)) w') ((Chg.refl _ _).drew) ?_
    refine head_load rfl _ _ rfl w.heap.size 0 rfl ({ s with block := i.block, step := 4 } : State).cells _ (fun w' k => (F6.out.held k).1.range0) Try.underlying25 rfl (rowS ok6) ?_
    simp only [Act.put, List.setIfInBounds_toArray, List.set_cons_zero, List.set_cons_succ]
    refine head_run rfl (fun w' k => by go_simp; rfl) ?_
    simp only [Act.put, List.setIfInBounds_toArray, List.set_cons_zero, List.set_cons_succ]
    refine head_run rfl (fun w' k => by (have x0 := jb1 (F6.out.held k).2); go_simp; rfl) ?_
    simp only [Act.put, List.setIfInBounds_toArray, List.set_cons_zero, List.set_cons_succ]
    refine head_run rfl (fun w' k => by go_simp; rfl) ?_
    simp only [Act.put, List.setIfInBounds_toArray, List.set_cons_zero, List.set_cons_succ]
    refine head_load rfl _ _ rfl w1.heap.size 2 rfl (bv i.block) _ (fun w' k => jb2 (F6.out.held k).2) Try.underlying23 rfl (rowH oi.b) ?_
    simp only [Act.put, List.setIfInBounds_toArray, List.set_cons_zero, List.set_cons_succ]
    refine head_build (vs := [(0, .int .i64 8), (1, .int .i64 i.round), (2, .agg (bv i.block).toArray)]) rfl _ _ rfl rfl hbu ?_
    simp only [Act.put, List.setIfInBounds_toArray, List.set_cons_zero, List.set_cons_succ]
    refine head_nil ?_
    exact out_end (n := 6) (o := ⟨8, i.round, i.block, 0⟩) (s := ({ s with block := i.block, step := 4 } : State)) F6.out ok6 ⟨oi.b⟩ HR.out rfl ha (fun a w h => h) rfl rfl rfl rfl rfl rfl (by kernel_rfl) (by kernel_rfl) (by kernel_rfl) (by kernel_rfl) (by kernel_rfl) rfl rfl rfl rfl rfl rfl rfl (fun v => rfl) (fun v => rfl) rfl rfl (fun v => rfl) (fun v => rfl) (fun v => rfl) rfl
  · have HR := Lib.hid (show decideM s i = (s, []) from if_neg hm)
    rw [decide_eq_false hm] at HM
    clear hm
    go_enter Try.func17, Try.ntmps17
    go_wp2_with (first
      | (with_reducible refine wpList_box_row rfl _ _ rfl (cs := s.cells.toArray) rfl ?_; intro w1 hw1)
      | (with_reducible refine wpList_box_row rfl _ _ rfl (cs := i.cells.toArray) rfl ?_; intro w2 hw2)
      | (with_reducible refine wpList_alloc_named rfl _ rfl s0.cells z_S ?_; intro w3 hw3; have F3 := Lib.hid (pro hw1.out hw2.out hw3.out); clear hw1 hw2 hw3; have c0_3 := sb0 F3.out.s; have c1_3 := sb1 F3.out.s; have c34_3 := sb34 F3.out.s ok; have c67_3 := sb67 F3.out.s ok; have c100_3 := sb100 F3.out.s ok; have c101_3 := sb101 F3.out.s ok; have f0_3 := F3.out.s.frozen 0; have f1_3 := F3.out.s.frozen 1; have f34_3 := F3.out.s.frozen 34; have f67_3 := F3.out.s.frozen 67; have f100_3 := F3.out.s.frozen 100; have f101_3 := F3.out.s.frozen 101; have e0_3 := jb0 F3.out.x; have e1_3 := jb1 F3.out.x; have e34_3 := jb34 F3.out.x oi; have e35_3 := jb35 F3.out.x oi)
      | (with_reducible refine wpList_load_mid rfl 27 _ rfl w1.heap.size 0 rfl i.cells _ F3.out.x.range0 Try.underlying27 rfl (rowI oi) ?_)
      | (go_at_call 23; go_loud (refine (HM.out _).mono ?_; rintro e w4 ⟨rfl, k4⟩; have F4 := Lib.hid (F3.out.chg k4); have c0_4 := sb0 F4.out.s; have c1_4 := sb1 F4.out.s; have c34_4 := sb34 F4.out.s ok; have c67_4 := sb67 F4.out.s ok; have c100_4 := sb100 F4.out.s ok; have c101_4 := sb101 F4.out.s ok; have f0_4 := F4.out.s.frozen 0; have f1_4 := F4.out.s.frozen 1; have f34_4 := F4.out.s.frozen 34; have f67_4 := F4.out.s.frozen 67; have f100_4 := F4.out.s.frozen 100; have f101_4 := F4.out.s.frozen 101; have e0_4 := jb0 F4.out.x; have e1_4 := jb1 F4.out.x; have e34_4 := jb34 F4.out.x oi; have e35_4 := jb35 F4.out.x oi))
      | (with_reducible refine wpList_load_mid rfl 25 _ rfl w.heap.size 0 rfl (s).cells _ F4.out.s.range0 Try.underlying25 rfl (rowS ok) ?_)
      | (with_reducible refine wpList_store_S rfl _ _ rfl w2.heap.size (s) s0 rfl rfl F4.out.r ok s0_ok ?_; intro w9 h9 k9))
    exact ret_end rfl rfl rfl F4.out h9 k9 ok rfl (.inl ⟨rfl, rfl⟩) HR.out
end Go.Proofs.Ytdejfamcmebdiaa
