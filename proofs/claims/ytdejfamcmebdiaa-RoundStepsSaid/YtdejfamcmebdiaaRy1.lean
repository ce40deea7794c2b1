/- Package round: the document's Step at the kinds 1, 8. (Written by wip/tools/gen12.py.) -/
import Derived.Deep.CutRange
import Derived.Test.YtdejfamcmebdiaaRx
namespace Go.Proofs.Ytdejfamcmebdiaa
open Go.RowKit mach
set_option linter.unusedVariables false
set_option linter.unusedSimpArgs false
set_option maxRecDepth 20000

set_option maxHeartbeats 6400000 in
theorem rStep_1 (w : World) (s : State) (i : In) (ok : s.Ok) (oi : i.Ok) (hk : i.kind = 1) : Calls Try.prog 11 #[.agg s.cells.toArray, .agg i.cells.toArray] w (Did 51 w (stepM s i)) := by
  obtain ⟨z, hz⟩ : ∃ z, decide (i.block = zero) = z := ⟨_, rfl⟩
  obtain ⟨o, ho⟩ : ∃ o, decide (i.own = zero) = o := ⟨_, rfl⟩
  obtain ⟨gd, hgd⟩ : ∃ gd, decide (i.good = true ∧ i.block ≠ zero) = gd := ⟨_, rfl⟩
  obtain ⟨hb, hhb⟩ : ∃ hb, (i.round == s.round) = hb := ⟨_, rfl⟩
  have hgz : (i.good && !z) = gd := by rw [← hgd, ← hz]; cases i.good <;> simp
  have HB := Lib.hid (empty_any · i.block oi.b)
  have HO := Lib.hid (empty_any · i.own oi.o)
  rw [hz] at HB
  rw [ho] at HO
  have HHO := Lib.hid ho
  have HGD := Lib.hid hgd
  have HHB := Lib.hid hhb
  have HKK := Lib.hid hk
  have HGZ := Lib.hid hgz
  clear ho hgd hhb hk hz hgz
  go_enter Try.func11, Try.ntmps11
  go_upto_region 4 with (first
    | (with_reducible refine wpList_box_row rfl _ _ rfl (cs := s.cells.toArray) rfl ?_; intro w1 hw1)
    | (with_reducible refine wpList_box_row rfl _ _ rfl (cs := i.cells.toArray) rfl ?_; intro w2 hw2)
    | (with_reducible refine wpList_alloc_named rfl _ rfl s0.cells z_R ?_; intro w3 hw3; have F0 := Lib.hid (pro hw1.out hw2.out hw3.out); clear hw1 hw2 hw3; have e1 := jb1 F0.out.x)
    | (with_reducible refine wpList_load_mid rfl 23 _ rfl w1.heap.size 2 rfl (bv i.block) _ (jb2 F0.out.x) Try.underlying23 rfl (rowH oi.b) ?_)
    | (go_at_call 20; (with_reducible refine (HB.out _).mono ?_); rintro e w4 ⟨rfl, k4⟩; have F1 := Lib.hid (F0.out.chg k4))
    | (with_reducible refine wpList_load_mid rfl 23 _ rfl w1.heap.size 36 rfl (bv i.own) _ (jb36 F1.out.x oi) Try.underlying23 rfl (rowH oi.o) ?_)
    | (go_at_call 20; (with_reducible refine (HO.out _).mono ?_); rintro e w5 ⟨rfl, k5⟩; have F2 := Lib.hid (F1.out.chg k5); have e35 := jb35 F2.out.x oi; clear k4 k5))
  go_cut [9] from 19 to 24 (fun v9 wx => v9 = .bool gd ∧ wx = w5)
  case first =>
    obtain ⟨ig, hig⟩ : ∃ ig, i.good = ig := ⟨_, rfl⟩
    have hgz := HGZ.out
    rw [hig] at e35 hgz
    cases ig with
    | true =>
      have hz1 : (!z) = gd := by simpa using hgz
      go_wp2_with fail
      go_meet
      exact ⟨by rw [← hz1], rfl⟩
    | false =>
      have hz1 : gd = false := by simpa using hgz.symm
      go_wp2_with fail
      go_meet
      exact ⟨by rw [hz1], rfl⟩
  case rest =>
    obtain ⟨h9, hwx⟩ := hcut
    subst h9
    have F3 : Hid (Fr 31 36 w w.heap.size w1.heap.size w2.heap.size wc s i.cells) := by rw [hwx]; exact F2
    clear hwx e1 e35 F0 F1 F2 HB HO HGZ
    have d5 : (i.round == s.round) = hb := HHB.out
    by_cases a1 : i.round < 0
    · have HR := Lib.hid (show stepM s i = (s, []) from by unfold stepM mach.top; exact if_pos (.inl a1))
      have q1 : decide (i.round < 0) = true := decide_eq_true a1
      clear a1
      have c0_3 := sb0 F3.out.s
      have c1_3 := sb1 F3.out.s
      have c34_3 := sb34 F3.out.s ok
      have c67_3 := sb67 F3.out.s ok
      have c100_3 := sb100 F3.out.s ok
      have c101_3 := sb101 F3.out.s ok
      have f0_3 := F3.out.s.frozen 0
      have f1_3 := F3.out.s.frozen 1
      have f34_3 := F3.out.s.frozen 34
      have f67_3 := F3.out.s.frozen 67
      have f100_3 := F3.out.s.frozen 100
      have f101_3 := F3.out.s.frozen 101
      have e0_3 := jb0 F3.out.x
      have e1_3 := jb1 F3.out.x
      have e34_3 := jb34 F3.out.x oi
      have e35_3 := jb35 F3.out.x oi
      rw [HKK.out] at e0_3
      go_wp2_with (first
        | (with_reducible refine wpList_load_mid rfl 31 _ rfl w.heap.size 0 rfl (s : State).cells _ F3.out.s.range0 Try.underlying31 rfl (rowR ok) ?_)
        | (with_reducible refine wpList_store_R rfl 31 _ _ rfl w2.heap.size (s : State).cells s0.cells 102 rfl rfl F3.out.r ok.len s0_ok.len row_R (State.one _) ?_; intro w9 h9 k9))
      exact ret_endR rfl rfl rfl F3.out h9 k9 ok rfl (.inl ⟨rfl, rfl⟩) HR.out
    have q1 : decide (i.round < 0) = false := decide_eq_false a1
    by_cases a2 : 1048576 < i.round
    · have HR := Lib.hid (show stepM s i = (s, []) from by unfold stepM mach.top; exact if_pos (.inr (.inl a2)))
      have q2 : decide (1048576 < i.round) = true := decide_eq_true a2
      clear a1 a2
      have c0_3 := sb0 F3.out.s
      have c1_3 := sb1 F3.out.s
      have c34_3 := sb34 F3.out.s ok
      have c67_3 := sb67 F3.out.s ok
      have c100_3 := sb100 F3.out.s ok
      have c101_3 := sb101 F3.out.s ok
      have f0_3 := F3.out.s.frozen 0
      have f1_3 := F3.out.s.frozen 1
      have f34_3 := F3.out.s.frozen 34
      have f67_3 := F3.out.s.frozen 67
      have f100_3 := F3.out.s.frozen 100
      have f101_3 := F3.out.s.frozen 101
      have e0_3 := jb0 F3.out.x
      have e1_3 := jb1 F3.out.x
      have e34_3 := jb34 F3.out.x oi
      have e35_3 := jb35 F3.out.x oi
      rw [HKK.out] at e0_3
      go_wp2_with (first
        | (with_reducible refine wpList_load_mid rfl 31 _ rfl w.heap.size 0 rfl (s : State).cells _ F3.out.s.range0 Try.underlying31 rfl (rowR ok) ?_)
        | (with_reducible refine wpList_store_R rfl 31 _ _ rfl w2.heap.size (s : State).cells s0.cells 102 rfl rfl F3.out.r ok.len s0_ok.len row_R (State.one _) ?_; intro w9 h9 k9))
      exact ret_endR rfl rfl rfl F3.out h9 k9 ok rfl (.inl ⟨rfl, rfl⟩) HR.out
    have q2 : decide (1048576 < i.round) = false := decide_eq_false a2
    by_cases a3 : s.step = 4
    · have HR := Lib.hid (show stepM s i = (s, []) from by unfold stepM mach.top; exact if_pos (.inr (.inr a3)))
      have HS := Lib.hid a3
      clear a1 a2 a3
      have c0_3 := sb0 F3.out.s
      have c1_3 := sb1 F3.out.s
      have c34_3 := sb34 F3.out.s ok
      have c67_3 := sb67 F3.out.s ok
      have c100_3 := sb100 F3.out.s ok
      have c101_3 := sb101 F3.out.s ok
      have f0_3 := F3.out.s.frozen 0
      have f1_3 := F3.out.s.frozen 1
      have f34_3 := F3.out.s.frozen 34
      have f67_3 := F3.out.s.frozen 67
      have f100_3 := F3.out.s.frozen 100
      have f101_3 := F3.out.s.frozen 101
      have e0_3 := jb0 F3.out.x
      have e1_3 := jb1 F3.out.x
      have e34_3 := jb34 F3.out.x oi
      have e35_3 := jb35 F3.out.x oi
      rw [HKK.out] at e0_3
      rw [HS.out] at c1_3
      go_wp2_with (first
        | (with_reducible refine wpList_load_mid rfl 31 _ rfl w.heap.size 0 rfl (s : State).cells _ F3.out.s.range0 Try.underlying31 rfl (rowR ok) ?_)
        | (with_reducible refine wpList_store_R rfl 31 _ _ rfl w2.heap.size (s : State).cells s0.cells 102 rfl rfl F3.out.r ok.len s0_ok.len row_R (State.one _) ?_; intro w9 h9 k9))
      exact ret_endR rfl rfl rfl F3.out h9 k9 ok rfl (.inl ⟨rfl, rfl⟩) HR.out
    have q3 : (s.step == 4) = false := by simpa using a3
    have h0 : ¬ (i.round < 0 ∨ 1048576 < i.round ∨ s.step = 4) := by omega
    have hk := HKK.out
    by_cases a4 : i.round ≤ s.round
    · have HR := Lib.hid (show stepM s i = (s, []) from by unfold stepM act mach.top; rw [if_neg h0, if_pos (by omega : i.kind = 1), if_pos a4])
      clear a1 a2 a3 h0 hk
      have c0_3 := sb0 F3.out.s
      have c1_3 := sb1 F3.out.s
      have c34_3 := sb34 F3.out.s ok
      have c67_3 := sb67 F3.out.s ok
      have c100_3 := sb100 F3.out.s ok
      have c101_3 := sb101 F3.out.s ok
      have f0_3 := F3.out.s.frozen 0
      have f1_3 := F3.out.s.frozen 1
      have f34_3 := F3.out.s.frozen 34
      have f67_3 := F3.out.s.frozen 67
      have f100_3 := F3.out.s.frozen 100
      have f101_3 := F3.out.s.frozen 101
      have e0_3 := jb0 F3.out.x
      have e1_3 := jb1 F3.out.x
      have e34_3 := jb34 F3.out.x oi
      have e35_3 := jb35 F3.out.x oi
      rw [HKK.out] at e0_3
      go_wp2_with (first
        | (with_reducible refine wpList_load_mid rfl 31 _ rfl w.heap.size 0 rfl (s : State).cells _ F3.out.s.range0 Try.underlying31 rfl (rowR ok) ?_)
        | (with_reducible refine wpList_store_R rfl 31 _ _ rfl w2.heap.size (s : State).cells s0.cells 102 rfl rfl F3.out.r ok.len s0_ok.len row_R (State.one _) ?_; intro w9 h9 k9))
      exact ret_endR rfl rfl rfl F3.out h9 k9 ok rfl (.inl ⟨rfl, rfl⟩) HR.out
    by_cases ao : i.own = zero
    · have HR := Lib.hid (show stepM s i = (({ s with round := i.round, step := 1 } : State), [⟨4, i.round, zero, 0⟩]) from by unfold stepM act mach.top; rw [if_neg h0, if_pos (by omega : i.kind = 1), if_neg a4, if_pos ao])
      have hh : o = true := by rw [← HHO.out]; simpa using ao
      subst hh
      clear ao
      clear a1 a2 a3 h0 hk
      have c0_3 := sb0 F3.out.s
      have c1_3 := sb1 F3.out.s
      have c34_3 := sb34 F3.out.s ok
      have c67_3 := sb67 F3.out.s ok
      have c100_3 := sb100 F3.out.s ok
      have c101_3 := sb101 F3.out.s ok
      have f0_3 := F3.out.s.frozen 0
      have f1_3 := F3.out.s.frozen 1
      have f34_3 := F3.out.s.frozen 34
      have f67_3 := F3.out.s.frozen 67
      have f100_3 := F3.out.s.frozen 100
      have f101_3 := F3.out.s.frozen 101
      have e0_3 := jb0 F3.out.x
      have e1_3 := jb1 F3.out.x
      have e34_3 := jb34 F3.out.x oi
      have e35_3 := jb35 F3.out.x oi
      rw [HKK.out] at e0_3
      have F4 : Hid (Fr 31 36 w w.heap.size w1.heap.size w2.heap.size (wc.setCell ⟨w.heap.size, 0, none⟩ (.int .i64 (i.round))) ({ s with round := i.round } : State) i.cells) := Lib.hid (F3.out.put (ss0 F3.out.s (i.round)))
      have ok4 := (⟨ok.l, ok.v, ok.b⟩ : ({ s with round := i.round } : State).Ok)
      have c0_4 := sb0 F4.out.s
      have c1_4 := sb1 F4.out.s
      have c34_4 := sb34 F4.out.s ok4
      have c67_4 := sb67 F4.out.s ok4
      have c100_4 := sb100 F4.out.s ok4
      have c101_4 := sb101 F4.out.s ok4
      have f0_4 := F4.out.s.frozen 0
      have f1_4 := F4.out.s.frozen 1
      have f34_4 := F4.out.s.frozen 34
      have f67_4 := F4.out.s.frozen 67
      have f100_4 := F4.out.s.frozen 100
      have f101_4 := F4.out.s.frozen 101
      have e0_4 := jb0 F4.out.x
      have e1_4 := jb1 F4.out.x
      have e34_4 := jb34 F4.out.x oi
      have e35_4 := jb35 F4.out.x oi
      rw [HKK.out] at e0_4
      have F5 : Hid (Fr 31 36 w w.heap.size w1.heap.size w2.heap.size ((wc.setCell ⟨w.heap.size, 0, none⟩ (.int .i64 (i.round))).setCell ⟨w.heap.size, 1, none⟩ (.int .i64 1)) ({ s with round := i.round, step := 1 } : State) i.cells) := Lib.hid (F4.out.put (ss1 F4.out.s 1))
      have ok5 := (⟨ok.l, ok.v, ok.b⟩ : ({ s with round := i.round, step := 1 } : State).Ok)
      have c0_5 := sb0 F5.out.s
      have c1_5 := sb1 F5.out.s
      have c34_5 := sb34 F5.out.s ok5
      have c67_5 := sb67 F5.out.s ok5
      have c100_5 := sb100 F5.out.s ok5
      have c101_5 := sb101 F5.out.s ok5
      have f0_5 := F5.out.s.frozen 0
      have f1_5 := F5.out.s.frozen 1
      have f34_5 := F5.out.s.frozen 34
      have f67_5 := F5.out.s.frozen 67
      have f100_5 := F5.out.s.frozen 100
      have f101_5 := F5.out.s.frozen 101
      have e0_5 := jb0 F5.out.x
      have e1_5 := jb1 F5.out.x
      have e34_5 := jb34 F5.out.x oi
      have e35_5 := jb35 F5.out.x oi
      rw [HKK.out] at e0_5
      go_wp2_with fail
      rename_i ha
      refine wp_region_lexH 3 3 #[true, true, true, false, false, false] (by kernel_rfl) (by kernel_rfl) (by kernel_rfl) (by kernel_rfl) (by kernel_rfl) (fun w' => Chg (fun j => j = w2.heap.size) ((wc.setCell ⟨w.heap.size, 0, none⟩ (.int .i64 (i.round))).setCell ⟨w.heap.size, 1, none⟩ (.int .i64 1)) w') ((Chg.refl _ _).drew) ?_
      refine head_load rfl _ _ rfl w.heap.size 0 rfl ({ s with round := i.round, step := 1 } : State).cells _ (fun w' k => (F5.out.held k).1.range0) Try.underlying31 rfl (rowR ok5) ?_
      simp only [Act.put, List.setIfInBounds_toArray, List.set_cons_zero, List.set_cons_succ]
      refine head_run rfl (fun w' k => by go_simp; rfl) ?_
      simp only [Act.put, List.setIfInBounds_toArray, List.set_cons_zero, List.set_cons_succ]
      refine head_build (vs := []) rfl _ _ rfl rfl built_zero ?_
      simp only [Act.put, List.setIfInBounds_toArray, List.set_cons_zero, List.set_cons_succ]
      refine head_nil ?_
      exact one_end (n := 3) (nt := 301) (k := 4) (r := i.round) (v := 0) (h := zero) (s := ({ s with round := i.round, step := 1 } : State)) F5.out ok5 zero_length HR.out rfl ha (fun a w h => h) rfl rfl rfl rfl rfl rfl (by kernel_rfl) (by kernel_rfl) (by kernel_rfl) (by kernel_rfl) rfl rfl rfl rfl rfl rfl rfl rfl (by decide) (by decide) rfl rfl rfl
    by_cases av : 0 ≤ s.validR
    · have HR := Lib.hid (show stepM s i = (({ s with round := i.round, step := 1 } : State), [⟨1, i.round, s.valid, s.validR⟩]) from by unfold stepM act mach.top; rw [if_neg h0, if_pos (by omega : i.kind = 1), if_neg a4, if_neg ao, if_pos av])
      have hh : o = false := by rw [← HHO.out]; simpa using ao
      subst hh
      clear ao
      clear a1 a2 a3 h0 hk
      have c0_3 := sb0 F3.out.s
      have c1_3 := sb1 F3.out.s
      have c34_3 := sb34 F3.out.s ok
      have c67_3 := sb67 F3.out.s ok
      have c100_3 := sb100 F3.out.s ok
      have c101_3 := sb101 F3.out.s ok
      have f0_3 := F3.out.s.frozen 0
      have f1_3 := F3.out.s.frozen 1
      have f34_3 := F3.out.s.frozen 34
      have f67_3 := F3.out.s.frozen 67
      have f100_3 := F3.out.s.frozen 100
      have f101_3 := F3.out.s.frozen 101
      have e0_3 := jb0 F3.out.x
      have e1_3 := jb1 F3.out.x
      have e34_3 := jb34 F3.out.x oi
      have e35_3 := jb35 F3.out.x oi
      rw [HKK.out] at e0_3
      have F4 : Hid (Fr 31 36 w w.heap.size w1.heap.size w2.heap.size (wc.setCell ⟨w.heap.size, 0, none⟩ (.int .i64 (i.round))) ({ s with round := i.round } : State) i.cells) := Lib.hid (F3.out.put (ss0 F3.out.s (i.round)))
      have ok4 := (⟨ok.l, ok.v, ok.b⟩ : ({ s with round := i.round } : State).Ok)
      have c0_4 := sb0 F4.out.s
      have c1_4 := sb1 F4.out.s
      have c34_4 := sb34 F4.out.s ok4
      have c67_4 := sb67 F4.out.s ok4
      have c100_4 := sb100 F4.out.s ok4
      have c101_4 := sb101 F4.out.s ok4
      have f0_4 := F4.out.s.frozen 0
      have f1_4 := F4.out.s.frozen 1
      have f34_4 := F4.out.s.frozen 34
      have f67_4 := F4.out.s.frozen 67
      have f100_4 := F4.out.s.frozen 100
      have f101_4 := F4.out.s.frozen 101
      have e0_4 := jb0 F4.out.x
      have e1_4 := jb1 F4.out.x
      have e34_4 := jb34 F4.out.x oi
      have e35_4 := jb35 F4.out.x oi
      rw [HKK.out] at e0_4
      have F5 : Hid (Fr 31 36 w w.heap.size w1.heap.size w2.heap.size ((wc.setCell ⟨w.heap.size, 0, none⟩ (.int .i64 (i.round))).setCell ⟨w.heap.size, 1, none⟩ (.int .i64 1)) ({ s with round := i.round, step := 1 } : State) i.cells) := Lib.hid (F4.out.put (ss1 F4.out.s 1))
      have ok5 := (⟨ok.l, ok.v, ok.b⟩ : ({ s with round := i.round, step := 1 } : State).Ok)
      have c0_5 := sb0 F5.out.s
      have c1_5 := sb1 F5.out.s
      have c34_5 := sb34 F5.out.s ok5
      have c67_5 := sb67 F5.out.s ok5
      have c100_5 := sb100 F5.out.s ok5
      have c101_5 := sb101 F5.out.s ok5
      have f0_5 := F5.out.s.frozen 0
      have f1_5 := F5.out.s.frozen 1
      have f34_5 := F5.out.s.frozen 34
      have f67_5 := F5.out.s.frozen 67
      have f100_5 := F5.out.s.frozen 100
      have f101_5 := F5.out.s.frozen 101
      have e0_5 := jb0 F5.out.x
      have e1_5 := jb1 F5.out.x
      have e34_5 := jb34 F5.out.x oi
      have e35_5 := jb35 F5.out.x oi
      rw [HKK.out] at e0_5
      go_wp2_with fail
      rename_i ha
      refine wp_region_lexH 6 3 #[true, true, true, true, true, true, false, false, false] (by kernel_rfl) (by kernel_rfl) (by kernel_rfl) (by kernel_rfl) (by kernel_rfl) (fun w' => Chg (fun j => j = w2.heap.size) ((wc.setCell ⟨w.heap.size, 0, none⟩ (.int .i64 (i.round))).setCell ⟨w.heap.size, 1, none⟩ (.int .i64 1)) w') ((Chg.refl _ _).drew) ?_
      refine head_load rfl _ _ rfl w.heap.size 0 rfl ({ s with round := i.round, step := 1 } : State).cells _ (fun w' k => (F5.out.held k).1.range0) Try.underlying31 rfl (rowR ok5) ?_
      simp only [Act.put, List.setIfInBounds_toArray, List.set_cons_zero, List.set_cons_succ]
      refine head_run rfl (fun w' k => by go_simp; rfl) ?_
      simp only [Act.put, List.setIfInBounds_toArray, List.set_cons_zero, List.set_cons_succ]
      refine head_run rfl (fun w' k => by go_simp; rfl) ?_
      simp only [Act.put, List.setIfInBounds_toArray, List.set_cons_zero, List.set_cons_succ]
      refine head_load rfl _ _ rfl w.heap.size 35 rfl (bv s.valid) _ (fun w' k => (sb35 (F5.out.held k).1 ok5).1) Try.underlying23 rfl (rowH ok.v) ?_
      simp only [Act.put, List.setIfInBounds_toArray, List.set_cons_zero, List.set_cons_succ]
      refine head_run rfl (fun w' k => by go_simp; rfl) ?_
      simp only [Act.put, List.setIfInBounds_toArray, List.set_cons_zero, List.set_cons_succ]
      refine head_run rfl (fun w' k => by (have x0 := sb67 (F5.out.held k).1 ok5); go_simp; rfl) ?_
      simp only [Act.put, List.setIfInBounds_toArray, List.set_cons_zero, List.set_cons_succ]
      refine head_nil ?_
      exact one_end (n := 6) (nt := 301) (k := 1) (r := i.round) (v := s.validR) (h := s.valid) (s := ({ s with round := i.round, step := 1 } : State)) F5.out ok5 ok.v HR.out rfl ha (fun a w h => h) rfl rfl rfl rfl rfl rfl (by kernel_rfl) (by kernel_rfl) (by kernel_rfl) (by kernel_rfl) rfl rfl rfl rfl rfl rfl rfl rfl (by decide) (by decide) rfl rfl rfl
    · have HR := Lib.hid (show stepM s i = (({ s with round := i.round, step := 1 } : State), [⟨1, i.round, i.own, -1⟩]) from by unfold stepM act mach.top; rw [if_neg h0, if_pos (by omega : i.kind = 1), if_neg a4, if_neg ao, if_neg av])
      have hh : o = false := by rw [← HHO.out]; simpa using ao
      subst hh
      clear ao
      clear a1 a2 a3 h0 hk
      have c0_3 := sb0 F3.out.s
      have c1_3 := sb1 F3.out.s
      have c34_3 := sb34 F3.out.s ok
      have c67_3 := sb67 F3.out.s ok
      have c100_3 := sb100 F3.out.s ok
      have c101_3 := sb101 F3.out.s ok
      have f0_3 := F3.out.s.frozen 0
      have f1_3 := F3.out.s.frozen 1
      have f34_3 := F3.out.s.frozen 34
      have f67_3 := F3.out.s.frozen 67
      have f100_3 := F3.out.s.frozen 100
      have f101_3 := F3.out.s.frozen 101
      have e0_3 := jb0 F3.out.x
      have e1_3 := jb1 F3.out.x
      have e34_3 := jb34 F3.out.x oi
      have e35_3 := jb35 F3.out.x oi
      rw [HKK.out] at e0_3
      have F4 : Hid (Fr 31 36 w w.heap.size w1.heap.size w2.heap.size (wc.setCell ⟨w.heap.size, 0, none⟩ (.int .i64 (i.round))) ({ s with round := i.round } : State) i.cells) := Lib.hid (F3.out.put (ss0 F3.out.s (i.round)))
      have ok4 := (⟨ok.l, ok.v, ok.b⟩ : ({ s with round := i.round } : State).Ok)
      have c0_4 := sb0 F4.out.s
      have c1_4 := sb1 F4.out.s
      have c34_4 := sb34 F4.out.s ok4
      have c67_4 := sb67 F4.out.s ok4
      have c100_4 := sb100 F4.out.s ok4
      have c101_4 := sb101 F4.out.s ok4
      have f0_4 := F4.out.s.frozen 0
      have f1_4 := F4.out.s.frozen 1
      have f34_4 := F4.out.s.frozen 34
      have f67_4 := F4.out.s.frozen 67
      have f100_4 := F4.out.s.frozen 100
      have f101_4 := F4.out.s.frozen 101
      have e0_4 := jb0 F4.out.x
      have e1_4 := jb1 F4.out.x
      have e34_4 := jb34 F4.out.x oi
      have e35_4 := jb35 F4.out.x oi
      rw [HKK.out] at e0_4
      have F5 : Hid (Fr 31 36 w w.heap.size w1.heap.size w2.heap.size ((wc.setCell ⟨w.heap.size, 0, none⟩ (.int .i64 (i.round))).setCell ⟨w.heap.size, 1, none⟩ (.int .i64 1)) ({ s with round := i.round, step := 1 } : State) i.cells) := Lib.hid (F4.out.put (ss1 F4.out.s 1))
      have ok5 := (⟨ok.l, ok.v, ok.b⟩ : ({ s with round := i.round, step := 1 } : State).Ok)
      have c0_5 := sb0 F5.out.s
      have c1_5 := sb1 F5.out.s
      have c34_5 := sb34 F5.out.s ok5
      have c67_5 := sb67 F5.out.s ok5
      have c100_5 := sb100 F5.out.s ok5
      have c101_5 := sb101 F5.out.s ok5
      have f0_5 := F5.out.s.frozen 0
      have f1_5 := F5.out.s.frozen 1
      have f34_5 := F5.out.s.frozen 34
      have f67_5 := F5.out.s.frozen 67
      have f100_5 := F5.out.s.frozen 100
      have f101_5 := F5.out.s.frozen 101
      have e0_5 := jb0 F5.out.x
      have e1_5 := jb1 F5.out.x
      have e34_5 := jb34 F5.out.x oi
      have e35_5 := jb35 F5.out.x oi
      rw [HKK.out] at e0_5
      go_wp2_with fail
      rename_i ha
      refine wp_region_lexH 4 3 #[true, true, true, true, false, false, false] (by kernel_rfl) (by kernel_rfl) (by kernel_rfl) (by kernel_rfl) (by kernel_rfl) (fun w' => Chg (fun j => j = w2.heap.size) ((wc.setCell ⟨w.heap.size, 0, none⟩ (.int .i64 (i.round))).setCell ⟨w.heap.size, 1, none⟩ (.int .i64 1)) w') ((Chg.refl _ _).drew) ?_
      refine head_load rfl _ _ rfl w.heap.size 0 rfl ({ s with round := i.round, step := 1 } : State).cells _ (fun w' k => (F5.out.held k).1.range0) Try.underlying31 rfl (rowR ok5) ?_
      simp only [Act.put, List.setIfInBounds_toArray, List.set_cons_zero, List.set_cons_succ]
      refine head_run rfl (fun w' k => by go_simp; rfl) ?_
      simp only [Act.put, List.setIfInBounds_toArray, List.set_cons_zero, List.set_cons_succ]
      refine head_run rfl (fun w' k => by go_simp; rfl) ?_
      simp only [Act.put, List.setIfInBounds_toArray, List.set_cons_zero, List.set_cons_succ]
      refine head_load rfl _ _ rfl w1.heap.size 36 rfl (bv i.own) _ (fun w' k => jb36 (F5.out.held k).2 oi) Try.underlying23 rfl (rowH oi.o) ?_
      simp only [Act.put, List.setIfInBounds_toArray, List.set_cons_zero, List.set_cons_succ]
      refine head_nil ?_
      exact one_end (n := 4) (nt := 301) (k := 1) (r := i.round) (v := (-1)) (h := i.own) (s := ({ s with round := i.round, step := 1 } : State)) F5.out ok5 oi.o HR.out rfl ha (fun a w h => h) rfl rfl rfl rfl rfl rfl (by kernel_rfl) (by kernel_rfl) (by kernel_rfl) (by kernel_rfl) rfl rfl rfl rfl rfl rfl rfl rfl (by decide) (by decide) rfl rfl rfl
set_option maxHeartbeats 6400000 in
theorem rStep_8 (w : World) (s : State) (i : In) (ok : s.Ok) (oi : i.Ok) (hk : i.kind = 8) : Calls Try.prog 11 #[.agg s.cells.toArray, .agg i.cells.toArray] w (Did 51 w (stepM s i)) := by
  obtain ⟨z, hz⟩ : ∃ z, decide (i.block = zero) = z := ⟨_, rfl⟩
  obtain ⟨o, ho⟩ : ∃ o, decide (i.own = zero) = o := ⟨_, rfl⟩
  obtain ⟨gd, hgd⟩ : ∃ gd, decide (i.good = true ∧ i.block ≠ zero) = gd := ⟨_, rfl⟩
  obtain ⟨hb, hhb⟩ : ∃ hb, (i.round == s.round) = hb := ⟨_, rfl⟩
  have hgz : (i.good && !z) = gd := by rw [← hgd, ← hz]; cases i.good <;> simp
  have HB := Lib.hid (empty_any · i.block oi.b)
  have HO := Lib.hid (empty_any · i.own oi.o)
  rw [hz] at HB
  rw [ho] at HO
  have HHO := Lib.hid ho
  have HGD := Lib.hid hgd
  have HHB := Lib.hid hhb
  have HKK := Lib.hid hk
  have HGZ := Lib.hid hgz
  clear ho hgd hhb hk hz hgz
  go_enter Try.func11, Try.ntmps11
  go_upto_region 4 with (first
    | (with_reducible refine wpList_box_row rfl _ _ rfl (cs := s.cells.toArray) rfl ?_; intro w1 hw1)
    | (with_reducible refine wpList_box_row rfl _ _ rfl (cs := i.cells.toArray) rfl ?_; intro w2 hw2)
    | (with_reducible refine wpList_alloc_named rfl _ rfl s0.cells z_R ?_; intro w3 hw3; have F0 := Lib.hid (pro hw1.out hw2.out hw3.out); clear hw1 hw2 hw3; have e1 := jb1 F0.out.x)
    | (with_reducible refine wpList_load_mid rfl 23 _ rfl w1.heap.size 2 rfl (bv i.block) _ (jb2 F0.out.x) Try.underlying23 rfl (rowH oi.b) ?_)
    | (go_at_call 20; (with_reducible refine (HB.out _).mono ?_); rintro e w4 ⟨rfl, k4⟩; have F1 := Lib.hid (F0.out.chg k4))
    | (with_reducible refine wpList_load_mid rfl 23 _ rfl w1.heap.size 36 rfl (bv i.own) _ (jb36 F1.out.x oi) Try.underlying23 rfl (rowH oi.o) ?_)
    | (go_at_call 20; (with_reducible refine (HO.out _).mono ?_); rintro e w5 ⟨rfl, k5⟩; have F2 := Lib.hid (F1.out.chg k5); have e35 := jb35 F2.out.x oi; clear k4 k5))
  go_cut [9] from 19 to 24 (fun v9 wx => v9 = .bool gd ∧ wx = w5)
  case first =>
    obtain ⟨ig, hig⟩ : ∃ ig, i.good = ig := ⟨_, rfl⟩
    have hgz := HGZ.out
    rw [hig] at e35 hgz
    cases ig with
    | true =>
      have hz1 : (!z) = gd := by simpa using hgz
      go_wp2_with fail
      go_meet
      exact ⟨by rw [← hz1], rfl⟩
    | false =>
      have hz1 : gd = false := by simpa using hgz.symm
      go_wp2_with fail
      go_meet
      exact ⟨by rw [hz1], rfl⟩
  case rest =>
    obtain ⟨h9, hwx⟩ := hcut
    subst h9
    have F3 : Hid (Fr 31 36 w w.heap.size w1.heap.size w2.heap.size wc s i.cells) := by rw [hwx]; exact F2
    clear hwx e1 e35 F0 F1 F2 HB HO HGZ
    have d5 : (i.round == s.round) = hb := HHB.out
    by_cases a1 : i.round < 0
    · have HR := Lib.hid (show stepM s i = (s, []) from by unfold stepM mach.top; exact if_pos (.inl a1))
      have q1 : decide (i.round < 0) = true := decide_eq_true a1
      clear a1
      have c0_3 := sb0 F3.out.s
      have c1_3 := sb1 F3.out.s
      have c34_3 := sb34 F3.out.s ok
      have c67_3 := sb67 F3.out.s ok
      have c100_3 := sb100 F3.out.s ok
      have c101_3 := sb101 F3.out.s ok
      have f0_3 := F3.out.s.frozen 0
      have f1_3 := F3.out.s.frozen 1
      have f34_3 := F3.out.s.frozen 34
      have f67_3 := F3.out.s.frozen 67
      have f100_3 := F3.out.s.frozen 100
      have f101_3 := F3.out.s.frozen 101
      have e0_3 := jb0 F3.out.x
      have e1_3 := jb1 F3.out.x
      have e34_3 := jb34 F3.out.x oi
      have e35_3 := jb35 F3.out.x oi
      rw [HKK.out] at e0_3
      go_wp2_with (first
        | (with_reducible refine wpList_load_mid rfl 31 _ rfl w.heap.size 0 rfl (s : State).cells _ F3.out.s.range0 Try.underlying31 rfl (rowR ok) ?_)
        | (with_reducible refine wpList_store_R rfl 31 _ _ rfl w2.heap.size (s : State).cells s0.cells 102 rfl rfl F3.out.r ok.len s0_ok.len row_R (State.one _) ?_; intro w9 h9 k9))
      exact ret_endR rfl rfl rfl F3.out h9 k9 ok rfl (.inl ⟨rfl, rfl⟩) HR.out
    have q1 : decide (i.round < 0) = false := decide_eq_false a1
    by_cases a2 : 1048576 < i.round
    · have HR := Lib.hid (show stepM s i = (s, []) from by unfold stepM mach.top; exact if_pos (.inr (.inl a2)))
      have q2 : decide (1048576 < i.round) = true := decide_eq_true a2
      clear a1 a2
      have c0_3 := sb0 F3.out.s
      have c1_3 := sb1 F3.out.s
      have c34_3 := sb34 F3.out.s ok
      have c67_3 := sb67 F3.out.s ok
      have c100_3 := sb100 F3.out.s ok
      have c101_3 := sb101 F3.out.s ok
      have f0_3 := F3.out.s.frozen 0
      have f1_3 := F3.out.s.frozen 1
      have f34_3 := F3.out.s.frozen 34
      have f67_3 := F3.out.s.frozen 67
      have f100_3 := F3.out.s.frozen 100
      have f101_3 := F3.out.s.frozen 101
      have e0_3 := jb0 F3.out.x
      have e1_3 := jb1 F3.out.x
      have e34_3 := jb34 F3.out.x oi
      have e35_3 := jb35 F3.out.x oi
      rw [HKK.out] at e0_3
      go_wp2_with (first
        | (with_reducible refine wpList_load_mid rfl 31 _ rfl w.heap.size 0 rfl (s : State).cells _ F3.out.s.range0 Try.underlying31 rfl (rowR ok) ?_)
        | (with_reducible refine wpList_store_R rfl 31 _ _ rfl w2.heap.size (s : State).cells s0.cells 102 rfl rfl F3.out.r ok.len s0_ok.len row_R (State.one _) ?_; intro w9 h9 k9))
      exact ret_endR rfl rfl rfl F3.out h9 k9 ok rfl (.inl ⟨rfl, rfl⟩) HR.out
    have q2 : decide (1048576 < i.round) = false := decide_eq_false a2
    by_cases a3 : s.step = 4
    · have HR := Lib.hid (show stepM s i = (s, []) from by unfold stepM mach.top; exact if_pos (.inr (.inr a3)))
      have HS := Lib.hid a3
      clear a1 a2 a3
      have c0_3 := sb0 F3.out.s
      have c1_3 := sb1 F3.out.s
      have c34_3 := sb34 F3.out.s ok
      have c67_3 := sb67 F3.out.s ok
      have c100_3 := sb100 F3.out.s ok
      have c101_3 := sb101 F3.out.s ok
      have f0_3 := F3.out.s.frozen 0
      have f1_3 := F3.out.s.frozen 1
      have f34_3 := F3.out.s.frozen 34
      have f67_3 := F3.out.s.frozen 67
      have f100_3 := F3.out.s.frozen 100
      have f101_3 := F3.out.s.frozen 101
      have e0_3 := jb0 F3.out.x
      have e1_3 := jb1 F3.out.x
      have e34_3 := jb34 F3.out.x oi
      have e35_3 := jb35 F3.out.x oi
      rw [HKK.out] at e0_3
      rw [HS.out] at c1_3
      go_wp2_with (first
        | (with_reducible refine wpList_load_mid rfl 31 _ rfl w.heap.size 0 rfl (s : State).cells _ F3.out.s.range0 Try.underlying31 rfl (rowR ok) ?_)
        | (with_reducible refine wpList_store_R rfl 31 _ _ rfl w2.heap.size (s : State).cells s0.cells 102 rfl rfl F3.out.r ok.len s0_ok.len row_R (State.one _) ?_; intro w9 h9 k9))
      exact ret_endR rfl rfl rfl F3.out h9 k9 ok rfl (.inl ⟨rfl, rfl⟩) HR.out
    have q3 : (s.step == 4) = false := by simpa using a3
    have h0 : ¬ (i.round < 0 ∨ 1048576 < i.round ∨ s.step = 4) := by omega
    have hk := HKK.out
    by_cases ag : i.good = true ∧ i.block ≠ zero
    · have HR := Lib.hid (show stepM s i = (({ s with block := i.block, step := 4 } : State), [⟨8, i.round, i.block, 0⟩]) from by unfold stepM act mach.top; rw [if_neg h0, if_neg (by omega : ¬ (i.kind = 1)), if_neg (by omega : ¬ (i.kind = 2)), if_neg (by omega : ¬ (i.kind = 3)), if_neg (by omega : ¬ (i.kind = 4)), if_neg (by omega : ¬ (i.kind = 5)), if_neg (by omega : ¬ (i.kind = 6 ∨ i.kind = 11)), if_neg (by omega : ¬ (i.kind = 7)), if_pos (by omega : i.kind = 8), if_pos ag])
      have hh : gd = true := by rw [← HGD.out]; simpa using ag
      subst hh
      clear ag
      clear a1 a2 a3 h0 hk
      have c0_3 := sb0 F3.out.s
      have c1_3 := sb1 F3.out.s
      have c34_3 := sb34 F3.out.s ok
      have c67_3 := sb67 F3.out.s ok
      have c100_3 := sb100 F3.out.s ok
      have c101_3 := sb101 F3.out.s ok
      have f0_3 := F3.out.s.frozen 0
      have f1_3 := F3.out.s.frozen 1
      have f34_3 := F3.out.s.frozen 34
      have f67_3 := F3.out.s.frozen 67
      have f100_3 := F3.out.s.frozen 100
      have f101_3 := F3.out.s.frozen 101
      have e0_3 := jb0 F3.out.x
      have e1_3 := jb1 F3.out.x
      have e34_3 := jb34 F3.out.x oi
      have e35_3 := jb35 F3.out.x oi
      rw [HKK.out] at e0_3
      have F4 : Hid (Fr 31 36 w w.heap.size w1.heap.size w2.heap.size (wc.setCells w.heap.size 68 (bv i.block)) ({ s with block := i.block } : State) i.cells) := Lib.hid (F3.out.puts (ss68 F3.out.s ok i.block oi.b))
      have ok4 := (⟨ok.l, ok.v, oi.b⟩ : ({ s with block := i.block } : State).Ok)
      have c0_4 := sb0 F4.out.s
      have c1_4 := sb1 F4.out.s
      have c34_4 := sb34 F4.out.s ok4
      have c67_4 := sb67 F4.out.s ok4
      have c100_4 := sb100 F4.out.s ok4
      have c101_4 := sb101 F4.out.s ok4
      have f0_4 := F4.out.s.frozen 0
      have f1_4 := F4.out.s.frozen 1
      have f34_4 := F4.out.s.frozen 34
      have f67_4 := F4.out.s.frozen 67
      have f100_4 := F4.out.s.frozen 100
      have f101_4 := F4.out.s.frozen 101
      have e0_4 := jb0 F4.out.x
      have e1_4 := jb1 F4.out.x
      have e34_4 := jb34 F4.out.x oi
      have e35_4 := jb35 F4.out.x oi
      rw [HKK.out] at e0_4
      have F5 : Hid (Fr 31 36 w w.heap.size w1.heap.size w2.heap.size ((wc.setCells w.heap.size 68 (bv i.block)).setCell ⟨w.heap.size, 1, none⟩ (.int .i64 4)) ({ s with block := i.block, step := 4 } : State) i.cells) := Lib.hid (F4.out.put (ss1 F4.out.s 4))
      have ok5 := (⟨ok.l, ok.v, oi.b⟩ : ({ s with block := i.block, step := 4 } : State).Ok)
      have c0_5 := sb0 F5.out.s
      have c1_5 := sb1 F5.out.s
      have c34_5 := sb34 F5.out.s ok5
      have c67_5 := sb67 F5.out.s ok5
      have c100_5 := sb100 F5.out.s ok5
      have c101_5 := sb101 F5.out.s ok5
      have f0_5 := F5.out.s.frozen 0
      have f1_5 := F5.out.s.frozen 1
      have f34_5 := F5.out.s.frozen 34
      have f67_5 := F5.out.s.frozen 67
      have f100_5 := F5.out.s.frozen 100
      have f101_5 := F5.out.s.frozen 101
      have e0_5 := jb0 F5.out.x
      have e1_5 := jb1 F5.out.x
      have e34_5 := jb34 F5.out.x oi
      have e35_5 := jb35 F5.out.x oi
      rw [HKK.out] at e0_5
      go_wp2_with (first
        | (with_reducible refine wpList_load_mid rfl 23 _ rfl w1.heap.size 2 rfl (bv i.block) _ (jb2 F3.out.x) Try.underlying23 rfl (rowH oi.b) ?_)
        | (with_reducible refine wpList_store_H rfl _ _ rfl w.heap.size 68 i.block oi.b rfl rfl (sb68 F3.out.s ok).2 ?_))
      rename_i ha
      refine wp_region_lexH 4 3 #[true, true, true, true, false, false, false] (by kernel_rfl) (by kernel_rfl) (by kernel_rfl) (by kernel_rfl) (by kernel_rfl) (fun w' => Chg (fun j => j = w2.heap.size) ((wc.setCells w.heap.size 68 (bv i.block)).setCell ⟨w.heap.size, 1, none⟩ (.int .i64 4)) w') ((Chg.refl _ _).drew) ?_
      refine head_load rfl _ _ rfl w.heap.size 0 rfl ({ s with block := i.block, step := 4 } : State).cells _ (fun w' k => (F5.out.held k).1.range0) Try.underlying31 rfl (rowR ok5) ?_
      simp only [Act.put, List.setIfInBounds_toArray, List.set_cons_zero, List.set_cons_succ]
      refine head_run rfl (fun w' k => by go_simp; rfl) ?_
      simp only [Act.put, List.setIfInBounds_toArray, List.set_cons_zero, List.set_cons_succ]
      refine head_run rfl (fun w' k => by go_simp; rfl) ?_
      simp only [Act.put, List.setIfInBounds_toArray, List.set_cons_zero, List.set_cons_succ]
      refine head_load rfl _ _ rfl w1.heap.size 2 rfl (bv i.block) _ (fun w' k => jb2 (F5.out.held k).2) Try.underlying23 rfl (rowH oi.b) ?_
      simp only [Act.put, List.setIfInBounds_toArray, List.set_cons_zero, List.set_cons_succ]
      refine head_nil ?_
      exact one_end (n := 4) (nt := 301) (k := 8) (r := i.round) (v := 0) (h := i.block) (s := ({ s with block := i.block, step := 4 } : State)) F5.out ok5 oi.b HR.out rfl ha (fun a w h => h) rfl rfl rfl rfl rfl rfl (by kernel_rfl) (by kernel_rfl) (by kernel_rfl) (by kernel_rfl) rfl rfl rfl rfl rfl rfl rfl rfl (by decide) (by decide) rfl rfl rfl
    · have HR := Lib.hid (show stepM s i = (s, []) from by unfold stepM act mach.top; rw [if_neg h0, if_neg (by omega : ¬ (i.kind = 1)), if_neg (by omega : ¬ (i.kind = 2)), if_neg (by omega : ¬ (i.kind = 3)), if_neg (by omega : ¬ (i.kind = 4)), if_neg (by omega : ¬ (i.kind = 5)), if_neg (by omega : ¬ (i.kind = 6 ∨ i.kind = 11)), if_neg (by omega : ¬ (i.kind = 7)), if_pos (by omega : i.kind = 8), if_neg ag])
      have hh : gd = false := by rw [← HGD.out]; simpa using ag
      subst hh
      clear ag
      clear a1 a2 a3 h0 hk
      have c0_3 := sb0 F3.out.s
      have c1_3 := sb1 F3.out.s
      have c34_3 := sb34 F3.out.s ok
      have c67_3 := sb67 F3.out.s ok
      have c100_3 := sb100 F3.out.s ok
      have c101_3 := sb101 F3.out.s ok
      have f0_3 := F3.out.s.frozen 0
      have f1_3 := F3.out.s.frozen 1
      have f34_3 := F3.out.s.frozen 34
      have f67_3 := F3.out.s.frozen 67
      have f100_3 := F3.out.s.frozen 100
      have f101_3 := F3.out.s.frozen 101
      have e0_3 := jb0 F3.out.x
      have e1_3 := jb1 F3.out.x
      have e34_3 := jb34 F3.out.x oi
      have e35_3 := jb35 F3.out.x oi
      rw [HKK.out] at e0_3
      go_wp2_with (first
        | (with_reducible refine wpList_load_mid rfl 31 _ rfl w.heap.size 0 rfl (s : State).cells _ F3.out.s.range0 Try.underlying31 rfl (rowR ok) ?_)
        | (with_reducible refine wpList_store_R rfl 31 _ _ rfl w2.heap.size (s : State).cells s0.cells 102 rfl rfl F3.out.r ok.len s0_ok.len row_R (State.one _) ?_; intro w9 h9 k9))
      exact ret_endR rfl rfl rfl F3.out h9 k9 ok rfl (.inl ⟨rfl, rfl⟩) HR.out
end Go.Proofs.Ytdejfamcmebdiaa
