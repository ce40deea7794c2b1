/- Package round: the document's Step at the kinds 2. (Written by wip/tools/gen12.py.) -/
import Derived.Deep.CutRange
import Derived.Test.YtdejfamcmebdiaaRx
namespace Go.Proofs.Ytdejfamcmebdiaa
open Go.RowKit mach
set_option linter.unusedVariables false
set_option linter.unusedSimpArgs false
set_option maxRecDepth 20000

set_option maxHeartbeats 6400000 in
theorem rStep_2 (w : World) (s : State) (i : In) (ok : s.Ok) (oi : i.Ok) (hk : i.kind = 2) : Calls Try.prog 11 #[.agg s.cells.toArray, .agg i.cells.toArray] w (Did 51 w (stepM s i)) := by
  obtain ⟨z, hz⟩ : ∃ z, decide (i.block = zero) = z := ⟨_, rfl⟩
  obtain ⟨o, ho⟩ : ∃ o, decide (i.own = zero) = o := ⟨_, rfl⟩
  obtain ⟨gd, hgd⟩ : ∃ gd, decide (i.good = true ∧ i.block ≠ zero) = gd := ⟨_, rfl⟩
  obtain ⟨hb, hhb⟩ : ∃ hb, (i.round == s.round) = hb := ⟨_, rfl⟩
  have hgz : (i.good && !z) = gd := by rw [← hgd, ← hz]; cases i.good <;> simp
  have HB := Lib.hid (empty_any · i.block oi.b)
  have HO := Lib.hid (empty_any · i.own oi.o)
  rw [hz] at HB
  rw [ho] at HO
  have HHO := Lib.hid ho
  have HGD := Lib.hid hgd
  have HHB := Lib.hid hhb
  have HKK := Lib.hid hk
  have HGZ := Lib.hid hgz
  clear ho hgd hhb hk hz hgz
  go_enter Try.func11, Try.ntmps11
  go_upto_region 4 with (first
    | (with_reducible refine wpList_box_row rfl _ _ rfl (cs := s.cells.toArray) rfl ?_; intro w1 hw1)
    | (with_reducible refine wpList_box_row rfl _ _ rfl (cs := i.cells.toArray) rfl ?_; intro w2 hw2)
    | (with_reducible refine wpList_alloc_named rfl _ rfl s0.cells z_R ?_; intro w3 hw3; have F0 := Lib.hid (pro hw1.out hw2.out hw3.out); clear hw1 hw2 hw3; have e1 := jb1 F0.out.x)
    | (with_reducible refine wpList_load_mid rfl 23 _ rfl w1.heap.size 2 rfl (bv i.block) _ (jb2 F0.out.x) Try.underlying23 rfl (rowH oi.b) ?_)
    | (go_at_call 20; (with_reducible refine (HB.out _).mono ?_); rintro e w4 ⟨rfl, k4⟩; have F1 := Lib.hid (F0.out.chg k4))
    | (with_reducible refine wpList_load_mid rfl 23 _ rfl w1.heap.size 36 rfl (bv i.own) _ (jb36 F1.out.x oi) Try.underlying23 rfl (rowH oi.o) ?_)
    | (go_at_call 20; (with_reducible refine (HO.out _).mono ?_); rintro e w5 ⟨rfl, k5⟩; have F2 := Lib.hid (F1.out.chg k5); have e35 := jb35 F2.out.x oi; clear k4 k5))
  go_cut [9] from 19 to 24 (fun v9 wx => v9 = .bool gd ∧ wx = w5)
  case first =>
    obtain ⟨ig, hig⟩ : ∃ ig, i.good = ig := ⟨_, rfl⟩
    have hgz := HGZ.out
    rw [hig] at e35 hgz
    cases ig with
    | true =>
      have hz1 : (!z) = gd := by simpa using hgz
      go_wp2_with fail
      go_meet
      exact ⟨by rw [← hz1], rfl⟩
    | false =>
      have hz1 : gd = false := by simpa using hgz.symm
      go_wp2_with fail
      go_meet
      exact ⟨by rw [hz1], rfl⟩
  case rest =>
    obtain ⟨h9, hwx⟩ := hcut
    subst h9
    have F3 : Hid (Fr 31 36 w w.heap.size w1.heap.size w2.heap.size wc s i.cells) := by rw [hwx]; exact F2
    clear hwx e1 e35 F0 F1 F2 HB HO HGZ
    have d5 : (i.round == s.round) = hb := HHB.out
    by_cases a1 : i.round < 0
    · have HR := Lib.hid (show stepM s i = (s, []) from by unfold stepM mach.top; exact if_pos (.inl a1))
      have q1 : decide (i.round < 0) = true := decide_eq_true a1
      clear a1
      have c0_3 := sb0 F3.out.s
      have c1_3 := sb1 F3.out.s
      have c34_3 := sb34 F3.out.s ok
      have c67_3 := sb67 F3.out.s ok
      have c100_3 := sb100 F3.out.s ok
      have c101_3 := sb101 F3.out.s ok
      have f0_3 := F3.out.s.frozen 0
      have f1_3 := F3.out.s.frozen 1
      have f34_3 := F3.out.s.frozen 34
      have f67_3 := F3.out.s.frozen 67
      have f100_3 := F3.out.s.frozen 100
      have f101_3 := F3.out.s.frozen 101
      have e0_3 := jb0 F3.out.x
      have e1_3 := jb1 F3.out.x
      have e34_3 := jb34 F3.out.x oi
      have e35_3 := jb35 F3.out.x oi
      rw [HKK.out] at e0_3
      go_wp2_with (first
        | (with_reducible refine wpList_load_mid rfl 31 _ rfl w.heap.size 0 rfl (s : State).cells _ F3.out.s.range0 Try.underlying31 rfl (rowR ok) ?_)
        | (with_reducible refine wpList_store_R rfl 31 _ _ rfl w2.heap.size (s : State).cells s0.cells 102 rfl rfl F3.out.r ok.len s0_ok.len row_R (State.one _) ?_; intro w9 h9 k9))
      exact ret_endR rfl rfl rfl F3.out h9 k9 ok rfl (.inl ⟨rfl, rfl⟩) HR.out
    have q1 : decide (i.round < 0) = false := decide_eq_false a1
    by_cases a2 : 1048576 < i.round
    · have HR := Lib.hid (show stepM s i = (s, []) from by unfold stepM mach.top; exact if_pos (.inr (.inl a2)))
      have q2 : decide (1048576 < i.round) = true := decide_eq_true a2
      clear a1 a2
      have c0_3 := sb0 F3.out.s
      have c1_3 := sb1 F3.out.s
      have c34_3 := sb34 F3.out.s ok
      have c67_3 := sb67 F3.out.s ok
      have c100_3 := sb100 F3.out.s ok
      have c101_3 := sb101 F3.out.s ok
      have f0_3 := F3.out.s.frozen 0
      have f1_3 := F3.out.s.frozen 1
      have f34_3 := F3.out.s.frozen 34
      have f67_3 := F3.out.s.frozen 67
      have f100_3 := F3.out.s.frozen 100
      have f101_3 := F3.out.s.frozen 101
      have e0_3 := jb0 F3.out.x
      have e1_3 := jb1 F3.out.x
      have e34_3 := jb34 F3.out.x oi
      have e35_3 := jb35 F3.out.x oi
      rw [HKK.out] at e0_3
      go_wp2_with (first
        | (with_reducible refine wpList_load_mid rfl 31 _ rfl w.heap.size 0 rfl (s : State).cells _ F3.out.s.range0 Try.underlying31 rfl (rowR ok) ?_)
        | (with_reducible refine wpList_store_R rfl 31 _ _ rfl w2.heap.size (s : State).cells s0.cells 102 rfl rfl F3.out.r ok.len s0_ok.len row_R (State.one _) ?_; intro w9 h9 k9))
      exact ret_endR rfl rfl rfl F3.out h9 k9 ok rfl (.inl ⟨rfl, rfl⟩) HR.out
    have q2 : decide (1048576 < i.round) = false := decide_eq_false a2
    by_cases a3 : s.step = 4
    · have HR := Lib.hid (show stepM s i = (s, []) from by unfold stepM mach.top; exact if_pos (.inr (.inr a3)))
      have HS := Lib.hid a3
      clear a1 a2 a3
      have c0_3 := sb0 F3.out.s
      have c1_3 := sb1 F3.out.s
      have c34_3 := sb34 F3.out.s ok
      have c67_3 := sb67 F3.out.s ok
      have c100_3 := sb100 F3.out.s ok
      have c101_3 := sb101 F3.out.s ok
      have f0_3 := F3.out.s.frozen 0
      have f1_3 := F3.out.s.frozen 1
      have f34_3 := F3.out.s.frozen 34
      have f67_3 := F3.out.s.frozen 67
      have f100_3 := F3.out.s.frozen 100
      have f101_3 := F3.out.s.frozen 101
      have e0_3 := jb0 F3.out.x
      have e1_3 := jb1 F3.out.x
      have e34_3 := jb34 F3.out.x oi
      have e35_3 := jb35 F3.out.x oi
      rw [HKK.out] at e0_3
      rw [HS.out] at c1_3
      go_wp2_with (first
        | (with_reducible refine wpList_load_mid rfl 31 _ rfl w.heap.size 0 rfl (s : State).cells _ F3.out.s.range0 Try.underlying31 rfl (rowR ok) ?_)
        | (with_reducible refine wpList_store_R rfl 31 _ _ rfl w2.heap.size (s : State).cells s0.cells 102 rfl rfl F3.out.r ok.len s0_ok.len row_R (State.one _) ?_; intro w9 h9 k9))
      exact ret_endR rfl rfl rfl F3.out h9 k9 ok rfl (.inl ⟨rfl, rfl⟩) HR.out
    have q3 : (s.step == 4) = false := by simpa using a3
    have h0 : ¬ (i.round < 0 ∨ 1048576 < i.round ∨ s.step = 4) := by omega
    have hk := HKK.out
    by_cases ar : i.round = s.round
    · have hh : hb = true := by rw [← HHB.out]; simpa using ar
      subst hh
      by_cases sa : s.step = 1
      · by_cases ag : i.good = true ∧ i.block ≠ zero
        · by_cases al : s.lockedR < 0
          · have HR := Lib.hid (show stepM s i = (({ s with step := 2 } : State), [⟨2, i.round, i.block, 0⟩]) from by unfold stepM act mach.top; rw [if_neg h0, if_neg (by omega : ¬ (i.kind = 1)), if_pos (by omega : i.kind = 2), if_pos ⟨ar, sa⟩, if_pos ⟨ag.1, ag.2, .inl al⟩])
            have hh : gd = true := by rw [← HGD.out]; simpa using ag
            subst hh
            have ql : decide (s.lockedR < 0) = true := decide_eq_true al
            clear ag al
            have HS := Lib.hid sa
            clear sa
            clear ar
            clear a1 a2 a3 h0 hk
            have c0_3 := sb0 F3.out.s
            have c1_3 := sb1 F3.out.s
            have c34_3 := sb34 F3.out.s ok
            have c67_3 := sb67 F3.out.s ok
            have c100_3 := sb100 F3.out.s ok
            have c101_3 := sb101 F3.out.s ok
            have f0_3 := F3.out.s.frozen 0
            have f1_3 := F3.out.s.frozen 1
            have f34_3 := F3.out.s.frozen 34
            have f67_3 := F3.out.s.frozen 67
            have f100_3 := F3.out.s.frozen 100
            have f101_3 := F3.out.s.frozen 101
            have e0_3 := jb0 F3.out.x
            have e1_3 := jb1 F3.out.x
            have e34_3 := jb34 F3.out.x oi
            have e35_3 := jb35 F3.out.x oi
            rw [HKK.out] at e0_3
            rw [HS.out] at c1_3
            go_wp2_with fail
            rename_i ha
            refine wp_region_lexH 17 5 #[true, true, true, true, true, true, true, true, true, true, true, true, true, true, true, true, true, false, false, false, false, false] (by kernel_rfl) (by kernel_rfl) (by kernel_rfl) (by kernel_rfl) (by kernel_rfl) (fun w' => Chg (fun j => j = w2.heap.size) wc w') ((Chg.refl _ _).drew) ?_
            refine head_load rfl _ _ rfl w.heap.size 0 rfl (s : State).cells _ (fun w' k => (F3.out.held k).1.range0) Try.underlying31 rfl (rowR ok) ?_
            simp only [Act.put, List.setIfInBounds_toArray, List.set_cons_zero, List.set_cons_succ]
            refine head_run rfl (fun w' k => by go_simp; rfl) ?_
            simp only [Act.put, List.setIfInBounds_toArray, List.set_cons_zero, List.set_cons_succ]
            refine head_run rfl (fun w' k => by go_simp; rfl) ?_
            simp only [Act.put, List.setIfInBounds_toArray, List.set_cons_zero, List.set_cons_succ]
            refine head_load rfl _ _ rfl w1.heap.size 2 rfl (bv i.block) _ (fun w' k => jb2 (F3.out.held k).2) Try.underlying23 rfl (rowH oi.b) ?_
            simp only [Act.put, List.setIfInBounds_toArray, List.set_cons_zero, List.set_cons_succ]
            refine head_run rfl (fun w' k => by go_simp; rfl) ?_
            simp only [Act.put, List.setIfInBounds_toArray, List.set_cons_zero, List.set_cons_succ]
            refine head_run rfl (fun w' k => by go_simp; rfl) ?_
            simp only [Act.put, List.setIfInBounds_toArray, List.set_cons_zero, List.set_cons_succ]
            refine head_run rfl (fun w' k => by go_simp; rfl) ?_
            simp only [Act.put, List.setIfInBounds_toArray, List.set_cons_zero, List.set_cons_succ]
            refine head_run rfl (fun w' k => by (have x0 := sb34 (F3.out.held k).1 ok); go_simp; rfl) ?_
            simp only [Act.put, List.setIfInBounds_toArray, List.set_cons_zero, List.set_cons_succ]
            refine head_run rfl (fun w' k => by go_simp; rfl) ?_
            simp only [Act.put, List.setIfInBounds_toArray, List.set_cons_zero, List.set_cons_succ]
            refine head_run rfl (fun w' k => by go_simp; rfl) ?_
            simp only [Act.put, List.setIfInBounds_toArray, List.set_cons_zero, List.set_cons_succ]
            refine head_skip rfl ?_
            simp only [Act.put, List.setIfInBounds_toArray, List.set_cons_zero, List.set_cons_succ]
            refine head_skip rfl ?_
            simp only [Act.put, List.setIfInBounds_toArray, List.set_cons_zero, List.set_cons_succ]
            refine head_skip rfl ?_
            simp only [Act.put, List.setIfInBounds_toArray, List.set_cons_zero, List.set_cons_succ]
            refine head_skip rfl ?_
            simp only [Act.put, List.setIfInBounds_toArray, List.set_cons_zero, List.set_cons_succ]
            refine head_skip rfl ?_
            simp only [Act.put, List.setIfInBounds_toArray, List.set_cons_zero, List.set_cons_succ]
            refine head_run rfl (fun w' k => by go_simp; rfl) ?_
            simp only [Act.put, List.setIfInBounds_toArray, List.set_cons_zero, List.set_cons_succ]
            refine head_run rfl (fun w' k => by go_simp; rfl) ?_
            simp only [Act.put, List.setIfInBounds_toArray, List.set_cons_zero, List.set_cons_succ]
            refine head_nil ?_
            exact voted_end (n := 17) (nt := 301) F3.out HR.out rfl ha (fun a w h => h) rfl rfl rfl rfl rfl rfl rfl rfl rfl rfl (by kernel_rfl) (by kernel_rfl) (by kernel_rfl) (by kernel_rfl) (by kernel_rfl) (by kernel_rfl) rfl rfl rfl (voted_any _ s ok i.round i.block oi.b true) rfl rfl rfl rfl rfl rfl rfl rfl rfl (by decide) (by decide) rfl rfl
          by_cases ae : s.locked = i.block
          · have HR := Lib.hid (show stepM s i = (({ s with step := 2 } : State), [⟨2, i.round, i.block, 0⟩]) from by unfold stepM act mach.top; rw [if_neg h0, if_neg (by omega : ¬ (i.kind = 1)), if_pos (by omega : i.kind = 2), if_pos ⟨ar, sa⟩, if_pos ⟨ag.1, ag.2, .inr ae⟩])
            have hh : gd = true := by rw [← HGD.out]; simpa using ag
            subst hh
            have ql : decide (s.lockedR < 0) = false := decide_eq_false al
            have HEQ := Lib.hid (decide_eq_true ae)
            clear ag al ae
            have HS := Lib.hid sa
            clear sa
            clear ar
            clear a1 a2 a3 h0 hk
            have c0_3 := sb0 F3.out.s
            have c1_3 := sb1 F3.out.s
            have c34_3 := sb34 F3.out.s ok
            have c67_3 := sb67 F3.out.s ok
            have c100_3 := sb100 F3.out.s ok
            have c101_3 := sb101 F3.out.s ok
            have f0_3 := F3.out.s.frozen 0
            have f1_3 := F3.out.s.frozen 1
            have f34_3 := F3.out.s.frozen 34
            have f67_3 := F3.out.s.frozen 67
            have f100_3 := F3.out.s.frozen 100
            have f101_3 := F3.out.s.frozen 101
            have e0_3 := jb0 F3.out.x
            have e1_3 := jb1 F3.out.x
            have e34_3 := jb34 F3.out.x oi
            have e35_3 := jb35 F3.out.x oi
            rw [HKK.out] at e0_3
            rw [HS.out] at c1_3
            go_wp2_with fail
            rename_i ha
            refine wp_region_lexH 17 5 #[true, true, true, true, true, true, true, true, true, true, true, true, true, true, true, true, true, false, false, false, false, false] (by kernel_rfl) (by kernel_rfl) (by kernel_rfl) (by kernel_rfl) (by kernel_rfl) (fun w' => Chg (fun j => j = w2.heap.size) wc w') ((Chg.refl _ _).drew) ?_
            refine head_load rfl _ _ rfl w.heap.size 0 rfl (s : State).cells _ (fun w' k => (F3.out.held k).1.range0) Try.underlying31 rfl (rowR ok) ?_
            simp only [Act.put, List.setIfInBounds_toArray, List.set_cons_zero, List.set_cons_succ]
            refine head_run rfl (fun w' k => by go_simp; rfl) ?_
            simp only [Act.put, List.setIfInBounds_toArray, List.set_cons_zero, List.set_cons_succ]
            refine head_run rfl (fun w' k => by go_simp; rfl) ?_
            simp only [Act.put, List.setIfInBounds_toArray, List.set_cons_zero, List.set_cons_succ]
            refine head_load rfl _ _ rfl w1.heap.size 2 rfl (bv i.block) _ (fun w' k => jb2 (F3.out.held k).2) Try.underlying23 rfl (rowH oi.b) ?_
            simp only [Act.put, List.setIfInBounds_toArray, List.set_cons_zero, List.set_cons_succ]
            refine head_run rfl (fun w' k => by go_simp; rfl) ?_
            simp only [Act.put, List.setIfInBounds_toArray, List.set_cons_zero, List.set_cons_succ]
            refine head_run rfl (fun w' k => by go_simp; rfl) ?_
            simp only [Act.put, List.setIfInBounds_toArray, List.set_cons_zero, List.set_cons_succ]
            refine head_run rfl (fun w' k => by go_simp; rfl) ?_
            simp only [Act.put, List.setIfInBounds_toArray, List.set_cons_zero, List.set_cons_succ]
            refine head_run rfl (fun w' k => by (have x0 := sb34 (F3.out.held k).1 ok); go_simp; rfl) ?_
            simp only [Act.put, List.setIfInBounds_toArray, List.set_cons_zero, List.set_cons_succ]
            refine head_run rfl (fun w' k => by go_simp; rfl) ?_
            simp only [Act.put, List.setIfInBounds_toArray, List.set_cons_zero, List.set_cons_succ]
            refine head_run rfl (fun w' k => by go_simp; rfl) ?_
            simp only [Act.put, List.setIfInBounds_toArray, List.set_cons_zero, List.set_cons_succ]
            refine head_run rfl (fun w' k => by go_simp; rfl) ?_
            simp only [Act.put, List.setIfInBounds_toArray, List.set_cons_zero, List.set_cons_succ]
            refine head_load rfl _ _ rfl w.heap.size 2 rfl (bv s.locked) _ (fun w' k => (sb2 (F3.out.held k).1 ok).1) Try.underlying23 rfl (rowH ok.l) ?_
            simp only [Act.put, List.setIfInBounds_toArray, List.set_cons_zero, List.set_cons_succ]
            refine head_run rfl (fun w' k => by go_simp; rfl) ?_
            simp only [Act.put, List.setIfInBounds_toArray, List.set_cons_zero, List.set_cons_succ]
            refine head_load rfl _ _ rfl w1.heap.size 2 rfl (bv i.block) _ (fun w' k => jb2 (F3.out.held k).2) Try.underlying23 rfl (rowH oi.b) ?_
            simp only [Act.put, List.setIfInBounds_toArray, List.set_cons_zero, List.set_cons_succ]
            refine head_eqlH rfl _ _ _ rfl s.locked i.block rfl rfl ok.l oi.b HEQ.out ?_
            simp only [Act.put, List.setIfInBounds_toArray, List.set_cons_zero, List.set_cons_succ]
            refine head_run rfl (fun w' k => by go_simp; rfl) ?_
            simp only [Act.put, List.setIfInBounds_toArray, List.set_cons_zero, List.set_cons_succ]
            refine head_run rfl (fun w' k => by go_simp; rfl) ?_
            simp only [Act.put, List.setIfInBounds_toArray, List.set_cons_zero, List.set_cons_succ]
            refine head_nil ?_
            exact voted_end (n := 17) (nt := 301) F3.out HR.out rfl ha (fun a w h => h) rfl rfl rfl rfl rfl rfl rfl rfl rfl rfl (by kernel_rfl) (by kernel_rfl) (by kernel_rfl) (by kernel_rfl) (by kernel_rfl) (by kernel_rfl) rfl rfl rfl (voted_any _ s ok i.round i.block oi.b true) rfl rfl rfl rfl rfl rfl rfl rfl rfl (by decide) (by decide) rfl rfl
          · have HR := Lib.hid (show stepM s i = (({ s with step := 2 } : State), [⟨2, i.round, zero, 0⟩]) from by unfold stepM act mach.top; rw [if_neg h0, if_neg (by omega : ¬ (i.kind = 1)), if_pos (by omega : i.kind = 2), if_pos ⟨ar, sa⟩, if_neg (fun h => h.2.2.elim al ae)])
            have hh : gd = true := by rw [← HGD.out]; simpa using ag
            subst hh
            have ql : decide (s.lockedR < 0) = false := decide_eq_false al
            have HEQ := Lib.hid (decide_eq_false ae)
            clear ag al ae
            have HS := Lib.hid sa
            clear sa
            clear ar
            clear a1 a2 a3 h0 hk
            have c0_3 := sb0 F3.out.s
            have c1_3 := sb1 F3.out.s
            have c34_3 := sb34 F3.out.s ok
            have c67_3 := sb67 F3.out.s ok
            have c100_3 := sb100 F3.out.s ok
            have c101_3 := sb101 F3.out.s ok
            have f0_3 := F3.out.s.frozen 0
            have f1_3 := F3.out.s.frozen 1
            have f34_3 := F3.out.s.frozen 34
            have f67_3 := F3.out.s.frozen 67
            have f100_3 := F3.out.s.frozen 100
            have f101_3 := F3.out.s.frozen 101
            have e0_3 := jb0 F3.out.x
            have e1_3 := jb1 F3.out.x
            have e34_3 := jb34 F3.out.x oi
            have e35_3 := jb35 F3.out.x oi
            rw [HKK.out] at e0_3
            rw [HS.out] at c1_3
            go_wp2_with fail
            rename_i ha
            refine wp_region_lexH 17 5 #[true, true, true, true, true, true, true, true, true, true, true, true, true, true, true, true, true, false, false, false, false, false] (by kernel_rfl) (by kernel_rfl) (by kernel_rfl) (by kernel_rfl) (by kernel_rfl) (fun w' => Chg (fun j => j = w2.heap.size) wc w') ((Chg.refl _ _).drew) ?_
            refine head_load rfl _ _ rfl w.heap.size 0 rfl (s : State).cells _ (fun w' k => (F3.out.held k).1.range0) Try.underlying31 rfl (rowR ok) ?_
            simp only [Act.put, List.setIfInBounds_toArray, List.set_cons_zero, List.set_cons_succ]
            refine head_run rfl (fun w' k => by go_simp; rfl) ?_
            simp only [Act.put, List.setIfInBounds_toArray, List.set_cons_zero, List.set_cons_succ]
            refine head_run rfl (fun w' k => by go_simp; rfl) ?_
            simp only [Act.put, List.setIfInBounds_toArray, List.set_cons_zero, List.set_cons_succ]
            refine head_load rfl _ _ rfl w1.heap.size 2 rfl (bv i.block) _ (fun w' k => jb2 (F3.out.held k).2) Try.underlying23 rfl (rowH oi.b) ?_
            simp only [Act.put, List.setIfInBounds_toArray, List.set_cons_zero, List.set_cons_succ]
            refine head_run rfl (fun w' k => by go_simp; rfl) ?_
            simp only [Act.put, List.setIfInBounds_toArray, List.set_cons_zero, List.set_cons_succ]
            refine head_run rfl (fun w' k => by go_simp; rfl) ?_
            simp only [Act.put, List.setIfInBounds_toArray, List.set_cons_zero, List.set_cons_succ]
            refine head_run rfl (fun w' k => by go_simp; rfl) ?_
            simp only [Act.put, List.setIfInBounds_toArray, List.set_cons_zero, List.set_cons_succ]
            refine head_run rfl (fun w' k => by (have x0 := sb34 (F3.out.held k).1 ok); go_simp; rfl) ?_
            simp only [Act.put, List.setIfInBounds_toArray, List.set_cons_zero, List.set_cons_succ]
            refine head_run rfl (fun w' k => by go_simp; rfl) ?_
            simp only [Act.put, List.setIfInBounds_toArray, List.set_cons_zero, List.set_cons_succ]
            refine head_run rfl (fun w' k => by go_simp; rfl) ?_
            simp only [Act.put, List.setIfInBounds_toArray, List.set_cons_zero, List.set_cons_succ]
            refine head_run rfl (fun w' k => by go_simp; rfl) ?_
            simp only [Act.put, List.setIfInBounds_toArray, List.set_cons_zero, List.set_cons_succ]
            refine head_load rfl _ _ rfl w.heap.size 2 rfl (bv s.locked) _ (fun w' k => (sb2 (F3.out.held k).1 ok).1) Try.underlying23 rfl (rowH ok.l) ?_
            simp only [Act.put, List.setIfInBounds_toArray, List.set_cons_zero, List.set_cons_succ]
            refine head_run rfl (fun w' k => by go_simp; rfl) ?_
            simp only [Act.put, List.setIfInBounds_toArray, List.set_cons_zero, List.set_cons_succ]
            refine head_load rfl _ _ rfl w1.heap.size 2 rfl (bv i.block) _ (fun w' k => jb2 (F3.out.held k).2) Try.underlying23 rfl (rowH oi.b) ?_
            simp only [Act.put, List.setIfInBounds_toArray, List.set_cons_zero, List.set_cons_succ]
            refine head_eqlH rfl _ _ _ rfl s.locked i.block rfl rfl ok.l oi.b HEQ.out ?_
            simp only [Act.put, List.setIfInBounds_toArray, List.set_cons_zero, List.set_cons_succ]
            refine head_run rfl (fun w' k => by go_simp; rfl) ?_
            simp only [Act.put, List.setIfInBounds_toArray, List.set_cons_zero, List.set_cons_succ]
            refine head_run rfl (fun w' k => by go_simp; rfl) ?_
            simp only [Act.put, List.setIfInBounds_toArray, List.set_cons_zero, List.set_cons_succ]
            refine head_nil ?_
            exact voted_end (n := 17) (nt := 301) F3.out HR.out rfl ha (fun a w h => h) rfl rfl rfl rfl rfl rfl rfl rfl rfl rfl (by kernel_rfl) (by kernel_rfl) (by kernel_rfl) (by kernel_rfl) (by kernel_rfl) (by kernel_rfl) rfl rfl rfl (voted_any _ s ok i.round i.block oi.b false) rfl rfl rfl rfl rfl rfl rfl rfl rfl (by decide) (by decide) rfl rfl
        · have HR := Lib.hid (show stepM s i = (({ s with step := 2 } : State), [⟨2, i.round, zero, 0⟩]) from by unfold stepM act mach.top; rw [if_neg h0, if_neg (by omega : ¬ (i.kind = 1)), if_pos (by omega : i.kind = 2), if_pos ⟨ar, sa⟩, if_neg (fun h => ag ⟨h.1, h.2.1⟩)])
          have hh : gd = false := by rw [← HGD.out]; simpa using ag
          subst hh
          clear ag
          have HS := Lib.hid sa
          clear sa
          clear ar
          clear a1 a2 a3 h0 hk
          have c0_3 := sb0 F3.out.s
          have c1_3 := sb1 F3.out.s
          have c34_3 := sb34 F3.out.s ok
          have c67_3 := sb67 F3.out.s ok
          have c100_3 := sb100 F3.out.s ok
          have c101_3 := sb101 F3.out.s ok
          have f0_3 := F3.out.s.frozen 0
          have f1_3 := F3.out.s.frozen 1
          have f34_3 := F3.out.s.frozen 34
          have f67_3 := F3.out.s.frozen 67
          have f100_3 := F3.out.s.frozen 100
          have f101_3 := F3.out.s.frozen 101
          have e0_3 := jb0 F3.out.x
          have e1_3 := jb1 F3.out.x
          have e34_3 := jb34 F3.out.x oi
          have e35_3 := jb35 F3.out.x oi
          rw [HKK.out] at e0_3
          rw [HS.out] at c1_3
          go_wp2_with fail
          rename_i ha
          refine wp_region_lexH 17 5 #[true, true, true, true, true, true, true, true, true, true, true, true, true, true, true, true, true, false, false, false, false, false] (by kernel_rfl) (by kernel_rfl) (by kernel_rfl) (by kernel_rfl) (by kernel_rfl) (fun w' => Chg (fun j => j = w2.heap.size) wc w') ((Chg.refl _ _).drew) ?_
          refine head_load rfl _ _ rfl w.heap.size 0 rfl (s : State).cells _ (fun w' k => (F3.out.held k).1.range0) Try.underlying31 rfl (rowR ok) ?_
          simp only [Act.put, List.setIfInBounds_toArray, List.set_cons_zero, List.set_cons_succ]
          refine head_run rfl (fun w' k => by go_simp; rfl) ?_
          simp only [Act.put, List.setIfInBounds_toArray, List.set_cons_zero, List.set_cons_succ]
          refine head_run rfl (fun w' k => by go_simp; rfl) ?_
          simp only [Act.put, List.setIfInBounds_toArray, List.set_cons_zero, List.set_cons_succ]
          refine head_load rfl _ _ rfl w1.heap.size 2 rfl (bv i.block) _ (fun w' k => jb2 (F3.out.held k).2) Try.underlying23 rfl (rowH oi.b) ?_
          simp only [Act.put, List.setIfInBounds_toArray, List.set_cons_zero, List.set_cons_succ]
          refine head_run rfl (fun w' k => by go_simp; rfl) ?_
          simp only [Act.put, List.setIfInBounds_toArray, List.set_cons_zero, List.set_cons_succ]
          refine head_run rfl (fun w' k => by go_simp; rfl) ?_
          simp only [Act.put, List.setIfInBounds_toArray, List.set_cons_zero, List.set_cons_succ]
          refine head_skip rfl ?_
          simp only [Act.put, List.setIfInBounds_toArray, List.set_cons_zero, List.set_cons_succ]
          refine head_skip rfl ?_
          simp only [Act.put, List.setIfInBounds_toArray, List.set_cons_zero, List.set_cons_succ]
          refine head_skip rfl ?_
          simp only [Act.put, List.setIfInBounds_toArray, List.set_cons_zero, List.set_cons_succ]
          refine head_skip rfl ?_
          simp only [Act.put, List.setIfInBounds_toArray, List.set_cons_zero, List.set_cons_succ]
          refine head_skip rfl ?_
          simp only [Act.put, List.setIfInBounds_toArray, List.set_cons_zero, List.set_cons_succ]
          refine head_skip rfl ?_
          simp only [Act.put, List.setIfInBounds_toArray, List.set_cons_zero, List.set_cons_succ]
          refine head_skip rfl ?_
          simp only [Act.put, List.setIfInBounds_toArray, List.set_cons_zero, List.set_cons_succ]
          refine head_skip rfl ?_
          simp only [Act.put, List.setIfInBounds_toArray, List.set_cons_zero, List.set_cons_succ]
          refine head_skip rfl ?_
          simp only [Act.put, List.setIfInBounds_toArray, List.set_cons_zero, List.set_cons_succ]
          refine head_skip rfl ?_
          simp only [Act.put, List.setIfInBounds_toArray, List.set_cons_zero, List.set_cons_succ]
          refine head_run rfl (fun w' k => by go_simp; rfl) ?_
          simp only [Act.put, List.setIfInBounds_toArray, List.set_cons_zero, List.set_cons_succ]
          refine head_nil ?_
          exact voted_end (n := 17) (nt := 301) F3.out HR.out rfl ha (fun a w h => h) rfl rfl rfl rfl rfl rfl rfl rfl rfl rfl (by kernel_rfl) (by kernel_rfl) (by kernel_rfl) (by kernel_rfl) (by kernel_rfl) (by kernel_rfl) rfl rfl rfl (voted_any _ s ok i.round i.block oi.b false) rfl rfl rfl rfl rfl rfl rfl rfl rfl (by decide) (by decide) rfl rfl
      · have HR := Lib.hid (show stepM s i = (s, []) from by unfold stepM act mach.top; rw [if_neg h0, if_neg (by omega : ¬ (i.kind = 1)), if_pos (by omega : i.kind = 2), if_neg (fun h => sa h.2)])
        have q4 : (s.step == 1) = false := by simpa using sa
        clear sa
        clear ar
        clear a1 a2 a3 h0 hk
        have c0_3 := sb0 F3.out.s
        have c1_3 := sb1 F3.out.s
        have c34_3 := sb34 F3.out.s ok
        have c67_3 := sb67 F3.out.s ok
        have c100_3 := sb100 F3.out.s ok
        have c101_3 := sb101 F3.out.s ok
        have f0_3 := F3.out.s.frozen 0
        have f1_3 := F3.out.s.frozen 1
        have f34_3 := F3.out.s.frozen 34
        have f67_3 := F3.out.s.frozen 67
        have f100_3 := F3.out.s.frozen 100
        have f101_3 := F3.out.s.frozen 101
        have e0_3 := jb0 F3.out.x
        have e1_3 := jb1 F3.out.x
        have e34_3 := jb34 F3.out.x oi
        have e35_3 := jb35 F3.out.x oi
        rw [HKK.out] at e0_3
        go_wp2_with (first
          | (with_reducible refine wpList_load_mid rfl 31 _ rfl w.heap.size 0 rfl (s : State).cells _ F3.out.s.range0 Try.underlying31 rfl (rowR ok) ?_)
          | (with_reducible refine wpList_store_R rfl 31 _ _ rfl w2.heap.size (s : State).cells s0.cells 102 rfl rfl F3.out.r ok.len s0_ok.len row_R (State.one _) ?_; intro w9 h9 k9))
        exact ret_endR rfl rfl rfl F3.out h9 k9 ok rfl (.inl ⟨rfl, rfl⟩) HR.out
    · have HR := Lib.hid (show stepM s i = (s, []) from by unfold stepM act mach.top; rw [if_neg h0, if_neg (by omega : ¬ (i.kind = 1)), if_pos (by omega : i.kind = 2), if_neg (fun h => ar h.1)])
      have hh : hb = false := by rw [← HHB.out]; simpa using ar
      subst hh
      clear ar
      clear a1 a2 a3 h0 hk
      have c0_3 := sb0 F3.out.s
      have c1_3 := sb1 F3.out.s
      have c34_3 := sb34 F3.out.s ok
      have c67_3 := sb67 F3.out.s ok
      have c100_3 := sb100 F3.out.s ok
      have c101_3 := sb101 F3.out.s ok
      have f0_3 := F3.out.s.frozen 0
      have f1_3 := F3.out.s.frozen 1
      have f34_3 := F3.out.s.frozen 34
      have f67_3 := F3.out.s.frozen 67
      have f100_3 := F3.out.s.frozen 100
      have f101_3 := F3.out.s.frozen 101
      have e0_3 := jb0 F3.out.x
      have e1_3 := jb1 F3.out.x
      have e34_3 := jb34 F3.out.x oi
      have e35_3 := jb35 F3.out.x oi
      rw [HKK.out] at e0_3
      go_wp2_with (first
        | (with_reducible refine wpList_load_mid rfl 31 _ rfl w.heap.size 0 rfl (s : State).cells _ F3.out.s.range0 Try.underlying31 rfl (rowR ok) ?_)
        | (with_reducible refine wpList_store_R rfl 31 _ _ rfl w2.heap.size (s : State).cells s0.cells 102 rfl rfl F3.out.r ok.len s0_ok.len row_R (State.one _) ?_; intro w9 h9 k9))
      exact ret_endR rfl rfl rfl F3.out h9 k9 ok rfl (.inl ⟨rfl, rfl⟩) HR.out
end Go.Proofs.Ytdejfamcmebdiaa
