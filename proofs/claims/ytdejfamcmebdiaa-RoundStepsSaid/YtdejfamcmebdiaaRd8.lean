/- Package round: Step. (Written by wip/tools/gen12.py.) -/
import Derived.Test.YtdejfamcmebdiaaRd7
namespace Go.Proofs.Ytdejfamcmebdiaa
open Go.RowKit mach
set_option linter.unusedVariables false
set_option linter.unusedSimpArgs false
set_option maxRecDepth 20000

def stepP (s : State) (i : In) : State × List Out :=
  if i.round < 0 ∨ 1048576 < i.round ∨ s.step = 4 then (s, []) else if i.kind = 8 then decideM s i else if s.round < i.round then aheadM s i else if i.round = s.round then hereM s i else (s, [])
theorem stepP_eq (s : State) (i : In) : stepP s i = stepM s i := by
  unfold stepP stepM mach.top
  by_cases h0 : i.round < 0 ∨ 1048576 < i.round ∨ s.step = 4
  · rw [if_pos h0, if_pos h0]
  rw [if_neg h0, if_neg h0]
  have hr : i.round < 1048576 ∨ i.round = 1048576 := by omega
  have h4 : s.step ≠ 4 := by omega
  have h1 : 0 ≤ i.round := by omega
  have hle : i.round ≤ 1048576 := by omega
  clear h0
  have ev : (-1 < s.validR) = (0 ≤ s.validR) := propext ⟨fun h => by omega, fun h => by omega⟩
  have el : (s.lockedR ≤ -1) = (s.lockedR < 0) := propext ⟨fun h => by omega, fun h => by omega⟩
  have eb : (i.block = s.locked) = (s.locked = i.block) := propext ⟨fun h => h.symm, fun h => h.symm⟩
  unfold act decideM aheadM beginM hereM proposedM bodyM prevotedM agreedM precommittedM prevM precM mach.top
  simp only [ev, el, eb]
  have hc : i.kind = 1 ∨ i.kind = 2 ∨ i.kind = 3 ∨ i.kind = 4 ∨ i.kind = 5 ∨ i.kind = 6 ∨ i.kind = 7 ∨ i.kind = 8 ∨ i.kind = 9 ∨ i.kind = 10 ∨ i.kind = 11 ∨ i.kind = 12 ∨ (i.kind ≠ 1 ∧ i.kind ≠ 2 ∧ i.kind ≠ 3 ∧ i.kind ≠ 4 ∧ i.kind ≠ 5 ∧ i.kind ≠ 6 ∧ i.kind ≠ 7 ∧ i.kind ≠ 8 ∧ i.kind ≠ 9 ∧ i.kind ≠ 10 ∧ i.kind ≠ 11 ∧ i.kind ≠ 12) := by omega
  rcases hc with h | h | h | h | h | h | h | h | h | h | h | h | ⟨g1, g2, g3, g4, g5, g6, g7, g8, g9, g10, g11, g12⟩
  case inr.inr.inr.inr.inr.inr.inr.inr.inr.inr.inr.inr =>
    simp only [g1, g2, g3, g4, g5, g6, g7, g8, g9, g10, g11, g12, if_false, or_self]
    split <;> (try split) <;> rfl
  all_goals simp only [h, Int.reduceEq, if_true, if_false, or_self, or_false, false_or, true_or, or_true]
  all_goals rcases Int.lt_trichotomy s.round i.round with a | a | a
  all_goals first
    | (have a1 : ¬ i.round ≤ s.round := by omega
       have a2 : ¬ i.round = s.round := by omega
       simp only [a, a1, a2, if_true, if_false, false_and])
    | (have a1 : ¬ s.round < i.round := by omega
       have a2 : i.round = s.round := a.symm
       simp only [a1, a2, Int.lt_irrefl, Int.le_refl, if_true, if_false, true_and])
    | (have a1 : ¬ s.round < i.round := by omega
       have a2 : ¬ i.round = s.round := by omega
       have a3 : i.round ≤ s.round := by omega
       simp only [a1, a2, a3, if_true, if_false, false_and])
  all_goals try rfl
  all_goals clear hr hle ev el eb
  · by_cases hs : s.step = 1
    · rw [if_pos hs, if_pos hs]
      by_cases hc : (i.good = true ∧ i.block ≠ zero) ∧ (s.lockedR < 0 ∨ s.locked = i.block)
      · rw [if_pos hc, if_pos ⟨hc.1.1, hc.1.2, hc.2⟩]
      · rw [if_neg hc, if_neg (fun h => hc ⟨⟨h.1, h.2.1⟩, h.2.2⟩)]
    · rw [if_neg hs, if_neg hs]
  · by_cases hs : s.step = 1
    · rw [if_pos hs]
      by_cases hv : i.valid < 0 ∨ s.round ≤ i.valid
      · rw [if_pos hv, if_neg (fun h => by omega)]
      · rw [if_neg hv, if_pos (⟨hs, by omega, by omega⟩ : s.step = 1 ∧ 0 ≤ i.valid ∧ i.valid < s.round)]
        by_cases hc : (i.good = true ∧ i.block ≠ zero) ∧ (s.lockedR ≤ i.valid ∨ s.locked = i.block)
        · rw [if_pos hc, if_pos ⟨hc.1.1, hc.1.2, hc.2⟩]
        · rw [if_neg hc, if_neg (fun h => hc ⟨⟨h.1, h.2.1⟩, h.2.2⟩)]
    · rw [if_neg hs, if_neg (fun h => hs h.1)]
  · by_cases hs : s.step = 2
    · rw [if_pos hs]
      by_cases hw : s.waits < s.round
      · rw [if_pos hw, if_pos ⟨hs, hw⟩]
      · rw [if_neg hw, if_neg (fun h => hw h.2)]
    · rw [if_neg hs, if_neg (fun h => hs h.1)]
  · by_cases hc : (i.good = true ∧ i.block ≠ zero) ∧ s.validR < s.round
    · rw [if_pos hc]
      by_cases h2 : s.step = 2
      · rw [if_pos h2, if_pos ⟨.inl h2, hc.1.1, hc.1.2, hc.2⟩, if_pos h2]
      · rw [if_neg h2]
        by_cases h3 : s.step = 3
        · rw [if_pos h3, if_pos ⟨.inr h3, hc.1.1, hc.1.2, hc.2⟩, if_neg h2]
        · rw [if_neg h3, if_neg (fun h => h.1.elim h2 h3)]
    · rw [if_neg hc, if_neg (fun h => hc ⟨⟨h.2.1, h.2.2.1⟩, h.2.2.2⟩)]
  · by_cases hs : 1 ≤ s.step ∧ s.step ≤ 3
    · rw [if_pos hs]
      by_cases hw : s.waited < s.round
      · rw [if_pos hw, if_pos ⟨hs, hw⟩]
      · rw [if_neg hw, if_neg (fun h => hw h.2)]
    · rw [if_neg hs, if_neg (fun h => hs h.1)]
  · by_cases hs : 1 ≤ s.step ∧ s.step ≤ 3
    · rw [if_pos hs]
      by_cases hw : s.round < 1048576
      · rw [if_pos hw, if_pos ⟨hs, hw⟩]
      · rw [if_neg hw, if_neg (fun h => hw h.2)]
    · rw [if_neg hs, if_neg (fun h => hs h.1)]
set_option maxHeartbeats 1600000 in
theorem Step_any (w : World) (s : State) (i : In) (ok : s.Ok) (oi : i.Ok) : Calls Try.prog 10 #[.agg s.cells.toArray, .agg i.cells.toArray] w (Did 45 w (stepP s i)) := by
  by_cases a1 : i.round < 0
  · have HR := Lib.hid (show stepP s i = (s, []) from if_pos (.inl a1))
    have b1 : decide (i.round < 0) = true := decide_eq_true a1
    go_enter Try.func10, Try.ntmps10
    go_wp2_with (first
      | (with_reducible refine wpList_box_row rfl _ _ rfl (cs := s.cells.toArray) rfl ?_; intro w1 hw1)
      | (with_reducible refine wpList_box_row rfl _ _ rfl (cs := i.cells.toArray) rfl ?_; intro w2 hw2)
      | (with_reducible refine wpList_alloc_named rfl _ rfl s0.cells z_S ?_; intro w3 hw3; have F3 := Lib.hid (pro hw1.out hw2.out hw3.out); clear hw1 hw2 hw3; have c0_3 := sb0 F3.out.s; have c1_3 := sb1 F3.out.s; have c34_3 := sb34 F3.out.s ok; have c67_3 := sb67 F3.out.s ok; have c100_3 := sb100 F3.out.s ok; have c101_3 := sb101 F3.out.s ok; have f0_3 := F3.out.s.frozen 0; have f1_3 := F3.out.s.frozen 1; have f34_3 := F3.out.s.frozen 34; have f67_3 := F3.out.s.frozen 67; have f100_3 := F3.out.s.frozen 100; have f101_3 := F3.out.s.frozen 101; have e0_3 := jb0 F3.out.x; have e1_3 := jb1 F3.out.x; have e34_3 := jb34 F3.out.x oi; have e35_3 := jb35 F3.out.x oi)
      | (with_reducible refine wpList_load_mid rfl 25 _ rfl w.heap.size 0 rfl (s).cells _ F3.out.s.range0 Try.underlying25 rfl (rowS ok) ?_)
      | (with_reducible refine wpList_store_S rfl _ _ rfl w2.heap.size (s) s0 rfl rfl F3.out.r ok s0_ok ?_; intro w9 h9 k9))
    exact ret_end rfl rfl rfl F3.out h9 k9 ok rfl (.inl ⟨rfl, rfl⟩) HR.out
  have b1 : decide (i.round < 0) = false := decide_eq_false a1
  by_cases a2 : 1048576 < i.round
  · have HR := Lib.hid (show stepP s i = (s, []) from if_pos (.inr (.inl a2)))
    have b2 : decide (1048576 < i.round) = true := decide_eq_true a2
    go_enter Try.func10, Try.ntmps10
    go_wp2_with (first
      | (with_reducible refine wpList_box_row rfl _ _ rfl (cs := s.cells.toArray) rfl ?_; intro w1 hw1)
      | (with_reducible refine wpList_box_row rfl _ _ rfl (cs := i.cells.toArray) rfl ?_; intro w2 hw2)
      | (with_reducible refine wpList_alloc_named rfl _ rfl s0.cells z_S ?_; intro w3 hw3; have F3 := Lib.hid (pro hw1.out hw2.out hw3.out); clear hw1 hw2 hw3; have c0_3 := sb0 F3.out.s; have c1_3 := sb1 F3.out.s; have c34_3 := sb34 F3.out.s ok; have c67_3 := sb67 F3.out.s ok; have c100_3 := sb100 F3.out.s ok; have c101_3 := sb101 F3.out.s ok; have f0_3 := F3.out.s.frozen 0; have f1_3 := F3.out.s.frozen 1; have f34_3 := F3.out.s.frozen 34; have f67_3 := F3.out.s.frozen 67; have f100_3 := F3.out.s.frozen 100; have f101_3 := F3.out.s.frozen 101; have e0_3 := jb0 F3.out.x; have e1_3 := jb1 F3.out.x; have e34_3 := jb34 F3.out.x oi; have e35_3 := jb35 F3.out.x oi)
      | (with_reducible refine wpList_load_mid rfl 25 _ rfl w.heap.size 0 rfl (s).cells _ F3.out.s.range0 Try.underlying25 rfl (rowS ok) ?_)
      | (with_reducible refine wpList_store_S rfl _ _ rfl w2.heap.size (s) s0 rfl rfl F3.out.r ok s0_ok ?_; intro w9 h9 k9))
    exact ret_end rfl rfl rfl F3.out h9 k9 ok rfl (.inl ⟨rfl, rfl⟩) HR.out
  have b2 : decide (1048576 < i.round) = false := decide_eq_false a2
  by_cases a3 : s.step = 4
  · have HR := Lib.hid (show stepP s i = (s, []) from if_pos (.inr (.inr a3)))
    have HS := Lib.hid a3
    clear a3
    go_enter Try.func10, Try.ntmps10
    go_wp2_with (first
      | (with_reducible refine wpList_box_row rfl _ _ rfl (cs := s.cells.toArray) rfl ?_; intro w1 hw1)
      | (with_reducible refine wpList_box_row rfl _ _ rfl (cs := i.cells.toArray) rfl ?_; intro w2 hw2)
      | (with_reducible refine wpList_alloc_named rfl _ rfl s0.cells z_S ?_; intro w3 hw3; have F3 := Lib.hid (pro hw1.out hw2.out hw3.out); clear hw1 hw2 hw3; have c0_3 := sb0 F3.out.s; have c1_3 := sb1 F3.out.s; have c34_3 := sb34 F3.out.s ok; have c67_3 := sb67 F3.out.s ok; have c100_3 := sb100 F3.out.s ok; have c101_3 := sb101 F3.out.s ok; have f0_3 := F3.out.s.frozen 0; have f1_3 := F3.out.s.frozen 1; have f34_3 := F3.out.s.frozen 34; have f67_3 := F3.out.s.frozen 67; have f100_3 := F3.out.s.frozen 100; have f101_3 := F3.out.s.frozen 101; have e0_3 := jb0 F3.out.x; have e1_3 := jb1 F3.out.x; have e34_3 := jb34 F3.out.x oi; have e35_3 := jb35 F3.out.x oi; rw [HS.out] at c1_3)
      | (with_reducible refine wpList_load_mid rfl 25 _ rfl w.heap.size 0 rfl (s).cells _ F3.out.s.range0 Try.underlying25 rfl (rowS ok) ?_)
      | (with_reducible refine wpList_store_S rfl _ _ rfl w2.heap.size (s) s0 rfl rfl F3.out.r ok s0_ok ?_; intro w9 h9 k9))
    exact ret_end rfl rfl rfl F3.out h9 k9 ok rfl (.inl ⟨rfl, rfl⟩) HR.out
  have b3 : (s.step == 4) = false := by simpa using a3
  have h0 : ¬ (i.round < 0 ∨ 1048576 < i.round ∨ s.step = 4) := by omega
  by_cases n8 : i.kind = 8
  · have HR0 : stepP s i = decideM s i := by unfold stepP; rw [if_neg h0, if_pos n8]
    have HC := Lib.hid (fun w' => decide_any w' s i ok oi)
    generalize decideM s i = r at HR0 HC
    obtain ⟨s1, l1⟩ := r
    have HR := Lib.hid HR0
    clear HR0
    have HK := Lib.hid n8
    clear n8 h0 a1 a2 a3
    go_enter Try.func10, Try.ntmps10
    go_wp2_with (first
      | (with_reducible refine wpList_box_row rfl _ _ rfl (cs := s.cells.toArray) rfl ?_; intro w1 hw1)
      | (with_reducible refine wpList_box_row rfl _ _ rfl (cs := i.cells.toArray) rfl ?_; intro w2 hw2)
      | (with_reducible refine wpList_alloc_named rfl _ rfl s0.cells z_S ?_; intro w3 hw3; have F3 := Lib.hid (pro hw1.out hw2.out hw3.out); clear hw1 hw2 hw3; have c0_3 := sb0 F3.out.s; have c1_3 := sb1 F3.out.s; have c34_3 := sb34 F3.out.s ok; have c67_3 := sb67 F3.out.s ok; have c100_3 := sb100 F3.out.s ok; have c101_3 := sb101 F3.out.s ok; have f0_3 := F3.out.s.frozen 0; have f1_3 := F3.out.s.frozen 1; have f34_3 := F3.out.s.frozen 34; have f67_3 := F3.out.s.frozen 67; have f100_3 := F3.out.s.frozen 100; have f101_3 := F3.out.s.frozen 101; have e0_3 := jb0 F3.out.x; have e1_3 := jb1 F3.out.x; have e34_3 := jb34 F3.out.x oi; have e35_3 := jb35 F3.out.x oi; rw [HK.out] at e0_3)
      | (with_reducible refine wpList_load_mid rfl 25 _ rfl w.heap.size 0 rfl (s).cells _ F3.out.s.range0 Try.underlying25 rfl (rowS ok) ?_)
      | (with_reducible refine wpList_load_mid rfl 27 _ rfl w1.heap.size 0 rfl i.cells _ F3.out.x.range0 Try.underlying27 rfl (rowI oi) ?_)
      | (go_at_call 17; go_loud (refine (HC.out _).mono ?_; rintro e w4 ⟨k4, okC, v, rfl, oC⟩; have F4 := Lib.hid (F3.out.chg k4); have OC := Lib.hid oC; clear oC))
      | (with_reducible refine wpList_store_S rfl _ _ rfl w2.heap.size s1 s0 rfl rfl F4.out.r okC s0_ok ?_; intro w9 h9 k9))
    exact ret_end rfl rfl rfl F4.out h9 k9 okC rfl (outs_ho OC.out F3.out.r.lt) HR.out
  have nk8 : (i.kind == 8) = false := by simpa using n8
  by_cases a4 : s.round < i.round
  · have HR0 : stepP s i = aheadM s i := by unfold stepP; rw [if_neg h0, if_neg n8, if_pos a4]
    have HC := Lib.hid (fun w' => ahead_any w' s i ok oi)
    generalize aheadM s i = r at HR0 HC
    obtain ⟨s1, l1⟩ := r
    have HR := Lib.hid HR0
    clear HR0
    have b4 : decide (s.round < i.round) = true := decide_eq_true a4
    clear n8 h0 a1 a2 a3
    go_enter Try.func10, Try.ntmps10
    go_wp2_with (first
      | (with_reducible refine wpList_box_row rfl _ _ rfl (cs := s.cells.toArray) rfl ?_; intro w1 hw1)
      | (with_reducible refine wpList_box_row rfl _ _ rfl (cs := i.cells.toArray) rfl ?_; intro w2 hw2)
      | (with_reducible refine wpList_alloc_named rfl _ rfl s0.cells z_S ?_; intro w3 hw3; have F3 := Lib.hid (pro hw1.out hw2.out hw3.out); clear hw1 hw2 hw3; have c0_3 := sb0 F3.out.s; have c1_3 := sb1 F3.out.s; have c34_3 := sb34 F3.out.s ok; have c67_3 := sb67 F3.out.s ok; have c100_3 := sb100 F3.out.s ok; have c101_3 := sb101 F3.out.s ok; have f0_3 := F3.out.s.frozen 0; have f1_3 := F3.out.s.frozen 1; have f34_3 := F3.out.s.frozen 34; have f67_3 := F3.out.s.frozen 67; have f100_3 := F3.out.s.frozen 100; have f101_3 := F3.out.s.frozen 101; have e0_3 := jb0 F3.out.x; have e1_3 := jb1 F3.out.x; have e34_3 := jb34 F3.out.x oi; have e35_3 := jb35 F3.out.x oi)
      | (with_reducible refine wpList_load_mid rfl 25 _ rfl w.heap.size 0 rfl (s).cells _ F3.out.s.range0 Try.underlying25 rfl (rowS ok) ?_)
      | (with_reducible refine wpList_load_mid rfl 27 _ rfl w1.heap.size 0 rfl i.cells _ F3.out.x.range0 Try.underlying27 rfl (rowI oi) ?_)
      | (go_at_call 18; go_loud (refine (HC.out _).mono ?_; rintro e w4 ⟨k4, okC, v, rfl, oC⟩; have F4 := Lib.hid (F3.out.chg k4); have OC := Lib.hid oC; clear oC))
      | (with_reducible refine wpList_store_S rfl _ _ rfl w2.heap.size s1 s0 rfl rfl F4.out.r okC s0_ok ?_; intro w9 h9 k9))
    exact ret_end rfl rfl rfl F4.out h9 k9 okC rfl (outs_ho OC.out F3.out.r.lt) HR.out
  have b4 : decide (s.round < i.round) = false := decide_eq_false a4
  by_cases a5 : i.round = s.round
  · have HR0 : stepP s i = hereM s i := by unfold stepP; rw [if_neg h0, if_neg n8, if_neg a4, if_pos a5]
    have HC := Lib.hid (fun w' => here_any w' s i ok oi)
    generalize hereM s i = r at HR0 HC
    obtain ⟨s1, l1⟩ := r
    have HR := Lib.hid HR0
    clear HR0
    have b5 : (i.round == s.round) = true := by simpa using a5
    clear n8 h0 a1 a2 a3 a5
    go_enter Try.func10, Try.ntmps10
    go_wp2_with (first
      | (with_reducible refine wpList_box_row rfl _ _ rfl (cs := s.cells.toArray) rfl ?_; intro w1 hw1)
      | (with_reducible refine wpList_box_row rfl _ _ rfl (cs := i.cells.toArray) rfl ?_; intro w2 hw2)
      | (with_reducible refine wpList_alloc_named rfl _ rfl s0.cells z_S ?_; intro w3 hw3; have F3 := Lib.hid (pro hw1.out hw2.out hw3.out); clear hw1 hw2 hw3; have c0_3 := sb0 F3.out.s; have c1_3 := sb1 F3.out.s; have c34_3 := sb34 F3.out.s ok; have c67_3 := sb67 F3.out.s ok; have c100_3 := sb100 F3.out.s ok; have c101_3 := sb101 F3.out.s ok; have f0_3 := F3.out.s.frozen 0; have f1_3 := F3.out.s.frozen 1; have f34_3 := F3.out.s.frozen 34; have f67_3 := F3.out.s.frozen 67; have f100_3 := F3.out.s.frozen 100; have f101_3 := F3.out.s.frozen 101; have e0_3 := jb0 F3.out.x; have e1_3 := jb1 F3.out.x; have e34_3 := jb34 F3.out.x oi; have e35_3 := jb35 F3.out.x oi)
      | (with_reducible refine wpList_load_mid rfl 25 _ rfl w.heap.size 0 rfl (s).cells _ F3.out.s.range0 Try.underlying25 rfl (rowS ok) ?_)
      | (with_reducible refine wpList_load_mid rfl 27 _ rfl w1.heap.size 0 rfl i.cells _ F3.out.x.range0 Try.underlying27 rfl (rowI oi) ?_)
      | (go_at_call 19; go_loud (refine (HC.out _).mono ?_; rintro e w4 ⟨k4, okC, v, rfl, oC⟩; have F4 := Lib.hid (F3.out.chg k4); have OC := Lib.hid oC; clear oC))
      | (with_reducible refine wpList_store_S rfl _ _ rfl w2.heap.size s1 s0 rfl rfl F4.out.r okC s0_ok ?_; intro w9 h9 k9))
    exact ret_end rfl rfl rfl F4.out h9 k9 okC rfl (outs_ho OC.out F3.out.r.lt) HR.out
  have HR := Lib.hid (show stepP s i = (s, []) from by unfold stepP; rw [if_neg h0, if_neg n8, if_neg a4, if_neg a5])
  have b5 : (i.round == s.round) = false := by simpa using a5
  clear n8 h0 a1 a2 a3 a5
  go_enter Try.func10, Try.ntmps10
  go_wp2_with (first
    | (with_reducible refine wpList_box_row rfl _ _ rfl (cs := s.cells.toArray) rfl ?_; intro w1 hw1)
    | (with_reducible refine wpList_box_row rfl _ _ rfl (cs := i.cells.toArray) rfl ?_; intro w2 hw2)
    | (with_reducible refine wpList_alloc_named rfl _ rfl s0.cells z_S ?_; intro w3 hw3; have F3 := Lib.hid (pro hw1.out hw2.out hw3.out); clear hw1 hw2 hw3; have c0_3 := sb0 F3.out.s; have c1_3 := sb1 F3.out.s; have c34_3 := sb34 F3.out.s ok; have c67_3 := sb67 F3.out.s ok; have c100_3 := sb100 F3.out.s ok; have c101_3 := sb101 F3.out.s ok; have f0_3 := F3.out.s.frozen 0; have f1_3 := F3.out.s.frozen 1; have f34_3 := F3.out.s.frozen 34; have f67_3 := F3.out.s.frozen 67; have f100_3 := F3.out.s.frozen 100; have f101_3 := F3.out.s.frozen 101; have e0_3 := jb0 F3.out.x; have e1_3 := jb1 F3.out.x; have e34_3 := jb34 F3.out.x oi; have e35_3 := jb35 F3.out.x oi)
    | (with_reducible refine wpList_load_mid rfl 25 _ rfl w.heap.size 0 rfl (s).cells _ F3.out.s.range0 Try.underlying25 rfl (rowS ok) ?_)
    | (with_reducible refine wpList_store_S rfl _ _ rfl w2.heap.size (s) s0 rfl rfl F3.out.r ok s0_ok ?_; intro w9 h9 k9))
  exact ret_end rfl rfl rfl F3.out h9 k9 ok rfl (.inl ⟨rfl, rfl⟩) HR.out
theorem StepM_any (w : World) (s : State) (i : In) (ok : s.Ok) (oi : i.Ok) : Calls Try.prog 10 #[.agg s.cells.toArray, .agg i.cells.toArray] w (Did 45 w (stepM s i)) := by
  rw [← stepP_eq]
  exact Step_any w s i ok oi
end Go.Proofs.Ytdejfamcmebdiaa
