/- Package round: here. (Written by wip/tools/gen12.py.) -/
import Derived.Test.YtdejfamcmebdiaaRd6
namespace Go.Proofs.Ytdejfamcmebdiaa
open Go.RowKit mach
set_option linter.unusedVariables false
set_option linter.unusedSimpArgs false
set_option maxRecDepth 20000

def hereM (s : State) (i : In) : State × List Out :=
  if i.kind = 2 ∨ i.kind = 3 ∨ i.kind = 10 then (if s.step = 1 then proposedM s i else (s, []))
  else if i.kind = 4 ∨ i.kind = 6 ∨ i.kind = 11 then (if s.step = 2 then prevotedM s i else (s, []))
  else if i.kind = 5 then (if (i.good = true ∧ i.block ≠ zero) ∧ s.validR < i.round then agreedM s i else (s, []))
  else if i.kind = 7 ∨ i.kind = 12 then (if 1 ≤ s.step ∧ s.step ≤ 3 then precommittedM s i else (s, []))
  else (s, [])
set_option maxHeartbeats 1600000 in
theorem here_any (w : World) (s : State) (i : In) (ok : s.Ok) (oi : i.Ok) : Calls Try.prog 19 #[.agg s.cells.toArray, .agg i.cells.toArray] w (Did 45 w (hereM s i)) := by
  have HM := Lib.hid (mayBe_any · i oi)
  by_cases n2 : i.kind = 2
  · have nk := n2
    clear n2
    by_cases hs : s.step = 1
    · have HR0 : hereM s i = proposedM s i := by unfold hereM; rw [if_pos (Or.inl nk), if_pos hs]
      have HC := Lib.hid (fun w' => proposed_any w' s i ok oi)
      generalize proposedM s i = r at HR0 HC
      obtain ⟨s1, l1⟩ := r
      have HR := Lib.hid HR0
      clear HR0
      have HK := Lib.hid nk
      have HS := Lib.hid hs
      clear nk hs HM
      go_enter Try.func19, Try.ntmps19
      go_wp2_with (first
        | (with_reducible refine wpList_box_row rfl _ _ rfl (cs := s.cells.toArray) rfl ?_; intro w1 hw1)
        | (with_reducible refine wpList_box_row rfl _ _ rfl (cs := i.cells.toArray) rfl ?_; intro w2 hw2)
        | (with_reducible refine wpList_alloc_named rfl _ rfl s0.cells z_S ?_; intro w3 hw3; have F3 := Lib.hid (pro hw1.out hw2.out hw3.out); clear hw1 hw2 hw3; have c0_3 := sb0 F3.out.s; have c1_3 := sb1 F3.out.s; have c34_3 := sb34 F3.out.s ok; have c67_3 := sb67 F3.out.s ok; have c100_3 := sb100 F3.out.s ok; have c101_3 := sb101 F3.out.s ok; have f0_3 := F3.out.s.frozen 0; have f1_3 := F3.out.s.frozen 1; have f34_3 := F3.out.s.frozen 34; have f67_3 := F3.out.s.frozen 67; have f100_3 := F3.out.s.frozen 100; have f101_3 := F3.out.s.frozen 101; have e0_3 := jb0 F3.out.x; have e1_3 := jb1 F3.out.x; have e34_3 := jb34 F3.out.x oi; have e35_3 := jb35 F3.out.x oi; rw [HK.out] at e0_3; rw [HS.out] at c1_3)
        | (with_reducible refine wpList_load_mid rfl 25 _ rfl w.heap.size 0 rfl (s).cells _ F3.out.s.range0 Try.underlying25 rfl (rowS ok) ?_)
        | (with_reducible refine wpList_load_mid rfl 27 _ rfl w1.heap.size 0 rfl i.cells _ F3.out.x.range0 Try.underlying27 rfl (rowI oi) ?_)
        | (go_at_call 25; go_loud (refine (HC.out _).mono ?_; rintro e w4 ⟨k4, okC, v, rfl, oC⟩; have F4 := Lib.hid (F3.out.chg k4); have OC := Lib.hid oC; clear oC))
        | (with_reducible refine wpList_store_S rfl _ _ rfl w2.heap.size s1 s0 rfl rfl F4.out.r okC s0_ok ?_; intro w9 h9 k9))
      exact ret_end rfl rfl rfl F4.out h9 k9 okC rfl (outs_ho OC.out F3.out.r.lt) HR.out
    · have HR := Lib.hid (show hereM s i = (s, []) from by unfold hereM; rw [if_pos (Or.inl nk), if_neg hs])
      have HK := Lib.hid nk
      have hs2 : (s.step == 1) = false := by simpa using hs
      clear nk hs HM
      go_enter Try.func19, Try.ntmps19
      go_wp2_with (first
        | (with_reducible refine wpList_box_row rfl _ _ rfl (cs := s.cells.toArray) rfl ?_; intro w1 hw1)
        | (with_reducible refine wpList_box_row rfl _ _ rfl (cs := i.cells.toArray) rfl ?_; intro w2 hw2)
        | (with_reducible refine wpList_alloc_named rfl _ rfl s0.cells z_S ?_; intro w3 hw3; have F3 := Lib.hid (pro hw1.out hw2.out hw3.out); clear hw1 hw2 hw3; have c0_3 := sb0 F3.out.s; have c1_3 := sb1 F3.out.s; have c34_3 := sb34 F3.out.s ok; have c67_3 := sb67 F3.out.s ok; have c100_3 := sb100 F3.out.s ok; have c101_3 := sb101 F3.out.s ok; have f0_3 := F3.out.s.frozen 0; have f1_3 := F3.out.s.frozen 1; have f34_3 := F3.out.s.frozen 34; have f67_3 := F3.out.s.frozen 67; have f100_3 := F3.out.s.frozen 100; have f101_3 := F3.out.s.frozen 101; have e0_3 := jb0 F3.out.x; have e1_3 := jb1 F3.out.x; have e34_3 := jb34 F3.out.x oi; have e35_3 := jb35 F3.out.x oi; rw [HK.out] at e0_3)
        | (with_reducible refine wpList_load_mid rfl 25 _ rfl w.heap.size 0 rfl (s).cells _ F3.out.s.range0 Try.underlying25 rfl (rowS ok) ?_)
        | (with_reducible refine wpList_store_S rfl _ _ rfl w2.heap.size (s) s0 rfl rfl F3.out.r ok s0_ok ?_; intro w9 h9 k9))
      exact ret_end rfl rfl rfl F3.out h9 k9 ok rfl (.inl ⟨rfl, rfl⟩) HR.out
  by_cases n3 : i.kind = 3
  · have nk := n3
    clear n2 n3
    by_cases hs : s.step = 1
    · have HR0 : hereM s i = proposedM s i := by unfold hereM; rw [if_pos (Or.inr (Or.inl nk)), if_pos hs]
      have HC := Lib.hid (fun w' => proposed_any w' s i ok oi)
      generalize proposedM s i = r at HR0 HC
      obtain ⟨s1, l1⟩ := r
      have HR := Lib.hid HR0
      clear HR0
      have HK := Lib.hid nk
      have HS := Lib.hid hs
      clear nk hs HM
      go_enter Try.func19, Try.ntmps19
      go_wp2_with (first
        | (with_reducible refine wpList_box_row rfl _ _ rfl (cs := s.cells.toArray) rfl ?_; intro w1 hw1)
        | (with_reducible refine wpList_box_row rfl _ _ rfl (cs := i.cells.toArray) rfl ?_; intro w2 hw2)
        | (with_reducible refine wpList_alloc_named rfl _ rfl s0.cells z_S ?_; intro w3 hw3; have F3 := Lib.hid (pro hw1.out hw2.out hw3.out); clear hw1 hw2 hw3; have c0_3 := sb0 F3.out.s; have c1_3 := sb1 F3.out.s; have c34_3 := sb34 F3.out.s ok; have c67_3 := sb67 F3.out.s ok; have c100_3 := sb100 F3.out.s ok; have c101_3 := sb101 F3.out.s ok; have f0_3 := F3.out.s.frozen 0; have f1_3 := F3.out.s.frozen 1; have f34_3 := F3.out.s.frozen 34; have f67_3 := F3.out.s.frozen 67; have f100_3 := F3.out.s.frozen 100; have f101_3 := F3.out.s.frozen 101; have e0_3 := jb0 F3.out.x; have e1_3 := jb1 F3.out.x; have e34_3 := jb34 F3.out.x oi; have e35_3 := jb35 F3.out.x oi; rw [HK.out] at e0_3; rw [HS.out] at c1_3)
        | (with_reducible refine wpList_load_mid rfl 25 _ rfl w.heap.size 0 rfl (s).cells _ F3.out.s.range0 Try.underlying25 rfl (rowS ok) ?_)
        | (with_reducible refine wpList_load_mid rfl 27 _ rfl w1.heap.size 0 rfl i.cells _ F3.out.x.range0 Try.underlying27 rfl (rowI oi) ?_)
        | (go_at_call 25; go_loud (refine (HC.out _).mono ?_; rintro e w4 ⟨k4, okC, v, rfl, oC⟩; have F4 := Lib.hid (F3.out.chg k4); have OC := Lib.hid oC; clear oC))
        | (with_reducible refine wpList_store_S rfl _ _ rfl w2.heap.size s1 s0 rfl rfl F4.out.r okC s0_ok ?_; intro w9 h9 k9))
      exact ret_end rfl rfl rfl F4.out h9 k9 okC rfl (outs_ho OC.out F3.out.r.lt) HR.out
    · have HR := Lib.hid (show hereM s i = (s, []) from by unfold hereM; rw [if_pos (Or.inr (Or.inl nk)), if_neg hs])
      have HK := Lib.hid nk
      have hs2 : (s.step == 1) = false := by simpa using hs
      clear nk hs HM
      go_enter Try.func19, Try.ntmps19
      go_wp2_with (first
        | (with_reducible refine wpList_box_row rfl _ _ rfl (cs := s.cells.toArray) rfl ?_; intro w1 hw1)
        | (with_reducible refine wpList_box_row rfl _ _ rfl (cs := i.cells.toArray) rfl ?_; intro w2 hw2)
        | (with_reducible refine wpList_alloc_named rfl _ rfl s0.cells z_S ?_; intro w3 hw3; have F3 := Lib.hid (pro hw1.out hw2.out hw3.out); clear hw1 hw2 hw3; have c0_3 := sb0 F3.out.s; have c1_3 := sb1 F3.out.s; have c34_3 := sb34 F3.out.s ok; have c67_3 := sb67 F3.out.s ok; have c100_3 := sb100 F3.out.s ok; have c101_3 := sb101 F3.out.s ok; have f0_3 := F3.out.s.frozen 0; have f1_3 := F3.out.s.frozen 1; have f34_3 := F3.out.s.frozen 34; have f67_3 := F3.out.s.frozen 67; have f100_3 := F3.out.s.frozen 100; have f101_3 := F3.out.s.frozen 101; have e0_3 := jb0 F3.out.x; have e1_3 := jb1 F3.out.x; have e34_3 := jb34 F3.out.x oi; have e35_3 := jb35 F3.out.x oi; rw [HK.out] at e0_3)
        | (with_reducible refine wpList_load_mid rfl 25 _ rfl w.heap.size 0 rfl (s).cells _ F3.out.s.range0 Try.underlying25 rfl (rowS ok) ?_)
        | (with_reducible refine wpList_store_S rfl _ _ rfl w2.heap.size (s) s0 rfl rfl F3.out.r ok s0_ok ?_; intro w9 h9 k9))
      exact ret_end rfl rfl rfl F3.out h9 k9 ok rfl (.inl ⟨rfl, rfl⟩) HR.out
  by_cases n10 : i.kind = 10
  · have nk := n10
    clear n2 n3 n10
    by_cases hs : s.step = 1
    · have HR0 : hereM s i = proposedM s i := by unfold hereM; rw [if_pos (Or.inr (Or.inr nk)), if_pos hs]
      have HC := Lib.hid (fun w' => proposed_any w' s i ok oi)
      generalize proposedM s i = r at HR0 HC
      obtain ⟨s1, l1⟩ := r
      have HR := Lib.hid HR0
      clear HR0
      have HK := Lib.hid nk
      have HS := Lib.hid hs
      clear nk hs HM
      go_enter Try.func19, Try.ntmps19
      go_wp2_with (first
        | (with_reducible refine wpList_box_row rfl _ _ rfl (cs := s.cells.toArray) rfl ?_; intro w1 hw1)
        | (with_reducible refine wpList_box_row rfl _ _ rfl (cs := i.cells.toArray) rfl ?_; intro w2 hw2)
        | (with_reducible refine wpList_alloc_named rfl _ rfl s0.cells z_S ?_; intro w3 hw3; have F3 := Lib.hid (pro hw1.out hw2.out hw3.out); clear hw1 hw2 hw3; have c0_3 := sb0 F3.out.s; have c1_3 := sb1 F3.out.s; have c34_3 := sb34 F3.out.s ok; have c67_3 := sb67 F3.out.s ok; have c100_3 := sb100 F3.out.s ok; have c101_3 := sb101 F3.out.s ok; have f0_3 := F3.out.s.frozen 0; have f1_3 := F3.out.s.frozen 1; have f34_3 := F3.out.s.frozen 34; have f67_3 := F3.out.s.frozen 67; have f100_3 := F3.out.s.frozen 100; have f101_3 := F3.out.s.frozen 101; have e0_3 := jb0 F3.out.x; have e1_3 := jb1 F3.out.x; have e34_3 := jb34 F3.out.x oi; have e35_3 := jb35 F3.out.x oi; rw [HK.out] at e0_3; rw [HS.out] at c1_3)
        | (with_reducible refine wpList_load_mid rfl 25 _ rfl w.heap.size 0 rfl (s).cells _ F3.out.s.range0 Try.underlying25 rfl (rowS ok) ?_)
        | (with_reducible refine wpList_load_mid rfl 27 _ rfl w1.heap.size 0 rfl i.cells _ F3.out.x.range0 Try.underlying27 rfl (rowI oi) ?_)
        | (go_at_call 25; go_loud (refine (HC.out _).mono ?_; rintro e w4 ⟨k4, okC, v, rfl, oC⟩; have F4 := Lib.hid (F3.out.chg k4); have OC := Lib.hid oC; clear oC))
        | (with_reducible refine wpList_store_S rfl _ _ rfl w2.heap.size s1 s0 rfl rfl F4.out.r okC s0_ok ?_; intro w9 h9 k9))
      exact ret_end rfl rfl rfl F4.out h9 k9 okC rfl (outs_ho OC.out F3.out.r.lt) HR.out
    · have HR := Lib.hid (show hereM s i = (s, []) from by unfold hereM; rw [if_pos (Or.inr (Or.inr nk)), if_neg hs])
      have HK := Lib.hid nk
      have hs2 : (s.step == 1) = false := by simpa using hs
      clear nk hs HM
      go_enter Try.func19, Try.ntmps19
      go_wp2_with (first
        | (with_reducible refine wpList_box_row rfl _ _ rfl (cs := s.cells.toArray) rfl ?_; intro w1 hw1)
        | (with_reducible refine wpList_box_row rfl _ _ rfl (cs := i.cells.toArray) rfl ?_; intro w2 hw2)
        | (with_reducible refine wpList_alloc_named rfl _ rfl s0.cells z_S ?_; intro w3 hw3; have F3 := Lib.hid (pro hw1.out hw2.out hw3.out); clear hw1 hw2 hw3; have c0_3 := sb0 F3.out.s; have c1_3 := sb1 F3.out.s; have c34_3 := sb34 F3.out.s ok; have c67_3 := sb67 F3.out.s ok; have c100_3 := sb100 F3.out.s ok; have c101_3 := sb101 F3.out.s ok; have f0_3 := F3.out.s.frozen 0; have f1_3 := F3.out.s.frozen 1; have f34_3 := F3.out.s.frozen 34; have f67_3 := F3.out.s.frozen 67; have f100_3 := F3.out.s.frozen 100; have f101_3 := F3.out.s.frozen 101; have e0_3 := jb0 F3.out.x; have e1_3 := jb1 F3.out.x; have e34_3 := jb34 F3.out.x oi; have e35_3 := jb35 F3.out.x oi; rw [HK.out] at e0_3)
        | (with_reducible refine wpList_load_mid rfl 25 _ rfl w.heap.size 0 rfl (s).cells _ F3.out.s.range0 Try.underlying25 rfl (rowS ok) ?_)
        | (with_reducible refine wpList_store_S rfl _ _ rfl w2.heap.size (s) s0 rfl rfl F3.out.r ok s0_ok ?_; intro w9 h9 k9))
      exact ret_end rfl rfl rfl F3.out h9 k9 ok rfl (.inl ⟨rfl, rfl⟩) HR.out
  by_cases n4 : i.kind = 4
  · have nk := n4
    clear n2 n3 n10 n4
    by_cases hs : s.step = 2
    · have HR0 : hereM s i = prevotedM s i := by unfold hereM; rw [if_neg (by omega : ¬ (i.kind = 2 ∨ i.kind = 3 ∨ i.kind = 10)), if_pos (by omega : i.kind = 4 ∨ i.kind = 6 ∨ i.kind = 11), if_pos hs]
      have HC := Lib.hid (fun w' => prevoted_any w' s i ok oi)
      generalize prevotedM s i = r at HR0 HC
      obtain ⟨s1, l1⟩ := r
      have HR := Lib.hid HR0
      clear HR0
      have HK := Lib.hid nk
      have HS := Lib.hid hs
      clear nk hs HM
      go_enter Try.func19, Try.ntmps19
      go_wp2_with (first
        | (with_reducible refine wpList_box_row rfl _ _ rfl (cs := s.cells.toArray) rfl ?_; intro w1 hw1)
        | (with_reducible refine wpList_box_row rfl _ _ rfl (cs := i.cells.toArray) rfl ?_; intro w2 hw2)
        | (with_reducible refine wpList_alloc_named rfl _ rfl s0.cells z_S ?_; intro w3 hw3; have F3 := Lib.hid (pro hw1.out hw2.out hw3.out); clear hw1 hw2 hw3; have c0_3 := sb0 F3.out.s; have c1_3 := sb1 F3.out.s; have c34_3 := sb34 F3.out.s ok; have c67_3 := sb67 F3.out.s ok; have c100_3 := sb100 F3.out.s ok; have c101_3 := sb101 F3.out.s ok; have f0_3 := F3.out.s.frozen 0; have f1_3 := F3.out.s.frozen 1; have f34_3 := F3.out.s.frozen 34; have f67_3 := F3.out.s.frozen 67; have f100_3 := F3.out.s.frozen 100; have f101_3 := F3.out.s.frozen 101; have e0_3 := jb0 F3.out.x; have e1_3 := jb1 F3.out.x; have e34_3 := jb34 F3.out.x oi; have e35_3 := jb35 F3.out.x oi; rw [HK.out] at e0_3; rw [HS.out] at c1_3)
        | (with_reducible refine wpList_load_mid rfl 25 _ rfl w.heap.size 0 rfl (s).cells _ F3.out.s.range0 Try.underlying25 rfl (rowS ok) ?_)
        | (with_reducible refine wpList_load_mid rfl 27 _ rfl w1.heap.size 0 rfl i.cells _ F3.out.x.range0 Try.underlying27 rfl (rowI oi) ?_)
        | (go_at_call 26; go_loud (refine (HC.out _).mono ?_; rintro e w4 ⟨k4, okC, v, rfl, oC⟩; have F4 := Lib.hid (F3.out.chg k4); have OC := Lib.hid oC; clear oC))
        | (with_reducible refine wpList_store_S rfl _ _ rfl w2.heap.size s1 s0 rfl rfl F4.out.r okC s0_ok ?_; intro w9 h9 k9))
      exact ret_end rfl rfl rfl F4.out h9 k9 okC rfl (outs_ho OC.out F3.out.r.lt) HR.out
    · have HR := Lib.hid (show hereM s i = (s, []) from by unfold hereM; rw [if_neg (by omega : ¬ (i.kind = 2 ∨ i.kind = 3 ∨ i.kind = 10)), if_pos (by omega : i.kind = 4 ∨ i.kind = 6 ∨ i.kind = 11), if_neg hs])
      have HK := Lib.hid nk
      have hs2 : (s.step == 2) = false := by simpa using hs
      clear nk hs HM
      go_enter Try.func19, Try.ntmps19
      go_wp2_with (first
        | (with_reducible refine wpList_box_row rfl _ _ rfl (cs := s.cells.toArray) rfl ?_; intro w1 hw1)
        | (with_reducible refine wpList_box_row rfl _ _ rfl (cs := i.cells.toArray) rfl ?_; intro w2 hw2)
        | (with_reducible refine wpList_alloc_named rfl _ rfl s0.cells z_S ?_; intro w3 hw3; have F3 := Lib.hid (pro hw1.out hw2.out hw3.out); clear hw1 hw2 hw3; have c0_3 := sb0 F3.out.s; have c1_3 := sb1 F3.out.s; have c34_3 := sb34 F3.out.s ok; have c67_3 := sb67 F3.out.s ok; have c100_3 := sb100 F3.out.s ok; have c101_3 := sb101 F3.out.s ok; have f0_3 := F3.out.s.frozen 0; have f1_3 := F3.out.s.frozen 1; have f34_3 := F3.out.s.frozen 34; have f67_3 := F3.out.s.frozen 67; have f100_3 := F3.out.s.frozen 100; have f101_3 := F3.out.s.frozen 101; have e0_3 := jb0 F3.out.x; have e1_3 := jb1 F3.out.x; have e34_3 := jb34 F3.out.x oi; have e35_3 := jb35 F3.out.x oi; rw [HK.out] at e0_3)
        | (with_reducible refine wpList_load_mid rfl 25 _ rfl w.heap.size 0 rfl (s).cells _ F3.out.s.range0 Try.underlying25 rfl (rowS ok) ?_)
        | (with_reducible refine wpList_store_S rfl _ _ rfl w2.heap.size (s) s0 rfl rfl F3.out.r ok s0_ok ?_; intro w9 h9 k9))
      exact ret_end rfl rfl rfl F3.out h9 k9 ok rfl (.inl ⟨rfl, rfl⟩) HR.out
  by_cases n6 : i.kind = 6
  · have nk := n6
    clear n2 n3 n10 n4 n6
    by_cases hs : s.step = 2
    · have HR0 : hereM s i = prevotedM s i := by unfold hereM; rw [if_neg (by omega : ¬ (i.kind = 2 ∨ i.kind = 3 ∨ i.kind = 10)), if_pos (by omega : i.kind = 4 ∨ i.kind = 6 ∨ i.kind = 11), if_pos hs]
      have HC := Lib.hid (fun w' => prevoted_any w' s i ok oi)
      generalize prevotedM s i = r at HR0 HC
      obtain ⟨s1, l1⟩ := r
      have HR := Lib.hid HR0
      clear HR0
      have HK := Lib.hid nk
      have HS := Lib.hid hs
      clear nk hs HM
      go_enter Try.func19, Try.ntmps19
      go_wp2_with (first
        | (with_reducible refine wpList_box_row rfl _ _ rfl (cs := s.cells.toArray) rfl ?_; intro w1 hw1)
        | (with_reducible refine wpList_box_row rfl _ _ rfl (cs := i.cells.toArray) rfl ?_; intro w2 hw2)
        | (with_reducible refine wpList_alloc_named rfl _ rfl s0.cells z_S ?_; intro w3 hw3; have F3 := Lib.hid (pro hw1.out hw2.out hw3.out); clear hw1 hw2 hw3; have c0_3 := sb0 F3.out.s; have c1_3 := sb1 F3.out.s; have c34_3 := sb34 F3.out.s ok; have c67_3 := sb67 F3.out.s ok; have c100_3 := sb100 F3.out.s ok; have c101_3 := sb101 F3.out.s ok; have f0_3 := F3.out.s.frozen 0; have f1_3 := F3.out.s.frozen 1; have f34_3 := F3.out.s.frozen 34; have f67_3 := F3.out.s.frozen 67; have f100_3 := F3.out.s.frozen 100; have f101_3 := F3.out.s.frozen 101; have e0_3 := jb0 F3.out.x; have e1_3 := jb1 F3.out.x; have e34_3 := jb34 F3.out.x oi; have e35_3 := jb35 F3.out.x oi; rw [HK.out] at e0_3; rw [HS.out] at c1_3)
        | (with_reducible refine wpList_load_mid rfl 25 _ rfl w.heap.size 0 rfl (s).cells _ F3.out.s.range0 Try.underlying25 rfl (rowS ok) ?_)
        | (with_reducible refine wpList_load_mid rfl 27 _ rfl w1.heap.size 0 rfl i.cells _ F3.out.x.range0 Try.underlying27 rfl (rowI oi) ?_)
        | (go_at_call 26; go_loud (refine (HC.out _).mono ?_; rintro e w4 ⟨k4, okC, v, rfl, oC⟩; have F4 := Lib.hid (F3.out.chg k4); have OC := Lib.hid oC; clear oC))
        | (with_reducible refine wpList_store_S rfl _ _ rfl w2.heap.size s1 s0 rfl rfl F4.out.r okC s0_ok ?_; intro w9 h9 k9))
      exact ret_end rfl rfl rfl F4.out h9 k9 okC rfl (outs_ho OC.out F3.out.r.lt) HR.out
    · have HR := Lib.hid (show hereM s i = (s, []) from by unfold hereM; rw [if_neg (by omega : ¬ (i.kind = 2 ∨ i.kind = 3 ∨ i.kind = 10)), if_pos (by omega : i.kind = 4 ∨ i.kind = 6 ∨ i.kind = 11), if_neg hs])
      have HK := Lib.hid nk
      have hs2 : (s.step == 2) = false := by simpa using hs
      clear nk hs HM
      go_enter Try.func19, Try.ntmps19
      go_wp2_with (first
        | (with_reducible refine wpList_box_row rfl _ _ rfl (cs := s.cells.toArray) rfl ?_; intro w1 hw1)
        | (with_reducible refine wpList_box_row rfl _ _ rfl (cs := i.cells.toArray) rfl ?_; intro w2 hw2)
        | (with_reducible refine wpList_alloc_named rfl _ rfl s0.cells z_S ?_; intro w3 hw3; have F3 := Lib.hid (pro hw1.out hw2.out hw3.out); clear hw1 hw2 hw3; have c0_3 := sb0 F3.out.s; have c1_3 := sb1 F3.out.s; have c34_3 := sb34 F3.out.s ok; have c67_3 := sb67 F3.out.s ok; have c100_3 := sb100 F3.out.s ok; have c101_3 := sb101 F3.out.s ok; have f0_3 := F3.out.s.frozen 0; have f1_3 := F3.out.s.frozen 1; have f34_3 := F3.out.s.frozen 34; have f67_3 := F3.out.s.frozen 67; have f100_3 := F3.out.s.frozen 100; have f101_3 := F3.out.s.frozen 101; have e0_3 := jb0 F3.out.x; have e1_3 := jb1 F3.out.x; have e34_3 := jb34 F3.out.x oi; have e35_3 := jb35 F3.out.x oi; rw [HK.out] at e0_3)
        | (with_reducible refine wpList_load_mid rfl 25 _ rfl w.heap.size 0 rfl (s).cells _ F3.out.s.range0 Try.underlying25 rfl (rowS ok) ?_)
        | (with_reducible refine wpList_store_S rfl _ _ rfl w2.heap.size (s) s0 rfl rfl F3.out.r ok s0_ok ?_; intro w9 h9 k9))
      exact ret_end rfl rfl rfl F3.out h9 k9 ok rfl (.inl ⟨rfl, rfl⟩) HR.out
  by_cases n11 : i.kind = 11
  · have nk := n11
    clear n2 n3 n10 n4 n6 n11
    by_cases hs : s.step = 2
    · have HR0 : hereM s i = prevotedM s i := by unfold hereM; rw [if_neg (by omega : ¬ (i.kind = 2 ∨ i.kind = 3 ∨ i.kind = 10)), if_pos (by omega : i.kind = 4 ∨ i.kind = 6 ∨ i.kind = 11), if_pos hs]
      have HC := Lib.hid (fun w' => prevoted_any w' s i ok oi)
      generalize prevotedM s i = r at HR0 HC
      obtain ⟨s1, l1⟩ := r
      have HR := Lib.hid HR0
      clear HR0
      have HK := Lib.hid nk
      have HS := Lib.hid hs
      clear nk hs HM
      go_enter Try.func19, Try.ntmps19
      go_wp2_with (first
        | (with_reducible refine wpList_box_row rfl _ _ rfl (cs := s.cells.toArray) rfl ?_; intro w1 hw1)
        | (with_reducible refine wpList_box_row rfl _ _ rfl (cs := i.cells.toArray) rfl ?_; intro w2 hw2)
        | (with_reducible refine wpList_alloc_named rfl _ rfl s0.cells z_S ?_; intro w3 hw3; have F3 := Lib.hid (pro hw1.out hw2.out hw3.out); clear hw1 hw2 hw3; have c0_3 := sb0 F3.out.s; have c1_3 := sb1 F3.out.s; have c34_3 := sb34 F3.out.s ok; have c67_3 := sb67 F3.out.s ok; have c100_3 := sb100 F3.out.s ok; have c101_3 := sb101 F3.out.s ok; have f0_3 := F3.out.s.frozen 0; have f1_3 := F3.out.s.frozen 1; have f34_3 := F3.out.s.frozen 34; have f67_3 := F3.out.s.frozen 67; have f100_3 := F3.out.s.frozen 100; have f101_3 := F3.out.s.frozen 101; have e0_3 := jb0 F3.out.x; have e1_3 := jb1 F3.out.x; have e34_3 := jb34 F3.out.x oi; have e35_3 := jb35 F3.out.x oi; rw [HK.out] at e0_3; rw [HS.out] at c1_3)
        | (with_reducible refine wpList_load_mid rfl 25 _ rfl w.heap.size 0 rfl (s).cells _ F3.out.s.range0 Try.underlying25 rfl (rowS ok) ?_)
        | (with_reducible refine wpList_load_mid rfl 27 _ rfl w1.heap.size 0 rfl i.cells _ F3.out.x.range0 Try.underlying27 rfl (rowI oi) ?_)
        | (go_at_call 26; go_loud (refine (HC.out _).mono ?_; rintro e w4 ⟨k4, okC, v, rfl, oC⟩; have F4 := Lib.hid (F3.out.chg k4); have OC := Lib.hid oC; clear oC))
        | (with_reducible refine wpList_store_S rfl _ _ rfl w2.heap.size s1 s0 rfl rfl F4.out.r okC s0_ok ?_; intro w9 h9 k9))
      exact ret_end rfl rfl rfl F4.out h9 k9 okC rfl (outs_ho OC.out F3.out.r.lt) HR.out
    · have HR := Lib.hid (show hereM s i = (s, []) from by unfold hereM; rw [if_neg (by omega : ¬ (i.kind = 2 ∨ i.kind = 3 ∨ i.kind = 10)), if_pos (by omega : i.kind = 4 ∨ i.kind = 6 ∨ i.kind = 11), if_neg hs])
      have HK := Lib.hid nk
      have hs2 : (s.step == 2) = false := by simpa using hs
      clear nk hs HM
      go_enter Try.func19, Try.ntmps19
      go_wp2_with (first
        | (with_reducible refine wpList_box_row rfl _ _ rfl (cs := s.cells.toArray) rfl ?_; intro w1 hw1)
        | (with_reducible refine wpList_box_row rfl _ _ rfl (cs := i.cells.toArray) rfl ?_; intro w2 hw2)
        | (with_reducible refine wpList_alloc_named rfl _ rfl s0.cells z_S ?_; intro w3 hw3; have F3 := Lib.hid (pro hw1.out hw2.out hw3.out); clear hw1 hw2 hw3; have c0_3 := sb0 F3.out.s; have c1_3 := sb1 F3.out.s; have c34_3 := sb34 F3.out.s ok; have c67_3 := sb67 F3.out.s ok; have c100_3 := sb100 F3.out.s ok; have c101_3 := sb101 F3.out.s ok; have f0_3 := F3.out.s.frozen 0; have f1_3 := F3.out.s.frozen 1; have f34_3 := F3.out.s.frozen 34; have f67_3 := F3.out.s.frozen 67; have f100_3 := F3.out.s.frozen 100; have f101_3 := F3.out.s.frozen 101; have e0_3 := jb0 F3.out.x; have e1_3 := jb1 F3.out.x; have e34_3 := jb34 F3.out.x oi; have e35_3 := jb35 F3.out.x oi; rw [HK.out] at e0_3)
        | (with_reducible refine wpList_load_mid rfl 25 _ rfl w.heap.size 0 rfl (s).cells _ F3.out.s.range0 Try.underlying25 rfl (rowS ok) ?_)
        | (with_reducible refine wpList_store_S rfl _ _ rfl w2.heap.size (s) s0 rfl rfl F3.out.r ok s0_ok ?_; intro w9 h9 k9))
      exact ret_end rfl rfl rfl F3.out h9 k9 ok rfl (.inl ⟨rfl, rfl⟩) HR.out
  by_cases n5 : i.kind = 5
  · have nk := n5
    clear n2 n3 n10 n4 n6 n11 n5
    by_cases hm : i.good = true ∧ i.block ≠ zero
    · by_cases hv : s.validR < i.round
      · have HR0 : hereM s i = agreedM s i := by unfold hereM; rw [if_neg (by omega : ¬ (i.kind = 2 ∨ i.kind = 3 ∨ i.kind = 10)), if_neg (by omega : ¬ (i.kind = 4 ∨ i.kind = 6 ∨ i.kind = 11)), if_pos nk, if_pos ⟨hm, hv⟩]
        have HC := Lib.hid (fun w' => agreed_any w' s i ok oi)
        generalize agreedM s i = r at HR0 HC
        obtain ⟨s1, l1⟩ := r
        have HR := Lib.hid HR0
        clear HR0
        have HK := Lib.hid nk
        have hv2 : decide (s.validR < i.round) = true := decide_eq_true hv
        rw [decide_eq_true hm] at HM
        clear nk hm
        go_enter Try.func19, Try.ntmps19
        go_wp2_with (first
          | (with_reducible refine wpList_box_row rfl _ _ rfl (cs := s.cells.toArray) rfl ?_; intro w1 hw1)
          | (with_reducible refine wpList_box_row rfl _ _ rfl (cs := i.cells.toArray) rfl ?_; intro w2 hw2)
          | (with_reducible refine wpList_alloc_named rfl _ rfl s0.cells z_S ?_; intro w3 hw3; have F3 := Lib.hid (pro hw1.out hw2.out hw3.out); clear hw1 hw2 hw3; have c0_3 := sb0 F3.out.s; have c1_3 := sb1 F3.out.s; have c34_3 := sb34 F3.out.s ok; have c67_3 := sb67 F3.out.s ok; have c100_3 := sb100 F3.out.s ok; have c101_3 := sb101 F3.out.s ok; have f0_3 := F3.out.s.frozen 0; have f1_3 := F3.out.s.frozen 1; have f34_3 := F3.out.s.frozen 34; have f67_3 := F3.out.s.frozen 67; have f100_3 := F3.out.s.frozen 100; have f101_3 := F3.out.s.frozen 101; have e0_3 := jb0 F3.out.x; have e1_3 := jb1 F3.out.x; have e34_3 := jb34 F3.out.x oi; have e35_3 := jb35 F3.out.x oi; rw [HK.out] at e0_3)
          | (with_reducible refine wpList_load_mid rfl 27 _ rfl w1.heap.size 0 rfl i.cells _ F3.out.x.range0 Try.underlying27 rfl (rowI oi) ?_)
          | (go_at_call 23; go_loud (refine (HM.out _).mono ?_; rintro e w4 ⟨rfl, k4⟩; have F4 := Lib.hid (F3.out.chg k4); have c0_4 := sb0 F4.out.s; have c1_4 := sb1 F4.out.s; have c34_4 := sb34 F4.out.s ok; have c67_4 := sb67 F4.out.s ok; have c100_4 := sb100 F4.out.s ok; have c101_4 := sb101 F4.out.s ok; have f0_4 := F4.out.s.frozen 0; have f1_4 := F4.out.s.frozen 1; have f34_4 := F4.out.s.frozen 34; have f67_4 := F4.out.s.frozen 67; have f100_4 := F4.out.s.frozen 100; have f101_4 := F4.out.s.frozen 101; have e0_4 := jb0 F4.out.x; have e1_4 := jb1 F4.out.x; have e34_4 := jb34 F4.out.x oi; have e35_4 := jb35 F4.out.x oi; rw [HK.out] at e0_4))
          | (with_reducible refine wpList_load_mid rfl 25 _ rfl w.heap.size 0 rfl (s).cells _ F4.out.s.range0 Try.underlying25 rfl (rowS ok) ?_)
          | (with_reducible refine wpList_load_mid rfl 27 _ rfl w1.heap.size 0 rfl i.cells _ F4.out.x.range0 Try.underlying27 rfl (rowI oi) ?_)
          | (go_at_call 27; go_loud (refine (HC.out _).mono ?_; rintro e w5 ⟨k5, okC, v, rfl, oC⟩; have F5 := Lib.hid (F4.out.chg k5); have OC := Lib.hid oC; clear oC))
          | (with_reducible refine wpList_store_S rfl _ _ rfl w2.heap.size s1 s0 rfl rfl F5.out.r okC s0_ok ?_; intro w9 h9 k9))
        exact ret_end rfl rfl rfl F5.out h9 k9 okC rfl (outs_ho OC.out F4.out.r.lt) HR.out
      · have HR := Lib.hid (show hereM s i = (s, []) from by unfold hereM; rw [if_neg (by omega : ¬ (i.kind = 2 ∨ i.kind = 3 ∨ i.kind = 10)), if_neg (by omega : ¬ (i.kind = 4 ∨ i.kind = 6 ∨ i.kind = 11)), if_pos nk, if_neg (fun h => hv h.2)])
        have HK := Lib.hid nk
        have hv2 : decide (s.validR < i.round) = false := decide_eq_false hv
        rw [decide_eq_true hm] at HM
        clear nk hm
        go_enter Try.func19, Try.ntmps19
        go_wp2_with (first
          | (with_reducible refine wpList_box_row rfl _ _ rfl (cs := s.cells.toArray) rfl ?_; intro w1 hw1)
          | (with_reducible refine wpList_box_row rfl _ _ rfl (cs := i.cells.toArray) rfl ?_; intro w2 hw2)
          | (with_reducible refine wpList_alloc_named rfl _ rfl s0.cells z_S ?_; intro w3 hw3; have F3 := Lib.hid (pro hw1.out hw2.out hw3.out); clear hw1 hw2 hw3; have c0_3 := sb0 F3.out.s; have c1_3 := sb1 F3.out.s; have c34_3 := sb34 F3.out.s ok; have c67_3 := sb67 F3.out.s ok; have c100_3 := sb100 F3.out.s ok; have c101_3 := sb101 F3.out.s ok; have f0_3 := F3.out.s.frozen 0; have f1_3 := F3.out.s.frozen 1; have f34_3 := F3.out.s.frozen 34; have f67_3 := F3.out.s.frozen 67; have f100_3 := F3.out.s.frozen 100; have f101_3 := F3.out.s.frozen 101; have e0_3 := jb0 F3.out.x; have e1_3 := jb1 F3.out.x; have e34_3 := jb34 F3.out.x oi; have e35_3 := jb35 F3.out.x oi; rw [HK.out] at e0_3)
          | (with_reducible refine wpList_load_mid rfl 27 _ rfl w1.heap.size 0 rfl i.cells _ F3.out.x.range0 Try.underlying27 rfl (rowI oi) ?_)
          | (go_at_call 23; go_loud (refine (HM.out _).mono ?_; rintro e w4 ⟨rfl, k4⟩; have F4 := Lib.hid (F3.out.chg k4); have c0_4 := sb0 F4.out.s; have c1_4 := sb1 F4.out.s; have c34_4 := sb34 F4.out.s ok; have c67_4 := sb67 F4.out.s ok; have c100_4 := sb100 F4.out.s ok; have c101_4 := sb101 F4.out.s ok; have f0_4 := F4.out.s.frozen 0; have f1_4 := F4.out.s.frozen 1; have f34_4 := F4.out.s.frozen 34; have f67_4 := F4.out.s.frozen 67; have f100_4 := F4.out.s.frozen 100; have f101_4 := F4.out.s.frozen 101; have e0_4 := jb0 F4.out.x; have e1_4 := jb1 F4.out.x; have e34_4 := jb34 F4.out.x oi; have e35_4 := jb35 F4.out.x oi; rw [HK.out] at e0_4))
          | (with_reducible refine wpList_load_mid rfl 25 _ rfl w.heap.size 0 rfl (s).cells _ F4.out.s.range0 Try.underlying25 rfl (rowS ok) ?_)
          | (with_reducible refine wpList_store_S rfl _ _ rfl w2.heap.size (s) s0 rfl rfl F4.out.r ok s0_ok ?_; intro w9 h9 k9))
        exact ret_end rfl rfl rfl F4.out h9 k9 ok rfl (.inl ⟨rfl, rfl⟩) HR.out
    · have HR := Lib.hid (show hereM s i = (s, []) from by unfold hereM; rw [if_neg (by omega : ¬ (i.kind = 2 ∨ i.kind = 3 ∨ i.kind = 10)), if_neg (by omega : ¬ (i.kind = 4 ∨ i.kind = 6 ∨ i.kind = 11)), if_pos nk, if_neg (fun h => hm h.1)])
      have HK := Lib.hid nk
      rw [decide_eq_false hm] at HM
      clear nk hm
      go_enter Try.func19, Try.ntmps19
      go_wp2_with (first
        | (with_reducible refine wpList_box_row rfl _ _ rfl (cs := s.cells.toArray) rfl ?_; intro w1 hw1)
        | (with_reducible refine wpList_box_row rfl _ _ rfl (cs := i.cells.toArray) rfl ?_; intro w2 hw2)
        | (with_reducible refine wpList_alloc_named rfl _ rfl s0.cells z_S ?_; intro w3 hw3; have F3 := Lib.hid (pro hw1.out hw2.out hw3.out); clear hw1 hw2 hw3; have c0_3 := sb0 F3.out.s; have c1_3 := sb1 F3.out.s; have c34_3 := sb34 F3.out.s ok; have c67_3 := sb67 F3.out.s ok; have c100_3 := sb100 F3.out.s ok; have c101_3 := sb101 F3.out.s ok; have f0_3 := F3.out.s.frozen 0; have f1_3 := F3.out.s.frozen 1; have f34_3 := F3.out.s.frozen 34; have f67_3 := F3.out.s.frozen 67; have f100_3 := F3.out.s.frozen 100; have f101_3 := F3.out.s.frozen 101; have e0_3 := jb0 F3.out.x; have e1_3 := jb1 F3.out.x; have e34_3 := jb34 F3.out.x oi; have e35_3 := jb35 F3.out.x oi; rw [HK.out] at e0_3)
        | (with_reducible refine wpList_load_mid rfl 27 _ rfl w1.heap.size 0 rfl i.cells _ F3.out.x.range0 Try.underlying27 rfl (rowI oi) ?_)
        | (go_at_call 23; go_loud (refine (HM.out _).mono ?_; rintro e w4 ⟨rfl, k4⟩; have F4 := Lib.hid (F3.out.chg k4); have c0_4 := sb0 F4.out.s; have c1_4 := sb1 F4.out.s; have c34_4 := sb34 F4.out.s ok; have c67_4 := sb67 F4.out.s ok; have c100_4 := sb100 F4.out.s ok; have c101_4 := sb101 F4.out.s ok; have f0_4 := F4.out.s.frozen 0; have f1_4 := F4.out.s.frozen 1; have f34_4 := F4.out.s.frozen 34; have f67_4 := F4.out.s.frozen 67; have f100_4 := F4.out.s.frozen 100; have f101_4 := F4.out.s.frozen 101; have e0_4 := jb0 F4.out.x; have e1_4 := jb1 F4.out.x; have e34_4 := jb34 F4.out.x oi; have e35_4 := jb35 F4.out.x oi; rw [HK.out] at e0_4))
        | (with_reducible refine wpList_load_mid rfl 25 _ rfl w.heap.size 0 rfl (s).cells _ F4.out.s.range0 Try.underlying25 rfl (rowS ok) ?_)
        | (with_reducible refine wpList_store_S rfl _ _ rfl w2.heap.size (s) s0 rfl rfl F4.out.r ok s0_ok ?_; intro w9 h9 k9))
      exact ret_end rfl rfl rfl F4.out h9 k9 ok rfl (.inl ⟨rfl, rfl⟩) HR.out
  by_cases n7 : i.kind = 7
  · have nk := n7
    clear n2 n3 n10 n4 n6 n11 n5 n7 HM
    by_cases h1 : 1 ≤ s.step
    · by_cases h3 : s.step ≤ 3
      · have HR0 : hereM s i = precommittedM s i := by unfold hereM; rw [if_neg (by omega : ¬ (i.kind = 2 ∨ i.kind = 3 ∨ i.kind = 10)), if_neg (by omega : ¬ (i.kind = 4 ∨ i.kind = 6 ∨ i.kind = 11)), if_neg (by omega : ¬ i.kind = 5), if_pos (by omega : i.kind = 7 ∨ i.kind = 12), if_pos ⟨h1, h3⟩]
        have HC := Lib.hid (fun w' => precommitted_any w' s i ok oi)
        generalize precommittedM s i = r at HR0 HC
        obtain ⟨s1, l1⟩ := r
        have HR := Lib.hid HR0
        clear HR0
        have HK := Lib.hid nk
        have d1 : decide (1 ≤ s.step) = true := decide_eq_true h1
        have d3 : decide (s.step ≤ 3) = true := decide_eq_true h3
        clear nk
        go_enter Try.func19, Try.ntmps19
        go_wp2_with (first
          | (with_reducible refine wpList_box_row rfl _ _ rfl (cs := s.cells.toArray) rfl ?_; intro w1 hw1)
          | (with_reducible refine wpList_box_row rfl _ _ rfl (cs := i.cells.toArray) rfl ?_; intro w2 hw2)
          | (with_reducible refine wpList_alloc_named rfl _ rfl s0.cells z_S ?_; intro w3 hw3; have F3 := Lib.hid (pro hw1.out hw2.out hw3.out); clear hw1 hw2 hw3; have c0_3 := sb0 F3.out.s; have c1_3 := sb1 F3.out.s; have c34_3 := sb34 F3.out.s ok; have c67_3 := sb67 F3.out.s ok; have c100_3 := sb100 F3.out.s ok; have c101_3 := sb101 F3.out.s ok; have f0_3 := F3.out.s.frozen 0; have f1_3 := F3.out.s.frozen 1; have f34_3 := F3.out.s.frozen 34; have f67_3 := F3.out.s.frozen 67; have f100_3 := F3.out.s.frozen 100; have f101_3 := F3.out.s.frozen 101; have e0_3 := jb0 F3.out.x; have e1_3 := jb1 F3.out.x; have e34_3 := jb34 F3.out.x oi; have e35_3 := jb35 F3.out.x oi; rw [HK.out] at e0_3)
          | (with_reducible refine wpList_load_mid rfl 25 _ rfl w.heap.size 0 rfl (s).cells _ F3.out.s.range0 Try.underlying25 rfl (rowS ok) ?_)
          | (with_reducible refine wpList_load_mid rfl 27 _ rfl w1.heap.size 0 rfl i.cells _ F3.out.x.range0 Try.underlying27 rfl (rowI oi) ?_)
          | (go_at_call 28; go_loud (refine (HC.out _).mono ?_; rintro e w4 ⟨k4, okC, v, rfl, oC⟩; have F4 := Lib.hid (F3.out.chg k4); have OC := Lib.hid oC; clear oC))
          | (with_reducible refine wpList_store_S rfl _ _ rfl w2.heap.size s1 s0 rfl rfl F4.out.r okC s0_ok ?_; intro w9 h9 k9))
        exact ret_end rfl rfl rfl F4.out h9 k9 okC rfl (outs_ho OC.out F3.out.r.lt) HR.out
      · have HR := Lib.hid (show hereM s i = (s, []) from by unfold hereM; rw [if_neg (by omega : ¬ (i.kind = 2 ∨ i.kind = 3 ∨ i.kind = 10)), if_neg (by omega : ¬ (i.kind = 4 ∨ i.kind = 6 ∨ i.kind = 11)), if_neg (by omega : ¬ i.kind = 5), if_pos (by omega : i.kind = 7 ∨ i.kind = 12), if_neg (fun h => h3 h.2)])
        have HK := Lib.hid nk
        have d1 : decide (1 ≤ s.step) = true := decide_eq_true h1
        have d3 : decide (s.step ≤ 3) = false := decide_eq_false h3
        clear nk
        go_enter Try.func19, Try.ntmps19
        go_wp2_with (first
          | (with_reducible refine wpList_box_row rfl _ _ rfl (cs := s.cells.toArray) rfl ?_; intro w1 hw1)
          | (with_reducible refine wpList_box_row rfl _ _ rfl (cs := i.cells.toArray) rfl ?_; intro w2 hw2)
          | (with_reducible refine wpList_alloc_named rfl _ rfl s0.cells z_S ?_; intro w3 hw3; have F3 := Lib.hid (pro hw1.out hw2.out hw3.out); clear hw1 hw2 hw3; have c0_3 := sb0 F3.out.s; have c1_3 := sb1 F3.out.s; have c34_3 := sb34 F3.out.s ok; have c67_3 := sb67 F3.out.s ok; have c100_3 := sb100 F3.out.s ok; have c101_3 := sb101 F3.out.s ok; have f0_3 := F3.out.s.frozen 0; have f1_3 := F3.out.s.frozen 1; have f34_3 := F3.out.s.frozen 34; have f67_3 := F3.out.s.frozen 67; have f100_3 := F3.out.s.frozen 100; have f101_3 := F3.out.s.frozen 101; have e0_3 := jb0 F3.out.x; have e1_3 := jb1 F3.out.x; have e34_3 := jb34 F3.out.x oi; have e35_3 := jb35 F3.out.x oi; rw [HK.out] at e0_3)
          | (with_reducible refine wpList_load_mid rfl 25 _ rfl w.heap.size 0 rfl (s).cells _ F3.out.s.range0 Try.underlying25 rfl (rowS ok) ?_)
          | (with_reducible refine wpList_store_S rfl _ _ rfl w2.heap.size (s) s0 rfl rfl F3.out.r ok s0_ok ?_; intro w9 h9 k9))
        exact ret_end rfl rfl rfl F3.out h9 k9 ok rfl (.inl ⟨rfl, rfl⟩) HR.out
    · have HR := Lib.hid (show hereM s i = (s, []) from by unfold hereM; rw [if_neg (by omega : ¬ (i.kind = 2 ∨ i.kind = 3 ∨ i.kind = 10)), if_neg (by omega : ¬ (i.kind = 4 ∨ i.kind = 6 ∨ i.kind = 11)), if_neg (by omega : ¬ i.kind = 5), if_pos (by omega : i.kind = 7 ∨ i.kind = 12), if_neg (fun h => h1 h.1)])
      have HK := Lib.hid nk
      have d1 : decide (1 ≤ s.step) = false := decide_eq_false h1
      clear nk
      go_enter Try.func19, Try.ntmps19
      go_wp2_with (first
        | (with_reducible refine wpList_box_row rfl _ _ rfl (cs := s.cells.toArray) rfl ?_; intro w1 hw1)
        | (with_reducible refine wpList_box_row rfl _ _ rfl (cs := i.cells.toArray) rfl ?_; intro w2 hw2)
        | (with_reducible refine wpList_alloc_named rfl _ rfl s0.cells z_S ?_; intro w3 hw3; have F3 := Lib.hid (pro hw1.out hw2.out hw3.out); clear hw1 hw2 hw3; have c0_3 := sb0 F3.out.s; have c1_3 := sb1 F3.out.s; have c34_3 := sb34 F3.out.s ok; have c67_3 := sb67 F3.out.s ok; have c100_3 := sb100 F3.out.s ok; have c101_3 := sb101 F3.out.s ok; have f0_3 := F3.out.s.frozen 0; have f1_3 := F3.out.s.frozen 1; have f34_3 := F3.out.s.frozen 34; have f67_3 := F3.out.s.frozen 67; have f100_3 := F3.out.s.frozen 100; have f101_3 := F3.out.s.frozen 101; have e0_3 := jb0 F3.out.x; have e1_3 := jb1 F3.out.x; have e34_3 := jb34 F3.out.x oi; have e35_3 := jb35 F3.out.x oi; rw [HK.out] at e0_3)
        | (with_reducible refine wpList_load_mid rfl 25 _ rfl w.heap.size 0 rfl (s).cells _ F3.out.s.range0 Try.underlying25 rfl (rowS ok) ?_)
        | (with_reducible refine wpList_store_S rfl _ _ rfl w2.heap.size (s) s0 rfl rfl F3.out.r ok s0_ok ?_; intro w9 h9 k9))
      exact ret_end rfl rfl rfl F3.out h9 k9 ok rfl (.inl ⟨rfl, rfl⟩) HR.out
  by_cases n12 : i.kind = 12
  · have nk := n12
    clear n2 n3 n10 n4 n6 n11 n5 n7 n12 HM
    by_cases h1 : 1 ≤ s.step
    · by_cases h3 : s.step ≤ 3
      · have HR0 : hereM s i = precommittedM s i := by unfold hereM; rw [if_neg (by omega : ¬ (i.kind = 2 ∨ i.kind = 3 ∨ i.kind = 10)), if_neg (by omega : ¬ (i.kind = 4 ∨ i.kind = 6 ∨ i.kind = 11)), if_neg (by omega : ¬ i.kind = 5), if_pos (by omega : i.kind = 7 ∨ i.kind = 12), if_pos ⟨h1, h3⟩]
        have HC := Lib.hid (fun w' => precommitted_any w' s i ok oi)
        generalize precommittedM s i = r at HR0 HC
        obtain ⟨s1, l1⟩ := r
        have HR := Lib.hid HR0
        clear HR0
        have HK := Lib.hid nk
        have d1 : decide (1 ≤ s.step) = true := decide_eq_true h1
        have d3 : decide (s.step ≤ 3) = true := decide_eq_true h3
        clear nk
        go_enter Try.func19, Try.ntmps19
        go_wp2_with (first
          | (with_reducible refine wpList_box_row rfl _ _ rfl (cs := s.cells.toArray) rfl ?_; intro w1 hw1)
          | (with_reducible refine wpList_box_row rfl _ _ rfl (cs := i.cells.toArray) rfl ?_; intro w2 hw2)
          | (with_reducible refine wpList_alloc_named rfl _ rfl s0.cells z_S ?_; intro w3 hw3; have F3 := Lib.hid (pro hw1.out hw2.out hw3.out); clear hw1 hw2 hw3; have c0_3 := sb0 F3.out.s; have c1_3 := sb1 F3.out.s; have c34_3 := sb34 F3.out.s ok; have c67_3 := sb67 F3.out.s ok; have c100_3 := sb100 F3.out.s ok; have c101_3 := sb101 F3.out.s ok; have f0_3 := F3.out.s.frozen 0; have f1_3 := F3.out.s.frozen 1; have f34_3 := F3.out.s.frozen 34; have f67_3 := F3.out.s.frozen 67; have f100_3 := F3.out.s.frozen 100; have f101_3 := F3.out.s.frozen 101; have e0_3 := jb0 F3.out.x; have e1_3 := jb1 F3.out.x; have e34_3 := jb34 F3.out.x oi; have e35_3 := jb35 F3.out.x oi; rw [HK.out] at e0_3)
          | (with_reducible refine wpList_load_mid rfl 25 _ rfl w.heap.size 0 rfl (s).cells _ F3.out.s.range0 Try.underlying25 rfl (rowS ok) ?_)
          | (with_reducible refine wpList_load_mid rfl 27 _ rfl w1.heap.size 0 rfl i.cells _ F3.out.x.range0 Try.underlying27 rfl (rowI oi) ?_)
          | (go_at_call 28; go_loud (refine (HC.out _).mono ?_; rintro e w4 ⟨k4, okC, v, rfl, oC⟩; have F4 := Lib.hid (F3.out.chg k4); have OC := Lib.hid oC; clear oC))
          | (with_reducible refine wpList_store_S rfl _ _ rfl w2.heap.size s1 s0 rfl rfl F4.out.r okC s0_ok ?_; intro w9 h9 k9))
        exact ret_end rfl rfl rfl F4.out h9 k9 okC rfl (outs_ho OC.out F3.out.r.lt) HR.out
      · have HR := Lib.hid (show hereM s i = (s, []) from by unfold hereM; rw [if_neg (by omega : ¬ (i.kind = 2 ∨ i.kind = 3 ∨ i.kind = 10)), if_neg (by omega : ¬ (i.kind = 4 ∨ i.kind = 6 ∨ i.kind = 11)), if_neg (by omega : ¬ i.kind = 5), if_pos (by omega : i.kind = 7 ∨ i.kind = 12), if_neg (fun h => h3 h.2)])
        have HK := Lib.hid nk
        have d1 : decide (1 ≤ s.step) = true := decide_eq_true h1
        have d3 : decide (s.step ≤ 3) = false := decide_eq_false h3
        clear nk
        go_enter Try.func19, Try.ntmps19
        go_wp2_with (first
          | (with_reducible refine wpList_box_row rfl _ _ rfl (cs := s.cells.toArray) rfl ?_; intro w1 hw1)
          | (with_reducible refine wpList_box_row rfl _ _ rfl (cs := i.cells.toArray) rfl ?_; intro w2 hw2)
          | (with_reducible refine wpList_alloc_named rfl _ rfl s0.cells z_S ?_; intro w3 hw3; have F3 := Lib.hid (pro hw1.out hw2.out hw3.out); clear hw1 hw2 hw3; have c0_3 := sb0 F3.out.s; have c1_3 := sb1 F3.out.s; have c34_3 := sb34 F3.out.s ok; have c67_3 := sb67 F3.out.s ok; have c100_3 := sb100 F3.out.s ok; have c101_3 := sb101 F3.out.s ok; have f0_3 := F3.out.s.frozen 0; have f1_3 := F3.out.s.frozen 1; have f34_3 := F3.out.s.frozen 34; have f67_3 := F3.out.s.frozen 67; have f100_3 := F3.out.s.frozen 100; have f101_3 := F3.out.s.frozen 101; have e0_3 := jb0 F3.out.x; have e1_3 := jb1 F3.out.x; have e34_3 := jb34 F3.out.x oi; have e35_3 := jb35 F3.out.x oi; rw [HK.out] at e0_3)
          | (with_reducible refine wpList_load_mid rfl 25 _ rfl w.heap.size 0 rfl (s).cells _ F3.out.s.range0 Try.underlying25 rfl (rowS ok) ?_)
          | (with_reducible refine wpList_store_S rfl _ _ rfl w2.heap.size (s) s0 rfl rfl F3.out.r ok s0_ok ?_; intro w9 h9 k9))
        exact ret_end rfl rfl rfl F3.out h9 k9 ok rfl (.inl ⟨rfl, rfl⟩) HR.out
    · have HR := Lib.hid (show hereM s i = (s, []) from by unfold hereM; rw [if_neg (by omega : ¬ (i.kind = 2 ∨ i.kind = 3 ∨ i.kind = 10)), if_neg (by omega : ¬ (i.kind = 4 ∨ i.kind = 6 ∨ i.kind = 11)), if_neg (by omega : ¬ i.kind = 5), if_pos (by omega : i.kind = 7 ∨ i.kind = 12), if_neg (fun h => h1 h.1)])
      have HK := Lib.hid nk
      have d1 : decide (1 ≤ s.step) = false := decide_eq_false h1
      clear nk
      go_enter Try.func19, Try.ntmps19
      go_wp2_with (first
        | (with_reducible refine wpList_box_row rfl _ _ rfl (cs := s.cells.toArray) rfl ?_; intro w1 hw1)
        | (with_reducible refine wpList_box_row rfl _ _ rfl (cs := i.cells.toArray) rfl ?_; intro w2 hw2)
        | (with_reducible refine wpList_alloc_named rfl _ rfl s0.cells z_S ?_; intro w3 hw3; have F3 := Lib.hid (pro hw1.out hw2.out hw3.out); clear hw1 hw2 hw3; have c0_3 := sb0 F3.out.s; have c1_3 := sb1 F3.out.s; have c34_3 := sb34 F3.out.s ok; have c67_3 := sb67 F3.out.s ok; have c100_3 := sb100 F3.out.s ok; have c101_3 := sb101 F3.out.s ok; have f0_3 := F3.out.s.frozen 0; have f1_3 := F3.out.s.frozen 1; have f34_3 := F3.out.s.frozen 34; have f67_3 := F3.out.s.frozen 67; have f100_3 := F3.out.s.frozen 100; have f101_3 := F3.out.s.frozen 101; have e0_3 := jb0 F3.out.x; have e1_3 := jb1 F3.out.x; have e34_3 := jb34 F3.out.x oi; have e35_3 := jb35 F3.out.x oi; rw [HK.out] at e0_3)
        | (with_reducible refine wpList_load_mid rfl 25 _ rfl w.heap.size 0 rfl (s).cells _ F3.out.s.range0 Try.underlying25 rfl (rowS ok) ?_)
        | (with_reducible refine wpList_store_S rfl _ _ rfl w2.heap.size (s) s0 rfl rfl F3.out.r ok s0_ok ?_; intro w9 h9 k9))
      exact ret_end rfl rfl rfl F3.out h9 k9 ok rfl (.inl ⟨rfl, rfl⟩) HR.out
  have HR := Lib.hid (show hereM s i = (s, []) from by unfold hereM; rw [if_neg (by omega : ¬ (i.kind = 2 ∨ i.kind = 3 ∨ i.kind = 10)), if_neg (by omega : ¬ (i.kind = 4 ∨ i.kind = 6 ∨ i.kind = 11)), if_neg (by omega : ¬ i.kind = 5), if_neg (by omega : ¬ (i.kind = 7 ∨ i.kind = 12))])
  have nk2 : (i.kind == 2) = false := by simpa using n2
  have nk3 : (i.kind == 3) = false := by simpa using n3
  have nk10 : (i.kind == 10) = false := by simpa using n10
  have nk4 : (i.kind == 4) = false := by simpa using n4
  have nk6 : (i.kind == 6) = false := by simpa using n6
  have nk11 : (i.kind == 11) = false := by simpa using n11
  have nk5 : (i.kind == 5) = false := by simpa using n5
  have nk7 : (i.kind == 7) = false := by simpa using n7
  have nk12 : (i.kind == 12) = false := by simpa using n12
  clear n2 n3 n10 n4 n6 n11 n5 n7 n12 HM
  go_enter Try.func19, Try.ntmps19
  go_wp2_with (first
    | (with_reducible refine wpList_box_row rfl _ _ rfl (cs := s.cells.toArray) rfl ?_; intro w1 hw1)
    | (with_reducible refine wpList_box_row rfl _ _ rfl (cs := i.cells.toArray) rfl ?_; intro w2 hw2)
    | (with_reducible refine wpList_alloc_named rfl _ rfl s0.cells z_S ?_; intro w3 hw3; have F3 := Lib.hid (pro hw1.out hw2.out hw3.out); clear hw1 hw2 hw3; have c0_3 := sb0 F3.out.s; have c1_3 := sb1 F3.out.s; have c34_3 := sb34 F3.out.s ok; have c67_3 := sb67 F3.out.s ok; have c100_3 := sb100 F3.out.s ok; have c101_3 := sb101 F3.out.s ok; have f0_3 := F3.out.s.frozen 0; have f1_3 := F3.out.s.frozen 1; have f34_3 := F3.out.s.frozen 34; have f67_3 := F3.out.s.frozen 67; have f100_3 := F3.out.s.frozen 100; have f101_3 := F3.out.s.frozen 101; have e0_3 := jb0 F3.out.x; have e1_3 := jb1 F3.out.x; have e34_3 := jb34 F3.out.x oi; have e35_3 := jb35 F3.out.x oi)
    | (with_reducible refine wpList_load_mid rfl 25 _ rfl w.heap.size 0 rfl (s).cells _ F3.out.s.range0 Try.underlying25 rfl (rowS ok) ?_)
    | (with_reducible refine wpList_store_S rfl _ _ rfl w2.heap.size (s) s0 rfl rfl F3.out.r ok s0_ok ?_; intro w9 h9 k9))
  exact ret_end rfl rfl rfl F3.out h9 k9 ok rfl (.inl ⟨rfl, rfl⟩) HR.out
end Go.Proofs.Ytdejfamcmebdiaa
