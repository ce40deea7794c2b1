/- Package round: proposed. (Written by wip/tools/gen12.py.) -/
import Derived.Test.YtdejfamcmebdiaaRd4
namespace Go.Proofs.Ytdejfamcmebdiaa
open Go.RowKit mach
set_option linter.unusedVariables false
set_option linter.unusedSimpArgs false
set_option maxRecDepth 20000

def bodyM (s : State) (i : In) (shown : Int) : State × List Out := if (i.good = true ∧ i.block ≠ zero) ∧ (s.lockedR ≤ shown ∨ i.block = s.locked) then prevM s i.block else prevM s zero
def proposedM (s : State) (i : In) : State × List Out := if i.kind = 3 then (if i.valid < 0 ∨ i.round ≤ i.valid then (s, []) else bodyM s i i.valid) else if i.kind = 2 then bodyM s i (-1) else prevM s zero
set_option maxHeartbeats 1600000 in
theorem proposed_any (w : World) (s : State) (i : In) (ok : s.Ok) (oi : i.Ok) : Calls Try.prog 25 #[.agg s.cells.toArray, .agg i.cells.toArray] w (Did 45 w (proposedM s i)) := by
  have HM := Lib.hid (mayBe_any · i oi)
  by_cases n3 : i.kind = 3
  · by_cases nv : i.valid < 0 ∨ i.round ≤ i.valid
    · by_cases nv1 : i.valid < 0
      · have HR := Lib.hid (show proposedM s i = (s, []) from by unfold proposedM; rw [if_pos n3, if_pos nv])
        have hv1 : decide (i.valid < 0) = true := decide_eq_true nv1
        have HK := Lib.hid n3
        clear n3 nv HM
        go_enter Try.func25, Try.ntmps25
        go_wp2_with (first
          | (with_reducible refine wpList_box_row rfl _ _ rfl (cs := s.cells.toArray) rfl ?_; intro w1 hw1)
          | (with_reducible refine wpList_box_row rfl _ _ rfl (cs := i.cells.toArray) rfl ?_; intro w2 hw2)
          | (with_reducible refine wpList_alloc_named rfl _ rfl s0.cells z_S ?_; intro w3 hw3; have F3 := Lib.hid (pro hw1.out hw2.out hw3.out); clear hw1 hw2 hw3; have c0_3 := sb0 F3.out.s; have c1_3 := sb1 F3.out.s; have c34_3 := sb34 F3.out.s ok; have c67_3 := sb67 F3.out.s ok; have c100_3 := sb100 F3.out.s ok; have c101_3 := sb101 F3.out.s ok; have f0_3 := F3.out.s.frozen 0; have f1_3 := F3.out.s.frozen 1; have f34_3 := F3.out.s.frozen 34; have f67_3 := F3.out.s.frozen 67; have f100_3 := F3.out.s.frozen 100; have f101_3 := F3.out.s.frozen 101; have e0_3 := jb0 F3.out.x; have e1_3 := jb1 F3.out.x; have e34_3 := jb34 F3.out.x oi; have e35_3 := jb35 F3.out.x oi; rw [HK.out] at e0_3)
          | (with_reducible refine wpList_load_mid rfl 25 _ rfl w.heap.size 0 rfl (s).cells _ F3.out.s.range0 Try.underlying25 rfl (rowS ok) ?_)
          | (with_reducible refine wpList_store_S rfl _ _ rfl w2.heap.size (s) s0 rfl rfl F3.out.r ok s0_ok ?_; intro w9 h9 k9))
        exact ret_end rfl rfl rfl F3.out h9 k9 ok rfl (.inl ⟨rfl, rfl⟩) HR.out
      · have nv2 : i.round ≤ i.valid := nv.resolve_left nv1
        have HR := Lib.hid (show proposedM s i = (s, []) from by unfold proposedM; rw [if_pos n3, if_pos nv])
        have hv1 : decide (i.valid < 0) = false := decide_eq_false nv1
        have hv2 : decide (i.round ≤ i.valid) = true := decide_eq_true nv2
        have HK := Lib.hid n3
        clear n3 nv HM
        go_enter Try.func25, Try.ntmps25
        go_wp2_with (first
          | (with_reducible refine wpList_box_row rfl _ _ rfl (cs := s.cells.toArray) rfl ?_; intro w1 hw1)
          | (with_reducible refine wpList_box_row rfl _ _ rfl (cs := i.cells.toArray) rfl ?_; intro w2 hw2)
          | (with_reducible refine wpList_alloc_named rfl _ rfl s0.cells z_S ?_; intro w3 hw3; have F3 := Lib.hid (pro hw1.out hw2.out hw3.out); clear hw1 hw2 hw3; have c0_3 := sb0 F3.out.s; have c1_3 := sb1 F3.out.s; have c34_3 := sb34 F3.out.s ok; have c67_3 := sb67 F3.out.s ok; have c100_3 := sb100 F3.out.s ok; have c101_3 := sb101 F3.out.s ok; have f0_3 := F3.out.s.frozen 0; have f1_3 := F3.out.s.frozen 1; have f34_3 := F3.out.s.frozen 34; have f67_3 := F3.out.s.frozen 67; have f100_3 := F3.out.s.frozen 100; have f101_3 := F3.out.s.frozen 101; have e0_3 := jb0 F3.out.x; have e1_3 := jb1 F3.out.x; have e34_3 := jb34 F3.out.x oi; have e35_3 := jb35 F3.out.x oi; rw [HK.out] at e0_3)
          | (with_reducible refine wpList_load_mid rfl 25 _ rfl w.heap.size 0 rfl (s).cells _ F3.out.s.range0 Try.underlying25 rfl (rowS ok) ?_)
          | (with_reducible refine wpList_store_S rfl _ _ rfl w2.heap.size (s) s0 rfl rfl F3.out.r ok s0_ok ?_; intro w9 h9 k9))
        exact ret_end rfl rfl rfl F3.out h9 k9 ok rfl (.inl ⟨rfl, rfl⟩) HR.out
    have h3 : proposedM s i = bodyM s i i.valid := by unfold proposedM; rw [if_pos n3, if_neg nv]
    by_cases hm : i.good = true ∧ i.block ≠ zero
    · by_cases hl : s.lockedR ≤ i.valid
      · have HR0 : proposedM s i = prevM s i.block := by rw [h3]; unfold bodyM; exact if_pos ⟨hm, .inl hl⟩
        have HC := Lib.hid (fun w' => prevote_any w' s ok i.block oi.b)
        generalize prevM s i.block = r at HR0 HC
        obtain ⟨s1, l1⟩ := r
        have HR := Lib.hid HR0
        clear HR0
        have hl2 : decide (s.lockedR ≤ i.valid) = true := decide_eq_true hl
        rw [decide_eq_true hm] at HM
        clear hm
        have hv1 : decide (i.valid < 0) = false := by simpa using fun h => nv (.inl h)
        have hv2 : decide (i.round ≤ i.valid) = false := by simpa using fun h => nv (.inr h)
        have hv3 : ¬ i.valid < 0 := fun h => nv (.inl h)
        have HK := Lib.hid n3
        clear n3
        go_enter Try.func25, Try.ntmps25
        go_wp2_with (first
          | (with_reducible refine wpList_box_row rfl _ _ rfl (cs := s.cells.toArray) rfl ?_; intro w1 hw1)
          | (with_reducible refine wpList_box_row rfl _ _ rfl (cs := i.cells.toArray) rfl ?_; intro w2 hw2)
          | (with_reducible refine wpList_alloc_named rfl _ rfl s0.cells z_S ?_; intro w3 hw3; have F3 := Lib.hid (pro hw1.out hw2.out hw3.out); clear hw1 hw2 hw3; have c0_3 := sb0 F3.out.s; have c1_3 := sb1 F3.out.s; have c34_3 := sb34 F3.out.s ok; have c67_3 := sb67 F3.out.s ok; have c100_3 := sb100 F3.out.s ok; have c101_3 := sb101 F3.out.s ok; have f0_3 := F3.out.s.frozen 0; have f1_3 := F3.out.s.frozen 1; have f34_3 := F3.out.s.frozen 34; have f67_3 := F3.out.s.frozen 67; have f100_3 := F3.out.s.frozen 100; have f101_3 := F3.out.s.frozen 101; have e0_3 := jb0 F3.out.x; have e1_3 := jb1 F3.out.x; have e34_3 := jb34 F3.out.x oi; have e35_3 := jb35 F3.out.x oi; rw [HK.out] at e0_3)
          | (with_reducible refine wpList_load_mid rfl 27 _ rfl w1.heap.size 0 rfl i.cells _ F3.out.x.range0 Try.underlying27 rfl (rowI oi) ?_)
          | (go_at_call 23; go_loud (refine (HM.out _).mono ?_; rintro e w4 ⟨rfl, k4⟩; have F4 := Lib.hid (F3.out.chg k4); have c0_4 := sb0 F4.out.s; have c1_4 := sb1 F4.out.s; have c34_4 := sb34 F4.out.s ok; have c67_4 := sb67 F4.out.s ok; have c100_4 := sb100 F4.out.s ok; have c101_4 := sb101 F4.out.s ok; have f0_4 := F4.out.s.frozen 0; have f1_4 := F4.out.s.frozen 1; have f34_4 := F4.out.s.frozen 34; have f67_4 := F4.out.s.frozen 67; have f100_4 := F4.out.s.frozen 100; have f101_4 := F4.out.s.frozen 101; have e0_4 := jb0 F4.out.x; have e1_4 := jb1 F4.out.x; have e34_4 := jb34 F4.out.x oi; have e35_4 := jb35 F4.out.x oi; rw [HK.out] at e0_4))
          | (with_reducible refine wpList_load_mid rfl 25 _ rfl w.heap.size 0 rfl (s).cells _ F4.out.s.range0 Try.underlying25 rfl (rowS ok) ?_)
          | (with_reducible refine wpList_load_mid rfl 23 _ rfl w1.heap.size 2 rfl (bv i.block) _ (jb2 F4.out.x) Try.underlying23 rfl (rowH oi.b) ?_)
          | (with_reducible refine wpList_load_mid rfl 25 _ rfl w.heap.size 0 rfl (s).cells _ F4.out.s.range0 Try.underlying25 rfl (rowS ok) ?_)
          | (with_reducible refine wpList_load_mid rfl 27 _ rfl w1.heap.size 0 rfl i.cells _ F4.out.x.range0 Try.underlying27 rfl (rowI oi) ?_)
          | (go_at_call 30; go_loud (refine (HC.out _).mono ?_; rintro e w5 ⟨k5, okC, v, rfl, oC⟩; have F5 := Lib.hid (F4.out.chg k5); have OC := Lib.hid oC; clear oC))
          | (with_reducible refine wpList_store_S rfl _ _ rfl w2.heap.size s1 s0 rfl rfl F5.out.r okC s0_ok ?_; intro w9 h9 k9))
        exact ret_end rfl rfl rfl F5.out h9 k9 okC rfl (outs_ho OC.out F4.out.r.lt) HR.out
      · by_cases hb : i.block = s.locked
        · have HR0 : proposedM s i = prevM s i.block := by rw [h3]; unfold bodyM; exact if_pos ⟨hm, .inr hb⟩
          have HC := Lib.hid (fun w' => prevote_any w' s ok i.block oi.b)
          generalize prevM s i.block = r at HR0 HC
          obtain ⟨s1, l1⟩ := r
          have HR := Lib.hid HR0
          clear HR0
          have hl2 : decide (s.lockedR ≤ i.valid) = false := decide_eq_false hl
          have HEQ := Lib.hid (run_eq_hash · oi.b ok.l)
          rw [decide_eq_true hb] at HEQ
          rw [decide_eq_true hm] at HM
          clear hm hb
          have hv1 : decide (i.valid < 0) = false := by simpa using fun h => nv (.inl h)
          have hv2 : decide (i.round ≤ i.valid) = false := by simpa using fun h => nv (.inr h)
          have hv3 : ¬ i.valid < 0 := fun h => nv (.inl h)
          have HK := Lib.hid n3
          clear n3
          go_enter Try.func25, Try.ntmps25
          go_wp2_with (first
            | (with_reducible refine wpList_box_row rfl _ _ rfl (cs := s.cells.toArray) rfl ?_; intro w1 hw1)
            | (with_reducible refine wpList_box_row rfl _ _ rfl (cs := i.cells.toArray) rfl ?_; intro w2 hw2)
            | (with_reducible refine wpList_alloc_named rfl _ rfl s0.cells z_S ?_; intro w3 hw3; have F3 := Lib.hid (pro hw1.out hw2.out hw3.out); clear hw1 hw2 hw3; have c0_3 := sb0 F3.out.s; have c1_3 := sb1 F3.out.s; have c34_3 := sb34 F3.out.s ok; have c67_3 := sb67 F3.out.s ok; have c100_3 := sb100 F3.out.s ok; have c101_3 := sb101 F3.out.s ok; have f0_3 := F3.out.s.frozen 0; have f1_3 := F3.out.s.frozen 1; have f34_3 := F3.out.s.frozen 34; have f67_3 := F3.out.s.frozen 67; have f100_3 := F3.out.s.frozen 100; have f101_3 := F3.out.s.frozen 101; have e0_3 := jb0 F3.out.x; have e1_3 := jb1 F3.out.x; have e34_3 := jb34 F3.out.x oi; have e35_3 := jb35 F3.out.x oi; rw [HK.out] at e0_3)
            | (with_reducible refine wpList_load_mid rfl 27 _ rfl w1.heap.size 0 rfl i.cells _ F3.out.x.range0 Try.underlying27 rfl (rowI oi) ?_)
            | (go_at_call 23; go_loud (refine (HM.out _).mono ?_; rintro e w4 ⟨rfl, k4⟩; have F4 := Lib.hid (F3.out.chg k4); have c0_4 := sb0 F4.out.s; have c1_4 := sb1 F4.out.s; have c34_4 := sb34 F4.out.s ok; have c67_4 := sb67 F4.out.s ok; have c100_4 := sb100 F4.out.s ok; have c101_4 := sb101 F4.out.s ok; have f0_4 := F4.out.s.frozen 0; have f1_4 := F4.out.s.frozen 1; have f34_4 := F4.out.s.frozen 34; have f67_4 := F4.out.s.frozen 67; have f100_4 := F4.out.s.frozen 100; have f101_4 := F4.out.s.frozen 101; have e0_4 := jb0 F4.out.x; have e1_4 := jb1 F4.out.x; have e34_4 := jb34 F4.out.x oi; have e35_4 := jb35 F4.out.x oi; rw [HK.out] at e0_4))
            | (with_reducible refine wpList_load_w 23 _ rfl ?_ w1.heap.size 2 rfl (bv i.block) _ (jb2 F4.out.x) Try.underlying23 rfl (rowH oi.b) ?_; focus (first | (simp [Region.wanted, yielded, *]; done) | kernel_rfl))
            | (with_reducible refine wpList_load_w 23 _ rfl ?_ w.heap.size 2 rfl (bv s.locked) _ (sb2 F4.out.s ok).1 Try.underlying23 rfl (rowH ok.l) ?_; focus (first | (simp [Region.wanted, yielded, *]; done) | kernel_rfl))
            | (with_reducible refine wpList_eql_w 23 _ _ _ rfl ?_ (xs := (bv i.block).toArray) (ys := (bv s.locked).toArray) rfl rfl hash_guard (HEQ.out _) ?_; focus (first | (simp [Region.wanted, yielded, *]; done) | kernel_rfl))
            | (with_reducible refine wpList_load_mid rfl 25 _ rfl w.heap.size 0 rfl (s).cells _ F4.out.s.range0 Try.underlying25 rfl (rowS ok) ?_)
            | (with_reducible refine wpList_load_mid rfl 23 _ rfl w1.heap.size 2 rfl (bv i.block) _ (jb2 F4.out.x) Try.underlying23 rfl (rowH oi.b) ?_)
            | (with_reducible refine wpList_load_mid rfl 25 _ rfl w.heap.size 0 rfl (s).cells _ F4.out.s.range0 Try.underlying25 rfl (rowS ok) ?_)
            | (with_reducible refine wpList_load_mid rfl 27 _ rfl w1.heap.size 0 rfl i.cells _ F4.out.x.range0 Try.underlying27 rfl (rowI oi) ?_)
            | (go_at_call 30; go_loud (refine (HC.out _).mono ?_; rintro e w5 ⟨k5, okC, v, rfl, oC⟩; have F5 := Lib.hid (F4.out.chg k5); have OC := Lib.hid oC; clear oC))
            | (with_reducible refine wpList_store_S rfl _ _ rfl w2.heap.size s1 s0 rfl rfl F5.out.r okC s0_ok ?_; intro w9 h9 k9))
          exact ret_end rfl rfl rfl F5.out h9 k9 okC rfl (outs_ho OC.out F4.out.r.lt) HR.out
        · have HR0 : proposedM s i = prevM s zero := by rw [h3]; unfold bodyM; exact if_neg (fun h => h.2.elim hl hb)
          have HC := Lib.hid (fun w' => prevote_any w' s ok zero rfl)
          generalize prevM s zero = r at HR0 HC
          obtain ⟨s1, l1⟩ := r
          have HR := Lib.hid HR0
          clear HR0
          have hl2 : decide (s.lockedR ≤ i.valid) = false := decide_eq_false hl
          have HEQ := Lib.hid (run_eq_hash · oi.b ok.l)
          rw [decide_eq_false hb] at HEQ
          rw [decide_eq_true hm] at HM
          clear hm hb
          have hv1 : decide (i.valid < 0) = false := by simpa using fun h => nv (.inl h)
          have hv2 : decide (i.round ≤ i.valid) = false := by simpa using fun h => nv (.inr h)
          have hv3 : ¬ i.valid < 0 := fun h => nv (.inl h)
          have HK := Lib.hid n3
          clear n3
          go_enter Try.func25, Try.ntmps25
          go_wp2_with (first
            | (with_reducible refine wpList_box_row rfl _ _ rfl (cs := s.cells.toArray) rfl ?_; intro w1 hw1)
            | (with_reducible refine wpList_box_row rfl _ _ rfl (cs := i.cells.toArray) rfl ?_; intro w2 hw2)
            | (with_reducible refine wpList_alloc_named rfl _ rfl s0.cells z_S ?_; intro w3 hw3; have F3 := Lib.hid (pro hw1.out hw2.out hw3.out); clear hw1 hw2 hw3; have c0_3 := sb0 F3.out.s; have c1_3 := sb1 F3.out.s; have c34_3 := sb34 F3.out.s ok; have c67_3 := sb67 F3.out.s ok; have c100_3 := sb100 F3.out.s ok; have c101_3 := sb101 F3.out.s ok; have f0_3 := F3.out.s.frozen 0; have f1_3 := F3.out.s.frozen 1; have f34_3 := F3.out.s.frozen 34; have f67_3 := F3.out.s.frozen 67; have f100_3 := F3.out.s.frozen 100; have f101_3 := F3.out.s.frozen 101; have e0_3 := jb0 F3.out.x; have e1_3 := jb1 F3.out.x; have e34_3 := jb34 F3.out.x oi; have e35_3 := jb35 F3.out.x oi; rw [HK.out] at e0_3)
            | (with_reducible refine wpList_load_mid rfl 27 _ rfl w1.heap.size 0 rfl i.cells _ F3.out.x.range0 Try.underlying27 rfl (rowI oi) ?_)
            | (go_at_call 23; go_loud (refine (HM.out _).mono ?_; rintro e w4 ⟨rfl, k4⟩; have F4 := Lib.hid (F3.out.chg k4); have c0_4 := sb0 F4.out.s; have c1_4 := sb1 F4.out.s; have c34_4 := sb34 F4.out.s ok; have c67_4 := sb67 F4.out.s ok; have c100_4 := sb100 F4.out.s ok; have c101_4 := sb101 F4.out.s ok; have f0_4 := F4.out.s.frozen 0; have f1_4 := F4.out.s.frozen 1; have f34_4 := F4.out.s.frozen 34; have f67_4 := F4.out.s.frozen 67; have f100_4 := F4.out.s.frozen 100; have f101_4 := F4.out.s.frozen 101; have e0_4 := jb0 F4.out.x; have e1_4 := jb1 F4.out.x; have e34_4 := jb34 F4.out.x oi; have e35_4 := jb35 F4.out.x oi; rw [HK.out] at e0_4))
            | (with_reducible refine wpList_load_w 23 _ rfl ?_ w1.heap.size 2 rfl (bv i.block) _ (jb2 F4.out.x) Try.underlying23 rfl (rowH oi.b) ?_; focus (first | (simp [Region.wanted, yielded, *]; done) | kernel_rfl))
            | (with_reducible refine wpList_load_w 23 _ rfl ?_ w.heap.size 2 rfl (bv s.locked) _ (sb2 F4.out.s ok).1 Try.underlying23 rfl (rowH ok.l) ?_; focus (first | (simp [Region.wanted, yielded, *]; done) | kernel_rfl))
            | (with_reducible refine wpList_eql_w 23 _ _ _ rfl ?_ (xs := (bv i.block).toArray) (ys := (bv s.locked).toArray) rfl rfl hash_guard (HEQ.out _) ?_; focus (first | (simp [Region.wanted, yielded, *]; done) | kernel_rfl))
            | (with_reducible refine wpList_load_mid rfl 25 _ rfl w.heap.size 0 rfl (s).cells _ F4.out.s.range0 Try.underlying25 rfl (rowS ok) ?_)
            | (with_reducible refine wpList_build_zero rfl 23 rfl built_zero ?_)
            | (with_reducible refine wpList_load_mid rfl 25 _ rfl w.heap.size 0 rfl (s).cells _ F4.out.s.range0 Try.underlying25 rfl (rowS ok) ?_)
            | (with_reducible refine wpList_load_mid rfl 27 _ rfl w1.heap.size 0 rfl i.cells _ F4.out.x.range0 Try.underlying27 rfl (rowI oi) ?_)
            | (go_at_call 30; go_loud (refine (HC.out _).mono ?_; rintro e w5 ⟨k5, okC, v, rfl, oC⟩; have F5 := Lib.hid (F4.out.chg k5); have OC := Lib.hid oC; clear oC))
            | (with_reducible refine wpList_store_S rfl _ _ rfl w2.heap.size s1 s0 rfl rfl F5.out.r okC s0_ok ?_; intro w9 h9 k9))
          exact ret_end rfl rfl rfl F5.out h9 k9 okC rfl (outs_ho OC.out F4.out.r.lt) HR.out
    · have HR0 : proposedM s i = prevM s zero := by rw [h3]; unfold bodyM; exact if_neg (fun h => hm h.1)
      have HC := Lib.hid (fun w' => prevote_any w' s ok zero rfl)
      generalize prevM s zero = r at HR0 HC
      obtain ⟨s1, l1⟩ := r
      have HR := Lib.hid HR0
      clear HR0
      rw [decide_eq_false hm] at HM
      clear hm
      have hv1 : decide (i.valid < 0) = false := by simpa using fun h => nv (.inl h)
      have hv2 : decide (i.round ≤ i.valid) = false := by simpa using fun h => nv (.inr h)
      have hv3 : ¬ i.valid < 0 := fun h => nv (.inl h)
      have HK := Lib.hid n3
      clear n3
      go_enter Try.func25, Try.ntmps25
      go_wp2_with (first
        | (with_reducible refine wpList_box_row rfl _ _ rfl (cs := s.cells.toArray) rfl ?_; intro w1 hw1)
        | (with_reducible refine wpList_box_row rfl _ _ rfl (cs := i.cells.toArray) rfl ?_; intro w2 hw2)
        | (with_reducible refine wpList_alloc_named rfl _ rfl s0.cells z_S ?_; intro w3 hw3; have F3 := Lib.hid (pro hw1.out hw2.out hw3.out); clear hw1 hw2 hw3; have c0_3 := sb0 F3.out.s; have c1_3 := sb1 F3.out.s; have c34_3 := sb34 F3.out.s ok; have c67_3 := sb67 F3.out.s ok; have c100_3 := sb100 F3.out.s ok; have c101_3 := sb101 F3.out.s ok; have f0_3 := F3.out.s.frozen 0; have f1_3 := F3.out.s.frozen 1; have f34_3 := F3.out.s.frozen 34; have f67_3 := F3.out.s.frozen 67; have f100_3 := F3.out.s.frozen 100; have f101_3 := F3.out.s.frozen 101; have e0_3 := jb0 F3.out.x; have e1_3 := jb1 F3.out.x; have e34_3 := jb34 F3.out.x oi; have e35_3 := jb35 F3.out.x oi; rw [HK.out] at e0_3)
        | (with_reducible refine wpList_load_mid rfl 27 _ rfl w1.heap.size 0 rfl i.cells _ F3.out.x.range0 Try.underlying27 rfl (rowI oi) ?_)
        | (go_at_call 23; go_loud (refine (HM.out _).mono ?_; rintro e w4 ⟨rfl, k4⟩; have F4 := Lib.hid (F3.out.chg k4); have c0_4 := sb0 F4.out.s; have c1_4 := sb1 F4.out.s; have c34_4 := sb34 F4.out.s ok; have c67_4 := sb67 F4.out.s ok; have c100_4 := sb100 F4.out.s ok; have c101_4 := sb101 F4.out.s ok; have f0_4 := F4.out.s.frozen 0; have f1_4 := F4.out.s.frozen 1; have f34_4 := F4.out.s.frozen 34; have f67_4 := F4.out.s.frozen 67; have f100_4 := F4.out.s.frozen 100; have f101_4 := F4.out.s.frozen 101; have e0_4 := jb0 F4.out.x; have e1_4 := jb1 F4.out.x; have e34_4 := jb34 F4.out.x oi; have e35_4 := jb35 F4.out.x oi; rw [HK.out] at e0_4))
        | (with_reducible refine wpList_load_mid rfl 25 _ rfl w.heap.size 0 rfl (s).cells _ F4.out.s.range0 Try.underlying25 rfl (rowS ok) ?_)
        | (with_reducible refine wpList_build_zero rfl 23 rfl built_zero ?_)
        | (with_reducible refine wpList_load_mid rfl 25 _ rfl w.heap.size 0 rfl (s).cells _ F4.out.s.range0 Try.underlying25 rfl (rowS ok) ?_)
        | (with_reducible refine wpList_load_mid rfl 27 _ rfl w1.heap.size 0 rfl i.cells _ F4.out.x.range0 Try.underlying27 rfl (rowI oi) ?_)
        | (go_at_call 30; go_loud (refine (HC.out _).mono ?_; rintro e w5 ⟨k5, okC, v, rfl, oC⟩; have F5 := Lib.hid (F4.out.chg k5); have OC := Lib.hid oC; clear oC))
        | (with_reducible refine wpList_store_S rfl _ _ rfl w2.heap.size s1 s0 rfl rfl F5.out.r okC s0_ok ?_; intro w9 h9 k9))
      exact ret_end rfl rfl rfl F5.out h9 k9 okC rfl (outs_ho OC.out F4.out.r.lt) HR.out
  by_cases n2 : i.kind = 2
  · have h3 : proposedM s i = bodyM s i (-1) := by unfold proposedM; rw [if_neg n3, if_pos n2]
    by_cases hm : i.good = true ∧ i.block ≠ zero
    · by_cases hl : s.lockedR ≤ -1
      · have HR0 : proposedM s i = prevM s i.block := by rw [h3]; unfold bodyM; exact if_pos ⟨hm, .inl hl⟩
        have HC := Lib.hid (fun w' => prevote_any w' s ok i.block oi.b)
        generalize prevM s i.block = r at HR0 HC
        obtain ⟨s1, l1⟩ := r
        have HR := Lib.hid HR0
        clear HR0
        have hl2 : decide (s.lockedR ≤ -1) = true := decide_eq_true hl
        rw [decide_eq_true hm] at HM
        clear hm
        have HK := Lib.hid n2
        clear n3 n2
        go_enter Try.func25, Try.ntmps25
        go_wp2_with (first
          | (with_reducible refine wpList_box_row rfl _ _ rfl (cs := s.cells.toArray) rfl ?_; intro w1 hw1)
          | (with_reducible refine wpList_box_row rfl _ _ rfl (cs := i.cells.toArray) rfl ?_; intro w2 hw2)
          | (with_reducible refine wpList_alloc_named rfl _ rfl s0.cells z_S ?_; intro w3 hw3; have F3 := Lib.hid (pro hw1.out hw2.out hw3.out); clear hw1 hw2 hw3; have c0_3 := sb0 F3.out.s; have c1_3 := sb1 F3.out.s; have c34_3 := sb34 F3.out.s ok; have c67_3 := sb67 F3.out.s ok; have c100_3 := sb100 F3.out.s ok; have c101_3 := sb101 F3.out.s ok; have f0_3 := F3.out.s.frozen 0; have f1_3 := F3.out.s.frozen 1; have f34_3 := F3.out.s.frozen 34; have f67_3 := F3.out.s.frozen 67; have f100_3 := F3.out.s.frozen 100; have f101_3 := F3.out.s.frozen 101; have e0_3 := jb0 F3.out.x; have e1_3 := jb1 F3.out.x; have e34_3 := jb34 F3.out.x oi; have e35_3 := jb35 F3.out.x oi; rw [HK.out] at e0_3)
          | (with_reducible refine wpList_load_mid rfl 27 _ rfl w1.heap.size 0 rfl i.cells _ F3.out.x.range0 Try.underlying27 rfl (rowI oi) ?_)
          | (go_at_call 23; go_loud (refine (HM.out _).mono ?_; rintro e w4 ⟨rfl, k4⟩; have F4 := Lib.hid (F3.out.chg k4); have c0_4 := sb0 F4.out.s; have c1_4 := sb1 F4.out.s; have c34_4 := sb34 F4.out.s ok; have c67_4 := sb67 F4.out.s ok; have c100_4 := sb100 F4.out.s ok; have c101_4 := sb101 F4.out.s ok; have f0_4 := F4.out.s.frozen 0; have f1_4 := F4.out.s.frozen 1; have f34_4 := F4.out.s.frozen 34; have f67_4 := F4.out.s.frozen 67; have f100_4 := F4.out.s.frozen 100; have f101_4 := F4.out.s.frozen 101; have e0_4 := jb0 F4.out.x; have e1_4 := jb1 F4.out.x; have e34_4 := jb34 F4.out.x oi; have e35_4 := jb35 F4.out.x oi; rw [HK.out] at e0_4))
          | (with_reducible refine wpList_load_mid rfl 25 _ rfl w.heap.size 0 rfl (s).cells _ F4.out.s.range0 Try.underlying25 rfl (rowS ok) ?_)
          | (with_reducible refine wpList_load_mid rfl 23 _ rfl w1.heap.size 2 rfl (bv i.block) _ (jb2 F4.out.x) Try.underlying23 rfl (rowH oi.b) ?_)
          | (with_reducible refine wpList_load_mid rfl 25 _ rfl w.heap.size 0 rfl (s).cells _ F4.out.s.range0 Try.underlying25 rfl (rowS ok) ?_)
          | (with_reducible refine wpList_load_mid rfl 27 _ rfl w1.heap.size 0 rfl i.cells _ F4.out.x.range0 Try.underlying27 rfl (rowI oi) ?_)
          | (go_at_call 30; go_loud (refine (HC.out _).mono ?_; rintro e w5 ⟨k5, okC, v, rfl, oC⟩; have F5 := Lib.hid (F4.out.chg k5); have OC := Lib.hid oC; clear oC))
          | (with_reducible refine wpList_store_S rfl _ _ rfl w2.heap.size s1 s0 rfl rfl F5.out.r okC s0_ok ?_; intro w9 h9 k9))
        exact ret_end rfl rfl rfl F5.out h9 k9 okC rfl (outs_ho OC.out F4.out.r.lt) HR.out
      · by_cases hb : i.block = s.locked
        · have HR0 : proposedM s i = prevM s i.block := by rw [h3]; unfold bodyM; exact if_pos ⟨hm, .inr hb⟩
          have HC := Lib.hid (fun w' => prevote_any w' s ok i.block oi.b)
          generalize prevM s i.block = r at HR0 HC
          obtain ⟨s1, l1⟩ := r
          have HR := Lib.hid HR0
          clear HR0
          have hl2 : decide (s.lockedR ≤ -1) = false := decide_eq_false hl
          have HEQ := Lib.hid (run_eq_hash · oi.b ok.l)
          rw [decide_eq_true hb] at HEQ
          rw [decide_eq_true hm] at HM
          clear hm hb
          have HK := Lib.hid n2
          clear n3 n2
          go_enter Try.func25, Try.ntmps25
          go_wp2_with (first
            | (with_reducible refine wpList_box_row rfl _ _ rfl (cs := s.cells.toArray) rfl ?_; intro w1 hw1)
            | (with_reducible refine wpList_box_row rfl _ _ rfl (cs := i.cells.toArray) rfl ?_; intro w2 hw2)
            | (with_reducible refine wpList_alloc_named rfl _ rfl s0.cells z_S ?_; intro w3 hw3; have F3 := Lib.hid (pro hw1.out hw2.out hw3.out); clear hw1 hw2 hw3; have c0_3 := sb0 F3.out.s; have c1_3 := sb1 F3.out.s; have c34_3 := sb34 F3.out.s ok; have c67_3 := sb67 F3.out.s ok; have c100_3 := sb100 F3.out.s ok; have c101_3 := sb101 F3.out.s ok; have f0_3 := F3.out.s.frozen 0; have f1_3 := F3.out.s.frozen 1; have f34_3 := F3.out.s.frozen 34; have f67_3 := F3.out.s.frozen 67; have f100_3 := F3.out.s.frozen 100; have f101_3 := F3.out.s.frozen 101; have e0_3 := jb0 F3.out.x; have e1_3 := jb1 F3.out.x; have e34_3 := jb34 F3.out.x oi; have e35_3 := jb35 F3.out.x oi; rw [HK.out] at e0_3)
            | (with_reducible refine wpList_load_mid rfl 27 _ rfl w1.heap.size 0 rfl i.cells _ F3.out.x.range0 Try.underlying27 rfl (rowI oi) ?_)
            | (go_at_call 23; go_loud (refine (HM.out _).mono ?_; rintro e w4 ⟨rfl, k4⟩; have F4 := Lib.hid (F3.out.chg k4); have c0_4 := sb0 F4.out.s; have c1_4 := sb1 F4.out.s; have c34_4 := sb34 F4.out.s ok; have c67_4 := sb67 F4.out.s ok; have c100_4 := sb100 F4.out.s ok; have c101_4 := sb101 F4.out.s ok; have f0_4 := F4.out.s.frozen 0; have f1_4 := F4.out.s.frozen 1; have f34_4 := F4.out.s.frozen 34; have f67_4 := F4.out.s.frozen 67; have f100_4 := F4.out.s.frozen 100; have f101_4 := F4.out.s.frozen 101; have e0_4 := jb0 F4.out.x; have e1_4 := jb1 F4.out.x; have e34_4 := jb34 F4.out.x oi; have e35_4 := jb35 F4.out.x oi; rw [HK.out] at e0_4))
            | (with_reducible refine wpList_load_w 23 _ rfl ?_ w1.heap.size 2 rfl (bv i.block) _ (jb2 F4.out.x) Try.underlying23 rfl (rowH oi.b) ?_; focus (first | (simp [Region.wanted, yielded, *]; done) | kernel_rfl))
            | (with_reducible refine wpList_load_w 23 _ rfl ?_ w.heap.size 2 rfl (bv s.locked) _ (sb2 F4.out.s ok).1 Try.underlying23 rfl (rowH ok.l) ?_; focus (first | (simp [Region.wanted, yielded, *]; done) | kernel_rfl))
            | (with_reducible refine wpList_eql_w 23 _ _ _ rfl ?_ (xs := (bv i.block).toArray) (ys := (bv s.locked).toArray) rfl rfl hash_guard (HEQ.out _) ?_; focus (first | (simp [Region.wanted, yielded, *]; done) | kernel_rfl))
            | (with_reducible refine wpList_load_mid rfl 25 _ rfl w.heap.size 0 rfl (s).cells _ F4.out.s.range0 Try.underlying25 rfl (rowS ok) ?_)
            | (with_reducible refine wpList_load_mid rfl 23 _ rfl w1.heap.size 2 rfl (bv i.block) _ (jb2 F4.out.x) Try.underlying23 rfl (rowH oi.b) ?_)
            | (with_reducible refine wpList_load_mid rfl 25 _ rfl w.heap.size 0 rfl (s).cells _ F4.out.s.range0 Try.underlying25 rfl (rowS ok) ?_)
            | (with_reducible refine wpList_load_mid rfl 27 _ rfl w1.heap.size 0 rfl i.cells _ F4.out.x.range0 Try.underlying27 rfl (rowI oi) ?_)
            | (go_at_call 30; go_loud (refine (HC.out _).mono ?_; rintro e w5 ⟨k5, okC, v, rfl, oC⟩; have F5 := Lib.hid (F4.out.chg k5); have OC := Lib.hid oC; clear oC))
            | (with_reducible refine wpList_store_S rfl _ _ rfl w2.heap.size s1 s0 rfl rfl F5.out.r okC s0_ok ?_; intro w9 h9 k9))
          exact ret_end rfl rfl rfl F5.out h9 k9 okC rfl (outs_ho OC.out F4.out.r.lt) HR.out
        · have HR0 : proposedM s i = prevM s zero := by rw [h3]; unfold bodyM; exact if_neg (fun h => h.2.elim hl hb)
          have HC := Lib.hid (fun w' => prevote_any w' s ok zero rfl)
          generalize prevM s zero = r at HR0 HC
          obtain ⟨s1, l1⟩ := r
          have HR := Lib.hid HR0
          clear HR0
          have hl2 : decide (s.lockedR ≤ -1) = false := decide_eq_false hl
          have HEQ := Lib.hid (run_eq_hash · oi.b ok.l)
          rw [decide_eq_false hb] at HEQ
          rw [decide_eq_true hm] at HM
          clear hm hb
          have HK := Lib.hid n2
          clear n3 n2
          go_enter Try.func25, Try.ntmps25
          go_wp2_with (first
            | (with_reducible refine wpList_box_row rfl _ _ rfl (cs := s.cells.toArray) rfl ?_; intro w1 hw1)
            | (with_reducible refine wpList_box_row rfl _ _ rfl (cs := i.cells.toArray) rfl ?_; intro w2 hw2)
            | (with_reducible refine wpList_alloc_named rfl _ rfl s0.cells z_S ?_; intro w3 hw3; have F3 := Lib.hid (pro hw1.out hw2.out hw3.out); clear hw1 hw2 hw3; have c0_3 := sb0 F3.out.s; have c1_3 := sb1 F3.out.s; have c34_3 := sb34 F3.out.s ok; have c67_3 := sb67 F3.out.s ok; have c100_3 := sb100 F3.out.s ok; have c101_3 := sb101 F3.out.s ok; have f0_3 := F3.out.s.frozen 0; have f1_3 := F3.out.s.frozen 1; have f34_3 := F3.out.s.frozen 34; have f67_3 := F3.out.s.frozen 67; have f100_3 := F3.out.s.frozen 100; have f101_3 := F3.out.s.frozen 101; have e0_3 := jb0 F3.out.x; have e1_3 := jb1 F3.out.x; have e34_3 := jb34 F3.out.x oi; have e35_3 := jb35 F3.out.x oi; rw [HK.out] at e0_3)
            | (with_reducible refine wpList_load_mid rfl 27 _ rfl w1.heap.size 0 rfl i.cells _ F3.out.x.range0 Try.underlying27 rfl (rowI oi) ?_)
            | (go_at_call 23; go_loud (refine (HM.out _).mono ?_; rintro e w4 ⟨rfl, k4⟩; have F4 := Lib.hid (F3.out.chg k4); have c0_4 := sb0 F4.out.s; have c1_4 := sb1 F4.out.s; have c34_4 := sb34 F4.out.s ok; have c67_4 := sb67 F4.out.s ok; have c100_4 := sb100 F4.out.s ok; have c101_4 := sb101 F4.out.s ok; have f0_4 := F4.out.s.frozen 0; have f1_4 := F4.out.s.frozen 1; have f34_4 := F4.out.s.frozen 34; have f67_4 := F4.out.s.frozen 67; have f100_4 := F4.out.s.frozen 100; have f101_4 := F4.out.s.frozen 101; have e0_4 := jb0 F4.out.x; have e1_4 := jb1 F4.out.x; have e34_4 := jb34 F4.out.x oi; have e35_4 := jb35 F4.out.x oi; rw [HK.out] at e0_4))
            | (with_reducible refine wpList_load_w 23 _ rfl ?_ w1.heap.size 2 rfl (bv i.block) _ (jb2 F4.out.x) Try.underlying23 rfl (rowH oi.b) ?_; focus (first | (simp [Region.wanted, yielded, *]; done) | kernel_rfl))
            | (with_reducible refine wpList_load_w 23 _ rfl ?_ w.heap.size 2 rfl (bv s.locked) _ (sb2 F4.out.s ok).1 Try.underlying23 rfl (rowH ok.l) ?_; focus (first | (simp [Region.wanted, yielded, *]; done) | kernel_rfl))
            | (with_reducible refine wpList_eql_w 23 _ _ _ rfl ?_ (xs := (bv i.block).toArray) (ys := (bv s.locked).toArray) rfl rfl hash_guard (HEQ.out _) ?_; focus (first | (simp [Region.wanted, yielded, *]; done) | kernel_rfl))
            | (with_reducible refine wpList_load_mid rfl 25 _ rfl w.heap.size 0 rfl (s).cells _ F4.out.s.range0 Try.underlying25 rfl (rowS ok) ?_)
            | (with_reducible refine wpList_build_zero rfl 23 rfl built_zero ?_)
            | (with_reducible refine wpList_load_mid rfl 25 _ rfl w.heap.size 0 rfl (s).cells _ F4.out.s.range0 Try.underlying25 rfl (rowS ok) ?_)
            | (with_reducible refine wpList_load_mid rfl 27 _ rfl w1.heap.size 0 rfl i.cells _ F4.out.x.range0 Try.underlying27 rfl (rowI oi) ?_)
            | (go_at_call 30; go_loud (refine (HC.out _).mono ?_; rintro e w5 ⟨k5, okC, v, rfl, oC⟩; have F5 := Lib.hid (F4.out.chg k5); have OC := Lib.hid oC; clear oC))
            | (with_reducible refine wpList_store_S rfl _ _ rfl w2.heap.size s1 s0 rfl rfl F5.out.r okC s0_ok ?_; intro w9 h9 k9))
          exact ret_end rfl rfl rfl F5.out h9 k9 okC rfl (outs_ho OC.out F4.out.r.lt) HR.out
    · have HR0 : proposedM s i = prevM s zero := by rw [h3]; unfold bodyM; exact if_neg (fun h => hm h.1)
      have HC := Lib.hid (fun w' => prevote_any w' s ok zero rfl)
      generalize prevM s zero = r at HR0 HC
      obtain ⟨s1, l1⟩ := r
      have HR := Lib.hid HR0
      clear HR0
      rw [decide_eq_false hm] at HM
      clear hm
      have HK := Lib.hid n2
      clear n3 n2
      go_enter Try.func25, Try.ntmps25
      go_wp2_with (first
        | (with_reducible refine wpList_box_row rfl _ _ rfl (cs := s.cells.toArray) rfl ?_; intro w1 hw1)
        | (with_reducible refine wpList_box_row rfl _ _ rfl (cs := i.cells.toArray) rfl ?_; intro w2 hw2)
        | (with_reducible refine wpList_alloc_named rfl _ rfl s0.cells z_S ?_; intro w3 hw3; have F3 := Lib.hid (pro hw1.out hw2.out hw3.out); clear hw1 hw2 hw3; have c0_3 := sb0 F3.out.s; have c1_3 := sb1 F3.out.s; have c34_3 := sb34 F3.out.s ok; have c67_3 := sb67 F3.out.s ok; have c100_3 := sb100 F3.out.s ok; have c101_3 := sb101 F3.out.s ok; have f0_3 := F3.out.s.frozen 0; have f1_3 := F3.out.s.frozen 1; have f34_3 := F3.out.s.frozen 34; have f67_3 := F3.out.s.frozen 67; have f100_3 := F3.out.s.frozen 100; have f101_3 := F3.out.s.frozen 101; have e0_3 := jb0 F3.out.x; have e1_3 := jb1 F3.out.x; have e34_3 := jb34 F3.out.x oi; have e35_3 := jb35 F3.out.x oi; rw [HK.out] at e0_3)
        | (with_reducible refine wpList_load_mid rfl 27 _ rfl w1.heap.size 0 rfl i.cells _ F3.out.x.range0 Try.underlying27 rfl (rowI oi) ?_)
        | (go_at_call 23; go_loud (refine (HM.out _).mono ?_; rintro e w4 ⟨rfl, k4⟩; have F4 := Lib.hid (F3.out.chg k4); have c0_4 := sb0 F4.out.s; have c1_4 := sb1 F4.out.s; have c34_4 := sb34 F4.out.s ok; have c67_4 := sb67 F4.out.s ok; have c100_4 := sb100 F4.out.s ok; have c101_4 := sb101 F4.out.s ok; have f0_4 := F4.out.s.frozen 0; have f1_4 := F4.out.s.frozen 1; have f34_4 := F4.out.s.frozen 34; have f67_4 := F4.out.s.frozen 67; have f100_4 := F4.out.s.frozen 100; have f101_4 := F4.out.s.frozen 101; have e0_4 := jb0 F4.out.x; have e1_4 := jb1 F4.out.x; have e34_4 := jb34 F4.out.x oi; have e35_4 := jb35 F4.out.x oi; rw [HK.out] at e0_4))
        | (with_reducible refine wpList_load_mid rfl 25 _ rfl w.heap.size 0 rfl (s).cells _ F4.out.s.range0 Try.underlying25 rfl (rowS ok) ?_)
        | (with_reducible refine wpList_build_zero rfl 23 rfl built_zero ?_)
        | (with_reducible refine wpList_load_mid rfl 25 _ rfl w.heap.size 0 rfl (s).cells _ F4.out.s.range0 Try.underlying25 rfl (rowS ok) ?_)
        | (with_reducible refine wpList_load_mid rfl 27 _ rfl w1.heap.size 0 rfl i.cells _ F4.out.x.range0 Try.underlying27 rfl (rowI oi) ?_)
        | (go_at_call 30; go_loud (refine (HC.out _).mono ?_; rintro e w5 ⟨k5, okC, v, rfl, oC⟩; have F5 := Lib.hid (F4.out.chg k5); have OC := Lib.hid oC; clear oC))
        | (with_reducible refine wpList_store_S rfl _ _ rfl w2.heap.size s1 s0 rfl rfl F5.out.r okC s0_ok ?_; intro w9 h9 k9))
      exact ret_end rfl rfl rfl F5.out h9 k9 okC rfl (outs_ho OC.out F4.out.r.lt) HR.out
  · have HR0 : proposedM s i = prevM s zero := by unfold proposedM; rw [if_neg n3, if_neg n2]
    have HC := Lib.hid (fun w' => prevote_any w' s ok zero rfl)
    generalize prevM s zero = r at HR0 HC
    obtain ⟨s1, l1⟩ := r
    have HR := Lib.hid HR0
    clear HR0
    have nk3 : (i.kind == 3) = false := by simpa using n3
    have nk2 : (i.kind == 2) = false := by simpa using n2
    clear n3 n2 HM
    go_enter Try.func25, Try.ntmps25
    go_wp2_with (first
      | (with_reducible refine wpList_box_row rfl _ _ rfl (cs := s.cells.toArray) rfl ?_; intro w1 hw1)
      | (with_reducible refine wpList_box_row rfl _ _ rfl (cs := i.cells.toArray) rfl ?_; intro w2 hw2)
      | (with_reducible refine wpList_alloc_named rfl _ rfl s0.cells z_S ?_; intro w3 hw3; have F3 := Lib.hid (pro hw1.out hw2.out hw3.out); clear hw1 hw2 hw3; have c0_3 := sb0 F3.out.s; have c1_3 := sb1 F3.out.s; have c34_3 := sb34 F3.out.s ok; have c67_3 := sb67 F3.out.s ok; have c100_3 := sb100 F3.out.s ok; have c101_3 := sb101 F3.out.s ok; have f0_3 := F3.out.s.frozen 0; have f1_3 := F3.out.s.frozen 1; have f34_3 := F3.out.s.frozen 34; have f67_3 := F3.out.s.frozen 67; have f100_3 := F3.out.s.frozen 100; have f101_3 := F3.out.s.frozen 101; have e0_3 := jb0 F3.out.x; have e1_3 := jb1 F3.out.x; have e34_3 := jb34 F3.out.x oi; have e35_3 := jb35 F3.out.x oi)
      | (with_reducible refine wpList_load_mid rfl 25 _ rfl w.heap.size 0 rfl (s).cells _ F3.out.s.range0 Try.underlying25 rfl (rowS ok) ?_)
      | (with_reducible refine wpList_build_zero rfl 23 rfl built_zero ?_)
      | (with_reducible refine wpList_load_mid rfl 25 _ rfl w.heap.size 0 rfl (s).cells _ F3.out.s.range0 Try.underlying25 rfl (rowS ok) ?_)
      | (with_reducible refine wpList_load_mid rfl 27 _ rfl w1.heap.size 0 rfl i.cells _ F3.out.x.range0 Try.underlying27 rfl (rowI oi) ?_)
      | (go_at_call 30; go_loud (refine (HC.out _).mono ?_; rintro e w4 ⟨k4, okC, v, rfl, oC⟩; have F4 := Lib.hid (F3.out.chg k4); have OC := Lib.hid oC; clear oC))
      | (with_reducible refine wpList_store_S rfl _ _ rfl w2.heap.size s1 s0 rfl rfl F4.out.r okC s0_ok ?_; intro w9 h9 k9))
    exact ret_end rfl rfl rfl F4.out h9 k9 okC rfl (outs_ho OC.out F3.out.r.lt) HR.out
end Go.Proofs.Ytdejfamcmebdiaa
