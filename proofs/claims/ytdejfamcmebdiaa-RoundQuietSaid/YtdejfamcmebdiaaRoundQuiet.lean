/- Of the program at this commit: the law RoundQuiet answers true for every state and every input (an input of another round does nothing but to begin, to go on to a later one, or to decide; so does a kind that is none); no condition. -/
import Derived.Test.YtdejfamcmebdiaaRows
import Derived.WalkKit
import Derived.ProofKit
import Derived.Test.YtdejfamcmebdiaaRf
namespace Go.Proofs.Ytdejfamcmebdiaa.roundQuiet
open Go.ChangeShapes Go.WideShapes Go.ChangeAt Go.RowKit
set_option linter.unusedVariables false

open mach
theorem two_boxes {W w1 w2 : World} {tS tX : TypeId} {s : State} {X : List Value} (h1 : w1 = W.alloc (.cells s.cells.toArray tS)) (h2 : w2 = w1.alloc (.cells X.toArray tX)) : Hb w2 W.heap.size tS s.cells.toArray ∧ Hb w2 w1.heap.size tX X.toArray ∧ Chg Non W w2 := by
  subst h2
  refine ⟨?_, Hb.new _ _ _, ?_⟩
  · rw [h1]
    exact (Hb.new W _ _).alloc _
  · rw [h1]
    exact ((Chg.refl Non W).alloc _).alloc _
set_option maxRecDepth 100000 in
set_option maxHeartbeats 6400000 in
theorem walk (W : World) (v0 v1 : Value) (h0 : Okv Try.prog W 25 v0) (h1 : Okv Try.prog W 27 v1) :
    Calls Try.prog 9 #[v0, v1] W fun e W' => e = .returned (.bool true) ∧ Below W.heap.size W W' := by
  obtain ⟨s, rfl, ok⟩ := state_arg h0
  obtain ⟨i, rfl, oi⟩ := in_arg h1
  clear h0 h1
  have HS := Lib.hid (fun w' => StepM_any w' s i ok oi)
  have HF := few s i
  have HQ := Lib.hid (quiet s i)
  have EQ := Lib.hid (run_eq_S · s ok)
  by_cases a1 : 1 ≤ i.kind
  · have d1 : decide (1 ≤ i.kind) = true := decide_eq_true a1
    by_cases a12 : i.kind ≤ 12
    · have d12 : decide (i.kind ≤ 12) = true := decide_eq_true a12
      by_cases ar : i.round = s.round
      · have nr : (i.round != s.round) = false := by simpa using ar
        by_cases a0 : i.round < 0
        · have d0 : decide (i.round < 0) = true := decide_eq_true a0
          have hq := HQ.out (by omega)
          rw [hq] at HS
          clear hq HF HQ
          go_enter Try.func9, Try.ntmps9
          go_wp2_with (first
            | (with_reducible refine wpList_box_row rfl _ _ rfl (cs := s.cells.toArray) rfl ?_; intro w1 hw1)
            | (with_reducible refine wpList_box_row rfl _ _ rfl (cs := i.cells.toArray) rfl ?_; intro w2 hw2; have T2 := Lib.hid (two_boxes hw1.out hw2.out); clear hw1 hw2)
            | (with_reducible refine wpList_load_mid rfl 25 _ rfl W.heap.size 0 rfl s.cells _ T2.out.1.range0 Try.underlying25 rfl (rowS ok) ?_)
            | (with_reducible refine wpList_load_mid rfl 27 _ rfl w1.heap.size 0 rfl i.cells _ T2.out.2.1.range0 Try.underlying27 rfl (rowI oi) ?_)
            | (go_at_call 10; go_loud (refine (HS.out _).mono ?_; rintro e w3 ⟨k3, okC, v, rfl, oC⟩; obtain rfl : v = .slice none 0 0 := oC; have T3 := Lib.hid (And.intro (T2.out.1.chg k3 (fun f => f)) (T2.out.2.1.chg k3 (fun f => f))); have K3 := Lib.hid (T2.out.2.2.trans k3 (fun _ f => .inl f))))
            | (with_reducible refine wpList_alloc_named rfl _ rfl s0.cells z_S ?_; intro w4 hw4; have hb4 : Hid (Hb w4 w3.heap.size 25 s0.cells.toArray) := (by rw [hw4.out]; exact Lib.hid (Hb.new _ _ _)); have k4 : Hid (Chg Non w3 w4) := (by rw [hw4.out]; exact Lib.hid ((Chg.refl _ _).alloc _)); clear hw4)
            | ((with_reducible refine wpList_store_S rfl _ _ rfl w3.heap.size s s0 rfl rfl hb4.out ok s0_ok ?_); go_loud (intro w5 h5 k5; have k35 : Chg Non w3 w5 := k4.out.trans k5 (fun j hj => .inr (by have : j = w3.heap.size := hj; omega)); have K5 := Lib.hid (K3.out.trans k35 (fun _ f => .inl f)); have T5 := Lib.hid (And.intro (T3.out.1.chg k35 (fun f => f)) (T3.out.2.chg k35 (fun f => f))); have c0 := sb0 T5.out.1; have e0 := jb0 T5.out.2; have e1 := jb1 T5.out.2; have H5 := Lib.hid h5; clear k35 h5))
            | (go_at_call 14; go_loud (refine (alive_any _).mono ?_; rintro e w6 ⟨rfl, k6⟩; have K6 := Lib.hid (K5.out.trans k6 (fun _ f => .inl f)); have r6 := (H5.out.chg k6 (fun f => f)).range0; have q6 := (T5.out.1.chg k6 (fun f => f)).range0))
            | (with_reducible refine wpList_load_w 25 _ rfl ?_ w3.heap.size 0 rfl s.cells _ r6 Try.underlying25 rfl (rowS ok) ?_; focus (first | (simp [Region.wanted, yielded]; done) | (go_simp; done) | kernel_rfl))
            | (with_reducible refine wpList_load_w 25 _ rfl ?_ W.heap.size 0 rfl s.cells _ q6 Try.underlying25 rfl (rowS ok) ?_; focus (first | (simp [Region.wanted, yielded]; done) | (go_simp; done) | kernel_rfl))
            | (with_reducible refine wpList_eql_w 25 _ _ _ rfl ?_ (xs := s.cells.toArray) (ys := s.cells.toArray) rfl rfl guard_S (EQ.out w6) ?_; focus (first | (simp [Region.wanted, yielded]; done) | (go_simp; done) | kernel_rfl)))
          go_ret
          exact ⟨by simp, K6.out.below (Nat.le_refl _) (fun _ f => f.elim)⟩
        · have d0 : decide (i.round < 0) = false := decide_eq_false a0
          generalize stepM s i = r at HS HF
          obtain ⟨s1, l1⟩ := r
          simp only at HF
          clear HQ EQ
          match l1, HF with
          | [], _ =>
            go_enter Try.func9, Try.ntmps9
            go_wp2_with (first
              | (with_reducible refine wpList_box_row rfl _ _ rfl (cs := s.cells.toArray) rfl ?_; intro w1 hw1)
              | (with_reducible refine wpList_box_row rfl _ _ rfl (cs := i.cells.toArray) rfl ?_; intro w2 hw2; have T2 := Lib.hid (two_boxes hw1.out hw2.out); clear hw1 hw2)
              | (with_reducible refine wpList_load_mid rfl 25 _ rfl W.heap.size 0 rfl s.cells _ T2.out.1.range0 Try.underlying25 rfl (rowS ok) ?_)
              | (with_reducible refine wpList_load_mid rfl 27 _ rfl w1.heap.size 0 rfl i.cells _ T2.out.2.1.range0 Try.underlying27 rfl (rowI oi) ?_)
              | (go_at_call 10; go_loud (refine (HS.out _).mono ?_; rintro e w3 ⟨k3, okC, v, rfl, oC⟩; obtain rfl : v = .slice none 0 0 := oC; have T3 := Lib.hid (And.intro (T2.out.1.chg k3 (fun f => f)) (T2.out.2.1.chg k3 (fun f => f))); have K3 := Lib.hid (T2.out.2.2.trans k3 (fun _ f => .inl f))))
              | (with_reducible refine wpList_alloc_named rfl _ rfl s0.cells z_S ?_; intro w4 hw4; have hb4 : Hid (Hb w4 w3.heap.size 25 s0.cells.toArray) := (by rw [hw4.out]; exact Lib.hid (Hb.new _ _ _)); have k4 : Hid (Chg Non w3 w4) := (by rw [hw4.out]; exact Lib.hid ((Chg.refl _ _).alloc _)); clear hw4)
              | ((with_reducible refine wpList_store_S rfl _ _ rfl w3.heap.size s1 s0 rfl rfl hb4.out okC s0_ok ?_); go_loud (intro w5 h5 k5; have k35 : Chg Non w3 w5 := k4.out.trans k5 (fun j hj => .inr (by have : j = w3.heap.size := hj; omega)); have K5 := Lib.hid (K3.out.trans k35 (fun _ f => .inl f)); have T5 := Lib.hid (And.intro (T3.out.1.chg k35 (fun f => f)) (T3.out.2.chg k35 (fun f => f))); have c0 := sb0 T5.out.1; have e0 := jb0 T5.out.2; have e1 := jb1 T5.out.2; have H5 := Lib.hid h5; clear k35 h5))
              | (go_at_call 14; go_loud (refine (alive_any _).mono ?_; rintro e w6 ⟨rfl, k6⟩; have K6 := Lib.hid (K5.out.trans k6 (fun _ f => .inl f)); have r6 := (H5.out.chg k6 (fun f => f)).range0; have q6 := (T5.out.1.chg k6 (fun f => f)).range0)))
            go_ret
            exact ⟨by simp, K6.out.below (Nat.le_refl _) (fun _ f => f.elim)⟩
          | [o], _ =>
            go_enter Try.func9, Try.ntmps9
            go_wp2_with (first
              | (with_reducible refine wpList_box_row rfl _ _ rfl (cs := s.cells.toArray) rfl ?_; intro w1 hw1)
              | (with_reducible refine wpList_box_row rfl _ _ rfl (cs := i.cells.toArray) rfl ?_; intro w2 hw2; have T2 := Lib.hid (two_boxes hw1.out hw2.out); clear hw1 hw2)
              | (with_reducible refine wpList_load_mid rfl 25 _ rfl W.heap.size 0 rfl s.cells _ T2.out.1.range0 Try.underlying25 rfl (rowS ok) ?_)
              | (with_reducible refine wpList_load_mid rfl 27 _ rfl w1.heap.size 0 rfl i.cells _ T2.out.2.1.range0 Try.underlying27 rfl (rowI oi) ?_)
              | (go_at_call 10; go_loud (refine (HS.out _).mono ?_; rintro e w3 ⟨k3, okC, v, rfl, oC⟩; obtain ⟨g, rfl, _, _, _⟩ := oC; have T3 := Lib.hid (And.intro (T2.out.1.chg k3 (fun f => f)) (T2.out.2.1.chg k3 (fun f => f))); have K3 := Lib.hid (T2.out.2.2.trans k3 (fun _ f => .inl f))))
              | (with_reducible refine wpList_alloc_named rfl _ rfl s0.cells z_S ?_; intro w4 hw4; have hb4 : Hid (Hb w4 w3.heap.size 25 s0.cells.toArray) := (by rw [hw4.out]; exact Lib.hid (Hb.new _ _ _)); have k4 : Hid (Chg Non w3 w4) := (by rw [hw4.out]; exact Lib.hid ((Chg.refl _ _).alloc _)); clear hw4)
              | ((with_reducible refine wpList_store_S rfl _ _ rfl w3.heap.size s1 s0 rfl rfl hb4.out okC s0_ok ?_); go_loud (intro w5 h5 k5; have k35 : Chg Non w3 w5 := k4.out.trans k5 (fun j hj => .inr (by have : j = w3.heap.size := hj; omega)); have K5 := Lib.hid (K3.out.trans k35 (fun _ f => .inl f)); have T5 := Lib.hid (And.intro (T3.out.1.chg k35 (fun f => f)) (T3.out.2.chg k35 (fun f => f))); have c0 := sb0 T5.out.1; have e0 := jb0 T5.out.2; have e1 := jb1 T5.out.2; have H5 := Lib.hid h5; clear k35 h5))
              | (go_at_call 14; go_loud (refine (alive_any _).mono ?_; rintro e w6 ⟨rfl, k6⟩; have K6 := Lib.hid (K5.out.trans k6 (fun _ f => .inl f)); have r6 := (H5.out.chg k6 (fun f => f)).range0; have q6 := (T5.out.1.chg k6 (fun f => f)).range0)))
            go_ret
            exact ⟨by simp, K6.out.below (Nat.le_refl _) (fun _ f => f.elim)⟩
      have nr : (i.round != s.round) = true := by simpa using ar
      by_cases k1 : i.kind = 1
      · have n1 : (i.kind != 1) = false := by simpa using k1
        by_cases a0 : i.round < 0
        · have d0 : decide (i.round < 0) = true := decide_eq_true a0
          have hq := HQ.out (by omega)
          rw [hq] at HS
          clear hq HF HQ
          go_enter Try.func9, Try.ntmps9
          go_wp2_with (first
            | (with_reducible refine wpList_box_row rfl _ _ rfl (cs := s.cells.toArray) rfl ?_; intro w1 hw1)
            | (with_reducible refine wpList_box_row rfl _ _ rfl (cs := i.cells.toArray) rfl ?_; intro w2 hw2; have T2 := Lib.hid (two_boxes hw1.out hw2.out); clear hw1 hw2)
            | (with_reducible refine wpList_load_mid rfl 25 _ rfl W.heap.size 0 rfl s.cells _ T2.out.1.range0 Try.underlying25 rfl (rowS ok) ?_)
            | (with_reducible refine wpList_load_mid rfl 27 _ rfl w1.heap.size 0 rfl i.cells _ T2.out.2.1.range0 Try.underlying27 rfl (rowI oi) ?_)
            | (go_at_call 10; go_loud (refine (HS.out _).mono ?_; rintro e w3 ⟨k3, okC, v, rfl, oC⟩; obtain rfl : v = .slice none 0 0 := oC; have T3 := Lib.hid (And.intro (T2.out.1.chg k3 (fun f => f)) (T2.out.2.1.chg k3 (fun f => f))); have K3 := Lib.hid (T2.out.2.2.trans k3 (fun _ f => .inl f))))
            | (with_reducible refine wpList_alloc_named rfl _ rfl s0.cells z_S ?_; intro w4 hw4; have hb4 : Hid (Hb w4 w3.heap.size 25 s0.cells.toArray) := (by rw [hw4.out]; exact Lib.hid (Hb.new _ _ _)); have k4 : Hid (Chg Non w3 w4) := (by rw [hw4.out]; exact Lib.hid ((Chg.refl _ _).alloc _)); clear hw4)
            | ((with_reducible refine wpList_store_S rfl _ _ rfl w3.heap.size s s0 rfl rfl hb4.out ok s0_ok ?_); go_loud (intro w5 h5 k5; have k35 : Chg Non w3 w5 := k4.out.trans k5 (fun j hj => .inr (by have : j = w3.heap.size := hj; omega)); have K5 := Lib.hid (K3.out.trans k35 (fun _ f => .inl f)); have T5 := Lib.hid (And.intro (T3.out.1.chg k35 (fun f => f)) (T3.out.2.chg k35 (fun f => f))); have c0 := sb0 T5.out.1; have e0 := jb0 T5.out.2; have e1 := jb1 T5.out.2; have H5 := Lib.hid h5; clear k35 h5))
            | (go_at_call 14; go_loud (refine (alive_any _).mono ?_; rintro e w6 ⟨rfl, k6⟩; have K6 := Lib.hid (K5.out.trans k6 (fun _ f => .inl f)); have r6 := (H5.out.chg k6 (fun f => f)).range0; have q6 := (T5.out.1.chg k6 (fun f => f)).range0))
            | (with_reducible refine wpList_load_w 25 _ rfl ?_ w3.heap.size 0 rfl s.cells _ r6 Try.underlying25 rfl (rowS ok) ?_; focus (first | (simp [Region.wanted, yielded]; done) | (go_simp; done) | kernel_rfl))
            | (with_reducible refine wpList_load_w 25 _ rfl ?_ W.heap.size 0 rfl s.cells _ q6 Try.underlying25 rfl (rowS ok) ?_; focus (first | (simp [Region.wanted, yielded]; done) | (go_simp; done) | kernel_rfl))
            | (with_reducible refine wpList_eql_w 25 _ _ _ rfl ?_ (xs := s.cells.toArray) (ys := s.cells.toArray) rfl rfl guard_S (EQ.out w6) ?_; focus (first | (simp [Region.wanted, yielded]; done) | (go_simp; done) | kernel_rfl)))
          go_ret
          exact ⟨by simp, K6.out.below (Nat.le_refl _) (fun _ f => f.elim)⟩
        · have d0 : decide (i.round < 0) = false := decide_eq_false a0
          generalize stepM s i = r at HS HF
          obtain ⟨s1, l1⟩ := r
          simp only at HF
          clear HQ EQ
          match l1, HF with
          | [], _ =>
            go_enter Try.func9, Try.ntmps9
            go_wp2_with (first
              | (with_reducible refine wpList_box_row rfl _ _ rfl (cs := s.cells.toArray) rfl ?_; intro w1 hw1)
              | (with_reducible refine wpList_box_row rfl _ _ rfl (cs := i.cells.toArray) rfl ?_; intro w2 hw2; have T2 := Lib.hid (two_boxes hw1.out hw2.out); clear hw1 hw2)
              | (with_reducible refine wpList_load_mid rfl 25 _ rfl W.heap.size 0 rfl s.cells _ T2.out.1.range0 Try.underlying25 rfl (rowS ok) ?_)
              | (with_reducible refine wpList_load_mid rfl 27 _ rfl w1.heap.size 0 rfl i.cells _ T2.out.2.1.range0 Try.underlying27 rfl (rowI oi) ?_)
              | (go_at_call 10; go_loud (refine (HS.out _).mono ?_; rintro e w3 ⟨k3, okC, v, rfl, oC⟩; obtain rfl : v = .slice none 0 0 := oC; have T3 := Lib.hid (And.intro (T2.out.1.chg k3 (fun f => f)) (T2.out.2.1.chg k3 (fun f => f))); have K3 := Lib.hid (T2.out.2.2.trans k3 (fun _ f => .inl f))))
              | (with_reducible refine wpList_alloc_named rfl _ rfl s0.cells z_S ?_; intro w4 hw4; have hb4 : Hid (Hb w4 w3.heap.size 25 s0.cells.toArray) := (by rw [hw4.out]; exact Lib.hid (Hb.new _ _ _)); have k4 : Hid (Chg Non w3 w4) := (by rw [hw4.out]; exact Lib.hid ((Chg.refl _ _).alloc _)); clear hw4)
              | ((with_reducible refine wpList_store_S rfl _ _ rfl w3.heap.size s1 s0 rfl rfl hb4.out okC s0_ok ?_); go_loud (intro w5 h5 k5; have k35 : Chg Non w3 w5 := k4.out.trans k5 (fun j hj => .inr (by have : j = w3.heap.size := hj; omega)); have K5 := Lib.hid (K3.out.trans k35 (fun _ f => .inl f)); have T5 := Lib.hid (And.intro (T3.out.1.chg k35 (fun f => f)) (T3.out.2.chg k35 (fun f => f))); have c0 := sb0 T5.out.1; have e0 := jb0 T5.out.2; have e1 := jb1 T5.out.2; have H5 := Lib.hid h5; clear k35 h5))
              | (go_at_call 14; go_loud (refine (alive_any _).mono ?_; rintro e w6 ⟨rfl, k6⟩; have K6 := Lib.hid (K5.out.trans k6 (fun _ f => .inl f)); have r6 := (H5.out.chg k6 (fun f => f)).range0; have q6 := (T5.out.1.chg k6 (fun f => f)).range0)))
            go_ret
            exact ⟨by simp, K6.out.below (Nat.le_refl _) (fun _ f => f.elim)⟩
          | [o], _ =>
            go_enter Try.func9, Try.ntmps9
            go_wp2_with (first
              | (with_reducible refine wpList_box_row rfl _ _ rfl (cs := s.cells.toArray) rfl ?_; intro w1 hw1)
              | (with_reducible refine wpList_box_row rfl _ _ rfl (cs := i.cells.toArray) rfl ?_; intro w2 hw2; have T2 := Lib.hid (two_boxes hw1.out hw2.out); clear hw1 hw2)
              | (with_reducible refine wpList_load_mid rfl 25 _ rfl W.heap.size 0 rfl s.cells _ T2.out.1.range0 Try.underlying25 rfl (rowS ok) ?_)
              | (with_reducible refine wpList_load_mid rfl 27 _ rfl w1.heap.size 0 rfl i.cells _ T2.out.2.1.range0 Try.underlying27 rfl (rowI oi) ?_)
              | (go_at_call 10; go_loud (refine (HS.out _).mono ?_; rintro e w3 ⟨k3, okC, v, rfl, oC⟩; obtain ⟨g, rfl, _, _, _⟩ := oC; have T3 := Lib.hid (And.intro (T2.out.1.chg k3 (fun f => f)) (T2.out.2.1.chg k3 (fun f => f))); have K3 := Lib.hid (T2.out.2.2.trans k3 (fun _ f => .inl f))))
              | (with_reducible refine wpList_alloc_named rfl _ rfl s0.cells z_S ?_; intro w4 hw4; have hb4 : Hid (Hb w4 w3.heap.size 25 s0.cells.toArray) := (by rw [hw4.out]; exact Lib.hid (Hb.new _ _ _)); have k4 : Hid (Chg Non w3 w4) := (by rw [hw4.out]; exact Lib.hid ((Chg.refl _ _).alloc _)); clear hw4)
              | ((with_reducible refine wpList_store_S rfl _ _ rfl w3.heap.size s1 s0 rfl rfl hb4.out okC s0_ok ?_); go_loud (intro w5 h5 k5; have k35 : Chg Non w3 w5 := k4.out.trans k5 (fun j hj => .inr (by have : j = w3.heap.size := hj; omega)); have K5 := Lib.hid (K3.out.trans k35 (fun _ f => .inl f)); have T5 := Lib.hid (And.intro (T3.out.1.chg k35 (fun f => f)) (T3.out.2.chg k35 (fun f => f))); have c0 := sb0 T5.out.1; have e0 := jb0 T5.out.2; have e1 := jb1 T5.out.2; have H5 := Lib.hid h5; clear k35 h5))
              | (go_at_call 14; go_loud (refine (alive_any _).mono ?_; rintro e w6 ⟨rfl, k6⟩; have K6 := Lib.hid (K5.out.trans k6 (fun _ f => .inl f)); have r6 := (H5.out.chg k6 (fun f => f)).range0; have q6 := (T5.out.1.chg k6 (fun f => f)).range0)))
            go_ret
            exact ⟨by simp, K6.out.below (Nat.le_refl _) (fun _ f => f.elim)⟩
      have n1 : (i.kind != 1) = true := by simpa using k1
      by_cases k9 : i.kind = 9
      · have n9 : (i.kind != 9) = false := by simpa using k9
        by_cases a0 : i.round < 0
        · have d0 : decide (i.round < 0) = true := decide_eq_true a0
          have hq := HQ.out (by omega)
          rw [hq] at HS
          clear hq HF HQ
          go_enter Try.func9, Try.ntmps9
          go_wp2_with (first
            | (with_reducible refine wpList_box_row rfl _ _ rfl (cs := s.cells.toArray) rfl ?_; intro w1 hw1)
            | (with_reducible refine wpList_box_row rfl _ _ rfl (cs := i.cells.toArray) rfl ?_; intro w2 hw2; have T2 := Lib.hid (two_boxes hw1.out hw2.out); clear hw1 hw2)
            | (with_reducible refine wpList_load_mid rfl 25 _ rfl W.heap.size 0 rfl s.cells _ T2.out.1.range0 Try.underlying25 rfl (rowS ok) ?_)
            | (with_reducible refine wpList_load_mid rfl 27 _ rfl w1.heap.size 0 rfl i.cells _ T2.out.2.1.range0 Try.underlying27 rfl (rowI oi) ?_)
            | (go_at_call 10; go_loud (refine (HS.out _).mono ?_; rintro e w3 ⟨k3, okC, v, rfl, oC⟩; obtain rfl : v = .slice none 0 0 := oC; have T3 := Lib.hid (And.intro (T2.out.1.chg k3 (fun f => f)) (T2.out.2.1.chg k3 (fun f => f))); have K3 := Lib.hid (T2.out.2.2.trans k3 (fun _ f => .inl f))))
            | (with_reducible refine wpList_alloc_named rfl _ rfl s0.cells z_S ?_; intro w4 hw4; have hb4 : Hid (Hb w4 w3.heap.size 25 s0.cells.toArray) := (by rw [hw4.out]; exact Lib.hid (Hb.new _ _ _)); have k4 : Hid (Chg Non w3 w4) := (by rw [hw4.out]; exact Lib.hid ((Chg.refl _ _).alloc _)); clear hw4)
            | ((with_reducible refine wpList_store_S rfl _ _ rfl w3.heap.size s s0 rfl rfl hb4.out ok s0_ok ?_); go_loud (intro w5 h5 k5; have k35 : Chg Non w3 w5 := k4.out.trans k5 (fun j hj => .inr (by have : j = w3.heap.size := hj; omega)); have K5 := Lib.hid (K3.out.trans k35 (fun _ f => .inl f)); have T5 := Lib.hid (And.intro (T3.out.1.chg k35 (fun f => f)) (T3.out.2.chg k35 (fun f => f))); have c0 := sb0 T5.out.1; have e0 := jb0 T5.out.2; have e1 := jb1 T5.out.2; have H5 := Lib.hid h5; clear k35 h5))
            | (go_at_call 14; go_loud (refine (alive_any _).mono ?_; rintro e w6 ⟨rfl, k6⟩; have K6 := Lib.hid (K5.out.trans k6 (fun _ f => .inl f)); have r6 := (H5.out.chg k6 (fun f => f)).range0; have q6 := (T5.out.1.chg k6 (fun f => f)).range0))
            | (with_reducible refine wpList_load_w 25 _ rfl ?_ w3.heap.size 0 rfl s.cells _ r6 Try.underlying25 rfl (rowS ok) ?_; focus (first | (simp [Region.wanted, yielded]; done) | (go_simp; done) | kernel_rfl))
            | (with_reducible refine wpList_load_w 25 _ rfl ?_ W.heap.size 0 rfl s.cells _ q6 Try.underlying25 rfl (rowS ok) ?_; focus (first | (simp [Region.wanted, yielded]; done) | (go_simp; done) | kernel_rfl))
            | (with_reducible refine wpList_eql_w 25 _ _ _ rfl ?_ (xs := s.cells.toArray) (ys := s.cells.toArray) rfl rfl guard_S (EQ.out w6) ?_; focus (first | (simp [Region.wanted, yielded]; done) | (go_simp; done) | kernel_rfl)))
          go_ret
          exact ⟨by simp, K6.out.below (Nat.le_refl _) (fun _ f => f.elim)⟩
        · have d0 : decide (i.round < 0) = false := decide_eq_false a0
          generalize stepM s i = r at HS HF
          obtain ⟨s1, l1⟩ := r
          simp only at HF
          clear HQ EQ
          match l1, HF with
          | [], _ =>
            go_enter Try.func9, Try.ntmps9
            go_wp2_with (first
              | (with_reducible refine wpList_box_row rfl _ _ rfl (cs := s.cells.toArray) rfl ?_; intro w1 hw1)
              | (with_reducible refine wpList_box_row rfl _ _ rfl (cs := i.cells.toArray) rfl ?_; intro w2 hw2; have T2 := Lib.hid (two_boxes hw1.out hw2.out); clear hw1 hw2)
              | (with_reducible refine wpList_load_mid rfl 25 _ rfl W.heap.size 0 rfl s.cells _ T2.out.1.range0 Try.underlying25 rfl (rowS ok) ?_)
              | (with_reducible refine wpList_load_mid rfl 27 _ rfl w1.heap.size 0 rfl i.cells _ T2.out.2.1.range0 Try.underlying27 rfl (rowI oi) ?_)
              | (go_at_call 10; go_loud (refine (HS.out _).mono ?_; rintro e w3 ⟨k3, okC, v, rfl, oC⟩; obtain rfl : v = .slice none 0 0 := oC; have T3 := Lib.hid (And.intro (T2.out.1.chg k3 (fun f => f)) (T2.out.2.1.chg k3 (fun f => f))); have K3 := Lib.hid (T2.out.2.2.trans k3 (fun _ f => .inl f))))
              | (with_reducible refine wpList_alloc_named rfl _ rfl s0.cells z_S ?_; intro w4 hw4; have hb4 : Hid (Hb w4 w3.heap.size 25 s0.cells.toArray) := (by rw [hw4.out]; exact Lib.hid (Hb.new _ _ _)); have k4 : Hid (Chg Non w3 w4) := (by rw [hw4.out]; exact Lib.hid ((Chg.refl _ _).alloc _)); clear hw4)
              | ((with_reducible refine wpList_store_S rfl _ _ rfl w3.heap.size s1 s0 rfl rfl hb4.out okC s0_ok ?_); go_loud (intro w5 h5 k5; have k35 : Chg Non w3 w5 := k4.out.trans k5 (fun j hj => .inr (by have : j = w3.heap.size := hj; omega)); have K5 := Lib.hid (K3.out.trans k35 (fun _ f => .inl f)); have T5 := Lib.hid (And.intro (T3.out.1.chg k35 (fun f => f)) (T3.out.2.chg k35 (fun f => f))); have c0 := sb0 T5.out.1; have e0 := jb0 T5.out.2; have e1 := jb1 T5.out.2; have H5 := Lib.hid h5; clear k35 h5))
              | (go_at_call 14; go_loud (refine (alive_any _).mono ?_; rintro e w6 ⟨rfl, k6⟩; have K6 := Lib.hid (K5.out.trans k6 (fun _ f => .inl f)); have r6 := (H5.out.chg k6 (fun f => f)).range0; have q6 := (T5.out.1.chg k6 (fun f => f)).range0)))
            go_ret
            exact ⟨by simp, K6.out.below (Nat.le_refl _) (fun _ f => f.elim)⟩
          | [o], _ =>
            go_enter Try.func9, Try.ntmps9
            go_wp2_with (first
              | (with_reducible refine wpList_box_row rfl _ _ rfl (cs := s.cells.toArray) rfl ?_; intro w1 hw1)
              | (with_reducible refine wpList_box_row rfl _ _ rfl (cs := i.cells.toArray) rfl ?_; intro w2 hw2; have T2 := Lib.hid (two_boxes hw1.out hw2.out); clear hw1 hw2)
              | (with_reducible refine wpList_load_mid rfl 25 _ rfl W.heap.size 0 rfl s.cells _ T2.out.1.range0 Try.underlying25 rfl (rowS ok) ?_)
              | (with_reducible refine wpList_load_mid rfl 27 _ rfl w1.heap.size 0 rfl i.cells _ T2.out.2.1.range0 Try.underlying27 rfl (rowI oi) ?_)
              | (go_at_call 10; go_loud (refine (HS.out _).mono ?_; rintro e w3 ⟨k3, okC, v, rfl, oC⟩; obtain ⟨g, rfl, _, _, _⟩ := oC; have T3 := Lib.hid (And.intro (T2.out.1.chg k3 (fun f => f)) (T2.out.2.1.chg k3 (fun f => f))); have K3 := Lib.hid (T2.out.2.2.trans k3 (fun _ f => .inl f))))
              | (with_reducible refine wpList_alloc_named rfl _ rfl s0.cells z_S ?_; intro w4 hw4; have hb4 : Hid (Hb w4 w3.heap.size 25 s0.cells.toArray) := (by rw [hw4.out]; exact Lib.hid (Hb.new _ _ _)); have k4 : Hid (Chg Non w3 w4) := (by rw [hw4.out]; exact Lib.hid ((Chg.refl _ _).alloc _)); clear hw4)
              | ((with_reducible refine wpList_store_S rfl _ _ rfl w3.heap.size s1 s0 rfl rfl hb4.out okC s0_ok ?_); go_loud (intro w5 h5 k5; have k35 : Chg Non w3 w5 := k4.out.trans k5 (fun j hj => .inr (by have : j = w3.heap.size := hj; omega)); have K5 := Lib.hid (K3.out.trans k35 (fun _ f => .inl f)); have T5 := Lib.hid (And.intro (T3.out.1.chg k35 (fun f => f)) (T3.out.2.chg k35 (fun f => f))); have c0 := sb0 T5.out.1; have e0 := jb0 T5.out.2; have e1 := jb1 T5.out.2; have H5 := Lib.hid h5; clear k35 h5))
              | (go_at_call 14; go_loud (refine (alive_any _).mono ?_; rintro e w6 ⟨rfl, k6⟩; have K6 := Lib.hid (K5.out.trans k6 (fun _ f => .inl f)); have r6 := (H5.out.chg k6 (fun f => f)).range0; have q6 := (T5.out.1.chg k6 (fun f => f)).range0)))
            go_ret
            exact ⟨by simp, K6.out.below (Nat.le_refl _) (fun _ f => f.elim)⟩
      have n9 : (i.kind != 9) = true := by simpa using k9
      by_cases k8 : i.kind = 8
      · have n8 : (i.kind != 8) = false := by simpa using k8
        by_cases a0 : i.round < 0
        · have d0 : decide (i.round < 0) = true := decide_eq_true a0
          have hq := HQ.out (by omega)
          rw [hq] at HS
          clear hq HF HQ
          go_enter Try.func9, Try.ntmps9
          go_wp2_with (first
            | (with_reducible refine wpList_box_row rfl _ _ rfl (cs := s.cells.toArray) rfl ?_; intro w1 hw1)
            | (with_reducible refine wpList_box_row rfl _ _ rfl (cs := i.cells.toArray) rfl ?_; intro w2 hw2; have T2 := Lib.hid (two_boxes hw1.out hw2.out); clear hw1 hw2)
            | (with_reducible refine wpList_load_mid rfl 25 _ rfl W.heap.size 0 rfl s.cells _ T2.out.1.range0 Try.underlying25 rfl (rowS ok) ?_)
            | (with_reducible refine wpList_load_mid rfl 27 _ rfl w1.heap.size 0 rfl i.cells _ T2.out.2.1.range0 Try.underlying27 rfl (rowI oi) ?_)
            | (go_at_call 10; go_loud (refine (HS.out _).mono ?_; rintro e w3 ⟨k3, okC, v, rfl, oC⟩; obtain rfl : v = .slice none 0 0 := oC; have T3 := Lib.hid (And.intro (T2.out.1.chg k3 (fun f => f)) (T2.out.2.1.chg k3 (fun f => f))); have K3 := Lib.hid (T2.out.2.2.trans k3 (fun _ f => .inl f))))
            | (with_reducible refine wpList_alloc_named rfl _ rfl s0.cells z_S ?_; intro w4 hw4; have hb4 : Hid (Hb w4 w3.heap.size 25 s0.cells.toArray) := (by rw [hw4.out]; exact Lib.hid (Hb.new _ _ _)); have k4 : Hid (Chg Non w3 w4) := (by rw [hw4.out]; exact Lib.hid ((Chg.refl _ _).alloc _)); clear hw4)
            | ((with_reducible refine wpList_store_S rfl _ _ rfl w3.heap.size s s0 rfl rfl hb4.out ok s0_ok ?_); go_loud (intro w5 h5 k5; have k35 : Chg Non w3 w5 := k4.out.trans k5 (fun j hj => .inr (by have : j = w3.heap.size := hj; omega)); have K5 := Lib.hid (K3.out.trans k35 (fun _ f => .inl f)); have T5 := Lib.hid (And.intro (T3.out.1.chg k35 (fun f => f)) (T3.out.2.chg k35 (fun f => f))); have c0 := sb0 T5.out.1; have e0 := jb0 T5.out.2; have e1 := jb1 T5.out.2; have H5 := Lib.hid h5; clear k35 h5))
            | (go_at_call 14; go_loud (refine (alive_any _).mono ?_; rintro e w6 ⟨rfl, k6⟩; have K6 := Lib.hid (K5.out.trans k6 (fun _ f => .inl f)); have r6 := (H5.out.chg k6 (fun f => f)).range0; have q6 := (T5.out.1.chg k6 (fun f => f)).range0))
            | (with_reducible refine wpList_load_w 25 _ rfl ?_ w3.heap.size 0 rfl s.cells _ r6 Try.underlying25 rfl (rowS ok) ?_; focus (first | (simp [Region.wanted, yielded]; done) | (go_simp; done) | kernel_rfl))
            | (with_reducible refine wpList_load_w 25 _ rfl ?_ W.heap.size 0 rfl s.cells _ q6 Try.underlying25 rfl (rowS ok) ?_; focus (first | (simp [Region.wanted, yielded]; done) | (go_simp; done) | kernel_rfl))
            | (with_reducible refine wpList_eql_w 25 _ _ _ rfl ?_ (xs := s.cells.toArray) (ys := s.cells.toArray) rfl rfl guard_S (EQ.out w6) ?_; focus (first | (simp [Region.wanted, yielded]; done) | (go_simp; done) | kernel_rfl)))
          go_ret
          exact ⟨by simp, K6.out.below (Nat.le_refl _) (fun _ f => f.elim)⟩
        · have d0 : decide (i.round < 0) = false := decide_eq_false a0
          generalize stepM s i = r at HS HF
          obtain ⟨s1, l1⟩ := r
          simp only at HF
          clear HQ EQ
          match l1, HF with
          | [], _ =>
            go_enter Try.func9, Try.ntmps9
            go_wp2_with (first
              | (with_reducible refine wpList_box_row rfl _ _ rfl (cs := s.cells.toArray) rfl ?_; intro w1 hw1)
              | (with_reducible refine wpList_box_row rfl _ _ rfl (cs := i.cells.toArray) rfl ?_; intro w2 hw2; have T2 := Lib.hid (two_boxes hw1.out hw2.out); clear hw1 hw2)
              | (with_reducible refine wpList_load_mid rfl 25 _ rfl W.heap.size 0 rfl s.cells _ T2.out.1.range0 Try.underlying25 rfl (rowS ok) ?_)
              | (with_reducible refine wpList_load_mid rfl 27 _ rfl w1.heap.size 0 rfl i.cells _ T2.out.2.1.range0 Try.underlying27 rfl (rowI oi) ?_)
              | (go_at_call 10; go_loud (refine (HS.out _).mono ?_; rintro e w3 ⟨k3, okC, v, rfl, oC⟩; obtain rfl : v = .slice none 0 0 := oC; have T3 := Lib.hid (And.intro (T2.out.1.chg k3 (fun f => f)) (T2.out.2.1.chg k3 (fun f => f))); have K3 := Lib.hid (T2.out.2.2.trans k3 (fun _ f => .inl f))))
              | (with_reducible refine wpList_alloc_named rfl _ rfl s0.cells z_S ?_; intro w4 hw4; have hb4 : Hid (Hb w4 w3.heap.size 25 s0.cells.toArray) := (by rw [hw4.out]; exact Lib.hid (Hb.new _ _ _)); have k4 : Hid (Chg Non w3 w4) := (by rw [hw4.out]; exact Lib.hid ((Chg.refl _ _).alloc _)); clear hw4)
              | ((with_reducible refine wpList_store_S rfl _ _ rfl w3.heap.size s1 s0 rfl rfl hb4.out okC s0_ok ?_); go_loud (intro w5 h5 k5; have k35 : Chg Non w3 w5 := k4.out.trans k5 (fun j hj => .inr (by have : j = w3.heap.size := hj; omega)); have K5 := Lib.hid (K3.out.trans k35 (fun _ f => .inl f)); have T5 := Lib.hid (And.intro (T3.out.1.chg k35 (fun f => f)) (T3.out.2.chg k35 (fun f => f))); have c0 := sb0 T5.out.1; have e0 := jb0 T5.out.2; have e1 := jb1 T5.out.2; have H5 := Lib.hid h5; clear k35 h5))
              | (go_at_call 14; go_loud (refine (alive_any _).mono ?_; rintro e w6 ⟨rfl, k6⟩; have K6 := Lib.hid (K5.out.trans k6 (fun _ f => .inl f)); have r6 := (H5.out.chg k6 (fun f => f)).range0; have q6 := (T5.out.1.chg k6 (fun f => f)).range0)))
            go_ret
            exact ⟨by simp, K6.out.below (Nat.le_refl _) (fun _ f => f.elim)⟩
          | [o], _ =>
            go_enter Try.func9, Try.ntmps9
            go_wp2_with (first
              | (with_reducible refine wpList_box_row rfl _ _ rfl (cs := s.cells.toArray) rfl ?_; intro w1 hw1)
              | (with_reducible refine wpList_box_row rfl _ _ rfl (cs := i.cells.toArray) rfl ?_; intro w2 hw2; have T2 := Lib.hid (two_boxes hw1.out hw2.out); clear hw1 hw2)
              | (with_reducible refine wpList_load_mid rfl 25 _ rfl W.heap.size 0 rfl s.cells _ T2.out.1.range0 Try.underlying25 rfl (rowS ok) ?_)
              | (with_reducible refine wpList_load_mid rfl 27 _ rfl w1.heap.size 0 rfl i.cells _ T2.out.2.1.range0 Try.underlying27 rfl (rowI oi) ?_)
              | (go_at_call 10; go_loud (refine (HS.out _).mono ?_; rintro e w3 ⟨k3, okC, v, rfl, oC⟩; obtain ⟨g, rfl, _, _, _⟩ := oC; have T3 := Lib.hid (And.intro (T2.out.1.chg k3 (fun f => f)) (T2.out.2.1.chg k3 (fun f => f))); have K3 := Lib.hid (T2.out.2.2.trans k3 (fun _ f => .inl f))))
              | (with_reducible refine wpList_alloc_named rfl _ rfl s0.cells z_S ?_; intro w4 hw4; have hb4 : Hid (Hb w4 w3.heap.size 25 s0.cells.toArray) := (by rw [hw4.out]; exact Lib.hid (Hb.new _ _ _)); have k4 : Hid (Chg Non w3 w4) := (by rw [hw4.out]; exact Lib.hid ((Chg.refl _ _).alloc _)); clear hw4)
              | ((with_reducible refine wpList_store_S rfl _ _ rfl w3.heap.size s1 s0 rfl rfl hb4.out okC s0_ok ?_); go_loud (intro w5 h5 k5; have k35 : Chg Non w3 w5 := k4.out.trans k5 (fun j hj => .inr (by have : j = w3.heap.size := hj; omega)); have K5 := Lib.hid (K3.out.trans k35 (fun _ f => .inl f)); have T5 := Lib.hid (And.intro (T3.out.1.chg k35 (fun f => f)) (T3.out.2.chg k35 (fun f => f))); have c0 := sb0 T5.out.1; have e0 := jb0 T5.out.2; have e1 := jb1 T5.out.2; have H5 := Lib.hid h5; clear k35 h5))
              | (go_at_call 14; go_loud (refine (alive_any _).mono ?_; rintro e w6 ⟨rfl, k6⟩; have K6 := Lib.hid (K5.out.trans k6 (fun _ f => .inl f)); have r6 := (H5.out.chg k6 (fun f => f)).range0; have q6 := (T5.out.1.chg k6 (fun f => f)).range0)))
            go_ret
            exact ⟨by simp, K6.out.below (Nat.le_refl _) (fun _ f => f.elim)⟩
      have n8 : (i.kind != 8) = true := by simpa using k8
      have hq := HQ.out (by omega)
      rw [hq] at HS
      clear hq HF HQ
      go_enter Try.func9, Try.ntmps9
      go_wp2_with (first
        | (with_reducible refine wpList_box_row rfl _ _ rfl (cs := s.cells.toArray) rfl ?_; intro w1 hw1)
        | (with_reducible refine wpList_box_row rfl _ _ rfl (cs := i.cells.toArray) rfl ?_; intro w2 hw2; have T2 := Lib.hid (two_boxes hw1.out hw2.out); clear hw1 hw2)
        | (with_reducible refine wpList_load_mid rfl 25 _ rfl W.heap.size 0 rfl s.cells _ T2.out.1.range0 Try.underlying25 rfl (rowS ok) ?_)
        | (with_reducible refine wpList_load_mid rfl 27 _ rfl w1.heap.size 0 rfl i.cells _ T2.out.2.1.range0 Try.underlying27 rfl (rowI oi) ?_)
        | (go_at_call 10; go_loud (refine (HS.out _).mono ?_; rintro e w3 ⟨k3, okC, v, rfl, oC⟩; obtain rfl : v = .slice none 0 0 := oC; have T3 := Lib.hid (And.intro (T2.out.1.chg k3 (fun f => f)) (T2.out.2.1.chg k3 (fun f => f))); have K3 := Lib.hid (T2.out.2.2.trans k3 (fun _ f => .inl f))))
        | (with_reducible refine wpList_alloc_named rfl _ rfl s0.cells z_S ?_; intro w4 hw4; have hb4 : Hid (Hb w4 w3.heap.size 25 s0.cells.toArray) := (by rw [hw4.out]; exact Lib.hid (Hb.new _ _ _)); have k4 : Hid (Chg Non w3 w4) := (by rw [hw4.out]; exact Lib.hid ((Chg.refl _ _).alloc _)); clear hw4)
        | ((with_reducible refine wpList_store_S rfl _ _ rfl w3.heap.size s s0 rfl rfl hb4.out ok s0_ok ?_); go_loud (intro w5 h5 k5; have k35 : Chg Non w3 w5 := k4.out.trans k5 (fun j hj => .inr (by have : j = w3.heap.size := hj; omega)); have K5 := Lib.hid (K3.out.trans k35 (fun _ f => .inl f)); have T5 := Lib.hid (And.intro (T3.out.1.chg k35 (fun f => f)) (T3.out.2.chg k35 (fun f => f))); have c0 := sb0 T5.out.1; have e0 := jb0 T5.out.2; have e1 := jb1 T5.out.2; have H5 := Lib.hid h5; clear k35 h5))
        | (go_at_call 14; go_loud (refine (alive_any _).mono ?_; rintro e w6 ⟨rfl, k6⟩; have K6 := Lib.hid (K5.out.trans k6 (fun _ f => .inl f)); have r6 := (H5.out.chg k6 (fun f => f)).range0; have q6 := (T5.out.1.chg k6 (fun f => f)).range0))
        | (with_reducible refine wpList_load_w 25 _ rfl ?_ w3.heap.size 0 rfl s.cells _ r6 Try.underlying25 rfl (rowS ok) ?_; focus (first | (simp [Region.wanted, yielded]; done) | (go_simp; done) | kernel_rfl))
        | (with_reducible refine wpList_load_w 25 _ rfl ?_ W.heap.size 0 rfl s.cells _ q6 Try.underlying25 rfl (rowS ok) ?_; focus (first | (simp [Region.wanted, yielded]; done) | (go_simp; done) | kernel_rfl))
        | (with_reducible refine wpList_eql_w 25 _ _ _ rfl ?_ (xs := s.cells.toArray) (ys := s.cells.toArray) rfl rfl guard_S (EQ.out w6) ?_; focus (first | (simp [Region.wanted, yielded]; done) | (go_simp; done) | kernel_rfl)))
      go_ret
      exact ⟨by simp, K6.out.below (Nat.le_refl _) (fun _ f => f.elim)⟩
    have d12 : decide (i.kind ≤ 12) = false := decide_eq_false a12
    have n1 : (i.kind != 1) = true := by simp; omega
    have n9 : (i.kind != 9) = true := by simp; omega
    have n8 : (i.kind != 8) = true := by simp; omega
    by_cases ar : i.round = s.round
    · have nr : (i.round != s.round) = false := by simpa using ar
      clear ar
      have hq := HQ.out (by omega)
      rw [hq] at HS
      clear hq HF HQ
      go_enter Try.func9, Try.ntmps9
      go_wp2_with (first
        | (with_reducible refine wpList_box_row rfl _ _ rfl (cs := s.cells.toArray) rfl ?_; intro w1 hw1)
        | (with_reducible refine wpList_box_row rfl _ _ rfl (cs := i.cells.toArray) rfl ?_; intro w2 hw2; have T2 := Lib.hid (two_boxes hw1.out hw2.out); clear hw1 hw2)
        | (with_reducible refine wpList_load_mid rfl 25 _ rfl W.heap.size 0 rfl s.cells _ T2.out.1.range0 Try.underlying25 rfl (rowS ok) ?_)
        | (with_reducible refine wpList_load_mid rfl 27 _ rfl w1.heap.size 0 rfl i.cells _ T2.out.2.1.range0 Try.underlying27 rfl (rowI oi) ?_)
        | (go_at_call 10; go_loud (refine (HS.out _).mono ?_; rintro e w3 ⟨k3, okC, v, rfl, oC⟩; obtain rfl : v = .slice none 0 0 := oC; have T3 := Lib.hid (And.intro (T2.out.1.chg k3 (fun f => f)) (T2.out.2.1.chg k3 (fun f => f))); have K3 := Lib.hid (T2.out.2.2.trans k3 (fun _ f => .inl f))))
        | (with_reducible refine wpList_alloc_named rfl _ rfl s0.cells z_S ?_; intro w4 hw4; have hb4 : Hid (Hb w4 w3.heap.size 25 s0.cells.toArray) := (by rw [hw4.out]; exact Lib.hid (Hb.new _ _ _)); have k4 : Hid (Chg Non w3 w4) := (by rw [hw4.out]; exact Lib.hid ((Chg.refl _ _).alloc _)); clear hw4)
        | ((with_reducible refine wpList_store_S rfl _ _ rfl w3.heap.size s s0 rfl rfl hb4.out ok s0_ok ?_); go_loud (intro w5 h5 k5; have k35 : Chg Non w3 w5 := k4.out.trans k5 (fun j hj => .inr (by have : j = w3.heap.size := hj; omega)); have K5 := Lib.hid (K3.out.trans k35 (fun _ f => .inl f)); have T5 := Lib.hid (And.intro (T3.out.1.chg k35 (fun f => f)) (T3.out.2.chg k35 (fun f => f))); have c0 := sb0 T5.out.1; have e0 := jb0 T5.out.2; have e1 := jb1 T5.out.2; have H5 := Lib.hid h5; clear k35 h5))
        | (go_at_call 14; go_loud (refine (alive_any _).mono ?_; rintro e w6 ⟨rfl, k6⟩; have K6 := Lib.hid (K5.out.trans k6 (fun _ f => .inl f)); have r6 := (H5.out.chg k6 (fun f => f)).range0; have q6 := (T5.out.1.chg k6 (fun f => f)).range0))
        | (with_reducible refine wpList_load_w 25 _ rfl ?_ w3.heap.size 0 rfl s.cells _ r6 Try.underlying25 rfl (rowS ok) ?_; focus (first | (simp [Region.wanted, yielded]; done) | (go_simp; done) | kernel_rfl))
        | (with_reducible refine wpList_load_w 25 _ rfl ?_ W.heap.size 0 rfl s.cells _ q6 Try.underlying25 rfl (rowS ok) ?_; focus (first | (simp [Region.wanted, yielded]; done) | (go_simp; done) | kernel_rfl))
        | (with_reducible refine wpList_eql_w 25 _ _ _ rfl ?_ (xs := s.cells.toArray) (ys := s.cells.toArray) rfl rfl guard_S (EQ.out w6) ?_; focus (first | (simp [Region.wanted, yielded]; done) | (go_simp; done) | kernel_rfl)))
      go_ret
      exact ⟨by simp, K6.out.below (Nat.le_refl _) (fun _ f => f.elim)⟩
    · have nr : (i.round != s.round) = true := by simpa using ar
      clear ar
      have hq := HQ.out (by omega)
      rw [hq] at HS
      clear hq HF HQ
      go_enter Try.func9, Try.ntmps9
      go_wp2_with (first
        | (with_reducible refine wpList_box_row rfl _ _ rfl (cs := s.cells.toArray) rfl ?_; intro w1 hw1)
        | (with_reducible refine wpList_box_row rfl _ _ rfl (cs := i.cells.toArray) rfl ?_; intro w2 hw2; have T2 := Lib.hid (two_boxes hw1.out hw2.out); clear hw1 hw2)
        | (with_reducible refine wpList_load_mid rfl 25 _ rfl W.heap.size 0 rfl s.cells _ T2.out.1.range0 Try.underlying25 rfl (rowS ok) ?_)
        | (with_reducible refine wpList_load_mid rfl 27 _ rfl w1.heap.size 0 rfl i.cells _ T2.out.2.1.range0 Try.underlying27 rfl (rowI oi) ?_)
        | (go_at_call 10; go_loud (refine (HS.out _).mono ?_; rintro e w3 ⟨k3, okC, v, rfl, oC⟩; obtain rfl : v = .slice none 0 0 := oC; have T3 := Lib.hid (And.intro (T2.out.1.chg k3 (fun f => f)) (T2.out.2.1.chg k3 (fun f => f))); have K3 := Lib.hid (T2.out.2.2.trans k3 (fun _ f => .inl f))))
        | (with_reducible refine wpList_alloc_named rfl _ rfl s0.cells z_S ?_; intro w4 hw4; have hb4 : Hid (Hb w4 w3.heap.size 25 s0.cells.toArray) := (by rw [hw4.out]; exact Lib.hid (Hb.new _ _ _)); have k4 : Hid (Chg Non w3 w4) := (by rw [hw4.out]; exact Lib.hid ((Chg.refl _ _).alloc _)); clear hw4)
        | ((with_reducible refine wpList_store_S rfl _ _ rfl w3.heap.size s s0 rfl rfl hb4.out ok s0_ok ?_); go_loud (intro w5 h5 k5; have k35 : Chg Non w3 w5 := k4.out.trans k5 (fun j hj => .inr (by have : j = w3.heap.size := hj; omega)); have K5 := Lib.hid (K3.out.trans k35 (fun _ f => .inl f)); have T5 := Lib.hid (And.intro (T3.out.1.chg k35 (fun f => f)) (T3.out.2.chg k35 (fun f => f))); have c0 := sb0 T5.out.1; have e0 := jb0 T5.out.2; have e1 := jb1 T5.out.2; have H5 := Lib.hid h5; clear k35 h5))
        | (go_at_call 14; go_loud (refine (alive_any _).mono ?_; rintro e w6 ⟨rfl, k6⟩; have K6 := Lib.hid (K5.out.trans k6 (fun _ f => .inl f)); have r6 := (H5.out.chg k6 (fun f => f)).range0; have q6 := (T5.out.1.chg k6 (fun f => f)).range0))
        | (with_reducible refine wpList_load_w 25 _ rfl ?_ w3.heap.size 0 rfl s.cells _ r6 Try.underlying25 rfl (rowS ok) ?_; focus (first | (simp [Region.wanted, yielded]; done) | (go_simp; done) | kernel_rfl))
        | (with_reducible refine wpList_load_w 25 _ rfl ?_ W.heap.size 0 rfl s.cells _ q6 Try.underlying25 rfl (rowS ok) ?_; focus (first | (simp [Region.wanted, yielded]; done) | (go_simp; done) | kernel_rfl))
        | (with_reducible refine wpList_eql_w 25 _ _ _ rfl ?_ (xs := s.cells.toArray) (ys := s.cells.toArray) rfl rfl guard_S (EQ.out w6) ?_; focus (first | (simp [Region.wanted, yielded]; done) | (go_simp; done) | kernel_rfl)))
      go_ret
      exact ⟨by simp, K6.out.below (Nat.le_refl _) (fun _ f => f.elim)⟩
  have d1 : decide (1 ≤ i.kind) = false := decide_eq_false a1
  have n1 : (i.kind != 1) = true := by simp; omega
  have n9 : (i.kind != 9) = true := by simp; omega
  have n8 : (i.kind != 8) = true := by simp; omega
  by_cases ar : i.round = s.round
  · have nr : (i.round != s.round) = false := by simpa using ar
    clear ar
    have hq := HQ.out (by omega)
    rw [hq] at HS
    clear hq HF HQ
    go_enter Try.func9, Try.ntmps9
    go_wp2_with (first
      | (with_reducible refine wpList_box_row rfl _ _ rfl (cs := s.cells.toArray) rfl ?_; intro w1 hw1)
      | (with_reducible refine wpList_box_row rfl _ _ rfl (cs := i.cells.toArray) rfl ?_; intro w2 hw2; have T2 := Lib.hid (two_boxes hw1.out hw2.out); clear hw1 hw2)
      | (with_reducible refine wpList_load_mid rfl 25 _ rfl W.heap.size 0 rfl s.cells _ T2.out.1.range0 Try.underlying25 rfl (rowS ok) ?_)
      | (with_reducible refine wpList_load_mid rfl 27 _ rfl w1.heap.size 0 rfl i.cells _ T2.out.2.1.range0 Try.underlying27 rfl (rowI oi) ?_)
      | (go_at_call 10; go_loud (refine (HS.out _).mono ?_; rintro e w3 ⟨k3, okC, v, rfl, oC⟩; obtain rfl : v = .slice none 0 0 := oC; have T3 := Lib.hid (And.intro (T2.out.1.chg k3 (fun f => f)) (T2.out.2.1.chg k3 (fun f => f))); have K3 := Lib.hid (T2.out.2.2.trans k3 (fun _ f => .inl f))))
      | (with_reducible refine wpList_alloc_named rfl _ rfl s0.cells z_S ?_; intro w4 hw4; have hb4 : Hid (Hb w4 w3.heap.size 25 s0.cells.toArray) := (by rw [hw4.out]; exact Lib.hid (Hb.new _ _ _)); have k4 : Hid (Chg Non w3 w4) := (by rw [hw4.out]; exact Lib.hid ((Chg.refl _ _).alloc _)); clear hw4)
      | ((with_reducible refine wpList_store_S rfl _ _ rfl w3.heap.size s s0 rfl rfl hb4.out ok s0_ok ?_); go_loud (intro w5 h5 k5; have k35 : Chg Non w3 w5 := k4.out.trans k5 (fun j hj => .inr (by have : j = w3.heap.size := hj; omega)); have K5 := Lib.hid (K3.out.trans k35 (fun _ f => .inl f)); have T5 := Lib.hid (And.intro (T3.out.1.chg k35 (fun f => f)) (T3.out.2.chg k35 (fun f => f))); have c0 := sb0 T5.out.1; have e0 := jb0 T5.out.2; have e1 := jb1 T5.out.2; have H5 := Lib.hid h5; clear k35 h5))
      | (go_at_call 14; go_loud (refine (alive_any _).mono ?_; rintro e w6 ⟨rfl, k6⟩; have K6 := Lib.hid (K5.out.trans k6 (fun _ f => .inl f)); have r6 := (H5.out.chg k6 (fun f => f)).range0; have q6 := (T5.out.1.chg k6 (fun f => f)).range0))
      | (with_reducible refine wpList_load_w 25 _ rfl ?_ w3.heap.size 0 rfl s.cells _ r6 Try.underlying25 rfl (rowS ok) ?_; focus (first | (simp [Region.wanted, yielded]; done) | (go_simp; done) | kernel_rfl))
      | (with_reducible refine wpList_load_w 25 _ rfl ?_ W.heap.size 0 rfl s.cells _ q6 Try.underlying25 rfl (rowS ok) ?_; focus (first | (simp [Region.wanted, yielded]; done) | (go_simp; done) | kernel_rfl))
      | (with_reducible refine wpList_eql_w 25 _ _ _ rfl ?_ (xs := s.cells.toArray) (ys := s.cells.toArray) rfl rfl guard_S (EQ.out w6) ?_; focus (first | (simp [Region.wanted, yielded]; done) | (go_simp; done) | kernel_rfl)))
    go_ret
    exact ⟨by simp, K6.out.below (Nat.le_refl _) (fun _ f => f.elim)⟩
  · have nr : (i.round != s.round) = true := by simpa using ar
    clear ar
    have hq := HQ.out (by omega)
    rw [hq] at HS
    clear hq HF HQ
    go_enter Try.func9, Try.ntmps9
    go_wp2_with (first
      | (with_reducible refine wpList_box_row rfl _ _ rfl (cs := s.cells.toArray) rfl ?_; intro w1 hw1)
      | (with_reducible refine wpList_box_row rfl _ _ rfl (cs := i.cells.toArray) rfl ?_; intro w2 hw2; have T2 := Lib.hid (two_boxes hw1.out hw2.out); clear hw1 hw2)
      | (with_reducible refine wpList_load_mid rfl 25 _ rfl W.heap.size 0 rfl s.cells _ T2.out.1.range0 Try.underlying25 rfl (rowS ok) ?_)
      | (with_reducible refine wpList_load_mid rfl 27 _ rfl w1.heap.size 0 rfl i.cells _ T2.out.2.1.range0 Try.underlying27 rfl (rowI oi) ?_)
      | (go_at_call 10; go_loud (refine (HS.out _).mono ?_; rintro e w3 ⟨k3, okC, v, rfl, oC⟩; obtain rfl : v = .slice none 0 0 := oC; have T3 := Lib.hid (And.intro (T2.out.1.chg k3 (fun f => f)) (T2.out.2.1.chg k3 (fun f => f))); have K3 := Lib.hid (T2.out.2.2.trans k3 (fun _ f => .inl f))))
      | (with_reducible refine wpList_alloc_named rfl _ rfl s0.cells z_S ?_; intro w4 hw4; have hb4 : Hid (Hb w4 w3.heap.size 25 s0.cells.toArray) := (by rw [hw4.out]; exact Lib.hid (Hb.new _ _ _)); have k4 : Hid (Chg Non w3 w4) := (by rw [hw4.out]; exact Lib.hid ((Chg.refl _ _).alloc _)); clear hw4)
      | ((with_reducible refine wpList_store_S rfl _ _ rfl w3.heap.size s s0 rfl rfl hb4.out ok s0_ok ?_); go_loud (intro w5 h5 k5; have k35 : Chg Non w3 w5 := k4.out.trans k5 (fun j hj => .inr (by have : j = w3.heap.size := hj; omega)); have K5 := Lib.hid (K3.out.trans k35 (fun _ f => .inl f)); have T5 := Lib.hid (And.intro (T3.out.1.chg k35 (fun f => f)) (T3.out.2.chg k35 (fun f => f))); have c0 := sb0 T5.out.1; have e0 := jb0 T5.out.2; have e1 := jb1 T5.out.2; have H5 := Lib.hid h5; clear k35 h5))
      | (go_at_call 14; go_loud (refine (alive_any _).mono ?_; rintro e w6 ⟨rfl, k6⟩; have K6 := Lib.hid (K5.out.trans k6 (fun _ f => .inl f)); have r6 := (H5.out.chg k6 (fun f => f)).range0; have q6 := (T5.out.1.chg k6 (fun f => f)).range0))
      | (with_reducible refine wpList_load_w 25 _ rfl ?_ w3.heap.size 0 rfl s.cells _ r6 Try.underlying25 rfl (rowS ok) ?_; focus (first | (simp [Region.wanted, yielded]; done) | (go_simp; done) | kernel_rfl))
      | (with_reducible refine wpList_load_w 25 _ rfl ?_ W.heap.size 0 rfl s.cells _ q6 Try.underlying25 rfl (rowS ok) ?_; focus (first | (simp [Region.wanted, yielded]; done) | (go_simp; done) | kernel_rfl))
      | (with_reducible refine wpList_eql_w 25 _ _ _ rfl ?_ (xs := s.cells.toArray) (ys := s.cells.toArray) rfl rfl guard_S (EQ.out w6) ?_; focus (first | (simp [Region.wanted, yielded]; done) | (go_simp; done) | kernel_rfl)))
    go_ret
    exact ⟨by simp, K6.out.below (Nat.le_refl _) (fun _ f => f.elim)⟩

/-! ### The row's frame -/
theorem own : ownKnob Try.prog.godebug = none := by kernel_rfl
theorem walkA (W : World) (args : Array Value) (hsz : args.size = Try.f9.params.size) (hok : ∀ (j : Nat) (t : TypeId) (v : Value), Try.f9.params[j]? = some t → args[j]? = some v → Okv Try.prog W t v) :
    Calls Try.prog 9 args W fun e W' => e = .returned (.bool true) ∧ Below W.heap.size W W' := by
  rw [Try.params9] at hsz hok
  obtain ⟨v0, v1, rfl⟩ : ∃ v0 v1 : Value, args = #[v0, v1] := by
    obtain ⟨l⟩ := args
    match l, hsz with
    | [v0, v1], _ => exact ⟨v0, v1, rfl⟩
  exact walk W v0 v1 (hok 0 25 v0 rfl rfl) (hok 1 27 v1 rfl rfl)
set_option maxRecDepth 100000 in
theorem lifted (os : Os) (started : os.Started) (H : Type) (enc : TypeId × Value → H) :
    ReturnsInHanded {} Try.checked os 9 .any (Rows.roundQuietSpec.pre6 enc Try.prog Try.f9 Rows.roundQuietRow.domain false) (Rows.roundQuietSpec.post enc Try.prog Try.f9 false true false false) :=
  lifted_of_walk (C := Try.checked) (s := Rows.roundQuietSpec) (conds := Rows.roundQuietRow.domain) (apart := false) (fresh := true) (T := 4) own started (by kernel_rfl) Try.func9
    (ChangeSpec.witness6 (enc := enc) (C := Try.checked) false ⟨#[], #[.agg s0.cells.toArray, .agg i0.cells.toArray], []⟩ 8 (by kernel_rfl) (by kernel_rfl) (by kernel_rfl) (by kernel_rfl))
    rfl (fun ds hd => by
      rw [Try.params9] at hd
      match ds, hd with
      | [d0, d1], _ => exact ⟨rfl, rfl, rfl⟩)
    (by kernel_rfl) Try.underlying4 (by kernel_rfl) (by rw [Try.params9]; intro t ht; simp only [List.mem_cons, List.not_mem_nil, or_false] at ht; rcases ht with rfl | rfl <;> exact ⟨by kernel_rfl, of_decide_eq_true (by kernel_rfl)⟩) walkA

theorem holds : Rows.roundQuietRow.holds Try.pinned (OpenSpec.ofChange Rows.roundQuietSpec) :=
  OpenClaim.holds_of_wide 9 Try.f9 rfl rfl rfl rfl rfl rfl rfl ⟨rfl, rfl, rfl, rfl, rfl⟩ rfl rfl rfl rfl rfl (by kernel_rfl) Try.func9 (by kernel_rfl)
    (of_decide_eq_true (by kernel_rfl)) (by unfold Func.isWrapper; first | (rw [if_pos (by decide +kernel)]; kernel_rfl) | (rw [if_neg (by decide +kernel)]; exact ⟨rfl, rfl⟩))
    (fun os started H enc _ => lifted os started H enc)
end Go.Proofs.Ytdejfamcmebdiaa.roundQuiet
namespace Go.Proofs.Ytdejfamcmebdiaa
/-- The statement. -/
theorem roundQuiet_holds : Rows.RoundQuietSaid := roundQuiet.holds
end Go.Proofs.Ytdejfamcmebdiaa
