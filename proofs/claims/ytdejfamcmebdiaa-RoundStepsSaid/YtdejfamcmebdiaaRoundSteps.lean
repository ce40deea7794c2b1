/- Of the program at this commit: the law RoundSteps answers true for every state, reached or not, and every input (the state behind it and what is to be said are as the document says); no condition. -/
import Derived.Test.YtdejfamcmebdiaaRows
import Derived.WalkKit
import Derived.ProofKit
import Derived.Test.YtdejfamcmebdiaaRz
namespace Go.Proofs.Ytdejfamcmebdiaa.roundSteps
open Go.ChangeShapes Go.WideShapes Go.ChangeAt Go.RowKit
set_option linter.unusedVariables false

open mach
theorem two_boxes {W w1 w2 : World} {tS tX : TypeId} {s : State} {X : List Value} (h1 : w1 = W.alloc (.cells s.cells.toArray tS)) (h2 : w2 = w1.alloc (.cells X.toArray tX)) : Hb w2 W.heap.size tS s.cells.toArray ∧ Hb w2 w1.heap.size tX X.toArray ∧ Chg Non W w2 := by
  subst h2
  refine ⟨?_, Hb.new _ _ _, ?_⟩
  · rw [h1]
    exact (Hb.new W _ _).alloc _
  · rw [h1]
    exact ((Chg.refl Non W).alloc _).alloc _
theorem Outs.old {t : TypeId} {w w' : World} {n : Nat} {v : Value} {l : List Out} {S : Nat → Prop} (h : Outs t w n v l) (k : Chg S w w') (hS : ∀ j, S j → w.heap.size ≤ j) : Outs t w' n v l := by
  match l, h with
  | [], h => exact h
  | [o], ⟨g, h1, h2, h3, h4⟩ => exact ⟨g, h1, h2, h3.chg k (fun f => by have := hS _ f; have := h3.lt; omega), h4⟩
theorem wp_assign {P : Program} {Q : Exit → Act → World → Prop} {o : Oper} {a : Act} {w : World} {K : Act → World → Prop} (x : Operand) (ho : o.op = .assign x) (h : K (a.put o.dst (a.eval x)) w) : o.wp P a w K Q := by
  unfold Oper.wp execOp
  simp only [ho, Sem.run_pure]
  exact h
set_option maxRecDepth 100000 in
set_option maxHeartbeats 6400000 in
theorem walk (W : World) (v0 v1 : Value) (h0 : Okv Try.prog W 25 v0) (h1 : Okv Try.prog W 27 v1) :
    Calls Try.prog 3 #[v0, v1] W fun e W' => e = .returned (.bool true) ∧ Below W.heap.size W W' := by
  obtain ⟨s, rfl, ok⟩ := state_arg h0
  obtain ⟨i, rfl, oi⟩ := in_arg h1
  clear h0 h1
  have HS := Lib.hid (fun w' => StepM_any w' s i ok oi)
  have HR := Lib.hid (fun w' => rStep_any w' s i ok oi)
  generalize stepM s i = r at HS HR
  obtain ⟨s1, l1⟩ := r
  go_enter Try.func3, Try.ntmps3
  go_wp2_with (first
    | (with_reducible refine wpList_box_row rfl _ _ rfl (cs := s.cells.toArray) rfl ?_; intro w1 hw1)
    | (with_reducible refine wpList_box_row rfl _ _ rfl (cs := i.cells.toArray) rfl ?_; intro w2 hw2; have T2 := Lib.hid (two_boxes hw1.out hw2.out); clear hw1 hw2)
    | (with_reducible refine wpList_load_mid rfl 25 _ rfl W.heap.size 0 rfl s.cells _ T2.out.1.range0 Try.underlying25 rfl (rowS ok) ?_)
    | (with_reducible refine wpList_load_mid rfl 27 _ rfl w1.heap.size 0 rfl i.cells _ T2.out.2.1.range0 Try.underlying27 rfl (rowI oi) ?_)
    | (go_at_call 10; go_loud (refine (HS.out _).mono ?_; rintro e w3 ⟨k3, okC, v, rfl, oC⟩; have T3 := Lib.hid (And.intro (T2.out.1.chg k3 (fun f => f)) (T2.out.2.1.chg k3 (fun f => f))); have K3 := Lib.hid (T2.out.2.2.trans k3 (fun _ f => .inl f)); have O3 := Lib.hid oC; clear oC))
    | (with_reducible refine wpList_alloc_named rfl _ rfl s0.cells z_S ?_; intro w4 hw4; have hb4 : Hid (Hb w4 w3.heap.size 25 s0.cells.toArray) := (by rw [hw4.out]; exact Lib.hid (Hb.new _ _ _)); have k4 : Hid (Chg Non w3 w4) := (by rw [hw4.out]; exact Lib.hid ((Chg.refl _ _).alloc _)); clear hw4)
    | ((with_reducible refine wpList_store_S rfl _ _ rfl w3.heap.size s1 s0 rfl rfl hb4.out okC s0_ok ?_); go_loud (intro w5 h5 k5; have k35 : Chg Non w3 w5 := k4.out.trans k5 (fun j hj => .inr (by have : j = w3.heap.size := hj; omega)); have K5 := Lib.hid (K3.out.trans k35 (fun _ f => .inl f)); have T5 := Lib.hid (And.intro (T3.out.1.chg k35 (fun f => f)) (T3.out.2.chg k35 (fun f => f))); have H5 := Lib.hid h5; have O5 := Lib.hid (O3.out.chg k35); clear k35 h5 k5 k4 hb4)))
  have OKC := Lib.hid okC
  clear okC
  rename_i ha
  refine wp_region_heads [0, 2, 3, 4, 5, 6, 7, 8, 9, 10, 11, 12, 13, 14] 8 #[true, false, true, true, true, true, true, true, true, true, true, true, true, true, true, false, false, false, false, false, false, false] (by kernel_rfl) (by kernel_rfl) (by kernel_rfl) (by kernel_rfl) (by kernel_rfl) (fun w' => Chg Non w5.drew w') (Chg.refl _ _) ?_
  refine headI_load rfl rfl _ _ rfl W.heap.size 0 rfl s.cells _ (fun w' kk => (Hb.chg (w := w5.drew) T5.out.1 kk (fun f => f)).range0) Try.underlying25 rfl (rowS ok) ?_
  simp only [Act.put, List.setIfInBounds_toArray, List.set_cons_zero, List.set_cons_succ]
  refine headI_run rfl rfl (fun w' kk => by go_simp; rfl) ?_
  simp only [Act.put, List.setIfInBounds_toArray, List.set_cons_zero, List.set_cons_succ]
  refine headI_run rfl rfl (fun w' kk => by (have x0 := jb0 (Hb.chg (w := w5.drew) T5.out.2 kk (fun f => f))); go_simp; rfl) ?_
  simp only [Act.put, List.setIfInBounds_toArray, List.set_cons_zero, List.set_cons_succ]
  refine headI_run rfl rfl (fun w' kk => by go_simp; rfl) ?_
  simp only [Act.put, List.setIfInBounds_toArray, List.set_cons_zero, List.set_cons_succ]
  refine headI_run rfl rfl (fun w' kk => by (have x0 := jb1 (Hb.chg (w := w5.drew) T5.out.2 kk (fun f => f))); go_simp; rfl) ?_
  simp only [Act.put, List.setIfInBounds_toArray, List.set_cons_zero, List.set_cons_succ]
  refine headI_run rfl rfl (fun w' kk => by go_simp; rfl) ?_
  simp only [Act.put, List.setIfInBounds_toArray, List.set_cons_zero, List.set_cons_succ]
  refine headI_load rfl rfl _ _ rfl w1.heap.size 2 rfl (bv i.block) _ (fun w' kk => jb2 (Hb.chg (w := w5.drew) T5.out.2 kk (fun f => f))) Try.underlying23 rfl (rowH oi.b) ?_
  simp only [Act.put, List.setIfInBounds_toArray, List.set_cons_zero, List.set_cons_succ]
  refine headI_run rfl rfl (fun w' kk => by go_simp; rfl) ?_
  simp only [Act.put, List.setIfInBounds_toArray, List.set_cons_zero, List.set_cons_succ]
  refine headI_run rfl rfl (fun w' kk => by (have x0 := jb34 (Hb.chg (w := w5.drew) T5.out.2 kk (fun f => f)) oi); go_simp; rfl) ?_
  simp only [Act.put, List.setIfInBounds_toArray, List.set_cons_zero, List.set_cons_succ]
  refine headI_run rfl rfl (fun w' kk => by go_simp; rfl) ?_
  simp only [Act.put, List.setIfInBounds_toArray, List.set_cons_zero, List.set_cons_succ]
  refine headI_run rfl rfl (fun w' kk => by (have x0 := jb35 (Hb.chg (w := w5.drew) T5.out.2 kk (fun f => f)) oi); go_simp; rfl) ?_
  simp only [Act.put, List.setIfInBounds_toArray, List.set_cons_zero, List.set_cons_succ]
  refine headI_run rfl rfl (fun w' kk => by go_simp; rfl) ?_
  simp only [Act.put, List.setIfInBounds_toArray, List.set_cons_zero, List.set_cons_succ]
  refine headI_load rfl rfl _ _ rfl w1.heap.size 36 rfl (bv i.own) _ (fun w' kk => jb36 (Hb.chg (w := w5.drew) T5.out.2 kk (fun f => f)) oi) Try.underlying23 rfl (rowH oi.o) ?_
  simp only [Act.put, List.setIfInBounds_toArray, List.set_cons_zero, List.set_cons_succ]
  refine headI_build rfl rfl _ _ rfl [(0, .int .i64 i.kind), (1, .int .i64 i.round), (2, .agg (bv i.block).toArray), (3, .int .i64 i.valid), (4, .bool i.good), (5, .agg (bv i.own).toArray)] rfl (built_RI i oi) ?_
  simp only [Act.put, List.setIfInBounds_toArray, List.set_cons_zero, List.set_cons_succ]
  refine headI_nil ?_
  refine held_w2 (n := 1) (m := 19) (fuel := 7) (L1 := #[true, true, true, true, true, true, true, true, true, true, true, true, true, true, true, false, false, false, false, false, false, false]) (L2 := #[true, false, true, true, true, true, true, true, true, true, true, true, true, true, true, false, false, false, false, true, false, false]) rfl rfl (by kernel_rfl) rfl rfl (by kernel_rfl) (by kernel_rfl) ?_ ?_
  · refine wp_call 12 #[.tmp 17] _ rfl rfl ent_told (told_any _ s ok) ?_
    rintro e wq1 ⟨rfl, kq1⟩
    have cq1 : Chg Non w5.drew wq1 := Chg.trans (Chg.refl Non _) kq1 (fun _ f => .inl f)
    refine ⟨_, rfl, cq1, ?_⟩
    simp only [Act.put, List.setIfInBounds_toArray, List.set_cons_zero, List.set_cons_succ]
    refine held_w2 (n := 15) (m := 19) (fuel := 6) (L1 := #[true, true, true, true, true, true, true, true, true, true, true, true, true, true, true, true, false, false, false, false, false, false]) (L2 := #[true, true, true, true, true, true, true, true, true, true, true, true, true, true, true, false, false, false, false, true, false, false]) rfl rfl (by kernel_rfl) rfl rfl (by kernel_rfl) (by kernel_rfl) ?_ ?_
    · refine wp_call 11 #[.tmp 18, .tmp 31] _ rfl rfl ent_rStep (HR.out _) ?_
      rintro e wq2 ⟨kq2, _, u, rfl, oR⟩
      have cq2 : Chg Non w5.drew wq2 := Chg.trans cq1 kq2 (fun _ f => .inl f)
      refine ⟨_, rfl, cq2, ?_⟩
      simp only [Act.put, List.setIfInBounds_toArray, List.set_cons_zero, List.set_cons_succ]
      have OR := Lib.hid oR
      clear oR
      refine heads (g := 3) (L' := #[true, true, true, true, true, true, true, true, true, true, true, true, true, true, true, true, true, true, true, false, false, false]) (by kernel_rfl) (fun _ _ _ _ _ h => h) [16, 17, 18] _ _ _ (by kernel_rfl) (by kernel_rfl) cq2 ?_
      refine headI_run rfl rfl (fun w' kk => by go_simp; rfl) ?_
      simp only [Act.put, List.setIfInBounds_toArray, List.set_cons_zero, List.set_cons_succ]
      refine headI_run rfl rfl (fun w' kk => by go_simp; rfl) ?_
      simp only [Act.put, List.setIfInBounds_toArray, List.set_cons_zero, List.set_cons_succ]
      refine headI_run rfl rfl (fun w' kk => by go_simp; rfl) ?_
      simp only [Act.put, List.setIfInBounds_toArray, List.set_cons_zero, List.set_cons_succ]
      refine headI_nil ?_
      refine held_w (n := 19) (fuel := 2) (L' := #[true, true, true, true, true, true, true, true, true, true, true, true, true, true, true, true, true, true, true, true, false, false]) rfl (by kernel_rfl) rfl (by kernel_rfl) ?_
      refine wp_alloc 31 rfl s0.cells (z_R _) ?_
      have kq3 : Chg Non wq2 (World.alloc wq2 (.cells s0.cells.toArray 31)) := (Chg.refl _ _).alloc _
      have hq3 : Hb (World.alloc wq2 (.cells s0.cells.toArray 31)) (World.heap wq2).size 31 s0.cells.toArray := Hb.new _ _ _
      generalize World.alloc wq2 (.cells s0.cells.toArray 31) = wq3 at *
      obtain ⟨bR, hbR⟩ : ∃ bR, bR = (World.heap wq2).size := ⟨_, rfl⟩
      rw [← hbR] at hq3 ⊢
      have bR0 : (World.heap w5.drew).size ≤ bR := by rw [hbR]; exact Chg.size cq2
      have HBR := Lib.hid hbR
      clear hbR
      have cq3 : Chg Non w5.drew wq3 := Chg.trans cq2 kq3 (fun _ f => .inl f)
      refine ⟨cq3, ?_⟩
      simp only [Act.put, List.setIfInBounds_toArray, List.set_cons_zero, List.set_cons_succ]
      refine held_w (n := 20) (fuel := 1) (L' := #[true, true, true, true, true, true, true, true, true, true, true, true, true, true, true, true, true, true, true, true, true, false]) rfl (by kernel_rfl) rfl (by kernel_rfl) ?_
      have LL : s1.cells.toArray.size = 102 := by rw [List.size_toArray, OKC.out.len]
      refine wp_store_mid 31 _ _ rfl bR 0 s1.cells.toArray rfl rfl (by rw [LL]; exact (hq3).there0) (by rw [LL]; exact row_R) (one_mem s1.one) ?_
      have HQ : Hb (World.setCells wq3 bR 0 s1.cells.toArray.toList) bR 31 s1.cells.toArray := by
        rw [List.toList_toArray]
        exact (hq3).sets0 (by rw [OKC.out.len]; rfl)
      have OQ : Outs 51 (World.setCells wq3 bR 0 s1.cells.toArray.toList) 0 u l1 := Outs.mono (Outs.old OR.out (Chg.setCells (S := fun j => j = bR) (.inl rfl) s1.cells.toArray.toList _ 0 (kq3.mono (fun _ f => f.elim))) (fun j hj => by have : j = bR := hj; have := HBR.out; omega)) (Nat.zero_le _)
      have cq4 : Chg Non w5.drew (World.setCells wq3 bR 0 s1.cells.toArray.toList) := Chg.setCells (S := Non) (.inr bR0) _ _ _ cq3
      generalize World.setCells wq3 bR 0 s1.cells.toArray.toList = wE at *
      refine ⟨cq4, ?_⟩
      try simp only [Act.put, List.setIfInBounds_toArray, List.set_cons_zero, List.set_cons_succ]
      refine held_w (n := 21) (fuel := 0) (L' := #[true, true, true, true, true, true, true, true, true, true, true, true, true, true, true, true, true, true, true, true, true, true]) rfl (by kernel_rfl) rfl (by kernel_rfl) ?_
      refine wp_assign _ rfl ?_
      refine ⟨cq4, ?_⟩
      simp only [Act.put, List.setIfInBounds_toArray, List.set_cons_zero, List.set_cons_succ]
      refine wpAnyH_done (by kernel_rfl) ?_ _
      refine ha _ _ ?_
      have CE := Lib.hid cq4
      have HE := Lib.hid HQ
      have OE := Lib.hid OQ
      clear HQ OQ
      clear cq1 cq2 cq3 cq4
      go_wp2_with (go_at_call 13; go_loud (refine (said_any _ _ 0 v u l1 (O5.out.chg (w' := wE) ⟨CE.out.os, CE.out.tape, CE.out.output, CE.out.size, CE.out.block⟩) OE.out).mono ?_; rintro e w8 ⟨rfl, k8⟩; have C8 := Lib.hid (Chg.trans CE.out k8 (fun _ f => .inl f)); have H8 := Lib.hid (HE.out.chg k8 (fun f => f)); have S8 := Lib.hid (Hb.chg (w := w5.drew) H5.out C8.out (fun f => f))))
      rename_i ha
      refine wp_region_heads [] 17 #[false, false, false, false, false, false, false, false, false, false, false, false, false, false, false, false, false] (by kernel_rfl) (by kernel_rfl) (by kernel_rfl) (by kernel_rfl) (by kernel_rfl) (fun w' => Chg Non w8.drew w') (Chg.refl _ _) ?_
      refine headI_nil ?_
      refine held_w (n := 0) (fuel := 16) (L' := #[true, false, false, false, false, false, false, false, false, false, false, false, false, false, false, false, false]) rfl (by kernel_rfl) rfl (by kernel_rfl) ?_
      refine wp_call 14 #[] _ rfl rfl ent_alive (alive_any _) ?_
      rintro e wz1 ⟨rfl, kz1⟩
      have cz1 : Chg Non w8.drew wz1 := Chg.trans (Chg.refl Non _) kz1 (fun _ f => .inl f)
      refine ⟨_, rfl, cz1, ?_⟩
      simp only [Act.put, List.setIfInBounds_toArray, List.set_cons_zero, List.set_cons_succ]
      refine heads (g := 15) (L' := #[true, true, false, false, false, false, false, false, false, false, false, false, false, false, false, false, false]) (by kernel_rfl) (fun _ _ _ _ _ h => h) [1] _ _ _ (by kernel_rfl) (by kernel_rfl) cz1 ?_
      refine headI_run rfl rfl (fun w' kk => by go_simp; rfl) ?_
      simp only [Act.put, List.setIfInBounds_toArray, List.set_cons_zero, List.set_cons_succ]
      refine headI_nil ?_
      refine held_w (n := 2) (fuel := 14) (L' := #[true, true, true, false, false, false, false, false, false, false, false, false, false, false, false, false, false]) rfl (by kernel_rfl) rfl (by kernel_rfl) ?_
      refine wp_call 15 #[] _ rfl rfl ent_New (New_any _) ?_
      rintro e wz2 ⟨rfl, kz2⟩
      have cz2 : Chg Non w8.drew wz2 := Chg.trans cz1 kz2 (fun _ f => .inl f)
      refine ⟨_, rfl, cz2, ?_⟩
      simp only [Act.put, List.setIfInBounds_toArray, List.set_cons_zero, List.set_cons_succ]
      refine held_w (n := 3) (fuel := 13) (L' := #[true, true, true, true, false, false, false, false, false, false, false, false, false, false, false, false, false]) rfl (by kernel_rfl) rfl (by kernel_rfl) ?_
      refine wp_call 12 #[.tmp 40] _ rfl rfl ent_told (told_any _ mach.start start_ok) ?_
      rintro e wz3 ⟨rfl, kz3⟩
      have cz3 : Chg Non w8.drew wz3 := Chg.trans cz2 kz3 (fun _ f => .inl f)
      refine ⟨_, rfl, cz3, ?_⟩
      simp only [Act.put, List.setIfInBounds_toArray, List.set_cons_zero, List.set_cons_succ]
      refine held_w (n := 4) (fuel := 12) (L' := #[true, true, true, true, true, false, false, false, false, false, false, false, false, false, false, false, false]) rfl (by kernel_rfl) rfl (by kernel_rfl) ?_
      refine wp_call 16 #[] _ rfl rfl ent_rNew (rNew_any _) ?_
      rintro e wz4 ⟨rfl, kz4⟩
      have cz4 : Chg Non w8.drew wz4 := Chg.trans cz3 kz4 (fun _ f => .inl f)
      refine ⟨_, rfl, cz4, ?_⟩
      simp only [Act.put, List.setIfInBounds_toArray, List.set_cons_zero, List.set_cons_succ]
      refine heads (g := 7) (L' := #[true, true, true, true, true, true, true, true, true, false, true, false, false, false, false, false, false]) (by kernel_rfl) (fun _ _ _ _ _ h => h) [5, 6, 7, 8, 10] _ _ _ (by kernel_rfl) (by kernel_rfl) cz4 ?_
      refine headI_eqR rfl rfl _ _ _ rfl mach.start start_ok rfl rfl ?_
      simp only [Act.put, List.setIfInBounds_toArray, List.set_cons_zero, List.set_cons_succ]
      refine headI_run rfl rfl (fun w' kk => by go_simp; rfl) ?_
      simp only [Act.put, List.setIfInBounds_toArray, List.set_cons_zero, List.set_cons_succ]
      refine headI_run rfl rfl (fun w' kk => by go_simp; rfl) ?_
      simp only [Act.put, List.setIfInBounds_toArray, List.set_cons_zero, List.set_cons_succ]
      refine headI_load rfl rfl _ _ rfl w3.heap.size 0 rfl s1.cells _ (fun w' kk => (Hb.chg (w := w8.drew) S8.out kk (fun f => f)).range0) Try.underlying25 rfl (rowS OKC.out) ?_
      simp only [Act.put, List.setIfInBounds_toArray, List.set_cons_zero, List.set_cons_succ]
      refine headI_load rfl rfl _ _ rfl bR 0 rfl s1.cells _ (fun w' kk => (Hb.chg (w := w8.drew) H8.out kk (fun f => f)).range0) Try.underlying31 rfl (rowR OKC.out) ?_
      simp only [Act.put, List.setIfInBounds_toArray, List.set_cons_zero, List.set_cons_succ]
      refine headI_nil ?_
      refine held_w (n := 9) (fuel := 6) (L' := #[true, true, true, true, true, true, true, true, true, true, true, false, false, false, false, false, false]) rfl (by kernel_rfl) rfl (by kernel_rfl) ?_
      refine wp_call 12 #[.tmp 46] _ rfl rfl ent_told (told_any _ s1 OKC.out) ?_
      rintro e wz5 ⟨rfl, kz5⟩
      have cz5 : Chg Non w8.drew wz5 := Chg.trans cz4 kz5 (fun _ f => .inl f)
      refine ⟨_, rfl, cz5, ?_⟩
      simp only [Act.put, List.setIfInBounds_toArray, List.set_cons_zero, List.set_cons_succ]
      refine heads (g := 0) (L' := #[true, true, true, true, true, true, true, true, true, true, true, true, true, true, true, true, true]) (by kernel_rfl) (fun _ _ _ _ _ h => h) [11, 12, 13, 14, 15, 16] _ _ _ (by kernel_rfl) (by kernel_rfl) cz5 ?_
      refine headI_eqR rfl rfl _ _ _ rfl s1 OKC.out rfl rfl ?_
      simp only [Act.put, List.setIfInBounds_toArray, List.set_cons_zero, List.set_cons_succ]
      refine headI_run rfl rfl (fun w' kk => by go_simp; rfl) ?_
      simp only [Act.put, List.setIfInBounds_toArray, List.set_cons_zero, List.set_cons_succ]
      refine headI_run rfl rfl (fun w' kk => by go_simp; rfl) ?_
      simp only [Act.put, List.setIfInBounds_toArray, List.set_cons_zero, List.set_cons_succ]
      refine headI_run rfl rfl (fun w' kk => by go_simp; rfl) ?_
      simp only [Act.put, List.setIfInBounds_toArray, List.set_cons_zero, List.set_cons_succ]
      refine headI_run rfl rfl (fun w' kk => by go_simp; rfl) ?_
      simp only [Act.put, List.setIfInBounds_toArray, List.set_cons_zero, List.set_cons_succ]
      refine headI_run rfl rfl (fun w' kk => by go_simp; rfl) ?_
      simp only [Act.put, List.setIfInBounds_toArray, List.set_cons_zero, List.set_cons_succ]
      refine headI_nil ?_
      refine wpAnyH_done (by kernel_rfl) ?_ _
      refine ha _ _ ?_
      go_wp2
      go_ret
      exact ⟨rfl, (((K5.out.trans ((Chg.refl Non w5).drew) (fun _ f => .inl f)).trans C8.out (fun _ f => .inl f)).trans (Chg.trans ((Chg.refl Non w8).drew) cz5 (fun _ f => .inl f)) (fun _ f => .inl f)).below (Nat.le_refl _) (fun _ f => f.elim)⟩
    · refine wp_alloc 31 rfl s0.cells (z_R _) ?_
      have kq2 : Chg Non wq1 (World.alloc wq1 (.cells s0.cells.toArray 31)) := (Chg.refl _ _).alloc _
      have hq2 : Hb (World.alloc wq1 (.cells s0.cells.toArray 31)) (World.heap wq1).size 31 s0.cells.toArray := Hb.new _ _ _
      generalize World.alloc wq1 (.cells s0.cells.toArray 31) = wq2 at *
      obtain ⟨bR, hbR⟩ : ∃ bR, bR = (World.heap wq1).size := ⟨_, rfl⟩
      rw [← hbR] at hq2 ⊢
      have bR0 : (World.heap w5.drew).size ≤ bR := by rw [hbR]; exact Chg.size cq1
      have HBR := Lib.hid hbR
      clear hbR
      have cq2 : Chg Non w5.drew wq2 := Chg.trans cq1 kq2 (fun _ f => .inl f)
      refine ⟨cq2, ?_⟩
      simp only [Act.put, List.setIfInBounds_toArray, List.set_cons_zero, List.set_cons_succ]
      refine held_w (n := 15) (fuel := 5) (L' := #[true, true, true, true, true, true, true, true, true, true, true, true, true, true, true, true, false, false, false, true, false, false]) rfl (by kernel_rfl) rfl (by kernel_rfl) ?_
      refine wp_call 11 #[.tmp 18, .tmp 31] _ rfl rfl ent_rStep (HR.out _) ?_
      rintro e wq3 ⟨kq3, _, u, rfl, oR⟩
      have cq3 : Chg Non w5.drew wq3 := Chg.trans cq2 kq3 (fun _ f => .inl f)
      refine ⟨_, rfl, cq3, ?_⟩
      simp only [Act.put, List.setIfInBounds_toArray, List.set_cons_zero, List.set_cons_succ]
      have OR := Lib.hid oR
      clear oR
      refine heads (g := 2) (L' := #[true, true, true, true, true, true, true, true, true, true, true, true, true, true, true, true, true, true, true, true, false, false]) (by kernel_rfl) (fun _ _ _ _ _ h => h) [16, 17, 18] _ _ _ (by kernel_rfl) (by kernel_rfl) cq3 ?_
      refine headI_run rfl rfl (fun w' kk => by go_simp; rfl) ?_
      simp only [Act.put, List.setIfInBounds_toArray, List.set_cons_zero, List.set_cons_succ]
      refine headI_run rfl rfl (fun w' kk => by go_simp; rfl) ?_
      simp only [Act.put, List.setIfInBounds_toArray, List.set_cons_zero, List.set_cons_succ]
      refine headI_run rfl rfl (fun w' kk => by go_simp; rfl) ?_
      simp only [Act.put, List.setIfInBounds_toArray, List.set_cons_zero, List.set_cons_succ]
      refine headI_nil ?_
      refine held_w (n := 20) (fuel := 1) (L' := #[true, true, true, true, true, true, true, true, true, true, true, true, true, true, true, true, true, true, true, true, true, false]) rfl (by kernel_rfl) rfl (by kernel_rfl) ?_
      have LL : s1.cells.toArray.size = 102 := by rw [List.size_toArray, OKC.out.len]
      refine wp_store_mid 31 _ _ rfl bR 0 s1.cells.toArray rfl rfl (by rw [LL]; exact (Hb.chg hq2 kq3 (fun f => f)).there0) (by rw [LL]; exact row_R) (one_mem s1.one) ?_
      have HQ : Hb (World.setCells wq3 bR 0 s1.cells.toArray.toList) bR 31 s1.cells.toArray := by
        rw [List.toList_toArray]
        exact (Hb.chg hq2 kq3 (fun f => f)).sets0 (by rw [OKC.out.len]; rfl)
      have OQ : Outs 51 (World.setCells wq3 bR 0 s1.cells.toArray.toList) 0 u l1 := Outs.mono (Outs.far OR.out (Chg.setCells (S := fun j => j = bR) (.inl rfl) s1.cells.toArray.toList _ 0 (Chg.refl _ _)) (fun j hj => by have : j = bR := hj; have := Hb.lt (hq2); omega)) (Nat.zero_le _)
      have cq4 : Chg Non w5.drew (World.setCells wq3 bR 0 s1.cells.toArray.toList) := Chg.setCells (S := Non) (.inr bR0) _ _ _ cq3
      generalize World.setCells wq3 bR 0 s1.cells.toArray.toList = wE at *
      refine ⟨cq4, ?_⟩
      try simp only [Act.put, List.setIfInBounds_toArray, List.set_cons_zero, List.set_cons_succ]
      refine held_w (n := 21) (fuel := 0) (L' := #[true, true, true, true, true, true, true, true, true, true, true, true, true, true, true, true, true, true, true, true, true, true]) rfl (by kernel_rfl) rfl (by kernel_rfl) ?_
      refine wp_assign _ rfl ?_
      refine ⟨cq4, ?_⟩
      simp only [Act.put, List.setIfInBounds_toArray, List.set_cons_zero, List.set_cons_succ]
      refine wpAnyH_done (by kernel_rfl) ?_ _
      refine ha _ _ ?_
      have CE := Lib.hid cq4
      have HE := Lib.hid HQ
      have OE := Lib.hid OQ
      clear HQ OQ
      clear cq1 cq2 cq3 cq4
      go_wp2_with (go_at_call 13; go_loud (refine (said_any _ _ 0 v u l1 (O5.out.chg (w' := wE) ⟨CE.out.os, CE.out.tape, CE.out.output, CE.out.size, CE.out.block⟩) OE.out).mono ?_; rintro e w8 ⟨rfl, k8⟩; have C8 := Lib.hid (Chg.trans CE.out k8 (fun _ f => .inl f)); have H8 := Lib.hid (HE.out.chg k8 (fun f => f)); have S8 := Lib.hid (Hb.chg (w := w5.drew) H5.out C8.out (fun f => f))))
      rename_i ha
      refine wp_region_heads [] 17 #[false, false, false, false, false, false, false, false, false, false, false, false, false, false, false, false, false] (by kernel_rfl) (by kernel_rfl) (by kernel_rfl) (by kernel_rfl) (by kernel_rfl) (fun w' => Chg Non w8.drew w') (Chg.refl _ _) ?_
      refine headI_nil ?_
      refine held_w (n := 0) (fuel := 16) (L' := #[true, false, false, false, false, false, false, false, false, false, false, false, false, false, false, false, false]) rfl (by kernel_rfl) rfl (by kernel_rfl) ?_
      refine wp_call 14 #[] _ rfl rfl ent_alive (alive_any _) ?_
      rintro e wz1 ⟨rfl, kz1⟩
      have cz1 : Chg Non w8.drew wz1 := Chg.trans (Chg.refl Non _) kz1 (fun _ f => .inl f)
      refine ⟨_, rfl, cz1, ?_⟩
      simp only [Act.put, List.setIfInBounds_toArray, List.set_cons_zero, List.set_cons_succ]
      refine heads (g := 15) (L' := #[true, true, false, false, false, false, false, false, false, false, false, false, false, false, false, false, false]) (by kernel_rfl) (fun _ _ _ _ _ h => h) [1] _ _ _ (by kernel_rfl) (by kernel_rfl) cz1 ?_
      refine headI_run rfl rfl (fun w' kk => by go_simp; rfl) ?_
      simp only [Act.put, List.setIfInBounds_toArray, List.set_cons_zero, List.set_cons_succ]
      refine headI_nil ?_
      refine held_w (n := 2) (fuel := 14) (L' := #[true, true, true, false, false, false, false, false, false, false, false, false, false, false, false, false, false]) rfl (by kernel_rfl) rfl (by kernel_rfl) ?_
      refine wp_call 15 #[] _ rfl rfl ent_New (New_any _) ?_
      rintro e wz2 ⟨rfl, kz2⟩
      have cz2 : Chg Non w8.drew wz2 := Chg.trans cz1 kz2 (fun _ f => .inl f)
      refine ⟨_, rfl, cz2, ?_⟩
      simp only [Act.put, List.setIfInBounds_toArray, List.set_cons_zero, List.set_cons_succ]
      refine held_w (n := 3) (fuel := 13) (L' := #[true, true, true, true, false, false, false, false, false, false, false, false, false, false, false, false, false]) rfl (by kernel_rfl) rfl (by kernel_rfl) ?_
      refine wp_call 12 #[.tmp 40] _ rfl rfl ent_told (told_any _ mach.start start_ok) ?_
      rintro e wz3 ⟨rfl, kz3⟩
      have cz3 : Chg Non w8.drew wz3 := Chg.trans cz2 kz3 (fun _ f => .inl f)
      refine ⟨_, rfl, cz3, ?_⟩
      simp only [Act.put, List.setIfInBounds_toArray, List.set_cons_zero, List.set_cons_succ]
      refine held_w (n := 4) (fuel := 12) (L' := #[true, true, true, true, true, false, false, false, false, false, false, false, false, false, false, false, false]) rfl (by kernel_rfl) rfl (by kernel_rfl) ?_
      refine wp_call 16 #[] _ rfl rfl ent_rNew (rNew_any _) ?_
      rintro e wz4 ⟨rfl, kz4⟩
      have cz4 : Chg Non w8.drew wz4 := Chg.trans cz3 kz4 (fun _ f => .inl f)
      refine ⟨_, rfl, cz4, ?_⟩
      simp only [Act.put, List.setIfInBounds_toArray, List.set_cons_zero, List.set_cons_succ]
      refine heads (g := 7) (L' := #[true, true, true, true, true, true, true, true, true, false, true, false, false, false, false, false, false]) (by kernel_rfl) (fun _ _ _ _ _ h => h) [5, 6, 7, 8, 10] _ _ _ (by kernel_rfl) (by kernel_rfl) cz4 ?_
      refine headI_eqR rfl rfl _ _ _ rfl mach.start start_ok rfl rfl ?_
      simp only [Act.put, List.setIfInBounds_toArray, List.set_cons_zero, List.set_cons_succ]
      refine headI_run rfl rfl (fun w' kk => by go_simp; rfl) ?_
      simp only [Act.put, List.setIfInBounds_toArray, List.set_cons_zero, List.set_cons_succ]
      refine headI_run rfl rfl (fun w' kk => by go_simp; rfl) ?_
      simp only [Act.put, List.setIfInBounds_toArray, List.set_cons_zero, List.set_cons_succ]
      refine headI_load rfl rfl _ _ rfl w3.heap.size 0 rfl s1.cells _ (fun w' kk => (Hb.chg (w := w8.drew) S8.out kk (fun f => f)).range0) Try.underlying25 rfl (rowS OKC.out) ?_
      simp only [Act.put, List.setIfInBounds_toArray, List.set_cons_zero, List.set_cons_succ]
      refine headI_load rfl rfl _ _ rfl bR 0 rfl s1.cells _ (fun w' kk => (Hb.chg (w := w8.drew) H8.out kk (fun f => f)).range0) Try.underlying31 rfl (rowR OKC.out) ?_
      simp only [Act.put, List.setIfInBounds_toArray, List.set_cons_zero, List.set_cons_succ]
      refine headI_nil ?_
      refine held_w (n := 9) (fuel := 6) (L' := #[true, true, true, true, true, true, true, true, true, true, true, false, false, false, false, false, false]) rfl (by kernel_rfl) rfl (by kernel_rfl) ?_
      refine wp_call 12 #[.tmp 46] _ rfl rfl ent_told (told_any _ s1 OKC.out) ?_
      rintro e wz5 ⟨rfl, kz5⟩
      have cz5 : Chg Non w8.drew wz5 := Chg.trans cz4 kz5 (fun _ f => .inl f)
      refine ⟨_, rfl, cz5, ?_⟩
      simp only [Act.put, List.setIfInBounds_toArray, List.set_cons_zero, List.set_cons_succ]
      refine heads (g := 0) (L' := #[true, true, true, true, true, true, true, true, true, true, true, true, true, true, true, true, true]) (by kernel_rfl) (fun _ _ _ _ _ h => h) [11, 12, 13, 14, 15, 16] _ _ _ (by kernel_rfl) (by kernel_rfl) cz5 ?_
      refine headI_eqR rfl rfl _ _ _ rfl s1 OKC.out rfl rfl ?_
      simp only [Act.put, List.setIfInBounds_toArray, List.set_cons_zero, List.set_cons_succ]
      refine headI_run rfl rfl (fun w' kk => by go_simp; rfl) ?_
      simp only [Act.put, List.setIfInBounds_toArray, List.set_cons_zero, List.set_cons_succ]
      refine headI_run rfl rfl (fun w' kk => by go_simp; rfl) ?_
      simp only [Act.put, List.setIfInBounds_toArray, List.set_cons_zero, List.set_cons_succ]
      refine headI_run rfl rfl (fun w' kk => by go_simp; rfl) ?_
      simp only [Act.put, List.setIfInBounds_toArray, List.set_cons_zero, List.set_cons_succ]
      refine headI_run rfl rfl (fun w' kk => by go_simp; rfl) ?_
      simp only [Act.put, List.setIfInBounds_toArray, List.set_cons_zero, List.set_cons_succ]
      refine headI_run rfl rfl (fun w' kk => by go_simp; rfl) ?_
      simp only [Act.put, List.setIfInBounds_toArray, List.set_cons_zero, List.set_cons_succ]
      refine headI_nil ?_
      refine wpAnyH_done (by kernel_rfl) ?_ _
      refine ha _ _ ?_
      go_wp2
      go_ret
      exact ⟨rfl, (((K5.out.trans ((Chg.refl Non w5).drew) (fun _ f => .inl f)).trans C8.out (fun _ f => .inl f)).trans (Chg.trans ((Chg.refl Non w8).drew) cz5 (fun _ f => .inl f)) (fun _ f => .inl f)).below (Nat.le_refl _) (fun _ f => f.elim)⟩
  · refine wp_alloc 31 rfl s0.cells (z_R _) ?_
    have kq1 : Chg Non w5.drew (World.alloc w5.drew (.cells s0.cells.toArray 31)) := (Chg.refl _ _).alloc _
    have hq1 : Hb (World.alloc w5.drew (.cells s0.cells.toArray 31)) (World.heap w5.drew).size 31 s0.cells.toArray := Hb.new _ _ _
    generalize World.alloc w5.drew (.cells s0.cells.toArray 31) = wq1 at *
    obtain ⟨bR, hbR⟩ : ∃ bR, bR = (World.heap w5.drew).size := ⟨_, rfl⟩
    rw [← hbR] at hq1 ⊢
    have bR0 : (World.heap w5.drew).size ≤ bR := by rw [hbR]; exact Chg.size (Chg.refl Non _)
    have HBR := Lib.hid hbR
    clear hbR
    have cq1 : Chg Non w5.drew wq1 := Chg.trans (Chg.refl Non _) kq1 (fun _ f => .inl f)
    refine ⟨cq1, ?_⟩
    simp only [Act.put, List.setIfInBounds_toArray, List.set_cons_zero, List.set_cons_succ]
    refine held_w (n := 1) (fuel := 6) (L' := #[true, true, true, true, true, true, true, true, true, true, true, true, true, true, true, false, false, false, false, true, false, false]) rfl (by kernel_rfl) rfl (by kernel_rfl) ?_
    refine wp_call 12 #[.tmp 17] _ rfl rfl ent_told (told_any _ s ok) ?_
    rintro e wq2 ⟨rfl, kq2⟩
    have cq2 : Chg Non w5.drew wq2 := Chg.trans cq1 kq2 (fun _ f => .inl f)
    refine ⟨_, rfl, cq2, ?_⟩
    simp only [Act.put, List.setIfInBounds_toArray, List.set_cons_zero, List.set_cons_succ]
    refine held_w (n := 15) (fuel := 5) (L' := #[true, true, true, true, true, true, true, true, true, true, true, true, true, true, true, true, false, false, false, true, false, false]) rfl (by kernel_rfl) rfl (by kernel_rfl) ?_
    refine wp_call 11 #[.tmp 18, .tmp 31] _ rfl rfl ent_rStep (HR.out _) ?_
    rintro e wq3 ⟨kq3, _, u, rfl, oR⟩
    have cq3 : Chg Non w5.drew wq3 := Chg.trans cq2 kq3 (fun _ f => .inl f)
    refine ⟨_, rfl, cq3, ?_⟩
    simp only [Act.put, List.setIfInBounds_toArray, List.set_cons_zero, List.set_cons_succ]
    have OR := Lib.hid oR
    clear oR
    refine heads (g := 2) (L' := #[true, true, true, true, true, true, true, true, true, true, true, true, true, true, true, true, true, true, true, true, false, false]) (by kernel_rfl) (fun _ _ _ _ _ h => h) [16, 17, 18] _ _ _ (by kernel_rfl) (by kernel_rfl) cq3 ?_
    refine headI_run rfl rfl (fun w' kk => by go_simp; rfl) ?_
    simp only [Act.put, List.setIfInBounds_toArray, List.set_cons_zero, List.set_cons_succ]
    refine headI_run rfl rfl (fun w' kk => by go_simp; rfl) ?_
    simp only [Act.put, List.setIfInBounds_toArray, List.set_cons_zero, List.set_cons_succ]
    refine headI_run rfl rfl (fun w' kk => by go_simp; rfl) ?_
    simp only [Act.put, List.setIfInBounds_toArray, List.set_cons_zero, List.set_cons_succ]
    refine headI_nil ?_
    refine held_w (n := 20) (fuel := 1) (L' := #[true, true, true, true, true, true, true, true, true, true, true, true, true, true, true, true, true, true, true, true, true, false]) rfl (by kernel_rfl) rfl (by kernel_rfl) ?_
    have LL : s1.cells.toArray.size = 102 := by rw [List.size_toArray, OKC.out.len]
    refine wp_store_mid 31 _ _ rfl bR 0 s1.cells.toArray rfl rfl (by rw [LL]; exact (Hb.chg (Hb.chg hq1 kq2 (fun f => f)) kq3 (fun f => f)).there0) (by rw [LL]; exact row_R) (one_mem s1.one) ?_
    have HQ : Hb (World.setCells wq3 bR 0 s1.cells.toArray.toList) bR 31 s1.cells.toArray := by
      rw [List.toList_toArray]
      exact (Hb.chg (Hb.chg hq1 kq2 (fun f => f)) kq3 (fun f => f)).sets0 (by rw [OKC.out.len]; rfl)
    have OQ : Outs 51 (World.setCells wq3 bR 0 s1.cells.toArray.toList) 0 u l1 := Outs.mono (Outs.far OR.out (Chg.setCells (S := fun j => j = bR) (.inl rfl) s1.cells.toArray.toList _ 0 (Chg.refl _ _)) (fun j hj => by have : j = bR := hj; have := Hb.lt (Hb.chg hq1 kq2 (fun f => f)); omega)) (Nat.zero_le _)
    have cq4 : Chg Non w5.drew (World.setCells wq3 bR 0 s1.cells.toArray.toList) := Chg.setCells (S := Non) (.inr bR0) _ _ _ cq3
    generalize World.setCells wq3 bR 0 s1.cells.toArray.toList = wE at *
    refine ⟨cq4, ?_⟩
    try simp only [Act.put, List.setIfInBounds_toArray, List.set_cons_zero, List.set_cons_succ]
    refine held_w (n := 21) (fuel := 0) (L' := #[true, true, true, true, true, true, true, true, true, true, true, true, true, true, true, true, true, true, true, true, true, true]) rfl (by kernel_rfl) rfl (by kernel_rfl) ?_
    refine wp_assign _ rfl ?_
    refine ⟨cq4, ?_⟩
    simp only [Act.put, List.setIfInBounds_toArray, List.set_cons_zero, List.set_cons_succ]
    refine wpAnyH_done (by kernel_rfl) ?_ _
    refine ha _ _ ?_
    have CE := Lib.hid cq4
    have HE := Lib.hid HQ
    have OE := Lib.hid OQ
    clear HQ OQ
    clear cq1 cq2 cq3 cq4
    go_wp2_with (go_at_call 13; go_loud (refine (said_any _ _ 0 v u l1 (O5.out.chg (w' := wE) ⟨CE.out.os, CE.out.tape, CE.out.output, CE.out.size, CE.out.block⟩) OE.out).mono ?_; rintro e w8 ⟨rfl, k8⟩; have C8 := Lib.hid (Chg.trans CE.out k8 (fun _ f => .inl f)); have H8 := Lib.hid (HE.out.chg k8 (fun f => f)); have S8 := Lib.hid (Hb.chg (w := w5.drew) H5.out C8.out (fun f => f))))
    rename_i ha
    refine wp_region_heads [] 17 #[false, false, false, false, false, false, false, false, false, false, false, false, false, false, false, false, false] (by kernel_rfl) (by kernel_rfl) (by kernel_rfl) (by kernel_rfl) (by kernel_rfl) (fun w' => Chg Non w8.drew w') (Chg.refl _ _) ?_
    refine headI_nil ?_
    refine held_w (n := 0) (fuel := 16) (L' := #[true, false, false, false, false, false, false, false, false, false, false, false, false, false, false, false, false]) rfl (by kernel_rfl) rfl (by kernel_rfl) ?_
    refine wp_call 14 #[] _ rfl rfl ent_alive (alive_any _) ?_
    rintro e wz1 ⟨rfl, kz1⟩
    have cz1 : Chg Non w8.drew wz1 := Chg.trans (Chg.refl Non _) kz1 (fun _ f => .inl f)
    refine ⟨_, rfl, cz1, ?_⟩
    simp only [Act.put, List.setIfInBounds_toArray, List.set_cons_zero, List.set_cons_succ]
    refine heads (g := 15) (L' := #[true, true, false, false, false, false, false, false, false, false, false, false, false, false, false, false, false]) (by kernel_rfl) (fun _ _ _ _ _ h => h) [1] _ _ _ (by kernel_rfl) (by kernel_rfl) cz1 ?_
    refine headI_run rfl rfl (fun w' kk => by go_simp; rfl) ?_
    simp only [Act.put, List.setIfInBounds_toArray, List.set_cons_zero, List.set_cons_succ]
    refine headI_nil ?_
    refine held_w (n := 2) (fuel := 14) (L' := #[true, true, true, false, false, false, false, false, false, false, false, false, false, false, false, false, false]) rfl (by kernel_rfl) rfl (by kernel_rfl) ?_
    refine wp_call 15 #[] _ rfl rfl ent_New (New_any _) ?_
    rintro e wz2 ⟨rfl, kz2⟩
    have cz2 : Chg Non w8.drew wz2 := Chg.trans cz1 kz2 (fun _ f => .inl f)
    refine ⟨_, rfl, cz2, ?_⟩
    simp only [Act.put, List.setIfInBounds_toArray, List.set_cons_zero, List.set_cons_succ]
    refine held_w (n := 3) (fuel := 13) (L' := #[true, true, true, true, false, false, false, false, false, false, false, false, false, false, false, false, false]) rfl (by kernel_rfl) rfl (by kernel_rfl) ?_
    refine wp_call 12 #[.tmp 40] _ rfl rfl ent_told (told_any _ mach.start start_ok) ?_
    rintro e wz3 ⟨rfl, kz3⟩
    have cz3 : Chg Non w8.drew wz3 := Chg.trans cz2 kz3 (fun _ f => .inl f)
    refine ⟨_, rfl, cz3, ?_⟩
    simp only [Act.put, List.setIfInBounds_toArray, List.set_cons_zero, List.set_cons_succ]
    refine held_w (n := 4) (fuel := 12) (L' := #[true, true, true, true, true, false, false, false, false, false, false, false, false, false, false, false, false]) rfl (by kernel_rfl) rfl (by kernel_rfl) ?_
    refine wp_call 16 #[] _ rfl rfl ent_rNew (rNew_any _) ?_
    rintro e wz4 ⟨rfl, kz4⟩
    have cz4 : Chg Non w8.drew wz4 := Chg.trans cz3 kz4 (fun _ f => .inl f)
    refine ⟨_, rfl, cz4, ?_⟩
    simp only [Act.put, List.setIfInBounds_toArray, List.set_cons_zero, List.set_cons_succ]
    refine heads (g := 7) (L' := #[true, true, true, true, true, true, true, true, true, false, true, false, false, false, false, false, false]) (by kernel_rfl) (fun _ _ _ _ _ h => h) [5, 6, 7, 8, 10] _ _ _ (by kernel_rfl) (by kernel_rfl) cz4 ?_
    refine headI_eqR rfl rfl _ _ _ rfl mach.start start_ok rfl rfl ?_
    simp only [Act.put, List.setIfInBounds_toArray, List.set_cons_zero, List.set_cons_succ]
    refine headI_run rfl rfl (fun w' kk => by go_simp; rfl) ?_
    simp only [Act.put, List.setIfInBounds_toArray, List.set_cons_zero, List.set_cons_succ]
    refine headI_run rfl rfl (fun w' kk => by go_simp; rfl) ?_
    simp only [Act.put, List.setIfInBounds_toArray, List.set_cons_zero, List.set_cons_succ]
    refine headI_load rfl rfl _ _ rfl w3.heap.size 0 rfl s1.cells _ (fun w' kk => (Hb.chg (w := w8.drew) S8.out kk (fun f => f)).range0) Try.underlying25 rfl (rowS OKC.out) ?_
    simp only [Act.put, List.setIfInBounds_toArray, List.set_cons_zero, List.set_cons_succ]
    refine headI_load rfl rfl _ _ rfl bR 0 rfl s1.cells _ (fun w' kk => (Hb.chg (w := w8.drew) H8.out kk (fun f => f)).range0) Try.underlying31 rfl (rowR OKC.out) ?_
    simp only [Act.put, List.setIfInBounds_toArray, List.set_cons_zero, List.set_cons_succ]
    refine headI_nil ?_
    refine held_w (n := 9) (fuel := 6) (L' := #[true, true, true, true, true, true, true, true, true, true, true, false, false, false, false, false, false]) rfl (by kernel_rfl) rfl (by kernel_rfl) ?_
    refine wp_call 12 #[.tmp 46] _ rfl rfl ent_told (told_any _ s1 OKC.out) ?_
    rintro e wz5 ⟨rfl, kz5⟩
    have cz5 : Chg Non w8.drew wz5 := Chg.trans cz4 kz5 (fun _ f => .inl f)
    refine ⟨_, rfl, cz5, ?_⟩
    simp only [Act.put, List.setIfInBounds_toArray, List.set_cons_zero, List.set_cons_succ]
    refine heads (g := 0) (L' := #[true, true, true, true, true, true, true, true, true, true, true, true, true, true, true, true, true]) (by kernel_rfl) (fun _ _ _ _ _ h => h) [11, 12, 13, 14, 15, 16] _ _ _ (by kernel_rfl) (by kernel_rfl) cz5 ?_
    refine headI_eqR rfl rfl _ _ _ rfl s1 OKC.out rfl rfl ?_
    simp only [Act.put, List.setIfInBounds_toArray, List.set_cons_zero, List.set_cons_succ]
    refine headI_run rfl rfl (fun w' kk => by go_simp; rfl) ?_
    simp only [Act.put, List.setIfInBounds_toArray, List.set_cons_zero, List.set_cons_succ]
    refine headI_run rfl rfl (fun w' kk => by go_simp; rfl) ?_
    simp only [Act.put, List.setIfInBounds_toArray, List.set_cons_zero, List.set_cons_succ]
    refine headI_run rfl rfl (fun w' kk => by go_simp; rfl) ?_
    simp only [Act.put, List.setIfInBounds_toArray, List.set_cons_zero, List.set_cons_succ]
    refine headI_run rfl rfl (fun w' kk => by go_simp; rfl) ?_
    simp only [Act.put, List.setIfInBounds_toArray, List.set_cons_zero, List.set_cons_succ]
    refine headI_run rfl rfl (fun w' kk => by go_simp; rfl) ?_
    simp only [Act.put, List.setIfInBounds_toArray, List.set_cons_zero, List.set_cons_succ]
    refine headI_nil ?_
    refine wpAnyH_done (by kernel_rfl) ?_ _
    refine ha _ _ ?_
    go_wp2
    go_ret
    exact ⟨rfl, (((K5.out.trans ((Chg.refl Non w5).drew) (fun _ f => .inl f)).trans C8.out (fun _ f => .inl f)).trans (Chg.trans ((Chg.refl Non w8).drew) cz5 (fun _ f => .inl f)) (fun _ f => .inl f)).below (Nat.le_refl _) (fun _ f => f.elim)⟩

/-! ### The row's frame -/
theorem own : ownKnob Try.prog.godebug = none := by kernel_rfl
theorem walkA (W : World) (args : Array Value) (hsz : args.size = Try.f3.params.size) (hok : ∀ (j : Nat) (t : TypeId) (v : Value), Try.f3.params[j]? = some t → args[j]? = some v → Okv Try.prog W t v) :
    Calls Try.prog 3 args W fun e W' => e = .returned (.bool true) ∧ Below W.heap.size W W' := by
  rw [Try.params3] at hsz hok
  obtain ⟨v0, v1, rfl⟩ : ∃ v0 v1 : Value, args = #[v0, v1] := by
    obtain ⟨l⟩ := args
    match l, hsz with
    | [v0, v1], _ => exact ⟨v0, v1, rfl⟩
  exact walk W v0 v1 (hok 0 25 v0 rfl rfl) (hok 1 27 v1 rfl rfl)
set_option maxRecDepth 100000 in
theorem lifted (os : Os) (started : os.Started) (H : Type) (enc : TypeId × Value → H) :
    ReturnsInHanded {} Try.checked os 3 .any (Rows.roundStepsSpec.pre6 enc Try.prog Try.f3 Rows.roundStepsRow.domain false) (Rows.roundStepsSpec.post enc Try.prog Try.f3 false true false false) :=
  lifted_of_walk (C := Try.checked) (s := Rows.roundStepsSpec) (conds := Rows.roundStepsRow.domain) (apart := false) (fresh := true) (T := 4) own started (by kernel_rfl) Try.func3
    (ChangeSpec.witness6 (enc := enc) (C := Try.checked) false ⟨#[], #[.agg s0.cells.toArray, .agg i0.cells.toArray], []⟩ 8 (by kernel_rfl) (by kernel_rfl) (by kernel_rfl) (by kernel_rfl))
    rfl (fun ds hd => by
      rw [Try.params3] at hd
      match ds, hd with
      | [d0, d1], _ => exact ⟨rfl, rfl, rfl⟩)
    (by kernel_rfl) Try.underlying4 (by kernel_rfl) (by rw [Try.params3]; intro t ht; simp only [List.mem_cons, List.not_mem_nil, or_false] at ht; rcases ht with rfl | rfl <;> exact ⟨by kernel_rfl, of_decide_eq_true (by kernel_rfl)⟩) walkA

theorem holds : Rows.roundStepsRow.holds Try.pinned (OpenSpec.ofChange Rows.roundStepsSpec) :=
  OpenClaim.holds_of_wide 3 Try.f3 rfl rfl rfl rfl rfl rfl rfl ⟨rfl, rfl, rfl, rfl, rfl⟩ rfl rfl rfl rfl rfl (by kernel_rfl) Try.func3 (by kernel_rfl)
    (of_decide_eq_true (by kernel_rfl)) (by unfold Func.isWrapper; first | (rw [if_pos (by decide +kernel)]; kernel_rfl) | (rw [if_neg (by decide +kernel)]; exact ⟨rfl, rfl⟩))
    (fun os started H enc _ => lifted os started H enc)
end Go.Proofs.Ytdejfamcmebdiaa.roundSteps
namespace Go.Proofs.Ytdejfamcmebdiaa
/-- The statement. -/
theorem roundSteps_holds : Rows.RoundStepsSaid := roundSteps.holds
end Go.Proofs.Ytdejfamcmebdiaa
