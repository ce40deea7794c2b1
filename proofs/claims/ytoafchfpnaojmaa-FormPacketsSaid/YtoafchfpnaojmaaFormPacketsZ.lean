/- Of the program at this commit: the law FormPackets answers true for every packet and every proof (their bytes are as the document says, or the error); no condition. -/
import Derived.Test.YtoafchfpnaojmaaRows
import Derived.WalkKit
import Derived.ProofKit
import Derived.Test.YtoafchfpnaojmaaMFormPackets4
import Derived.Test.YtoafchfpnaojmaaMFormPackets6
import Derived.Test.YtoafchfpnaojmaaMFormPackets9
namespace Go.Proofs.Ytoafchfpnaojmaa.formPackets
open Go.ChangeShapes Go.WideShapes Go.ChangeAt Go.RowKit
set_option linter.unusedVariables false

set_option maxRecDepth 100000 in
set_option maxHeartbeats 6400000 in
theorem walk (W : World) (v0 v1 : Value) (h0 : Okv Try.prog W 23 v0) (h1 : Okv Try.prog W 26 v1) :
    Calls Try.prog 3 #[v0, v1] W fun e W' => e = .returned (.bool true) ∧ Below W.heap.size W W' := by
  obtain ⟨x, rfl, ox⟩ := packet_arg h0
  obtain ⟨sz, A, c, ms, rfl, hsz, hlm, M, hm⟩ := proof_arg h1
  clear h0 h1
  have hip : (Try.prog.info? 23).map (·.size) = some x.cells.length := dPacket.row
  have hiq : (Try.prog.info? 26).map (·.size) = some ([.int .i64 sz, .slice A ms.length c] : List Value).length := by kernel_rfl
  have FACTS : ∀ w1 w2, Hid (w1 = W.alloc (.cells x.cells.toArray 23)) → Hid (w2 = w1.alloc (.cells [.int .i64 sz, .slice A ms.length c].toArray 26)) →
      (Hb w2 W.heap.size 23 x.cells.toArray ∧ Hb w2 w1.heap.size 26 [.int .i64 sz, .slice A ms.length c].toArray ∧ Chg Non W w2) ∧
      w2.cell? ⟨W.heap.size, 1, none⟩ = some (.string x.from) ∧ w2.cell? ⟨W.heap.size, 2, none⟩ = some (.string x.data) ∧ w2.cell? ⟨w1.heap.size, 1, none⟩ = some (.slice A ms.length c) := by
    intro w1 w2 h1 h2
    have hC1 : Chg Non W w1 := by rw [h1.out]; exact (Chg.refl Non W).alloc _
    have hC2 : Chg Non w1 w2 := by rw [h2.out]; exact (Chg.refl Non w1).alloc _
    have b1 : Hb w1 W.heap.size 23 x.cells.toArray := by rw [h1.out]; exact Hb.new W _ _
    have b2 : Hb w2 w1.heap.size 26 [.int .i64 sz, .slice A ms.length c].toArray := by rw [h2.out]; exact Hb.new w1 _ _
    have b1' := b1.chg hC2 (fun f => f)
    exact ⟨⟨b1', b2, hC1.trans hC2 (fun _ f => f.elim)⟩, b1'.cell 1, b1'.cell 2, b2.cell 1⟩
  have HF := Lib.hid FACTS
  have HM := Lib.hid M
  have HI := Lib.hid hm
  have HLM := Lib.hid hlm
  unfold maxLen at hlm
  have hfd := ox.data
  have hff := ox.from
  unfold maxLen at hfd hff
  clear FACTS M hm
  generalize hn : ms.length = n at *
  have HN := Lib.hid hn
  clear hn
  by_cases b1 : (5000 : Int) < (x.data.size : Int)
  · go_enter Try.func3, Try.ntmps3
    go_wp2_with (first | (with_reducible refine wpList_box_row rfl _ _ rfl (cs := x.cells.toArray) rfl ?_; intro w1 hw1) | (with_reducible refine wpList_box_row rfl _ _ rfl (cs := #[.int .i64 sz, .slice A n c]) rfl ?_; intro w2 hw2; obtain ⟨⟨hX, hQ, hC⟩, x1, x2, q1⟩ := HF.out w1 w2 hw1 hw2))
    refine (alive_any _).mono ?_
    rintro e w5 ⟨rfl, k5⟩
    go_wp2
    go_ret
    exact ⟨rfl, (hC.trans k5 (fun _ f => f.elim)).below (Nat.le_refl _) (fun _ f => f.elim)⟩
  by_cases b2 : (5000 : Int) < (x.from.size : Int)
  · go_enter Try.func3, Try.ntmps3
    go_wp2_with (first | (with_reducible refine wpList_box_row rfl _ _ rfl (cs := x.cells.toArray) rfl ?_; intro w1 hw1) | (with_reducible refine wpList_box_row rfl _ _ rfl (cs := #[.int .i64 sz, .slice A n c]) rfl ?_; intro w2 hw2; obtain ⟨⟨hX, hQ, hC⟩, x1, x2, q1⟩ := HF.out w1 w2 hw1 hw2))
    refine (alive_any _).mono ?_
    rintro e w5 ⟨rfl, k5⟩
    go_wp2
    go_ret
    exact ⟨rfl, (hC.trans k5 (fun _ f => f.elim)).below (Nat.le_refl _) (fun _ f => f.elim)⟩
  by_cases b3 : (4 : Int) < (n : Int)
  · go_enter Try.func3, Try.ntmps3
    go_wp2_with (first | (with_reducible refine wpList_box_row rfl _ _ rfl (cs := x.cells.toArray) rfl ?_; intro w1 hw1) | (with_reducible refine wpList_box_row rfl _ _ rfl (cs := #[.int .i64 sz, .slice A n c]) rfl ?_; intro w2 hw2; obtain ⟨⟨hX, hQ, hC⟩, x1, x2, q1⟩ := HF.out w1 w2 hw1 hw2))
    refine (alive_any _).mono ?_
    rintro e w5 ⟨rfl, k5⟩
    go_wp2
    go_ret
    exact ⟨rfl, (hC.trans k5 (fun _ f => f.elim)).below (Nat.le_refl _) (fun _ f => f.elim)⟩
  go_enter Try.func3, Try.ntmps3
  go_wp2_with (first | (with_reducible refine wpList_box_row rfl _ _ rfl (cs := x.cells.toArray) rfl ?_; intro w1 hw1) | (with_reducible refine wpList_box_row rfl _ _ rfl (cs := #[.int .i64 sz, .slice A n c]) rfl ?_; intro w2 hw2; obtain ⟨⟨hX, hQ, hC⟩, x1, x2, q1⟩ := HF.out w1 w2 hw1 hw2))
  generalize w1.heap.size = n1 at *
  have HC := Lib.hid hC
  have HXX := Lib.hid hX
  have HQQ := Lib.hid hQ
  clear hw1 hw2 hX hQ hC x1 x2
  go_loopw [5] (fun i wr => ∃ k : Nat, k ≤ n ∧ i = .int .i64 (k : Int) ∧ wr = w2) (fun i _ => n - (intOf i).toNat)
  case atStart => exact ⟨0, by omega, rfl, rfl⟩
  case round =>
    obtain ⟨k, hk, rfl, hwr⟩ := hrel
    obtain rfl := hwr.symm
    by_cases hlt : k < n
    · have hkl : k < ms.length := by rw [HN.out]; exact hlt
      have hx := List.getElem?_eq_getElem hkl
      obtain ⟨a, ao, rfl, _, r1⟩ := (HM.out.chg HC.out) k _ hx
      have hin := HI.out ms[k] (List.getElem_mem hkl)
      generalize ms[k] = m at *
      obtain ⟨⟨ix, ky, vu, pa⟩, PA, pc⟩ := m
      obtain ⟨oy, hpl, _⟩ := hin
      have hyk := oy.key
      have hyv := oy.value
      simp only at hpl hyk hyv
      unfold maxLen at hpl hyk hyv
      obtain ⟨f0, r2⟩ := rangeAt_cons r1
      obtain ⟨f1, r2⟩ := rangeAt_cons r2
      obtain ⟨f2, r2⟩ := rangeAt_cons r2
      obtain ⟨f3, _⟩ := rangeAt_cons r2
      simp only at f0 f1 f2 f3
      generalize pa.length = pn at *
      have hki : (k : Int) < (n : Int) := by omega
      clear r1 r2 hx hkl oy
      by_cases p1 : (20 : Int) < (pn : Int)
      · go_wp2_with fail
        refine (alive_any _).mono ?_
        rintro e w5 ⟨rfl, k5⟩
        go_wp2
        go_ret
        exact ⟨rfl, (HC.out.trans k5 (fun _ f => f.elim)).below (Nat.le_refl _) (fun _ f => f.elim)⟩
      by_cases p2 : (5000 : Int) < (ky.size : Int)
      · go_wp2_with fail
        refine (alive_any _).mono ?_
        rintro e w5 ⟨rfl, k5⟩
        go_wp2
        go_ret
        exact ⟨rfl, (HC.out.trans k5 (fun _ f => f.elim)).below (Nat.le_refl _) (fun _ f => f.elim)⟩
      by_cases p3 : (5000 : Int) < (vu.size : Int)
      · go_wp2_with fail
        refine (alive_any _).mono ?_
        rintro e w5 ⟨rfl, k5⟩
        go_wp2
        go_ret
        exact ⟨rfl, (HC.out.trans k5 (fun _ f => f.elim)).below (Nat.le_refl _) (fun _ f => f.elim)⟩
      go_wp2_with fail
      go_roundw
      case rel => exact ⟨k + 1, by omega, by go_num, by trivial⟩
      case measure => simp [intOf]; omega
    · obtain rfl : k = n := by omega
      have rX := HXX.out.range0
      go_wp2_with (first | (with_reducible refine wpList_load_mid rfl 23 _ rfl W.heap.size 0 rfl x.cells _ rX Try.underlying23 rfl hip ?_) | fail)
      refine (EncodePacket_any _ x ox).mono ?_
      rintro e w3 h3
      obtain ⟨k3, va, ea, rfl, s3⟩ := h3.was
      have rX3 := (HXX.out.chg k3 (fun f => f)).range0
      clear rX h3 q1
      go_wp2_with (first | (with_reducible refine wpList_load_mid rfl 23 _ rfl W.heap.size 0 rfl x.cells _ rX3 Try.underlying23 rfl hip ?_) | fail)
      refine (refPacket_any _ x ox).mono ?_
      rintro e w4 ⟨k4, vb, rfl, s4⟩
      have k24 := k3.trans k4 (fun _ f => f.elim)
      have rQ4 := (HQQ.out.chg k24 (fun f => f)).range0
      have s3' := s3.chg k4
      clear rX3 s3 k3 k4
      go_wp2_with (first | (with_reducible refine wpList_load_mid rfl 26 _ rfl n1 0 rfl [.int .i64 sz, .slice A k c] _ rQ4 Try.underlying26 rfl hiq ?_) | fail)
      have HK24 := Lib.hid k24
      have E5 := EncodeProof_any w4 A c sz ms hsz (by rw [HN.out]; exact HLM.out) ((HM.out.chg HC.out).chg k24) (In.chg (In.chg HI.out HC.out) k24)
      rw [HN.out] at E5
      refine E5.mono ?_
      rintro e w5 h5
      obtain ⟨k5, vc, ec, rfl, s5⟩ := h5.was
      have k25 := k24.trans k5 (fun _ f => f.elim)
      have rQ5 := (HQQ.out.chg k25 (fun f => f)).range0
      have s3'' := s3'.chg k5
      have s4'' := fun h => (s4 h).chg k5 (fun _ _ f => f)
      clear E5 h5 rQ4 s3' s4 k24 k5 HK24
      go_wp2_with (first | (with_reducible refine wpList_load_mid rfl 26 _ rfl n1 0 rfl [.int .i64 sz, .slice A k c] _ rQ5 Try.underlying26 rfl hiq ?_) | fail)
      have E6 := refProof_any w5 A c sz ms hsz (by rw [HN.out]; exact HLM.out) ((HM.out.chg HC.out).chg k25) (In.chg (In.chg HI.out HC.out) k25)
      rw [HN.out] at E6
      refine E6.mono ?_
      rintro e w6 ⟨k6, vd, rfl, s6⟩
      have K := HC.out.trans (k25.trans k6 (fun _ f => f.elim)) (fun _ f => f.elim)
      have t3 := s3''.chg k6
      have t4 := fun h => (s4'' h).chg k6 (fun _ _ f => f)
      have t5 := s5.chg k6
      clear E6 rQ5 s3'' s4'' s5 k25 k6
      go_wp2_with fail
      refine (wanted_any w6 va vb ea _ _ t3 t4).mono ?_
      rintro e w7 ⟨rfl, hw⟩
      obtain rfl : w6 = w7 := hw.symm
      clear hw
      go_wp2_with fail
      refine (wanted_any w6 vc vd ec _ _ t5 s6).mono ?_
      rintro e w7 ⟨rfl, hw⟩
      obtain rfl : w6 = w7 := hw.symm
      clear hw
      go_wp2_with fail
      refine (alive_any _).mono ?_
      rintro e w8 ⟨rfl, k8⟩
      go_wp2_with fail
      go_ret
      exact ⟨rfl, (K.trans k8 (fun _ f => f.elim)).below (Nat.le_refl _) (fun _ f => f.elim)⟩

/-! ### The row's frame -/
theorem own : ownKnob Try.prog.godebug = none := by kernel_rfl
theorem walkA (W : World) (args : Array Value) (hsz : args.size = Try.f3.params.size) (hok : ∀ (j : Nat) (t : TypeId) (v : Value), Try.f3.params[j]? = some t → args[j]? = some v → Okv Try.prog W t v) :
    Calls Try.prog 3 args W fun e W' => e = .returned (.bool true) ∧ Below W.heap.size W W' := by
  rw [Try.params3] at hsz hok
  obtain ⟨v0, v1, rfl⟩ : ∃ v0 v1 : Value, args = #[v0, v1] := by
    obtain ⟨l⟩ := args
    match l, hsz with
    | [v0, v1], _ => exact ⟨v0, v1, rfl⟩
  exact walk W v0 v1 (hok 0 23 v0 rfl rfl) (hok 1 26 v1 rfl rfl)
set_option maxRecDepth 100000 in
theorem lifted (os : Os) (started : os.Started) (H : Type) (enc : TypeId × Value → H) :
    ReturnsInHanded {} Try.checked os 3 .any (Rows.formPacketsSpec.pre6 enc Try.prog Try.f3 Rows.formPacketsRow.domain false) (Rows.formPacketsSpec.post enc Try.prog Try.f3 false true false false) :=
  lifted_of_walk (C := Try.checked) (s := Rows.formPacketsSpec) (conds := Rows.formPacketsRow.domain) (apart := false) (fresh := true) (T := 4) own started (by kernel_rfl) Try.func3
    (ChangeSpec.witness6 (enc := enc) (C := Try.checked) false ⟨#[], #[.agg Pk.zero.cells.toArray, .agg #[.int .i64 0, .slice none 0 0]], []⟩ 8 (by kernel_rfl) (by kernel_rfl) (by kernel_rfl) (by kernel_rfl))
    rfl (fun ds hd => by
      rw [Try.params3] at hd
      match ds, hd with
      | [d0, d1], _ => exact ⟨rfl, rfl, rfl⟩)
    (by kernel_rfl) Try.underlying4 (by kernel_rfl) (by rw [Try.params3]; intro t ht; simp only [List.mem_cons, List.not_mem_nil, or_false] at ht; rcases ht with rfl | rfl <;> exact ⟨by kernel_rfl, of_decide_eq_true (by kernel_rfl)⟩) walkA

theorem holds : Rows.formPacketsRow.holds Try.pinned (OpenSpec.ofChange Rows.formPacketsSpec) :=
  OpenClaim.holds_of_wide 3 Try.f3 rfl rfl rfl rfl rfl rfl rfl ⟨rfl, rfl, rfl, rfl, rfl⟩ rfl rfl rfl rfl rfl (by kernel_rfl) Try.func3 (by kernel_rfl)
    (of_decide_eq_true (by kernel_rfl)) (by unfold Func.isWrapper; first | (rw [if_pos (by decide +kernel)]; kernel_rfl) | (rw [if_neg (by decide +kernel)]; exact ⟨rfl, rfl⟩))
    (fun os started H enc _ => lifted os started H enc)
end Go.Proofs.Ytoafchfpnaojmaa.formPackets
namespace Go.Proofs.Ytoafchfpnaojmaa
/-- The statement. -/
theorem formPackets_holds : Rows.FormPacketsSaid := formPackets.holds
end Go.Proofs.Ytoafchfpnaojmaa
