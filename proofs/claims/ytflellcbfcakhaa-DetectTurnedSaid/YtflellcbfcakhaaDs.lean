/- The live question. -/
import Derived.Test.YtflellcbfcakhaaChecked
import Derived.WalkKit
import Derived.WalkLawsBesides
import Derived.Lib.Hide
import Derived.Deep.MidRow
import Derived.Laws.Tables
import Derived.Test.YtflellcbfcakhaaDsa
namespace Go.Proofs.Ytflellcbfcakhaa
open Go.RowKit
set_option linter.unusedVariables false
set_option linter.unusedSimpArgs false
set_option maxRecDepth 20000

set_option maxHeartbeats 3200000 in
theorem alive_any (w : World) : Calls Try.prog 5 #[] w (Zero w (.bool true)) := by
  have zl : Li.zero.cells.length = 200 := Li.zero.cells_len Li.zero_ok
  have zA : Li.zero.cells.length = lA.cells.length := by rw [zl, lA.cells_len lA_ok]
  have zB : Li.zero.cells.length = lB.cells.length := by rw [zl, lB.cells_len lB_ok]
  have zC : Li.zero.cells.length = lC.cells.length := by rw [zl, lC.cells_len lC_ok]
  have rA := light_row lA lA_ok
  have rB := light_row lB lB_ok
  have rC := light_row lC lC_ok
  have oA := lA.one
  have oB := lB.one
  have oC := lC.one
  have HDV := Lib.hid live_dv
  have HCL := Lib.hid live_cl
  have ba := bA
  have bb := bB
  have bc := bC
  have ca := cA
  have cb := cB
  have cc := cC
  have sab := sAB
  have sac := sAC
  have al := light_alloc
  generalize [lA, lB].flatMap Li.cells = mAB at *
  generalize [lA, lC].flatMap Li.cells = mAC at *
  generalize lA.cells = xA at *
  generalize lB.cells = xB at *
  generalize lC.cells = xC at *
  generalize hA.cells = yA at *
  generalize hB.cells = yB at *
  generalize hC.cells = yC at *
  generalize Li.zero.cells = z at *
  go_enter Try.func5, Try.ntmps5
  go_wp2_with (first | (with_reducible refine wpList_build_1c rfl 25 _ _ rfl ba ?_; go_frame) | (with_reducible refine wpList_build_1c rfl 25 _ _ rfl bb ?_; go_frame) | (with_reducible refine wpList_build_2c rfl 25 _ _ _ _ rfl bc ?_; go_frame) | (with_reducible refine wpList_build_1 rfl 31 _ _ rfl (v := Value.agg yA.toArray) rfl ca ?_; go_frame) | (with_reducible refine wpList_build_1 rfl 31 _ _ rfl (v := Value.agg yB.toArray) rfl cb ?_; go_frame) | (with_reducible refine wpList_build_1 rfl 31 _ _ rfl (v := Value.agg yC.toArray) rfl cc ?_; go_frame) | (with_reducible refine wpList_alloc_h rfl _ rfl z al ?_; intro wz kz hz0; go_frame) | (with_reducible refine wpList_store_h rfl 31 _ _ rfl w.heap.size z xA rfl rfl hz0.out zA rA oA ?_; intro w1 j1 h1; have k1 := kz.fresh j1; clear kz hz0 j1; go_frame) | (with_reducible refine wpList_store_h rfl 31 _ _ rfl w1.heap.size z xB rfl rfl hz0.out zB rB oB ?_; intro w2 j2 h2; have k2 := kz.fresh j2; clear kz hz0 j2; go_frame) | (with_reducible refine wpList_store_h rfl 31 _ _ rfl w2.heap.size z xC rfl rfl hz0.out zC rC oC ?_; intro w3 j3 h3; have k3 := kz.fresh j3; clear kz hz0 j3; have p1 := ((h1.out.chg k2 (fun f => f)).chg k3 (fun f => f)).range0; have p2 := (h2.out.chg k3 (fun f => f)).range0; have p3 := h3.out.range0; go_frame) | (with_reducible refine wpList_load_mid rfl 31 _ rfl w.heap.size 0 rfl xA _ p1 Try.underlying31 rfl rA ?_; go_frame) | (with_reducible refine wpList_load_mid rfl 31 _ rfl w1.heap.size 0 rfl xB _ p2 Try.underlying31 rfl rB ?_; go_frame) | (with_reducible refine wpList_bslice2 rfl 34 31 _ _ rfl (u := Value.agg xA.toArray) (v := Value.agg xB.toArray) rfl rfl sab ?_; intro w4 k4 h4; have q1 := k4.range' p1 (fun f => f); have q2 := k4.range' p2 (fun f => f); have q3 := k4.range' p3 (fun f => f); go_frame) | (with_reducible refine wpList_load_mid rfl 31 _ rfl w.heap.size 0 rfl xA _ q1 Try.underlying31 rfl rA ?_; go_frame) | (with_reducible refine wpList_load_mid rfl 31 _ rfl w2.heap.size 0 rfl xC _ q3 Try.underlying31 rfl rC ?_; go_frame) | (with_reducible refine wpList_bslice2 rfl 34 31 _ _ rfl (u := Value.agg xA.toArray) (v := Value.agg xC.toArray) rfl rfl sac ?_; intro w5 k5 h5; go_frame))
  have HC5 := Lib.hid ((((k1.trans k2 (fun _ f => f.elim)).trans k3 (fun _ f => f.elim)).trans k4 (fun _ f => f.elim)).trans k5 (fun _ f => f.elim))
  have HP := Lib.hid (And.intro (k5.range' q1 (fun f => f)) (And.intro (k5.range' q2 (fun f => f)) (k5.range' q3 (fun f => f))))
  have H45 := Lib.hid (And.intro (h4.out.chg k5 (fun f => f)) h5.out)
  clear p1 p2 p3 q1 q2 q3 h1 h2 h3 h4 h5 k1 k2 k3 k4 k5 ba bb bc ca cb cc sab sac
  refine (HDV.out w5 _ _ H45.out.1 H45.out.2).mono ?_
  rintro e w6 ⟨rfl, k6⟩
  have HC6 := Lib.hid (HC5.out.trans k6 (fun _ f => f.elim))
  have t1 := k6.range' HP.out.1 (fun f => f)
  have t2 := k6.range' HP.out.2.1 (fun f => f)
  have t3 := k6.range' HP.out.2.2 (fun f => f)
  clear H45 HP HC5 k6
  go_wp2_with (first | (with_reducible refine wpList_load_mid rfl 31 _ rfl w.heap.size 0 rfl xA _ t1 Try.underlying31 rfl rA ?_; go_frame) | (with_reducible refine wpList_load_mid rfl 31 _ rfl w1.heap.size 0 rfl xB _ t2 Try.underlying31 rfl rB ?_; go_frame) | (with_reducible refine wpList_load_mid rfl 31 _ rfl w2.heap.size 0 rfl xC _ t3 Try.underlying31 rfl rC ?_; go_frame))
  refine (HCL.out w6).mono ?_
  rintro e w7 ⟨k7, L, hL1, hL2, hL3, rfl⟩
  have HC7 := Lib.hid (HC6.out.trans k7 (fun _ f => f.elim))
  have HL0 := Lib.hid hL3
  have erow : (Try.prog.info? 38).map (·.size) = some L.length := by rw [hL1]; exact ev_row
  have ezl : Ez.length = L.length := by rw [ez_len, hL1]
  have HFE : Hid (∀ wa wb, Chg Non w7 wa → Chg (· = w7.heap.size) wa wb → Hid (Hb wb w7.heap.size 38 L.toArray) → wb.cell? ⟨w7.heap.size, 0, none⟩ = some (.string sEqu) ∧ Hid (Chg Non w wb)) := Lib.hid fun wa wb ka kb h => by
    refine ⟨?_, Lib.hid (HC7.out.trans (ka.fresh kb) (fun _ f => f.elim))⟩
    rw [h.out.cell, List.getElem?_toArray]
    exact HL0.out
  have eal := ev_alloc
  generalize Ez = ez at *
  clear t1 t2 t3 k7 hL3
  unfold sEqu at HFE
  go_wp2_with (first | (with_reducible refine wpList_alloc_h rfl _ rfl ez eal ?_; intro wa ka hA; go_frame) | (with_reducible refine wpList_store_h rfl 38 _ _ rfl w7.heap.size ez L rfl rfl hA.out ezl erow hL2 ?_; intro wb kb hB; obtain ⟨p1, p2⟩ := HFE.out wa wb ka kb hB; go_frame))
  go_ret
  exact ⟨by first | rfl | simp, p2.out⟩
end Go.Proofs.Ytflellcbfcakhaa
