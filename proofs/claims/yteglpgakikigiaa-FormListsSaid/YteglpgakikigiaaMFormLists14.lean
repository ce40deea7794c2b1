import Derived.Test.YteglpgakikigiaaChecked
import Derived.WalkKit
import Derived.WalkLawsBesides
import Derived.Lib.Hide
import Derived.Test.YteglpgakikigiaaMFormLists6
import Derived.Test.YteglpgakikigiaaMFormLists8
import Derived.Test.YteglpgakikigiaaMFormLists13
/- The document's answers for forms: readHeader. -/
namespace Go.Proofs.Yteglpgakikigiaa
open Go.RowKit
set_option linter.unusedVariables false
set_option linter.unusedSimpArgs false
set_option maxRecDepth 20000

theorem built_Hd (c : ByteArray) : Try.prog.built 36 [(0, .string c)] = some (⟨c, 0, 0, noH, noH, noH, noH, noH⟩ : Hd).cells.toArray := by kernel_rfl
set_option maxHeartbeats 3200000 in
theorem readHeader_any (w : World) (g : Nat) (F : Nat → Prop) (st : St) (h : RdF w g F st) (hFs : ∀ j, F j → j < w.heap.size) :
    Calls Try.prog 28 #[.pointer (some ⟨g, 0, none⟩)] w (Gotr w g F (rHeader st).1.cells (rHeader st).2) := by
  have hz := dHeader.alloc0
  have hzl := dHeader.zlen
  have hrow := dHeader.row
  have hC := (Chg.refl Non w).alloc (.cells (Hd.zero.cells).toArray 36)
  have hb := Hb.new w 36 (Hd.zero.cells).toArray
  have hs1 : (w.alloc (.cells (Hd.zero.cells).toArray 36)).heap.size = w.heap.size + 1 := by simp
  have HN := refRNumber (w.alloc (.cells (Hd.zero.cells).toArray 36)) g F st (h.chg hC (fun f => f) (fun _ _ f => f)) (fun j hj => by have := hFs j hj; omega)
  have hgl := h.lt
  have e1 : (rHeader st).1 = (⟨⟨(vT (rBeg 2 st)).toArray⟩, vN (nT (rBeg 2 st)), vN (nW (nT (rBeg 2 st))), vH (nW (nW (nT (rBeg 2 st)))), vH (nH (nW (nW (nT (rBeg 2 st))))), vH (nH (nH (nW (nW (nT (rBeg 2 st)))))), vH (nH (nH (nH (nW (nW (nT (rBeg 2 st))))))), vH (nH (nH (nH (nH (nW (nW (nT (rBeg 2 st))))))))⟩ : Hd) := rfl
  have e2 : (rHeader st).2 = nH (nH (nH (nH (nH (nW (nW (nT (rBeg 2 st)))))))) := rfl
  rw [e1, e2]
  have hs0 : rBeg 2 st = if vN st = 2 then nW st else none := rfl
  clear e1 e2
  generalize rBeg 2 st = s1 at *
  generalize nW st = s0 at *
  generalize vN st = n at *
  generalize (Hd.zero.cells) = z at *
  have HH := Lib.hid HN
  have HC := Lib.hid hC
  have HFS := Lib.hid hFs
  have HZ := Lib.hid hz
  have hz0 := hz w
  clear HN hC h hFs hz
  have FIN : ∀ (w2 : World), RdF w2 g F s1 → Hb w2 w.heap.size 36 z.toArray → Chg (Eqg g) w w2 → True := fun _ _ _ _ => trivial
  clear FIN
  by_cases hk : n = 2
  · rw [if_pos hk] at hs0
    subst hs0
    subst hk
    go_enter Try.func28, Try.ntmps28
    go_wp2_with (with_reducible refine wpList_alloc_row rfl _ rfl z hz0 ?_)
    refine HH.out.mono ?_
    rintro e w1 ⟨rfl, hR, hK⟩
    have hb1 := hb.chg hK (fun e => by unfold Eqg at e; omega)
    have hc1 : Chg (Eqg g) w w1 := (HC.out.mono (S' := Eqg g) (fun _ f => f.elim)).trans hK (fun j hj => .inl hj)
    obtain ⟨A, m, c, hblk⟩ := hR.blk
    have q1 : w1.cell? ⟨g, 1, none⟩ = some (.bool s1.isNone) := hblk.cell 1
    have q2 : w1.frozen? ⟨g, 1, none⟩ = false := hblk.frozen 1
    clear HH hz0 hK hb hblk
    go_wp2_with fail
    have hR2 := hR.same
    have kk := (Chg.refl (Eqg g) w1).setCell (p := ⟨g, 1, none⟩) (.inl rfl) (.bool s1.isNone)
    have hb2 := hb1.chg kk (fun e => by unfold Eqg at e; omega)
    have hc2 := hc1.trans kk (fun j hj => .inl hj)
    clear hb1 hc1 kk hR q1 q2
    generalize w1.setCell ⟨g, 1, none⟩ (.bool s1.isNone) = w2 at *
    refine (refRText w2 g F s1 hR2 (fun j hj => Nat.lt_of_lt_of_le (HFS.out j hj) hc2.size)).mono ?_
    rintro e w3 ⟨rfl, hR3, hK3⟩
    have hb3 := hb2.chg hK3 (fun e => by unfold Eqg at e; omega)
    have hc3 := hc2.trans hK3 (fun j hj => .inl hj)
    have hl0 : ((⟨⟨(vT s1).toArray⟩, 0, 0, noH, noH, noH, noH, noH⟩ : Hd)).cells.length = 163 := by simp [Hd.cells, bv_length, noH_length]
    have hz3 := HZ.out w3
    obtain ⟨K4, hN4, hth4⟩ := storedU w3 36 z ((⟨⟨(vT s1).toArray⟩, 0, 0, noH, noH, noH, noH, noH⟩ : Hd)).cells (hzl.trans hl0.symm)
    rw [hl0] at hth4
    have hbu := built_Hd ⟨(vT s1).toArray⟩
    have hone : ∀ v ∈ ((⟨⟨(vT s1).toArray⟩, 0, 0, noH, noH, noH, noH, noH⟩ : Hd)).cells, v.oneCell' = true := Hd.one _
    have hLs : ((⟨⟨(vT s1).toArray⟩, 0, 0, noH, noH, noH, noH, noH⟩ : Hd)).cells.toArray.size = 163 := by rw [List.size_toArray]; exact hl0
    have hw3 := hc3.size
    have S : Rfs w g F w3.heap.size 36 ((⟨⟨(vT s1).toArray⟩, 0, 0, noH, noH, noH, noH, noH⟩ : Hd)).cells w.heap.size z (nT s1) _ := ⟨hR3.chg K4 (fun f => f) (fun _ _ f => f), hN4, hb3.chg K4 (fun f => f), (hc3.mono (S' := fun j => j = g ∨ j = w3.heap.size ∨ j = w.heap.size) (fun j hj => .inl (.inl hj))).trans K4 (fun j hj => hj.elim), by omega, by omega, (by have := hb3.lt; omega), fun hf => by have := HFS.out _ hf; omega, fun hf => by have := HFS.out _ hf; omega, fun j hj => by have := HFS.out j hj; have := K4.size; omega⟩
    clear hb2 hc2 hR2 hb3 hc3 hR3 hK3 K4 hN4 hl0
    generalize hcs : ((⟨⟨(vT s1).toArray⟩, 0, 0, noH, noH, noH, noH, noH⟩ : Hd)).cells = L0 at *
    generalize hw4 : (w3.alloc (.cells z.toArray 36)).setCells w3.heap.size 0 L0 = w4 at *
    have HCS := Lib.hid hcs
    have HW4 := Lib.hid hw4
    clear hcs hw4
    go_wp2_with (first | (with_reducible refine wpList_build_row rfl 36 _ rfl (v := Value.string ⟨(vT s1).toArray⟩) rfl hbu ?_) | (with_reducible refine wpList_alloc_row rfl _ rfl z hz3 ?_) | (with_reducible refine wpList_store_mid rfl 36 _ _ rfl w3.heap.size 0 L0.toArray rfl rfl (by rw [hLs]; exact hth4) (by rw [hLs, hrow]) (one_mem hone) ?_; rw [List.toList_toArray, HW4.out]))
    have S := S.eq HCS.out.symm
    clear hbu hz3 hth4 hone hLs HCS HW4
    generalize w3.heap.size = tb at *
    refine (refRNumber _ g F _ S.rdr S.fsw).mono ?_
    rintro e w5 ⟨rfl, hR, hK⟩
    have S := (S.read hR hK).eq (L' := ([Value.string ⟨(vT s1).toArray⟩]) ++ ((Value.int .i64 (0)) :: ([Value.int .i64 (0)] ++ (bv (noH)) ++ (bv (noH)) ++ (bv (noH)) ++ (bv (noH)) ++ (bv (noH))))) (by simp [Hd.cells])
    obtain ⟨cc, ff⟩ := S.cell (o := 1) (by simp [bv_length, vH_length])
    have S := S.set (o := 1) (by simp [bv_length, vH_length]) (Value.int .i64 (vN (nT s1)))
    have S := S.eq (L' := ((⟨⟨(vT s1).toArray⟩, vN (nT s1), 0, noH, noH, noH, noH, noH⟩ : Hd)).cells) (by simp [Hd.cells])
    go_wp2_with fail
    clear cc ff hR hK
    refine (refRNumber _ g F _ S.rdr S.fsw).mono ?_
    rintro e w6 ⟨rfl, hR, hK⟩
    have S := (S.read hR hK).eq (L' := ([Value.string ⟨(vT s1).toArray⟩] ++ [Value.int .i64 (vN (nT s1))]) ++ ((Value.int .i64 (0)) :: ((bv (noH)) ++ (bv (noH)) ++ (bv (noH)) ++ (bv (noH)) ++ (bv (noH))))) (by simp [Hd.cells])
    obtain ⟨cc, ff⟩ := S.cell (o := 2) (by simp [bv_length, vH_length])
    have S := S.set (o := 2) (by simp [bv_length, vH_length]) (Value.int .i64 (vN (nW (nT s1))))
    have S := S.eq (L' := ((⟨⟨(vT s1).toArray⟩, vN (nT s1), vN (nW (nT s1)), noH, noH, noH, noH, noH⟩ : Hd)).cells) (by simp [Hd.cells])
    go_wp2_with fail
    clear cc ff hR hK
    refine (refRHash _ g F _ S.rdr S.fsw).mono ?_
    rintro e w7 ⟨rfl, hR, hK⟩
    have S := (S.read hR hK).eq (L' := ([Value.string ⟨(vT s1).toArray⟩] ++ [Value.int .i64 (vN (nT s1))] ++ [Value.int .i64 (vN (nW (nT s1)))]) ++ ((bv noH) ++ ((bv (noH)) ++ (bv (noH)) ++ (bv (noH)) ++ (bv (noH))))) (by simp [Hd.cells])
    have hvl := vH_length (nW (nW (nT s1)))
    have ht := S.there (o := 3) (by simp [bv_length, vH_length])
    rw [bv_length, noH_length] at ht
    have S := S.sets (o := 3) (by simp [bv_length, vH_length]) (bv (vH (nW (nW (nT s1))))) (by rw [bv_length, bv_length, hvl, noH_length])
    have S := S.eq (L' := ((⟨⟨(vT s1).toArray⟩, vN (nT s1), vN (nW (nT s1)), vH (nW (nW (nT s1))), noH, noH, noH, noH⟩ : Hd)).cells) (by simp [Hd.cells])
    go_wp2_with (with_reducible refine wpList_store_mid rfl _ _ _ rfl tb 3 (bv (vH (nW (nW (nT s1))))).toArray rfl rfl (by rw [List.size_toArray, bv_length, hvl]; exact ht) (by rw [List.size_toArray, bv_length, hvl]; exact hash_row) (all_oneCell_toArray (bv_one _)) ?_; rw [List.toList_toArray])
    clear hR hK hvl ht
    refine (refRHash _ g F _ S.rdr S.fsw).mono ?_
    rintro e w8 ⟨rfl, hR, hK⟩
    have S := (S.read hR hK).eq (L' := ([Value.string ⟨(vT s1).toArray⟩] ++ [Value.int .i64 (vN (nT s1))] ++ [Value.int .i64 (vN (nW (nT s1)))] ++ (bv (vH (nW (nW (nT s1)))))) ++ ((bv noH) ++ ((bv (noH)) ++ (bv (noH)) ++ (bv (noH))))) (by simp [Hd.cells])
    have hvl := vH_length (nH (nW (nW (nT s1))))
    have ht := S.there (o := 35) (by simp [bv_length, vH_length])
    rw [bv_length, noH_length] at ht
    have S := S.sets (o := 35) (by simp [bv_length, vH_length]) (bv (vH (nH (nW (nW (nT s1)))))) (by rw [bv_length, bv_length, hvl, noH_length])
    have S := S.eq (L' := ((⟨⟨(vT s1).toArray⟩, vN (nT s1), vN (nW (nT s1)), vH (nW (nW (nT s1))), vH (nH (nW (nW (nT s1)))), noH, noH, noH⟩ : Hd)).cells) (by simp [Hd.cells])
    go_wp2_with (with_reducible refine wpList_store_mid rfl _ _ _ rfl tb 35 (bv (vH (nH (nW (nW (nT s1)))))).toArray rfl rfl (by rw [List.size_toArray, bv_length, hvl]; exact ht) (by rw [List.size_toArray, bv_length, hvl]; exact hash_row) (all_oneCell_toArray (bv_one _)) ?_; rw [List.toList_toArray])
    clear hR hK hvl ht
    refine (refRHash _ g F _ S.rdr S.fsw).mono ?_
    rintro e w9 ⟨rfl, hR, hK⟩
    have S := (S.read hR hK).eq (L' := ([Value.string ⟨(vT s1).toArray⟩] ++ [Value.int .i64 (vN (nT s1))] ++ [Value.int .i64 (vN (nW (nT s1)))] ++ (bv (vH (nW (nW (nT s1))))) ++ (bv (vH (nH (nW (nW (nT s1))))))) ++ ((bv noH) ++ ((bv (noH)) ++ (bv (noH))))) (by simp [Hd.cells])
    have hvl := vH_length (nH (nH (nW (nW (nT s1)))))
    have ht := S.there (o := 67) (by simp [bv_length, vH_length])
    rw [bv_length, noH_length] at ht
    have S := S.sets (o := 67) (by simp [bv_length, vH_length]) (bv (vH (nH (nH (nW (nW (nT s1))))))) (by rw [bv_length, bv_length, hvl, noH_length])
    have S := S.eq (L' := ((⟨⟨(vT s1).toArray⟩, vN (nT s1), vN (nW (nT s1)), vH (nW (nW (nT s1))), vH (nH (nW (nW (nT s1)))), vH (nH (nH (nW (nW (nT s1))))), noH, noH⟩ : Hd)).cells) (by simp [Hd.cells])
    go_wp2_with (with_reducible refine wpList_store_mid rfl _ _ _ rfl tb 67 (bv (vH (nH (nH (nW (nW (nT s1))))))).toArray rfl rfl (by rw [List.size_toArray, bv_length, hvl]; exact ht) (by rw [List.size_toArray, bv_length, hvl]; exact hash_row) (all_oneCell_toArray (bv_one _)) ?_; rw [List.toList_toArray])
    clear hR hK hvl ht
    refine (refRHash _ g F _ S.rdr S.fsw).mono ?_
    rintro e w10 ⟨rfl, hR, hK⟩
    have S := (S.read hR hK).eq (L' := ([Value.string ⟨(vT s1).toArray⟩] ++ [Value.int .i64 (vN (nT s1))] ++ [Value.int .i64 (vN (nW (nT s1)))] ++ (bv (vH (nW (nW (nT s1))))) ++ (bv (vH (nH (nW (nW (nT s1)))))) ++ (bv (vH (nH (nH (nW (nW (nT s1)))))))) ++ ((bv noH) ++ ((bv (noH))))) (by simp [Hd.cells])
    have hvl := vH_length (nH (nH (nH (nW (nW (nT s1))))))
    have ht := S.there (o := 99) (by simp [bv_length, vH_length])
    rw [bv_length, noH_length] at ht
    have S := S.sets (o := 99) (by simp [bv_length, vH_length]) (bv (vH (nH (nH (nH (nW (nW (nT s1)))))))) (by rw [bv_length, bv_length, hvl, noH_length])
    have S := S.eq (L' := ((⟨⟨(vT s1).toArray⟩, vN (nT s1), vN (nW (nT s1)), vH (nW (nW (nT s1))), vH (nH (nW (nW (nT s1)))), vH (nH (nH (nW (nW (nT s1))))), vH (nH (nH (nH (nW (nW (nT s1)))))), noH⟩ : Hd)).cells) (by simp [Hd.cells])
    go_wp2_with (with_reducible refine wpList_store_mid rfl _ _ _ rfl tb 99 (bv (vH (nH (nH (nH (nW (nW (nT s1)))))))).toArray rfl rfl (by rw [List.size_toArray, bv_length, hvl]; exact ht) (by rw [List.size_toArray, bv_length, hvl]; exact hash_row) (all_oneCell_toArray (bv_one _)) ?_; rw [List.toList_toArray])
    clear hR hK hvl ht
    refine (refRHash _ g F _ S.rdr S.fsw).mono ?_
    rintro e w11 ⟨rfl, hR, hK⟩
    have S := (S.read hR hK).eq (L' := ([Value.string ⟨(vT s1).toArray⟩] ++ [Value.int .i64 (vN (nT s1))] ++ [Value.int .i64 (vN (nW (nT s1)))] ++ (bv (vH (nW (nW (nT s1))))) ++ (bv (vH (nH (nW (nW (nT s1)))))) ++ (bv (vH (nH (nH (nW (nW (nT s1))))))) ++ (bv (vH (nH (nH (nH (nW (nW (nT s1))))))))) ++ ((bv noH) ++ (([] : List Value)))) (by simp [Hd.cells])
    have hvl := vH_length (nH (nH (nH (nH (nW (nW (nT s1)))))))
    have ht := S.there (o := 131) (by simp [bv_length, vH_length])
    rw [bv_length, noH_length] at ht
    have S := S.sets (o := 131) (by simp [bv_length, vH_length]) (bv (vH (nH (nH (nH (nH (nW (nW (nT s1))))))))) (by rw [bv_length, bv_length, hvl, noH_length])
    have S := S.eq (L' := ((⟨⟨(vT s1).toArray⟩, vN (nT s1), vN (nW (nT s1)), vH (nW (nW (nT s1))), vH (nH (nW (nW (nT s1)))), vH (nH (nH (nW (nW (nT s1))))), vH (nH (nH (nH (nW (nW (nT s1)))))), vH (nH (nH (nH (nH (nW (nW (nT s1)))))))⟩ : Hd)).cells) (by simp [Hd.cells])
    have hl9 : ((⟨⟨(vT s1).toArray⟩, vN (nT s1), vN (nW (nT s1)), vH (nW (nW (nT s1))), vH (nH (nW (nW (nT s1)))), vH (nH (nH (nW (nW (nT s1))))), vH (nH (nH (nH (nW (nW (nT s1)))))), vH (nH (nH (nH (nH (nW (nW (nT s1)))))))⟩ : Hd)).cells.length = 163 := by simp [Hd.cells, bv_length, vH_length]
    have hone : ∀ v ∈ ((⟨⟨(vT s1).toArray⟩, vN (nT s1), vN (nW (nT s1)), vH (nW (nW (nT s1))), vH (nH (nW (nW (nT s1)))), vH (nH (nH (nW (nW (nT s1))))), vH (nH (nH (nH (nW (nW (nT s1)))))), vH (nH (nH (nH (nH (nW (nW (nT s1)))))))⟩ : Hd)).cells, v.oneCell' = true := Hd.one _
    generalize hLL : ((⟨⟨(vT s1).toArray⟩, vN (nT s1), vN (nW (nT s1)), vH (nW (nW (nT s1))), vH (nH (nW (nW (nT s1)))), vH (nH (nH (nW (nW (nT s1))))), vH (nH (nH (nH (nW (nW (nT s1)))))), vH (nH (nH (nH (nH (nW (nW (nT s1)))))))⟩ : Hd)).cells = LL at *
    have hLi : (Try.prog.info? 36).map (·.size) = some LL.length := by rw [hl9]; exact hrow
    have hLs : LL.toArray.size = 163 := by rw [List.size_toArray]; exact hl9
    have rr := S.row.range0
    have ht0 := S.res.there0
    rw [hzl] at ht0
    obtain ⟨D1, D2, D3⟩ := S.done (hzl.trans hl9.symm)
    clear S hLL
    go_wp2_with (first | (with_reducible refine wpList_store_mid rfl _ _ _ rfl tb 131 (bv (vH (nH (nH (nH (nH (nW (nW (nT s1))))))))).toArray rfl rfl (by rw [List.size_toArray, bv_length, hvl]; exact ht) (by rw [List.size_toArray, bv_length, hvl]; exact hash_row) (all_oneCell_toArray (bv_one _)) ?_; rw [List.toList_toArray]) | (with_reducible refine wpList_load_mid rfl 36 _ rfl tb 0 rfl LL _ rr Try.underlying36 rfl hLi ?_) | (with_reducible refine wpList_store_mid rfl 36 _ _ rfl w.heap.size 0 LL.toArray rfl rfl (by rw [hLs]; exact ht0) (by rw [hLs, hrow]) (one_mem hone) ?_))
    exact bodyPost_ret (results_cell_row rfl _ _ w.heap.size 36 _ (0, 0) _ rfl D3 Try.underlying36 rfl (by rw [hLi, List.size_toArray])) rfl ⟨rfl, D1, (Chg.refl (Eqg g) w).trans D2 (fun j hj => by rcases hj with h | h | h; exact .inl h; exact .inr (by omega); exact .inr (by omega))⟩
  · rw [if_neg hk] at hs0
    subst hs0
    go_enter Try.func28, Try.ntmps28
    go_wp2_with (with_reducible refine wpList_alloc_row rfl _ rfl z hz0 ?_)
    refine HH.out.mono ?_
    rintro e w1 ⟨rfl, hR, hK⟩
    have hb1 := hb.chg hK (fun e => by unfold Eqg at e; omega)
    have hc1 : Chg (Eqg g) w w1 := (HC.out.mono (S' := Eqg g) (fun _ f => f.elim)).trans hK (fun j hj => .inl hj)
    obtain ⟨A, m, c, hblk⟩ := hR.blk
    have q1 : w1.cell? ⟨g, 1, none⟩ = some (.bool s0.isNone) := hblk.cell 1
    have q2 : w1.frozen? ⟨g, 1, none⟩ = false := hblk.frozen 1
    clear HH hz0 hK hb hblk
    go_wp2_with fail
    have hR2 := hR.brk
    have kk := (Chg.refl (Eqg g) w1).setCell (p := ⟨g, 1, none⟩) (.inl rfl) (.bool true)
    have hb2 := hb1.chg kk (fun e => by unfold Eqg at e; omega)
    have hc2 := hc1.trans kk (fun j hj => .inl hj)
    clear hb1 hc1 kk hR q1 q2
    generalize w1.setCell ⟨g, 1, none⟩ (.bool true) = w2 at *
    refine (refRText w2 g F none hR2 (fun j hj => Nat.lt_of_lt_of_le (HFS.out j hj) hc2.size)).mono ?_
    rintro e w3 ⟨rfl, hR3, hK3⟩
    have hb3 := hb2.chg hK3 (fun e => by unfold Eqg at e; omega)
    have hc3 := hc2.trans hK3 (fun j hj => .inl hj)
    have hl0 : ((⟨⟨(vT none).toArray⟩, 0, 0, noH, noH, noH, noH, noH⟩ : Hd)).cells.length = 163 := by simp [Hd.cells, bv_length, noH_length]
    have hz3 := HZ.out w3
    obtain ⟨K4, hN4, hth4⟩ := storedU w3 36 z ((⟨⟨(vT none).toArray⟩, 0, 0, noH, noH, noH, noH, noH⟩ : Hd)).cells (hzl.trans hl0.symm)
    rw [hl0] at hth4
    have hbu := built_Hd ⟨(vT none).toArray⟩
    have hone : ∀ v ∈ ((⟨⟨(vT none).toArray⟩, 0, 0, noH, noH, noH, noH, noH⟩ : Hd)).cells, v.oneCell' = true := Hd.one _
    have hLs : ((⟨⟨(vT none).toArray⟩, 0, 0, noH, noH, noH, noH, noH⟩ : Hd)).cells.toArray.size = 163 := by rw [List.size_toArray]; exact hl0
    have hw3 := hc3.size
    have S : Rfs w g F w3.heap.size 36 ((⟨⟨(vT none).toArray⟩, 0, 0, noH, noH, noH, noH, noH⟩ : Hd)).cells w.heap.size z (nT none) _ := ⟨hR3.chg K4 (fun f => f) (fun _ _ f => f), hN4, hb3.chg K4 (fun f => f), (hc3.mono (S' := fun j => j = g ∨ j = w3.heap.size ∨ j = w.heap.size) (fun j hj => .inl (.inl hj))).trans K4 (fun j hj => hj.elim), by omega, by omega, (by have := hb3.lt; omega), fun hf => by have := HFS.out _ hf; omega, fun hf => by have := HFS.out _ hf; omega, fun j hj => by have := HFS.out j hj; have := K4.size; omega⟩
    clear hb2 hc2 hR2 hb3 hc3 hR3 hK3 K4 hN4 hl0
    generalize hcs : ((⟨⟨(vT none).toArray⟩, 0, 0, noH, noH, noH, noH, noH⟩ : Hd)).cells = L0 at *
    generalize hw4 : (w3.alloc (.cells z.toArray 36)).setCells w3.heap.size 0 L0 = w4 at *
    have HCS := Lib.hid hcs
    have HW4 := Lib.hid hw4
    clear hcs hw4
    go_wp2_with (first | (with_reducible refine wpList_build_row rfl 36 _ rfl (v := Value.string ⟨(vT none).toArray⟩) rfl hbu ?_) | (with_reducible refine wpList_alloc_row rfl _ rfl z hz3 ?_) | (with_reducible refine wpList_store_mid rfl 36 _ _ rfl w3.heap.size 0 L0.toArray rfl rfl (by rw [hLs]; exact hth4) (by rw [hLs, hrow]) (one_mem hone) ?_; rw [List.toList_toArray, HW4.out]))
    have S := S.eq HCS.out.symm
    clear hbu hz3 hth4 hone hLs HCS HW4
    generalize w3.heap.size = tb at *
    refine (refRNumber _ g F _ S.rdr S.fsw).mono ?_
    rintro e w5 ⟨rfl, hR, hK⟩
    have S := (S.read hR hK).eq (L' := ([Value.string ⟨(vT none).toArray⟩]) ++ ((Value.int .i64 (0)) :: ([Value.int .i64 (0)] ++ (bv (noH)) ++ (bv (noH)) ++ (bv (noH)) ++ (bv (noH)) ++ (bv (noH))))) (by simp [Hd.cells])
    obtain ⟨cc, ff⟩ := S.cell (o := 1) (by simp [bv_length, vH_length])
    have S := S.set (o := 1) (by simp [bv_length, vH_length]) (Value.int .i64 (vN (nT none)))
    have S := S.eq (L' := ((⟨⟨(vT none).toArray⟩, vN (nT none), 0, noH, noH, noH, noH, noH⟩ : Hd)).cells) (by simp [Hd.cells])
    go_wp2_with fail
    clear cc ff hR hK
    refine (refRNumber _ g F _ S.rdr S.fsw).mono ?_
    rintro e w6 ⟨rfl, hR, hK⟩
    have S := (S.read hR hK).eq (L' := ([Value.string ⟨(vT none).toArray⟩] ++ [Value.int .i64 (vN (nT none))]) ++ ((Value.int .i64 (0)) :: ((bv (noH)) ++ (bv (noH)) ++ (bv (noH)) ++ (bv (noH)) ++ (bv (noH))))) (by simp [Hd.cells])
    obtain ⟨cc, ff⟩ := S.cell (o := 2) (by simp [bv_length, vH_length])
    have S := S.set (o := 2) (by simp [bv_length, vH_length]) (Value.int .i64 (vN (nW (nT none))))
    have S := S.eq (L' := ((⟨⟨(vT none).toArray⟩, vN (nT none), vN (nW (nT none)), noH, noH, noH, noH, noH⟩ : Hd)).cells) (by simp [Hd.cells])
    go_wp2_with fail
    clear cc ff hR hK
    refine (refRHash _ g F _ S.rdr S.fsw).mono ?_
    rintro e w7 ⟨rfl, hR, hK⟩
    have S := (S.read hR hK).eq (L' := ([Value.string ⟨(vT none).toArray⟩] ++ [Value.int .i64 (vN (nT none))] ++ [Value.int .i64 (vN (nW (nT none)))]) ++ ((bv noH) ++ ((bv (noH)) ++ (bv (noH)) ++ (bv (noH)) ++ (bv (noH))))) (by simp [Hd.cells])
    have hvl := vH_length (nW (nW (nT none)))
    have ht := S.there (o := 3) (by simp [bv_length, vH_length])
    rw [bv_length, noH_length] at ht
    have S := S.sets (o := 3) (by simp [bv_length, vH_length]) (bv (vH (nW (nW (nT none))))) (by rw [bv_length, bv_length, hvl, noH_length])
    have S := S.eq (L' := ((⟨⟨(vT none).toArray⟩, vN (nT none), vN (nW (nT none)), vH (nW (nW (nT none))), noH, noH, noH, noH⟩ : Hd)).cells) (by simp [Hd.cells])
    go_wp2_with (with_reducible refine wpList_store_mid rfl _ _ _ rfl tb 3 (bv (vH (nW (nW (nT none))))).toArray rfl rfl (by rw [List.size_toArray, bv_length, hvl]; exact ht) (by rw [List.size_toArray, bv_length, hvl]; exact hash_row) (all_oneCell_toArray (bv_one _)) ?_; rw [List.toList_toArray])
    clear hR hK hvl ht
    refine (refRHash _ g F _ S.rdr S.fsw).mono ?_
    rintro e w8 ⟨rfl, hR, hK⟩
    have S := (S.read hR hK).eq (L' := ([Value.string ⟨(vT none).toArray⟩] ++ [Value.int .i64 (vN (nT none))] ++ [Value.int .i64 (vN (nW (nT none)))] ++ (bv (vH (nW (nW (nT none)))))) ++ ((bv noH) ++ ((bv (noH)) ++ (bv (noH)) ++ (bv (noH))))) (by simp [Hd.cells])
    have hvl := vH_length (nH (nW (nW (nT none))))
    have ht := S.there (o := 35) (by simp [bv_length, vH_length])
    rw [bv_length, noH_length] at ht
    have S := S.sets (o := 35) (by simp [bv_length, vH_length]) (bv (vH (nH (nW (nW (nT none)))))) (by rw [bv_length, bv_length, hvl, noH_length])
    have S := S.eq (L' := ((⟨⟨(vT none).toArray⟩, vN (nT none), vN (nW (nT none)), vH (nW (nW (nT none))), vH (nH (nW (nW (nT none)))), noH, noH, noH⟩ : Hd)).cells) (by simp [Hd.cells])
    go_wp2_with (with_reducible refine wpList_store_mid rfl _ _ _ rfl tb 35 (bv (vH (nH (nW (nW (nT none)))))).toArray rfl rfl (by rw [List.size_toArray, bv_length, hvl]; exact ht) (by rw [List.size_toArray, bv_length, hvl]; exact hash_row) (all_oneCell_toArray (bv_one _)) ?_; rw [List.toList_toArray])
    clear hR hK hvl ht
    refine (refRHash _ g F _ S.rdr S.fsw).mono ?_
    rintro e w9 ⟨rfl, hR, hK⟩
    have S := (S.read hR hK).eq (L' := ([Value.string ⟨(vT none).toArray⟩] ++ [Value.int .i64 (vN (nT none))] ++ [Value.int .i64 (vN (nW (nT none)))] ++ (bv (vH (nW (nW (nT none))))) ++ (bv (vH (nH (nW (nW (nT none))))))) ++ ((bv noH) ++ ((bv (noH)) ++ (bv (noH))))) (by simp [Hd.cells])
    have hvl := vH_length (nH (nH (nW (nW (nT none)))))
    have ht := S.there (o := 67) (by simp [bv_length, vH_length])
    rw [bv_length, noH_length] at ht
    have S := S.sets (o := 67) (by simp [bv_length, vH_length]) (bv (vH (nH (nH (nW (nW (nT none))))))) (by rw [bv_length, bv_length, hvl, noH_length])
    have S := S.eq (L' := ((⟨⟨(vT none).toArray⟩, vN (nT none), vN (nW (nT none)), vH (nW (nW (nT none))), vH (nH (nW (nW (nT none)))), vH (nH (nH (nW (nW (nT none))))), noH, noH⟩ : Hd)).cells) (by simp [Hd.cells])
    go_wp2_with (with_reducible refine wpList_store_mid rfl _ _ _ rfl tb 67 (bv (vH (nH (nH (nW (nW (nT none))))))).toArray rfl rfl (by rw [List.size_toArray, bv_length, hvl]; exact ht) (by rw [List.size_toArray, bv_length, hvl]; exact hash_row) (all_oneCell_toArray (bv_one _)) ?_; rw [List.toList_toArray])
    clear hR hK hvl ht
    refine (refRHash _ g F _ S.rdr S.fsw).mono ?_
    rintro e w10 ⟨rfl, hR, hK⟩
    have S := (S.read hR hK).eq (L' := ([Value.string ⟨(vT none).toArray⟩] ++ [Value.int .i64 (vN (nT none))] ++ [Value.int .i64 (vN (nW (nT none)))] ++ (bv (vH (nW (nW (nT none))))) ++ (bv (vH (nH (nW (nW (nT none)))))) ++ (bv (vH (nH (nH (nW (nW (nT none)))))))) ++ ((bv noH) ++ ((bv (noH))))) (by simp [Hd.cells])
    have hvl := vH_length (nH (nH (nH (nW (nW (nT none))))))
    have ht := S.there (o := 99) (by simp [bv_length, vH_length])
    rw [bv_length, noH_length] at ht
    have S := S.sets (o := 99) (by simp [bv_length, vH_length]) (bv (vH (nH (nH (nH (nW (nW (nT none)))))))) (by rw [bv_length, bv_length, hvl, noH_length])
    have S := S.eq (L' := ((⟨⟨(vT none).toArray⟩, vN (nT none), vN (nW (nT none)), vH (nW (nW (nT none))), vH (nH (nW (nW (nT none)))), vH (nH (nH (nW (nW (nT none))))), vH (nH (nH (nH (nW (nW (nT none)))))), noH⟩ : Hd)).cells) (by simp [Hd.cells])
    go_wp2_with (with_reducible refine wpList_store_mid rfl _ _ _ rfl tb 99 (bv (vH (nH (nH (nH (nW (nW (nT none)))))))).toArray rfl rfl (by rw [List.size_toArray, bv_length, hvl]; exact ht) (by rw [List.size_toArray, bv_length, hvl]; exact hash_row) (all_oneCell_toArray (bv_one _)) ?_; rw [List.toList_toArray])
    clear hR hK hvl ht
    refine (refRHash _ g F _ S.rdr S.fsw).mono ?_
    rintro e w11 ⟨rfl, hR, hK⟩
    have S := (S.read hR hK).eq (L' := ([Value.string ⟨(vT none).toArray⟩] ++ [Value.int .i64 (vN (nT none))] ++ [Value.int .i64 (vN (nW (nT none)))] ++ (bv (vH (nW (nW (nT none))))) ++ (bv (vH (nH (nW (nW (nT none)))))) ++ (bv (vH (nH (nH (nW (nW (nT none))))))) ++ (bv (vH (nH (nH (nH (nW (nW (nT none))))))))) ++ ((bv noH) ++ (([] : List Value)))) (by simp [Hd.cells])
    have hvl := vH_length (nH (nH (nH (nH (nW (nW (nT none)))))))
    have ht := S.there (o := 131) (by simp [bv_length, vH_length])
    rw [bv_length, noH_length] at ht
    have S := S.sets (o := 131) (by simp [bv_length, vH_length]) (bv (vH (nH (nH (nH (nH (nW (nW (nT none))))))))) (by rw [bv_length, bv_length, hvl, noH_length])
    have S := S.eq (L' := ((⟨⟨(vT none).toArray⟩, vN (nT none), vN (nW (nT none)), vH (nW (nW (nT none))), vH (nH (nW (nW (nT none)))), vH (nH (nH (nW (nW (nT none))))), vH (nH (nH (nH (nW (nW (nT none)))))), vH (nH (nH (nH (nH (nW (nW (nT none)))))))⟩ : Hd)).cells) (by simp [Hd.cells])
    have hl9 : ((⟨⟨(vT none).toArray⟩, vN (nT none), vN (nW (nT none)), vH (nW (nW (nT none))), vH (nH (nW (nW (nT none)))), vH (nH (nH (nW (nW (nT none))))), vH (nH (nH (nH (nW (nW (nT none)))))), vH (nH (nH (nH (nH (nW (nW (nT none)))))))⟩ : Hd)).cells.length = 163 := by simp [Hd.cells, bv_length, vH_length]
    have hone : ∀ v ∈ ((⟨⟨(vT none).toArray⟩, vN (nT none), vN (nW (nT none)), vH (nW (nW (nT none))), vH (nH (nW (nW (nT none)))), vH (nH (nH (nW (nW (nT none))))), vH (nH (nH (nH (nW (nW (nT none)))))), vH (nH (nH (nH (nH (nW (nW (nT none)))))))⟩ : Hd)).cells, v.oneCell' = true := Hd.one _
    generalize hLL : ((⟨⟨(vT none).toArray⟩, vN (nT none), vN (nW (nT none)), vH (nW (nW (nT none))), vH (nH (nW (nW (nT none)))), vH (nH (nH (nW (nW (nT none))))), vH (nH (nH (nH (nW (nW (nT none)))))), vH (nH (nH (nH (nH (nW (nW (nT none)))))))⟩ : Hd)).cells = LL at *
    have hLi : (Try.prog.info? 36).map (·.size) = some LL.length := by rw [hl9]; exact hrow
    have hLs : LL.toArray.size = 163 := by rw [List.size_toArray]; exact hl9
    have rr := S.row.range0
    have ht0 := S.res.there0
    rw [hzl] at ht0
    obtain ⟨D1, D2, D3⟩ := S.done (hzl.trans hl9.symm)
    clear S hLL
    go_wp2_with (first | (with_reducible refine wpList_store_mid rfl _ _ _ rfl tb 131 (bv (vH (nH (nH (nH (nH (nW (nW (nT none))))))))).toArray rfl rfl (by rw [List.size_toArray, bv_length, hvl]; exact ht) (by rw [List.size_toArray, bv_length, hvl]; exact hash_row) (all_oneCell_toArray (bv_one _)) ?_; rw [List.toList_toArray]) | (with_reducible refine wpList_load_mid rfl 36 _ rfl tb 0 rfl LL _ rr Try.underlying36 rfl hLi ?_) | (with_reducible refine wpList_store_mid rfl 36 _ _ rfl w.heap.size 0 LL.toArray rfl rfl (by rw [hLs]; exact ht0) (by rw [hLs, hrow]) (one_mem hone) ?_))
    exact bodyPost_ret (results_cell_row rfl _ _ w.heap.size 36 _ (0, 0) _ rfl D3 Try.underlying36 rfl (by rw [hLi, List.size_toArray])) rfl ⟨rfl, D1, (Chg.refl (Eqg g) w).trans D2 (fun j hj => by rcases hj with h | h | h; exact .inl h; exact .inr (by omega); exact .inr (by omega))⟩
end Go.Proofs.Yteglpgakikigiaa
