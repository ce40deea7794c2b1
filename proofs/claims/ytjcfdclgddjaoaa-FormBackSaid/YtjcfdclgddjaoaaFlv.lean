/- Package forms: list[nuncio/api.Validator], written. -/
import Derived.Test.YtjcfdclgddjaoaaChecked
import Derived.WalkKit
import Derived.WalkLawsBesides
import Derived.Lib.Hide
import Derived.Deep.RegionHeld3
import Derived.Test.YtjcfdclgddjaoaaFlw
namespace Go.Proofs.Ytjcfdclgddjaoaa
open Go.RowKit
set_option linter.unusedVariables false
set_option linter.unusedSimpArgs false
set_option maxRecDepth 20000

set_option maxHeartbeats 1600000 in
theorem listValidator_w (g : Nat) (l : List UInt8) (w : World) (v : Value) (b o : Nat) (A : Option Addr) (n c most : Nat) (ok : Nat → Bool) (bs : Nat → List UInt8) (h : Wri w g v (some l)) (hc : w.cell? ⟨b, o, none⟩ = some (.slice A n c)) (hb : ¬ Wft g v b) (hbl : b < w.heap.size)
    (hn : n ≤ maxLen) (hmost : most ≤ 4096) (hl : l.length ≤ 100000000) (hbs : ∀ i, ok i = true → (bs i).length ≤ 20000)
    (H : ∀ i, i < n → ∃ eb eo, A = some ⟨eb, eo, none⟩ ∧ ∀ (l' : List UInt8) (w' : World) (v' : Value), Wst w g v l' w' v' → l'.length ≤ 300000000 → Calls Try.prog 104 #[.agg #[.pointer (some ⟨g, 0, none⟩), .pointer none], .pointer (some ⟨eb, eo + i * 2, none⟩)] w' (WO w' g v' (ok i) (l' ++ bs i))) :
    Calls Try.prog 103 #[.agg #[.pointer (some ⟨g, 0, none⟩), .pointer none], .pointer (some ⟨b, o, none⟩), .int .i64 (most : Int), .func (.func 104) #[] #[]] w (WO w g v (inR 0 most n && allB ok n) (l ++ (num n ++ jn bs n))) := by
  unfold maxLen at hn
  have S0 := (Wst.here h).non (((Chg.refl Non w).alloc (.cells #[.pointer (some ⟨g, 0, none⟩), .pointer none] 138)).alloc (.cells #[.int .i64 (n : Int)] 3))
  have c0 := (((Chg.refl Non w).alloc (.cells #[.pointer (some ⟨g, 0, none⟩), .pointer none] 138)).alloc (.cells #[.int .i64 (n : Int)] 3)).cell hc (fun f => f)
  have hw := h.nnew (Nat.le_refl w.heap.size)
  have hw1 := h.nnew (show w.heap.size ≤ w.heap.size + 1 by omega)
  have hx0 := ((Hb.new w 138 #[.pointer (some ⟨g, 0, none⟩), .pointer none]).alloc (.cells #[.int .i64 (n : Int)] 3)).cell 0
  have hx1 := ((Hb.new w 138 #[.pointer (some ⟨g, 0, none⟩), .pointer none]).alloc (.cells #[.int .i64 (n : Int)] 3)).cell 1
  have hxn : ((w.alloc (.cells #[.pointer (some ⟨g, 0, none⟩), .pointer none] 138)).alloc (.cells #[.int .i64 (n : Int)] 3)).cell? ⟨w.heap.size + 1, 0, none⟩ = some (.int .i64 (n : Int)) := by
    have := (Hb.new (w.alloc (.cells #[.pointer (some ⟨g, 0, none⟩), .pointer none] 138)) 3 #[.int .i64 (n : Int)]).cell 0
    rwa [show (w.alloc (.cells #[.pointer (some ⟨g, 0, none⟩), .pointer none] 138)).heap.size = w.heap.size + 1 by simp] at this
  have hBl : w.heap.size + 1 < ((w.alloc (.cells #[.pointer (some ⟨g, 0, none⟩), .pointer none] 138)).alloc (.cells #[.int .i64 (n : Int)] 3)).heap.size := by simp
  obtain ⟨B, hB⟩ : ∃ B, B = (w.alloc (.cells #[.pointer (some ⟨g, 0, none⟩), .pointer none] 138)).alloc (.cells #[.int .i64 (n : Int)] 3) := ⟨_, rfl⟩
  generalize hok : (inR 0 most n && allB ok n) = okt
  have HOK := Lib.hid hok
  have HH := Lib.hid H
  clear hok H
  go_enter Try.func103, Try.ntmps103
  go_wp2_with fail
  rw [← hB] at S0 c0 hx0 hx1 hxn hBl ⊢
  clear hB
  have S1 := Wst.here S0.wri
  have N := numberI_w g l B v (w.heap.size + 1) 0 n 0 most S1.wri hxn hw1 ⟨by omega, by omega⟩ (by omega)
  have NN := Lib.hid N
  clear N
  refine NN.out.mono ?_
  rintro e w2 h2
  clear NN
  rcases h2.cases with ⟨k2, he, C⟩ | ⟨k2, he, v2, T2⟩
  · subst he
    obtain rfl : okt = false := HOK.out.symm.trans (by rw [k2]; rfl)
    go_wp2
    exact ⟨rfl, rfl, S0.chg.trans C S0.wft⟩
  · subst he
    have hnm : n ≤ most := by have := (inR_iff.1 k2).2; omega
    have x0 := T2.cell hx0 hw
    have x1 := T2.cell hx1 hw
    have y0 := T2.cell c0 hb
    clear hxn h2
    go_wp2_with fail
    refine (writes_w _ g).mono ?_
    rintro e w3 ⟨rfl, hC3⟩
    have S3 := T2.non hC3
    have z0 := S3.cell hx0 hw
    have z1 := S3.cell hx1 hw
    have z2 := S3.cell c0 hb
    clear x0 x1 y0 T2 hC3
    go_wp2_with fail
    go_loopw [9, 28] (fun x i wr => ∃ (k : Nat) (v' : Value), k ≤ n ∧ i = .int .i64 (k : Int) ∧ allB ok k = true ∧ Wst B g v (l ++ num n ++ jn bs k) wr v') (fun _ i _ => n - (intOf i).toNat)
    case atStart => exact ⟨0, v2, by omega, rfl, rfl, by simpa [jn] using S3⟩
    case round =>
      obtain ⟨k, v', hk, rfl, hall, S⟩ := hrel
      have a0 := S.cell hx0 hw
      have a1 := S.cell hx1 hw
      have a2 := S.cell c0 hb
      have hjl := jn_len hbs k hall
      have hln : (l ++ num n ++ jn bs k).length ≤ 300000000 := by rw [List.length_append, List.length_append, num_length]; have : k * 20000 ≤ 4096 * 20000 := Nat.mul_le_mul_right _ (by omega); omega
      by_cases hlt : k < n
      · obtain ⟨eb, eo, rfl, HE⟩ := HH.out k hlt
        have hwn := S.nw hw (by omega)
        have hbn := S.nw hb (by have := S0.chg.size; omega)
        have D := S.non ((Chg.refl Non wr).drew)
        have HC := HE _ _ v' (S0.trans D) hln
        have HCC := Lib.hid HC
        have e0 := D.cell hx0 hw
        have e1 := D.cell hx1 hw
        have e2 := D.cell c0 hb
        have hki : (k : Int) < (n : Int) := by omega
        have hke : allB ok (k + 1) = ok k := by unfold allB; rw [hall, Bool.true_and]
        clear HE HC
        go_wp2_with fail
        go_region_held (fun w' => w'.cell? ⟨w.heap.size, 0, none⟩ = some (.pointer (some ⟨g, 0, none⟩)) ∧ w'.cell? ⟨w.heap.size, 1, none⟩ = some (.pointer none) ∧ w'.cell? ⟨b, o, none⟩ = some (.slice (some ⟨eb, eo, none⟩) n c)) (first | exact ⟨f0, f1, f2⟩ | exact ⟨e0, e1, e2⟩ | assumption) (first | (go_at_call 104; go_loud (refine HCC.out.mono ?_; rintro e w5 h5; have f0 := h5.chg.cell e0 hwn; have f1 := h5.chg.cell e1 hwn; have f2 := h5.chg.cell e2 hbn; rcases h5.cases with ⟨k5, he, C⟩ | ⟨k5, he, v5, T5⟩; (subst he; obtain rfl : okt = false := HOK.out.symm.trans (by rw [allB_no hlt k5, Bool.and_false]); exact ⟨rfl, rfl, S0.chg.trans (D.chg.trans C D.wft) S0.wft⟩); subst he)) | fail)
        have S5 := D.trans T5
        clear h5 HCC
        go_wp2_with fail
        go_roundw
        case rel => exact ⟨k + 1, v5, by omega, by go_num, by rw [hke, k5], by simpa [jn, List.append_assoc] using S5⟩
        case measure => simp [intOf]; omega
      · obtain rfl : k = n := by omega
        obtain rfl : okt = true := HOK.out.symm.trans (by rw [k2, hall]; rfl)
        go_wp2
        go_end0
        exact ⟨rfl, v', by simpa [List.append_assoc] using S0.trans S⟩
end Go.Proofs.Ytjcfdclgddjaoaa
