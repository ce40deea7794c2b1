import Derived.Test.YtgonbmcfeehfaaaChecked
import Derived.WalkKit
import Derived.Lib.Hide
import Derived.WalkLawsBesides
import Derived.Deep.RegionHeld3
import Derived.Recover
import Derived.Test.YtgonbmcfeehfaaaMFormReads5
import Derived.Test.YtgonbmcfeehfaaaMFormReads6
import Derived.Test.YtgonbmcfeehfaaaMFormReads8
/- Light blocks as arguments: their cells and their lists out of a reading. -/
namespace Go.Proofs.Ytgonbmcfeehfaaa
open Go.RowKit
set_option linter.unusedVariables false
set_option linter.unusedSimpArgs false
set_option maxRecDepth 20000

theorem header_cells : Try.prog.cellsOf 36 = 163 := by kernel_rfl
theorem header_of {w : World} {n : Nat} {cs : List Value} (h : Okc Try.prog w (n + 3) 36 cs) : ∃ x : Hd, cs = x.cells ∧ x.Ok := by
  unfold Okc at h
  simp only [Try.underlying36] at h
  obtain ⟨hl, hf⟩ := h
  rw [header_cells] at hl
  have h0 : Okc Try.prog w (n + 2) 9 ((cs.drop 0).take (Try.prog.cellsOf 9)) := hf 0 _ rfl
  have h1 : Okc Try.prog w (n + 2) 3 ((cs.drop 1).take (Try.prog.cellsOf 3)) := hf 1 _ rfl
  have h2 : Okc Try.prog w (n + 2) 3 ((cs.drop 2).take (Try.prog.cellsOf 3)) := hf 2 _ rfl
  have h3 : Okc Try.prog w (n + 2) 26 ((cs.drop 3).take (Try.prog.cellsOf 26)) := hf 3 _ rfl
  have h4 : Okc Try.prog w (n + 2) 26 ((cs.drop 35).take (Try.prog.cellsOf 26)) := hf 4 _ rfl
  have h5 : Okc Try.prog w (n + 2) 26 ((cs.drop 67).take (Try.prog.cellsOf 26)) := hf 5 _ rfl
  have h6 : Okc Try.prog w (n + 2) 26 ((cs.drop 99).take (Try.prog.cellsOf 26)) := hf 6 _ rfl
  have h7 : Okc Try.prog w (n + 2) 26 ((cs.drop 131).take (Try.prog.cellsOf 26)) := hf 7 _ rfl
  rw [str_cells] at h0
  rw [int_cells] at h1 h2
  rw [hash_cells] at h3 h4 h5 h6 h7
  obtain ⟨a0, e0, b0⟩ := okc_str h0
  obtain ⟨a1, e1, b1⟩ := okc_i64 Try.underlying3 h1
  obtain ⟨a2, e2, b2⟩ := okc_i64 Try.underlying3 h2
  obtain ⟨a3, e3, b3⟩ := okc_hash h3
  obtain ⟨a4, e4, b4⟩ := okc_hash h4
  obtain ⟨a5, e5, b5⟩ := okc_hash h5
  obtain ⟨a6, e6, b6⟩ := okc_hash h6
  obtain ⟨a7, e7, b7⟩ := okc_hash h7
  refine ⟨⟨a0, a1, a2, a3, a4, a5, a6, a7⟩, ?_, ⟨b0, b1, b2, b3, b4, b5, b6, b7⟩⟩
  have c0 := cut cs 0 1 1 rfl
  have c1 := cut cs 1 1 2 rfl
  have c2 := cut cs 2 1 3 rfl
  have c3 := cut cs 3 32 35 rfl
  have c4 := cut cs 35 32 67 rfl
  have c5 := cut cs 67 32 99 rfl
  have c6 := cut cs 99 32 131 rfl
  have c7 := cut cs 131 32 163 rfl
  rw [e7, List.drop_of_length_le (i := 163) (by omega), List.append_nil] at c7
  rw [e6, c7] at c6
  rw [e5, c6] at c5
  rw [e4, c5] at c4
  rw [e3, c4] at c3
  rw [e2, c3] at c2
  rw [e1, c2] at c1
  rw [e0, c1] at c0
  exact c0

/-- A slice of elements, out of a reading. -/
theorem slice_of {α : Type} {w : World} {n : Nat} {t e : TypeId} {cs : List Value} (ht : Try.prog.underlying t = some (.slice e)) {cells : α → List Value} {Ok : α → Prop} {sz : Nat} (hsz : Try.prog.cellsOf e = sz) (hpos : 0 < sz)
    (hel : ∀ es, Okc Try.prog w n e es → ∃ x : α, es = cells x ∧ Ok x) (h : Okc Try.prog w (n + 1) t cs) : ∃ A c l, cs = [.slice A l.length c] ∧ l.length ≤ maxLen ∧ LstM w A l cells sz ∧ ∀ x ∈ l, Ok x := by
  unfold Okc at h
  simp only [ht, hsz] at h
  rcases h with h | ⟨a, len, c, h, hlc, hcm, hi⟩
  · exact ⟨none, 0, [], h, by simp, fun i x hx => by simp at hx, by simp⟩
  · have hex : ∀ i, i < len → ∃ x : α, Ok x ∧ ∀ j, j < sz → w.cell? (a.add (i * sz + j)) = (cells x)[j]? ∧ (cells x).length = sz := by
      intro i hil
      obtain ⟨es, hl, hc, ho⟩ := hi i hil
      obtain ⟨x, rfl, ox⟩ := hel es ho
      exact ⟨x, ox, fun j hj => ⟨hc j hj, hl⟩⟩
    obtain ⟨l, hl, hP⟩ : ∃ l : List α, l.length = len ∧ ∀ i x, l[i]? = some x → Ok x ∧ ∀ j, j < sz → w.cell? (a.add (i * sz + j)) = (cells x)[j]? ∧ (cells x).length = sz := by
      clear h hlc
      have : ∀ m, m ≤ len → ∃ l : List α, l.length = m ∧ ∀ i x, l[i]? = some x → Ok x ∧ ∀ j, j < sz → w.cell? (a.add (i * sz + j)) = (cells x)[j]? ∧ (cells x).length = sz := by
        intro m
        induction m with
        | zero => intro _; exact ⟨[], rfl, by simp⟩
        | succ m ih =>
          intro hm
          obtain ⟨l, hl, hP⟩ := ih (by omega)
          obtain ⟨x, hx⟩ := hex m (by omega)
          refine ⟨l ++ [x], by simp [hl], fun i y hy => ?_⟩
          rcases Nat.lt_or_ge i m with hlt | hge
          · rw [List.getElem?_append_left (by omega)] at hy
            exact hP i y hy
          · rw [List.getElem?_append_right (by omega)] at hy
            have : i = m := by
              have := (List.getElem?_eq_some_iff.1 hy).1
              simp at this
              omega
            subst this
            simp [hl] at hy
            subst hy
            exact hx
      exact this len (Nat.le_refl _)
    subst hl
    refine ⟨some a, c, l, h, by omega, fun i x hx => ?_, fun x hx => ?_⟩
    · obtain ⟨_, hc⟩ := hP i x hx
      have h0l : 0 < l.length := by have := (List.getElem?_eq_some_iff.1 hx).1; omega
      obtain ⟨_, h0⟩ := hP 0 _ (List.getElem?_eq_getElem h0l)
      have h00 := h0 0 hpos
      rw [Nat.zero_mul, Nat.zero_add, List.getElem?_eq_getElem (by omega)] at h00
      have hadd : a.add 0 = a := by unfold Addr.add; simp
      rw [hadd] at h00
      have hsp : a.spot = none := by
        cases hs : a.spot with
        | none => rfl
        | some s =>
          have h1 := h00.1
          unfold World.cell? at h1
          simp [hs] at h1
          split at h1 <;> simp_all
      have hlt := World.block_lt_of_cell? w a h00.1
      obtain ⟨b, o, s⟩ := a
      simp only at hsp
      subst hsp
      refine ⟨b, o, rfl, hlt, fun j u hu => ?_⟩
      have hj : j < sz := by have := (List.getElem?_eq_some_iff.1 hu).1; have := (hc 0 hpos).2; omega
      have := (hc j hj).1
      rw [Addr.add_mid, ← Nat.add_assoc, hu] at this
      exact this
    · obtain ⟨i, hi⟩ := List.mem_iff_getElem?.1 hx
      exact (hP i x hi).1

end Go.Proofs.Ytgonbmcfeehfaaa

/- Package forms: list[nuncio/api.Part], written. -/
namespace Go.Proofs.Ytgonbmcfeehfaaa
open Go.RowKit
set_option linter.unusedVariables false
set_option linter.unusedSimpArgs false
set_option maxRecDepth 20000

set_option maxHeartbeats 1600000 in
theorem listPart_w (g : Nat) (l : List UInt8) (w : World) (v : Value) (b o : Nat) (A : Option Addr) (n c most : Nat) (ok : Nat → Bool) (bs : Nat → List UInt8) (h : Wri w g v (some l)) (hc : w.cell? ⟨b, o, none⟩ = some (.slice A n c)) (hb : ¬ Wft g v b) (hbl : b < w.heap.size)
    (hn : n ≤ maxLen) (hmost : most ≤ 4096) (hl : l.length ≤ 100000000) (hbs : ∀ i, ok i = true → (bs i).length ≤ 20000)
    (H : ∀ i, i < n → ∃ eb eo, A = some ⟨eb, eo, none⟩ ∧ ∀ (l' : List UInt8) (w' : World) (v' : Value), Wst w g v l' w' v' → l'.length ≤ 300000000 → Calls Try.prog 62 #[.agg #[.pointer (some ⟨g, 0, none⟩), .pointer none], .pointer (some ⟨eb, eo + i * 4, none⟩)] w' (WO w' g v' (ok i) (l' ++ bs i))) :
    Calls Try.prog 61 #[.agg #[.pointer (some ⟨g, 0, none⟩), .pointer none], .pointer (some ⟨b, o, none⟩), .int .i64 (most : Int), .func (.func 62) #[] #[]] w (WO w g v (inR 0 most n && allB ok n) (l ++ (num n ++ jn bs n))) := by
  unfold maxLen at hn
  have S0 := (Wst.here h).non (((Chg.refl Non w).alloc (.cells #[.pointer (some ⟨g, 0, none⟩), .pointer none] 86)).alloc (.cells #[.int .i64 (n : Int)] 3))
  have c0 := (((Chg.refl Non w).alloc (.cells #[.pointer (some ⟨g, 0, none⟩), .pointer none] 86)).alloc (.cells #[.int .i64 (n : Int)] 3)).cell hc (fun f => f)
  have hw := h.nnew (Nat.le_refl w.heap.size)
  have hw1 := h.nnew (show w.heap.size ≤ w.heap.size + 1 by omega)
  have hx0 := ((Hb.new w 86 #[.pointer (some ⟨g, 0, none⟩), .pointer none]).alloc (.cells #[.int .i64 (n : Int)] 3)).cell 0
  have hx1 := ((Hb.new w 86 #[.pointer (some ⟨g, 0, none⟩), .pointer none]).alloc (.cells #[.int .i64 (n : Int)] 3)).cell 1
  have hxn : ((w.alloc (.cells #[.pointer (some ⟨g, 0, none⟩), .pointer none] 86)).alloc (.cells #[.int .i64 (n : Int)] 3)).cell? ⟨w.heap.size + 1, 0, none⟩ = some (.int .i64 (n : Int)) := by
    have := (Hb.new (w.alloc (.cells #[.pointer (some ⟨g, 0, none⟩), .pointer none] 86)) 3 #[.int .i64 (n : Int)]).cell 0
    rwa [show (w.alloc (.cells #[.pointer (some ⟨g, 0, none⟩), .pointer none] 86)).heap.size = w.heap.size + 1 by simp] at this
  have hBl : w.heap.size + 1 < ((w.alloc (.cells #[.pointer (some ⟨g, 0, none⟩), .pointer none] 86)).alloc (.cells #[.int .i64 (n : Int)] 3)).heap.size := by simp
  obtain ⟨B, hB⟩ : ∃ B, B = (w.alloc (.cells #[.pointer (some ⟨g, 0, none⟩), .pointer none] 86)).alloc (.cells #[.int .i64 (n : Int)] 3) := ⟨_, rfl⟩
  generalize hok : (inR 0 most n && allB ok n) = okt
  have HOK := Lib.hid hok
  have HH := Lib.hid H
  clear hok H
  go_enter Try.func61, Try.ntmps61
  go_wp2_with fail
  rw [← hB] at S0 c0 hx0 hx1 hxn hBl ⊢
  clear hB
  have S1 := Wst.here S0.wri
  have N := numberI_w g l B v (w.heap.size + 1) 0 n 0 most S1.wri hxn hw1 ⟨by omega, by omega⟩ (by omega)
  have NN := Lib.hid N
  clear N
  refine NN.out.mono ?_
  rintro e w2 h2
  clear NN
  rcases h2.cases with ⟨k2, he, C⟩ | ⟨k2, he, v2, T2⟩
  · subst he
    obtain rfl : okt = false := HOK.out.symm.trans (by rw [k2]; rfl)
    go_wp2
    exact ⟨rfl, rfl, S0.chg.trans C S0.wft⟩
  · subst he
    have hnm : n ≤ most := by have := (inR_iff.1 k2).2; omega
    have x0 := T2.cell hx0 hw
    have x1 := T2.cell hx1 hw
    have y0 := T2.cell c0 hb
    clear hxn h2
    go_wp2_with fail
    refine (writes_w _ g).mono ?_
    rintro e w3 ⟨rfl, hC3⟩
    have S3 := T2.non hC3
    have z0 := S3.cell hx0 hw
    have z1 := S3.cell hx1 hw
    have z2 := S3.cell c0 hb
    clear x0 x1 y0 T2 hC3
    go_wp2_with fail
    go_loopw [9, 28] (fun x i wr => ∃ (k : Nat) (v' : Value), k ≤ n ∧ i = .int .i64 (k : Int) ∧ allB ok k = true ∧ Wst B g v (l ++ num n ++ jn bs k) wr v') (fun _ i _ => n - (intOf i).toNat)
    case atStart => exact ⟨0, v2, by omega, rfl, rfl, by simpa [jn] using S3⟩
    case round =>
      obtain ⟨k, v', hk, rfl, hall, S⟩ := hrel
      have a0 := S.cell hx0 hw
      have a1 := S.cell hx1 hw
      have a2 := S.cell c0 hb
      have hjl := jn_len hbs k hall
      have hln : (l ++ num n ++ jn bs k).length ≤ 300000000 := by rw [List.length_append, List.length_append, num_length]; have : k * 20000 ≤ 4096 * 20000 := Nat.mul_le_mul_right _ (by omega); omega
      by_cases hlt : k < n
      · obtain ⟨eb, eo, rfl, HE⟩ := HH.out k hlt
        have hwn := S.nw hw (by omega)
        have hbn := S.nw hb (by have := S0.chg.size; omega)
        have D := S.non ((Chg.refl Non wr).drew)
        have HC := HE _ _ v' (S0.trans D) hln
        have HCC := Lib.hid HC
        have e0 := D.cell hx0 hw
        have e1 := D.cell hx1 hw
        have e2 := D.cell c0 hb
        have hki : (k : Int) < (n : Int) := by omega
        have hke : allB ok (k + 1) = ok k := by unfold allB; rw [hall, Bool.true_and]
        clear HE HC
        go_wp2_with fail
        go_region_held (fun w' => w'.cell? ⟨w.heap.size, 0, none⟩ = some (.pointer (some ⟨g, 0, none⟩)) ∧ w'.cell? ⟨w.heap.size, 1, none⟩ = some (.pointer none) ∧ w'.cell? ⟨b, o, none⟩ = some (.slice (some ⟨eb, eo, none⟩) n c)) (first | exact ⟨f0, f1, f2⟩ | exact ⟨e0, e1, e2⟩ | assumption) (first | (go_at_call 62; go_loud (refine HCC.out.mono ?_; rintro e w5 h5; have f0 := h5.chg.cell e0 hwn; have f1 := h5.chg.cell e1 hwn; have f2 := h5.chg.cell e2 hbn; rcases h5.cases with ⟨k5, he, C⟩ | ⟨k5, he, v5, T5⟩; (subst he; obtain rfl : okt = false := HOK.out.symm.trans (by rw [allB_no hlt k5, Bool.and_false]); exact ⟨rfl, rfl, S0.chg.trans (D.chg.trans C D.wft) S0.wft⟩); subst he)) | fail)
        have S5 := D.trans T5
        clear h5 HCC
        go_wp2_with fail
        go_roundw
        case rel => exact ⟨k + 1, v5, by omega, by go_num, by rw [hke, k5], by simpa [jn, List.append_assoc] using S5⟩
        case measure => simp [intOf]; omega
      · obtain rfl : k = n := by omega
        obtain rfl : okt = true := HOK.out.symm.trans (by rw [k2, hall]; rfl)
        go_wp2
        go_end0
        exact ⟨rfl, v', by simpa [List.append_assoc] using S0.trans S⟩
end Go.Proofs.Ytgonbmcfeehfaaa

/- Package forms: list[nuncio/api.Hash], written. -/
namespace Go.Proofs.Ytgonbmcfeehfaaa
open Go.RowKit
set_option linter.unusedVariables false
set_option linter.unusedSimpArgs false
set_option maxRecDepth 20000

set_option maxHeartbeats 1600000 in
theorem listHash_w (g : Nat) (l : List UInt8) (w : World) (v : Value) (b o : Nat) (A : Option Addr) (n c most : Nat) (ok : Nat → Bool) (bs : Nat → List UInt8) (h : Wri w g v (some l)) (hc : w.cell? ⟨b, o, none⟩ = some (.slice A n c)) (hb : ¬ Wft g v b) (hbl : b < w.heap.size)
    (hn : n ≤ maxLen) (hmost : most ≤ 4096) (hl : l.length ≤ 400000000) (hbs : ∀ i, ok i = true → (bs i).length ≤ 20000)
    (H : ∀ i, i < n → ∃ eb eo, A = some ⟨eb, eo, none⟩ ∧ ∀ (l' : List UInt8) (w' : World) (v' : Value), Wst w g v l' w' v' → l'.length ≤ 500000000 → Calls Try.prog 44 #[.agg #[.pointer (some ⟨g, 0, none⟩), .pointer none], .pointer (some ⟨eb, eo + i * 32, none⟩)] w' (WO w' g v' (ok i) (l' ++ bs i))) :
    Calls Try.prog 75 #[.agg #[.pointer (some ⟨g, 0, none⟩), .pointer none], .pointer (some ⟨b, o, none⟩), .int .i64 (most : Int), .func (.func 44) #[] #[]] w (WO w g v (inR 0 most n && allB ok n) (l ++ (num n ++ jn bs n))) := by
  unfold maxLen at hn
  have S0 := (Wst.here h).non (((Chg.refl Non w).alloc (.cells #[.pointer (some ⟨g, 0, none⟩), .pointer none] 86)).alloc (.cells #[.int .i64 (n : Int)] 3))
  have c0 := (((Chg.refl Non w).alloc (.cells #[.pointer (some ⟨g, 0, none⟩), .pointer none] 86)).alloc (.cells #[.int .i64 (n : Int)] 3)).cell hc (fun f => f)
  have hw := h.nnew (Nat.le_refl w.heap.size)
  have hw1 := h.nnew (show w.heap.size ≤ w.heap.size + 1 by omega)
  have hx0 := ((Hb.new w 86 #[.pointer (some ⟨g, 0, none⟩), .pointer none]).alloc (.cells #[.int .i64 (n : Int)] 3)).cell 0
  have hx1 := ((Hb.new w 86 #[.pointer (some ⟨g, 0, none⟩), .pointer none]).alloc (.cells #[.int .i64 (n : Int)] 3)).cell 1
  have hxn : ((w.alloc (.cells #[.pointer (some ⟨g, 0, none⟩), .pointer none] 86)).alloc (.cells #[.int .i64 (n : Int)] 3)).cell? ⟨w.heap.size + 1, 0, none⟩ = some (.int .i64 (n : Int)) := by
    have := (Hb.new (w.alloc (.cells #[.pointer (some ⟨g, 0, none⟩), .pointer none] 86)) 3 #[.int .i64 (n : Int)]).cell 0
    rwa [show (w.alloc (.cells #[.pointer (some ⟨g, 0, none⟩), .pointer none] 86)).heap.size = w.heap.size + 1 by simp] at this
  have hBl : w.heap.size + 1 < ((w.alloc (.cells #[.pointer (some ⟨g, 0, none⟩), .pointer none] 86)).alloc (.cells #[.int .i64 (n : Int)] 3)).heap.size := by simp
  obtain ⟨B, hB⟩ : ∃ B, B = (w.alloc (.cells #[.pointer (some ⟨g, 0, none⟩), .pointer none] 86)).alloc (.cells #[.int .i64 (n : Int)] 3) := ⟨_, rfl⟩
  generalize hok : (inR 0 most n && allB ok n) = okt
  have HOK := Lib.hid hok
  have HH := Lib.hid H
  clear hok H
  go_enter Try.func75, Try.ntmps75
  go_wp2_with fail
  rw [← hB] at S0 c0 hx0 hx1 hxn hBl ⊢
  clear hB
  have S1 := Wst.here S0.wri
  have N := numberI_w g l B v (w.heap.size + 1) 0 n 0 most S1.wri hxn hw1 ⟨by omega, by omega⟩ (by omega)
  have NN := Lib.hid N
  clear N
  refine NN.out.mono ?_
  rintro e w2 h2
  clear NN
  rcases h2.cases with ⟨k2, he, C⟩ | ⟨k2, he, v2, T2⟩
  · subst he
    obtain rfl : okt = false := HOK.out.symm.trans (by rw [k2]; rfl)
    go_wp2
    exact ⟨rfl, rfl, S0.chg.trans C S0.wft⟩
  · subst he
    have hnm : n ≤ most := by have := (inR_iff.1 k2).2; omega
    have x0 := T2.cell hx0 hw
    have x1 := T2.cell hx1 hw
    have y0 := T2.cell c0 hb
    clear hxn h2
    go_wp2_with fail
    refine (writes_w _ g).mono ?_
    rintro e w3 ⟨rfl, hC3⟩
    have S3 := T2.non hC3
    have z0 := S3.cell hx0 hw
    have z1 := S3.cell hx1 hw
    have z2 := S3.cell c0 hb
    clear x0 x1 y0 T2 hC3
    go_wp2_with fail
    go_loopw [9, 28] (fun x i wr => ∃ (k : Nat) (v' : Value), k ≤ n ∧ i = .int .i64 (k : Int) ∧ allB ok k = true ∧ Wst B g v (l ++ num n ++ jn bs k) wr v') (fun _ i _ => n - (intOf i).toNat)
    case atStart => exact ⟨0, v2, by omega, rfl, rfl, by simpa [jn] using S3⟩
    case round =>
      obtain ⟨k, v', hk, rfl, hall, S⟩ := hrel
      have a0 := S.cell hx0 hw
      have a1 := S.cell hx1 hw
      have a2 := S.cell c0 hb
      have hjl := jn_len hbs k hall
      have hln : (l ++ num n ++ jn bs k).length ≤ 500000000 := by rw [List.length_append, List.length_append, num_length]; have : k * 20000 ≤ 4096 * 20000 := Nat.mul_le_mul_right _ (by omega); omega
      by_cases hlt : k < n
      · obtain ⟨eb, eo, rfl, HE⟩ := HH.out k hlt
        have hwn := S.nw hw (by omega)
        have hbn := S.nw hb (by have := S0.chg.size; omega)
        have D := S.non ((Chg.refl Non wr).drew)
        have HC := HE _ _ v' (S0.trans D) hln
        have HCC := Lib.hid HC
        have e0 := D.cell hx0 hw
        have e1 := D.cell hx1 hw
        have e2 := D.cell c0 hb
        have hki : (k : Int) < (n : Int) := by omega
        have hke : allB ok (k + 1) = ok k := by unfold allB; rw [hall, Bool.true_and]
        clear HE HC
        go_wp2_with fail
        go_region_held (fun w' => w'.cell? ⟨w.heap.size, 0, none⟩ = some (.pointer (some ⟨g, 0, none⟩)) ∧ w'.cell? ⟨w.heap.size, 1, none⟩ = some (.pointer none) ∧ w'.cell? ⟨b, o, none⟩ = some (.slice (some ⟨eb, eo, none⟩) n c)) (first | exact ⟨f0, f1, f2⟩ | exact ⟨e0, e1, e2⟩ | assumption) (first | (go_at_call 44; go_loud (refine HCC.out.mono ?_; rintro e w5 h5; have f0 := h5.chg.cell e0 hwn; have f1 := h5.chg.cell e1 hwn; have f2 := h5.chg.cell e2 hbn; rcases h5.cases with ⟨k5, he, C⟩ | ⟨k5, he, v5, T5⟩; (subst he; obtain rfl : okt = false := HOK.out.symm.trans (by rw [allB_no hlt k5, Bool.and_false]); exact ⟨rfl, rfl, S0.chg.trans (D.chg.trans C D.wft) S0.wft⟩); subst he)) | fail)
        have S5 := D.trans T5
        clear h5 HCC
        go_wp2_with fail
        go_roundw
        case rel => exact ⟨k + 1, v5, by omega, by go_num, by rw [hke, k5], by simpa [jn, List.append_assoc] using S5⟩
        case measure => simp [intOf]; omega
      · obtain rfl : k = n := by omega
        obtain rfl : okt = true := HOK.out.symm.trans (by rw [k2, hall]; rfl)
        go_wp2
        go_end0
        exact ⟨rfl, v', by simpa [List.append_assoc] using S0.trans S⟩
end Go.Proofs.Ytgonbmcfeehfaaa

/- Parts and proofs of package forms, written. -/
namespace Go.Proofs.Ytgonbmcfeehfaaa
open Go.RowKit
set_option linter.unusedVariables false
set_option linter.unusedSimpArgs false
set_option maxRecDepth 20000

theorem listHashI_w (g : Nat) (l0 : List UInt8) (w : World) (v : Value) (b o : Nat) (A : Option Addr) (c : Nat) (l : List (List UInt8)) (h : Wri w g v (some l0)) (hc : w.cell? ⟨b, o, none⟩ = some (.slice A l.length c)) (hb : ¬ Wft g v b) (hbl : b < w.heap.size) (hlm : l.length ≤ maxLen) (hl : l0.length ≤ 400000000) (HL : LstW w g v A l bv 32) (ol : ∀ x ∈ l, x.length = 32) :
    Calls Try.prog 75 #[.agg #[.pointer (some ⟨g, 0, none⟩), .pointer none], .pointer (some ⟨b, o, none⟩), .int .i64 16, .func (.func 44) #[] #[]] w (WO w g v (inR 0 16 l.length) (l0 ++ encL id l)) := by
  have hall : (inR 0 ((16 : Nat) : Int) l.length && allB (okAt (fun _ => true) l) l.length) = inR 0 16 l.length := by
    rw [allB_all, show l.all (fun _ => true) = true from List.all_eq_true.2 (fun x hx => rfl), Bool.and_true]; rfl
  have hbs : ∀ i, okAt (fun _ => true) l i = true → (bsAt id l i).length ≤ 20000 := by
    intro i _
    unfold bsAt
    cases hx : l[i]? with
    | none => simp
    | some x =>
      have := ol x (List.mem_of_getElem? hx)
      simp only [Option.map_some, Option.getD_some, id]
      omega
  have HN := listHash_w g l0 w v b o A l.length c 16 (okAt (fun _ => true) l) (bsAt id l) h hc hb hbl hlm (by omega) (by omega) hbs (fun i hi => by
      obtain ⟨eb, eo, e, h1, h2, h3⟩ := HL i _ (List.getElem?_eq_getElem hi)
      refine ⟨eb, eo, e, fun l' w' v' S' hl' => ?_⟩
      have hx := List.getElem?_eq_getElem hi
      rw [okAt_get hx, bsAt_get hx]
      exact hash_w g l' w' v' eb (eo + i * 32) _ (ol _ (List.getElem_mem hi)) S'.wri (S'.range h3 h1) (S'.nw h1 h2) (by omega))
  rw [jn_all, hall] at HN
  exact HN
set_option maxHeartbeats 1600000 in
theorem part_w (g : Nat) (l : List UInt8) (w : World) (v : Value) (b o : Nat) (m : Pm) (h : Wri w g v (some l)) (R : w.rangeAt b o m.cells) (hlm : m.part.path.length ≤ maxLen) (HL0 : LstW w g v m.A m.part.path bv 32) (ox : m.part.Ok) (hl : l.length ≤ 300000000) (hb : ¬ Wft g v b) (hbl : b < w.heap.size) :
    Calls Try.prog 62 #[.agg #[.pointer (some ⟨g, 0, none⟩), .pointer none], .pointer (some ⟨b, o, none⟩)] w (WO w g v (m.part.right) (l ++ m.part.enc)) := by
  have hC0 := (Chg.refl Non w).alloc (.cells #[.pointer (some ⟨g, 0, none⟩), .pointer none] 86)
  have S0 := (Wst.here h).non hC0
  have hw := h.nnew (Nat.le_refl w.heap.size)
  have hx := Hb.new w 86 #[.pointer (some ⟨g, 0, none⟩), .pointer none]
  have hx0 : (w.alloc (.cells #[.pointer (some ⟨g, 0, none⟩), .pointer none] 86)).cell? ⟨w.heap.size, 0, none⟩ = some (.pointer (some ⟨g, 0, none⟩)) := hx.cell 0
  have hx1 : (w.alloc (.cells #[.pointer (some ⟨g, 0, none⟩), .pointer none] 86)).cell? ⟨w.heap.size, 1, none⟩ = some (.pointer none) := hx.cell 1
  have hBl : b < (w.alloc (.cells #[.pointer (some ⟨g, 0, none⟩), .pointer none] 86)).heap.size := by simp; omega
  have hBw : w.heap.size < (w.alloc (.cells #[.pointer (some ⟨g, 0, none⟩), .pointer none] 86)).heap.size := by simp
  have S1 := Wst.here (S0.wri)
  obtain ⟨f0, r1⟩ := rangeAt_cons (hC0.range' R (fun f => f))
  obtain ⟨f1, r2⟩ := rangeAt_cons r1
  obtain ⟨f2, r3⟩ := rangeAt_cons r2
  obtain ⟨f3, _⟩ := rangeAt_cons r3
  have HL := HL0.chg hC0
  have op := ox.path
  clear R r1 r2 r3 HL0
  generalize hok : (m.part.right) = ok
  have HOK := Lib.hid hok
  clear hok hx hC0
  go_enter Try.func62, Try.ntmps62
  go_wp2_with fail
  generalize w.alloc (.cells #[.pointer (some ⟨g, 0, none⟩), .pointer none] 86) = B at *
  have D2 := S1.non ((Chg.refl Non B).drew)
  have x0 := D2.cell hx0 hw
  have x1 := D2.cell hx1 hw
  have hwn := D2.nw hw hBw
  go_region_held (fun w' => w'.cell? ⟨w.heap.size, 0, none⟩ = some (.pointer (some ⟨g, 0, none⟩)) ∧ w'.cell? ⟨w.heap.size, 1, none⟩ = some (.pointer none)) (first | exact ⟨y0, y1⟩ | exact ⟨x0, x1⟩ | assumption) (first | (go_at_call 56; go_loud (refine (numberI_w g _ _ v b o m.part.index 0 4096 D2.wri (D2.cell f0 hb) (D2.nw hb hBl) ox.index (by omega)).mono ?_; rintro e w2 h2; have y0 := h2.chg.cell x0 hwn; have y1 := h2.chg.cell x1 hwn; rcases h2.cases with ⟨k2, he, C⟩ | ⟨k2, he, v2, T2⟩; (subst he; obtain rfl : ok = false := HOK.out.symm.trans (by simp [Pa.right, k2]); exact ⟨rfl, rfl, S0.chg.trans (D2.chg.trans C D2.wft) S0.wft⟩); subst he)) | fail)
  have S2 := D2.trans T2
  clear D2 T2 x0 x1 hwn y0 y1
  clear h2
  go_wp2_with fail
  have D3 := S2.non ((Chg.refl Non w2).drew)
  have x0 := D3.cell hx0 hw
  have x1 := D3.cell hx1 hw
  have hwn := D3.nw hw hBw
  go_region_held (fun w' => w'.cell? ⟨w.heap.size, 0, none⟩ = some (.pointer (some ⟨g, 0, none⟩)) ∧ w'.cell? ⟨w.heap.size, 1, none⟩ = some (.pointer none)) (first | exact ⟨y0, y1⟩ | exact ⟨x0, x1⟩ | assumption) (first | (go_at_call 58; go_loud (refine (textI_w g _ _ v2 b (o + 1) m.part.key 4096 D3.wri (D3.cell f1 hb) (D3.nw hb hBl) ox.key (by omega) (by simp [num_length]; omega)).mono ?_; rintro e w3 h3; have y0 := h3.chg.cell x0 hwn; have y1 := h3.chg.cell x1 hwn; rcases h3.cases with ⟨k3, he, C⟩ | ⟨k3, he, v3, T3⟩; (subst he; obtain rfl : ok = false := HOK.out.symm.trans (by simp [Pa.right, k2, k3]); exact ⟨rfl, rfl, S0.chg.trans (D3.chg.trans C D3.wft) S0.wft⟩); subst he)) | fail)
  have S3 := D3.trans T3
  clear D3 T3 x0 x1 hwn y0 y1
  clear h3
  go_wp2_with fail
  have D4 := S3.non ((Chg.refl Non w3).drew)
  have x0 := D4.cell hx0 hw
  have x1 := D4.cell hx1 hw
  have hwn := D4.nw hw hBw
  go_region_held (fun w' => w'.cell? ⟨w.heap.size, 0, none⟩ = some (.pointer (some ⟨g, 0, none⟩)) ∧ w'.cell? ⟨w.heap.size, 1, none⟩ = some (.pointer none)) (first | exact ⟨y0, y1⟩ | exact ⟨x0, x1⟩ | assumption) (first | (go_at_call 58; go_loud (refine (textI_w g _ _ v3 b (o + 1 + 1) m.part.value 4096 D4.wri (D4.cell f2 hb) (D4.nw hb hBl) ox.value (by omega) (by simp [num_length, tx_length]; have e1 : m.part.key.data.size = m.part.key.size := rfl; have := of_decide_eq_true k3; omega)).mono ?_; rintro e w4 h4; have y0 := h4.chg.cell x0 hwn; have y1 := h4.chg.cell x1 hwn; rcases h4.cases with ⟨k4, he, C⟩ | ⟨k4, he, v4, T4⟩; (subst he; obtain rfl : ok = false := HOK.out.symm.trans (by simp [Pa.right, k2, k3, k4]); exact ⟨rfl, rfl, S0.chg.trans (D4.chg.trans C D4.wft) S0.wft⟩); subst he)) | fail)
  have S4 := D4.trans T4
  clear D4 T4 x0 x1 hwn y0 y1
  clear h4
  go_wp2_with fail
  have D5 := S4.non ((Chg.refl Non w4).drew)
  have x0 := D5.cell hx0 hw
  have x1 := D5.cell hx1 hw
  have hwn := D5.nw hw hBw
  go_region_held (fun w' => w'.cell? ⟨w.heap.size, 0, none⟩ = some (.pointer (some ⟨g, 0, none⟩)) ∧ w'.cell? ⟨w.heap.size, 1, none⟩ = some (.pointer none)) (first | exact ⟨y0, y1⟩ | exact ⟨x0, x1⟩ | assumption) (first | (go_at_call 75; go_loud (refine (listHashI_w g _ _ v4 b (o + 1 + 1 + 1) m.A m.c m.part.path D5.wri (D5.cell f3 hb) (D5.nw hb hBl) (by have := D5.chg.size; omega) hlm (by simp [num_length, tx_length]; have e1 : m.part.key.data.size = m.part.key.size := rfl; have e2 : m.part.value.data.size = m.part.value.size := rfl; have := of_decide_eq_true k3; have := of_decide_eq_true k4; omega) (HL.later D5) op).mono ?_; rintro e w5 h5; have y0 := h5.chg.cell x0 hwn; have y1 := h5.chg.cell x1 hwn; rcases h5.cases with ⟨k5, he, C⟩ | ⟨k5, he, v5, T5⟩; (subst he; obtain rfl : ok = false := HOK.out.symm.trans (by simp [Pa.right, k2, k3, k4, k5]); exact ⟨rfl, rfl, S0.chg.trans (D5.chg.trans C D5.wft) S0.wft⟩); subst he)) | fail)
  have S5 := D5.trans T5
  clear D5 T5 x0 x1 hwn y0 y1
  clear h5
  obtain rfl : ok = true := HOK.out.symm.trans (by simp [Pa.right, k2, k3, k4, k5])
  go_wp2
  go_end0
  refine ⟨rfl, v5, ?_⟩
  have S := S0.trans S5
  simpa [Pa.enc, encL, List.append_assoc] using S


/-- The parts lie in memory, their paths too, none of it the writer's. -/
structure LstP (w : World) (g : Nat) (v : Value) (A : Option Addr) (ms : List Pm) : Prop where
  rows : LstW w g v A ms Pm.cells 4
  paths : ∀ m ∈ ms, LstW w g v m.A m.part.path bv 32
theorem LstP.chg {w w' : World} {g : Nat} {v : Value} {A : Option Addr} {ms : List Pm} (h : LstP w g v A ms) (k : Chg Non w w') : LstP w' g v A ms := ⟨h.rows.chg k, fun m hm => (h.paths m hm).chg k⟩
theorem LstP.later {B w : World} {g : Nat} {v v' : Value} {l0 : List UInt8} {A : Option Addr} {ms : List Pm} (h : LstP B g v A ms) (S : Wst B g v l0 w v') : LstP w g v' A ms := ⟨h.rows.later S, fun m hm => (h.paths m hm).later S⟩

theorem listPartI_w (g : Nat) (l0 : List UInt8) (w : World) (v : Value) (b o : Nat) (A : Option Addr) (c : Nat) (ms : List Pm) (h : Wri w g v (some l0)) (hc : w.cell? ⟨b, o, none⟩ = some (.slice A ms.length c)) (hb : ¬ Wft g v b) (hbl : b < w.heap.size) (hlm : ms.length ≤ maxLen) (hl : l0.length ≤ 100000) (HL : LstP w g v A ms) (om : ∀ m ∈ ms, m.part.Ok ∧ m.part.path.length ≤ maxLen) :
    Calls Try.prog 61 #[.agg #[.pointer (some ⟨g, 0, none⟩), .pointer none], .pointer (some ⟨b, o, none⟩), .int .i64 2, .func (.func 62) #[] #[]] w (WO w g v (inR 0 2 ms.length && ms.all fun m => m.part.right) (l0 ++ encL (fun m => m.part.enc) ms)) := by
  have hall : (inR 0 ((2 : Nat) : Int) ms.length && allB (okAt (fun m : Pm => m.part.right) ms) ms.length) = (inR 0 2 ms.length && ms.all fun m => m.part.right) := by
    rw [allB_all]; rfl
  have hbs : ∀ i, okAt (fun m : Pm => m.part.right) ms i = true → (bsAt (fun m : Pm => m.part.enc) ms i).length ≤ 20000 := by
    intro i hi
    unfold bsAt
    cases hx : ms[i]? with
    | none => simp
    | some m =>
      rw [okAt_get hx] at hi
      exact Pa.enc_len hi (om m (List.mem_of_getElem? hx)).1
  have HN := listPart_w g l0 w v b o A ms.length c 2 (okAt (fun m : Pm => m.part.right) ms) (bsAt (fun m : Pm => m.part.enc) ms) h hc hb hbl hlm (by omega) (by omega) hbs (fun i hi => by
      obtain ⟨eb, eo, e, h1, h2, h3⟩ := HL.rows i _ (List.getElem?_eq_getElem hi)
      refine ⟨eb, eo, e, fun l' w' v' S' hl' => ?_⟩
      have hx := List.getElem?_eq_getElem hi
      rw [okAt_get hx, bsAt_get hx]
      exact part_w g l' w' v' eb (eo + i * 4) _ S'.wri (S'.range h3 h1) (om _ (List.getElem_mem hi)).2 ((HL.paths _ (List.getElem_mem hi)).later S') (om _ (List.getElem_mem hi)).1 (by omega) (S'.nw h1 h2) (by have := S'.chg.size; omega))
  rw [jn_all, hall] at HN
  exact HN
theorem encL_map (ms : List Pm) : encL Pa.enc (ms.map Pm.part) = encL (fun m => m.part.enc) ms := by
  unfold encL
  rw [List.length_map, List.flatMap_map]
set_option maxHeartbeats 1600000 in
theorem proof_w (g : Nat) (l : List UInt8) (w : World) (v : Value) (b o : Nat) (A : Option Addr) (c : Nat) (sz : Int) (ms : List Pm) (h : Wri w g v (some l)) (R : w.rangeAt b o [.int .i64 sz, .slice A ms.length c]) (hsz : I64 sz) (hlm : ms.length ≤ maxLen) (HL0 : LstP w g v A ms) (om : ∀ m ∈ ms, m.part.Ok ∧ m.part.path.length ≤ maxLen) (hl : l.length ≤ 10000) (hb : ¬ Wft g v b) (hbl : b < w.heap.size) :
    Calls Try.prog 30 #[.agg #[.pointer (some ⟨g, 0, none⟩), .pointer none], .pointer (some ⟨b, o, none⟩)] w (WO w g v (Pf.right ⟨sz, ms.map Pm.part⟩) (l ++ Pf.enc ⟨sz, ms.map Pm.part⟩)) := by
  have hC0 := (Chg.refl Non w).alloc (.cells #[.pointer (some ⟨g, 0, none⟩), .pointer none] 86)
  have S0 := (Wst.here h).non hC0
  have hw := h.nnew (Nat.le_refl w.heap.size)
  have hx := Hb.new w 86 #[.pointer (some ⟨g, 0, none⟩), .pointer none]
  have hx0 : (w.alloc (.cells #[.pointer (some ⟨g, 0, none⟩), .pointer none] 86)).cell? ⟨w.heap.size, 0, none⟩ = some (.pointer (some ⟨g, 0, none⟩)) := hx.cell 0
  have hx1 : (w.alloc (.cells #[.pointer (some ⟨g, 0, none⟩), .pointer none] 86)).cell? ⟨w.heap.size, 1, none⟩ = some (.pointer none) := hx.cell 1
  have hBl : b < (w.alloc (.cells #[.pointer (some ⟨g, 0, none⟩), .pointer none] 86)).heap.size := by simp; omega
  have hBw : w.heap.size < (w.alloc (.cells #[.pointer (some ⟨g, 0, none⟩), .pointer none] 86)).heap.size := by simp
  have S1 := Wst.here (S0.wri)
  obtain ⟨f0, r1⟩ := rangeAt_cons (hC0.range' R (fun f => f))
  obtain ⟨f1, _⟩ := rangeAt_cons r1
  have HL := HL0.chg hC0
  clear R r1 HL0
  generalize hok : (Pf.right ⟨sz, ms.map Pm.part⟩) = ok
  have HOK := Lib.hid hok
  clear hok hx hC0
  go_enter Try.func30, Try.ntmps30
  go_wp2_with fail
  generalize w.alloc (.cells #[.pointer (some ⟨g, 0, none⟩), .pointer none] 86) = B at *
  have x0 := S1.cell hx0 hw
  have x1 := S1.cell hx1 hw
  have hwn := S1.nw hw hBw
  go_wp2_with (first | (go_at_call 39; go_loud (refine (begin_w g l _ v 7 S1.wri ⟨by omega, by omega⟩ (by omega)).mono ?_; rintro e w2 h2; obtain ⟨rfl, v2, T2⟩ := h2)) | fail)
  have S2 := S1.trans T2
  clear T2 x0 x1 hwn
  go_wp2_with fail
  have D3 := S2.non ((Chg.refl Non w2).drew)
  have x0 := D3.cell hx0 hw
  have x1 := D3.cell hx1 hw
  have hwn := D3.nw hw hBw
  go_region_held (fun w' => w'.cell? ⟨w.heap.size, 0, none⟩ = some (.pointer (some ⟨g, 0, none⟩)) ∧ w'.cell? ⟨w.heap.size, 1, none⟩ = some (.pointer none)) (first | exact ⟨y0, y1⟩ | exact ⟨x0, x1⟩ | assumption) (first | (go_at_call 56; go_loud (refine (numberI_w g _ _ v2 b o sz 0 4096 D3.wri (D3.cell f0 hb) (D3.nw hb hBl) hsz (by simp [num_length]; omega)).mono ?_; rintro e w3 h3; have y0 := h3.chg.cell x0 hwn; have y1 := h3.chg.cell x1 hwn; rcases h3.cases with ⟨k3, he, C⟩ | ⟨k3, he, v3, T3⟩; (subst he; obtain rfl : ok = false := HOK.out.symm.trans (by simp [Pf.right, List.length_map, List.all_map, Function.comp_def, k3]); exact ⟨rfl, rfl, S0.chg.trans (D3.chg.trans C D3.wft) S0.wft⟩); subst he)) | fail)
  have S3 := D3.trans T3
  clear D3 T3 x0 x1 hwn y0 y1
  clear h3
  go_wp2_with fail
  have D4 := S3.non ((Chg.refl Non w3).drew)
  have x0 := D4.cell hx0 hw
  have x1 := D4.cell hx1 hw
  have hwn := D4.nw hw hBw
  go_region_held (fun w' => w'.cell? ⟨w.heap.size, 0, none⟩ = some (.pointer (some ⟨g, 0, none⟩)) ∧ w'.cell? ⟨w.heap.size, 1, none⟩ = some (.pointer none)) (first | exact ⟨y0, y1⟩ | exact ⟨x0, x1⟩ | assumption) (first | (go_at_call 61; go_loud (refine (listPartI_w g _ _ v3 b (o + 1) A c ms D4.wri (D4.cell f1 hb) (D4.nw hb hBl) (by have := D4.chg.size; omega) hlm (by simp [num_length]; omega) (HL.later D4) om).mono ?_; rintro e w4 h4; have y0 := h4.chg.cell x0 hwn; have y1 := h4.chg.cell x1 hwn; rcases h4.cases with ⟨k4, he, C⟩ | ⟨k4, he, v4, T4⟩; (subst he; obtain rfl : ok = false := HOK.out.symm.trans (by simp [Pf.right, List.length_map, List.all_map, Function.comp_def, k3, k4]); exact ⟨rfl, rfl, S0.chg.trans (D4.chg.trans C D4.wft) S0.wft⟩); subst he)) | fail)
  have S4 := D4.trans T4
  clear D4 T4 x0 x1 hwn y0 y1
  clear h4
  obtain rfl : ok = true := HOK.out.symm.trans (by simp [Pf.right, List.length_map, List.all_map, Function.comp_def, k3, k4])
  go_wp2
  go_end0
  refine ⟨rfl, v4, ?_⟩
  have S := S0.trans S4
  simpa [Pf.enc, encL_map, List.append_assoc] using S

end Go.Proofs.Ytgonbmcfeehfaaa

/- Proofs of package forms as arguments: their cells, parts and paths out of a reading. -/
namespace Go.Proofs.Ytgonbmcfeehfaaa
open Go.RowKit
set_option linter.unusedVariables false
set_option linter.unusedSimpArgs false
set_option maxRecDepth 20000

theorem part_cells : Try.prog.cellsOf 77 = 4 := by kernel_rfl
theorem entry_cells : Try.prog.cellsOf 74 = 2 := by kernel_rfl
theorem proof_cells : Try.prog.cellsOf 45 = 2 := by kernel_rfl
theorem hashes_cells : Try.prog.cellsOf 75 = 1 := by kernel_rfl
theorem parts_cells : Try.prog.cellsOf 43 = 1 := by kernel_rfl
/-- A part whose path lies in memory. -/
def Pm.In (w : World) (m : Pm) : Prop := m.part.Ok ∧ m.part.path.length ≤ maxLen ∧ LstM w m.A m.part.path bv 32
theorem entry_of {w : World} {n : Nat} {cs : List Value} (h : Okc Try.prog w (n + 2) 74 cs) : ∃ k v : ByteArray, cs = [.string k, .string v] ∧ k.size ≤ maxLen ∧ v.size ≤ maxLen := by
  unfold Okc at h
  simp only [Try.underlying74] at h
  obtain ⟨hl, hf⟩ := h
  rw [entry_cells] at hl
  have h0 : Okc Try.prog w (n + 1) 9 ((cs.drop 0).take (Try.prog.cellsOf 9)) := hf 0 _ rfl
  have h1 : Okc Try.prog w (n + 1) 9 ((cs.drop 1).take (Try.prog.cellsOf 9)) := hf 1 _ rfl
  rw [str_cells] at h0 h1
  obtain ⟨a0, e0, b0⟩ := okc_str h0
  obtain ⟨a1, e1, b1⟩ := okc_str h1
  refine ⟨a0, a1, ?_, b0, b1⟩
  have c0 := cut cs 0 1 1 rfl
  have c1 := cut cs 1 1 2 rfl
  rw [e1, List.drop_of_length_le (i := 2) (by omega)] at c1
  rw [e0, c1] at c0
  exact c0
theorem part_of {w : World} {n : Nat} {cs : List Value} (h : Okc Try.prog w (n + 5) 77 cs) : ∃ m : Pm, cs = m.cells ∧ m.In w := by
  unfold Okc at h
  simp only [Try.underlying77] at h
  obtain ⟨hl, hf⟩ := h
  rw [part_cells] at hl
  have h0 : Okc Try.prog w (n + 4) 3 ((cs.drop 0).take (Try.prog.cellsOf 3)) := hf 0 _ rfl
  have h1 : Okc Try.prog w (n + 4) 74 ((cs.drop 1).take (Try.prog.cellsOf 74)) := hf 1 _ rfl
  have h2 : Okc Try.prog w (n + 4) 75 ((cs.drop 3).take (Try.prog.cellsOf 75)) := hf 2 _ rfl
  rw [int_cells] at h0
  rw [entry_cells] at h1
  rw [hashes_cells] at h2
  obtain ⟨a0, e0, b0⟩ := okc_i64 Try.underlying3 h0
  obtain ⟨k, v, e1, bk, bv'⟩ := entry_of h1
  obtain ⟨A, c, l, e2, hlm, M, ol⟩ := slice_of (cells := bv) (Ok := fun x : List UInt8 => x.length = 32) Try.underlying75 hash_cells (by omega) (fun es h => okc_hash h) h2
  refine ⟨⟨⟨a0, k, v, l⟩, A, c⟩, ?_, ⟨b0, bk, bv', ol⟩, hlm, M⟩
  have c0 := cut cs 0 1 1 rfl
  have c1 := cut cs 1 2 3 rfl
  have c2 := cut cs 3 1 4 rfl
  rw [e2, List.drop_of_length_le (i := 4) (by omega)] at c2
  rw [e1, c2] at c1
  rw [e0, c1] at c0
  exact c0
theorem proof_arg {w : World} {v : Value} (h : Okv Try.prog w 45 v) : ∃ (sz : Int) (A : Option Addr) (c : Nat) (ms : List Pm), v = .agg #[.int .i64 sz, .slice A ms.length c] ∧ I64 sz ∧ ms.length ≤ maxLen ∧ LstM w A ms Pm.cells 4 ∧ ∀ m ∈ ms, m.In w := by
  obtain ⟨cs, rfl, ho⟩ := agg_arg Try.underlying45 h
  have h := ho 8
  unfold Okc at h
  simp only [Try.underlying45] at h
  obtain ⟨hl, hf⟩ := h
  rw [proof_cells] at hl
  have h0 : Okc Try.prog w 7 3 ((cs.toList.drop 0).take (Try.prog.cellsOf 3)) := hf 0 _ rfl
  have h1 : Okc Try.prog w 7 43 ((cs.toList.drop 1).take (Try.prog.cellsOf 43)) := hf 1 _ rfl
  rw [int_cells] at h0
  rw [parts_cells] at h1
  obtain ⟨a0, e0, b0⟩ := okc_i64 Try.underlying3 h0
  obtain ⟨A, c, ms, e1, hlm, M, om⟩ := slice_of (Ok := Pm.In w) Try.underlying43 part_cells (by omega) (fun es h => part_of h) h1
  refine ⟨a0, A, c, ms, ?_, b0, hlm, M, om⟩
  have c0 := cut cs.toList 0 1 1 rfl
  have c1 := cut cs.toList 1 1 2 rfl
  rw [e1, List.drop_of_length_le (i := 2) (by omega)] at c1
  rw [e0, c1] at c0
  have c0 : cs.toList = [.int .i64 a0, .slice A ms.length c] := c0
  have : cs = [Value.int .i64 a0, .slice A ms.length c].toArray := by rw [← c0]
  rw [this]
end Go.Proofs.Ytgonbmcfeehfaaa

/- Package forms: EncodeProof. -/
namespace Go.Proofs.Ytgonbmcfeehfaaa
open Go.RowKit
set_option linter.unusedVariables false
set_option linter.unusedSimpArgs false
set_option maxRecDepth 20000

theorem Pf.enc_len {sz : Int} {ms : List Pm} (h : Pf.right ⟨sz, ms.map Pm.part⟩ = true) (om : ∀ m ∈ ms, m.part.Ok) : (Pf.enc ⟨sz, ms.map Pm.part⟩).length ≤ 1000000 := by
  unfold Pf.right at h
  simp only [Bool.and_eq_true, List.length_map] at h
  obtain ⟨_, h1, h2⟩ := h
  have h3 := (inR_iff.1 h1).2
  have h4 : ∀ x ∈ ms.map Pm.part, x.enc.length ≤ 20000 := by
    intro x hx
    have hr := List.all_eq_true.1 h2 x hx
    obtain ⟨m, hm, rfl⟩ := List.mem_map.1 hx
    exact Pa.enc_len hr (om m hm)
  have h5 : ∀ l : List Pa, (∀ x ∈ l, x.enc.length ≤ 20000) → (l.flatMap Pa.enc).length ≤ l.length * 20000 := by
    intro l
    induction l with
    | nil => intro _; simp
    | cons x l ih =>
      intro h
      have a := h x (by simp)
      have b := ih (fun y hy => h y (by simp [hy]))
      rw [List.flatMap_cons, List.length_append, List.length_cons]
      omega
  have h6 := h5 _ h4
  rw [List.length_map] at h6
  unfold Pf.enc encL
  simp only [List.length_append, num_length, List.length_map]
  omega

end Go.Proofs.Ytgonbmcfeehfaaa

/- Package forms: decoded[nuncio/api.Vote]. -/
namespace Go.Proofs.Ytgonbmcfeehfaaa
open Go.RowKit
set_option linter.unusedVariables false
set_option linter.unusedSimpArgs false
set_option maxRecDepth 20000


theorem dVote.row : (Try.prog.info? 31).map (·.size) = some 39 := by kernel_rfl
theorem dVote.alloc0 (w : World) : (Instr.alloc 31 true (.tuple #[])).run Try.prog w = .ok (.pointer (some ⟨w.heap.size, 0, none⟩)) (w.alloc (.cells (Vt.zero.cells).toArray 31)) := by kernel_rfl
theorem dVote.zlen : (Vt.zero.cells).length = 39 := by rfl

theorem catchDP_Vote (w : World) (p q : Nat) (L : List Value) (y : Value) (v : Value) (u : TypeId) (older : List PanicEntry) (hp : Hb w p 31 L.toArray) (hL : L.length = 39) (hq : Hb w q 32 #[y]) (hpq : q ≠ p) :
    CallsD Try.prog 35 #[.pointer (some ⟨p, 0, none⟩), .pointer (some ⟨q, 0, none⟩)] (.panicking ({ v := .iface u v, recovered := false } :: older)) w fun e u' w' =>
      e = .returned (.tuple #[]) ∧ u' = .panicking ({ v := .iface u v, recovered := true } :: older) ∧ w' = (((w.alloc (.cells (Vt.zero.cells).toArray 31)).setCells p 0 (Vt.zero.cells)).setCell ⟨q, 0, none⟩ (.int .i64 61)) := by
  have hz := dVote.alloc0 w
  have hzl := dVote.zlen
  have hrow := dVote.row
  have hn := Hb.new w 31 (Vt.zero.cells).toArray
  have hp1 := hp.alloc (.cells (Vt.zero.cells).toArray 31)
  have hth := hp1.there0
  rw [hL] at hth
  have hq1 := (hq.alloc (.cells (Vt.zero.cells).toArray 31)).farCells hpq (Vt.zero.cells) 0
  have c1 : _ = some y := hq1.cell 0
  have f1 : _ = false := hq1.frozen 0
  refine callsD_of_wpS Try.func35 rfl fun c₀ cs hu => ?_
  apply wpS_seq
  apply wpS_region
  simp [wpOpsS, go_sem, recoverD, hu, Try.ntmps35, Exit.thenS]
  refine wpS_cond (t := true) (by simp [Act.eval, Array.replicate]) ?_
  simp only [if_true]
  refine wpS_of_wp ?_
  have hone : ∀ v ∈ (Vt.zero.cells), v.oneCell' = true := Vt.one _
  generalize Vt.zero.cells = z at *
  go_wp2_with (first | (with_reducible refine wpList_alloc_row rfl _ rfl z hz ?_) | (with_reducible refine wpList_load_mid rfl 31 _ rfl w.heap.size 0 rfl z _ hn.range0 Try.underlying31 rfl (by rw [hrow, hzl]) ?_) | (with_reducible refine wpList_store_mid rfl 31 _ _ rfl p 0 z.toArray rfl rfl (by rw [List.size_toArray, hzl]; exact hth) (by rw [List.size_toArray, hrow, hzl]) (one_mem hone) ?_))
  exact ⟨rfl, _, rfl, .tuple #[], by simp [results, Try.results35], rfl, rfl, rfl⟩

theorem catchDI_Vote (w : World) (p q : Addr) : CallsD Try.prog 35 #[.pointer (some p), .pointer (some q)] .returning w fun e u' w' => e = .returned (.tuple #[]) ∧ u' = .returning ∧ w' = w := by
  refine callsD_of_wpS Try.func35 rfl fun c₀ cs hu => ?_
  apply wpS_seq
  apply wpS_region
  simp [wpOpsS, go_sem, recoverD, hu, Try.ntmps35, Exit.thenS]
  refine wpS_cond (t := false) (by simp [Act.eval, Array.replicate]) ?_
  simp only [Bool.false_eq_true, if_false]
  refine wpS_of_wp (wp_skip ?_)
  cases c₀
  simp_all [bodyPostS, results, Try.results35]

/-- The error's way. -/
theorem decErr_Vote (w w2 : World) (h : Chg Non w w2) (L : List Value) (y : Value) (hp : Hb w2 w.heap.size 31 L.toArray) (hL : L.length = 39) (hq : Hb w2 (w.heap.size + 1) 32 #[y]) (r : Option (List Value)) (hr : r = none) (tmps : Array Value)
    (h4 : tmps.getD 4 undef = .pointer (some ⟨w.heap.size, 0, none⟩)) (h5 : tmps.getD 5 undef = .pointer (some ⟨w.heap.size + 1, 0, none⟩)) :
    Leaves Try.prog Try.f15 tmps (Dec w (Vt.zero.cells) r) [{ target := .fn (.func 35) #[.pointer (some ⟨w.heap.size, 0, none⟩), .pointer (some ⟨w.heap.size + 1, 0, none⟩)], args := #[] }] (.panicking bad) w2 := by
  subst hr
  refine leaves_cons (f := 35) (args := #[.pointer (some ⟨w.heap.size, 0, none⟩), .pointer (some ⟨w.heap.size + 1, 0, none⟩)]) (by simp) (by simp [go_sem]) ?_
  refine (catchDP_Vote w2 w.heap.size (w.heap.size + 1) L _ _ _ _ hp hL hq (by omega)).mono ?_
  rintro e u' w'' ⟨rfl, rfl, rfl⟩
  have hz : (Vt.zero.cells).length = 39 := dVote.zlen
  have hb3 := ((hp.alloc (.cells (Vt.zero.cells).toArray 31)).sets0 (L' := Vt.zero.cells) (by rw [hL, hz])).far (p := ⟨w.heap.size + 1, 0, none⟩) (by simp) (.int .i64 61)
  have he3 := ((hq.alloc (.cells (Vt.zero.cells).toArray 31)).farCells (tb := w.heap.size) (by omega) (Vt.zero.cells) 0).set 0 (.int .i64 61)
  refine ⟨_, results_two rfl _ _ _ ⟨w.heap.size, 0, none⟩ ⟨w.heap.size + 1, 0, none⟩ _ _ h4 h5 (load_row hb3 Try.underlying31 rfl (by rw [dVote.row, hz])) (load_errno (he3.cell 0)), ?_, rfl⟩
  have K := (Chg.setCells (S := fun k => k = w.heap.size ∨ k = w.heap.size + 1) (.inl rfl) (Vt.zero.cells) _ 0 ((Chg.refl _ w2).alloc (.cells (Vt.zero.cells).toArray 31))).setCell (p := ⟨w.heap.size + 1, 0, none⟩) (.inl (.inr rfl)) (.int .i64 61)
  exact h.trans K (fun j hj => .inr (by omega))

theorem decoded_Vote (w : World) (A : Option Addr) (n c : Nat) (bs : List UInt8) (r : Option (List Value × St)) (hn : n = bs.length) (hr : Rd w A bs) (hsz : bs.length ≤ 1000000000) (hlen : ∀ L s, r = some (L, s) → L.length = 39 ∧ ∀ v ∈ L, v.oneCell' = true)
    (H : ∀ (w1 : World) (g : Nat) (F : Nat → Prop), Rst w1 g F w.heap.size 31 (Vt.zero.cells) (some bs) w1 → Calls Try.prog 16 #[.agg #[.pointer none, .pointer (some ⟨g, 0, none⟩)], .pointer (some ⟨w.heap.size, 0, none⟩)] w1 (RO w1 g F w.heap.size 31 39 r)) :
    Calls Try.prog 15 #[.slice A n c, .func (.func 16) #[] #[]] w (Dec w (Vt.zero.cells) (whole r)) := by
  have hmf := mkf
  have hC0 := dw_chg w (Vt.zero.cells) 31
  have hb0 := dw_b w (Vt.zero.cells) 31
  have he0 := dw_e w (Vt.zero.cells) 31
  have hz := dVote.alloc0 w
  have hrow := dVote.row
  have HN := newReader_any (dw w (Vt.zero.cells) 31) A n c bs hn (hr.chg hC0 (fun _ _ f => f)) hsz
  generalize hR : whole r = R
  have HR := Lib.hid hR
  have HLE := Lib.hid hlen
  have HH := Lib.hid H
  have HNN := Lib.hid HN
  clear hR hlen H HN hn hr
  have hzz := dVote.zlen
  go_enter_defers Try.func15, Try.ntmps15
  go_wp2_with (first | (with_reducible refine wpList_alloc_row rfl _ rfl (Vt.zero.cells) hz ?_))
  have hdw : dw w (Vt.zero.cells) 31 = (w.alloc (.cells (Vt.zero.cells).toArray 31)).alloc (.cells #[.int .i64 0] 32) := rfl
  rw [← hdw]
  have hds : (dw w (Vt.zero.cells) 31).heap.size = w.heap.size + 2 := by rw [hdw]; simp
  clear hdw
  generalize dw w (Vt.zero.cells) 31 = w0 at *
  refine HNN.out.mono ?_
  rintro e w1 ⟨g, F, rfl, hR1, hg, hF, hC1⟩
  have hb1 := hb0.chg hC1 (fun f => f)
  have he1 := he0.chg hC1 (fun f => f)
  have S1 : Rst w1 g F w.heap.size 31 (Vt.zero.cells) (some bs) w1 := ⟨hR1, hb1, Chg.refl _ _, by omega, fun h => by have := hF _ h; omega⟩
  have H1 := HH.out w1 g F S1
  have hne : ¬ Two g w.heap.size (w.heap.size + 1) := by rintro (h | h) <;> omega
  have hn01 : Chg Non w w1 := hC0.trans hC1 (fun _ f => f.elim)
  clear HNN hb0 he0 hC0 hC1 HH S1
  go_wp2_with fail
  refine H1.mono ?_
  rintro e w2 h2
  have he2 := he1.chg h2.chg hne
  have hn02 : Chg Non w w2 := hn01.trans h2.chg (fun j hj => .inr (by rcases hj with rfl | rfl <;> omega))
  clear H1 he1 hb1
  rcases h2.cases with ⟨k, rfl, _, L', hL1, hL2⟩ | ⟨⟨L, s⟩, k, rfl, T⟩
  · have hRn : R = none := HR.out.symm.trans (by rw [k]; rfl)
    go_wp2
    refine decErr_Vote w w2 hn02 L' _ hL2 hL1 he2 _ rfl _ ?_ ?_ <;> rfl
  · obtain ⟨hLn, hL1⟩ := HLE.out L s k
    clear HLE h2
    go_wp2_with fail
    refine (endR_any _ g F s T.rdr).mono ?_
    rintro e w3 ⟨rfl, rfl⟩
    have hb2 : Hb _ w.heap.size 31 L.toArray := T.row
    by_cases hs : s = some []
    · have hRs : R = some L := HR.out.symm.trans (by rw [k, hs]; rfl)
      have hev : endv s = 0 := by unfold endv; rw [if_pos hs]
      have hth := hb2.there0
      rw [hLn] at hth
      have hLs : L.toArray.size = 39 := by rw [List.size_toArray, hLn]
      rw [hev]
      have hb3 := hb2.sets0 (L' := L) rfl
      have he3 := he2.farCells (tb := w.heap.size) (by omega) L 0
      have c3 : _ = some (Value.int .i64 0) := he3.cell 0
      have f3 : _ = false := he3.frozen 0
      have hrg := hb2.range0
      clear hev hs HR
      go_wp2_with (first | (go_at_call 37; refine (insist_yes _).mono ?_; rintro e w5 ⟨rfl, rfl⟩) | (with_reducible refine wpList_load_mid rfl 31 _ rfl w.heap.size 0 rfl L _ hrg Try.underlying31 rfl (by rw [hrow, hLn]) ?_; refine wpList_store_mid rfl 31 _ _ rfl w.heap.size 0 L.toArray rfl rfl (by rw [hLs]; exact hth) (by rw [hLs, hrow]) (one_mem hL1) ?_) | (with_reducible refine wpList_store_mid rfl 31 _ _ rfl w.heap.size 0 L.toArray rfl rfl (by rw [hLs]; exact hth) (by rw [hLs, hrow]) (one_mem hL1) ?_))
      refine leaves_cons (f := 35) (args := #[.pointer (some ⟨w.heap.size, 0, none⟩), .pointer (some ⟨w.heap.size + 1, 0, none⟩)]) (by simp) (by simp [go_sem]) ?_
      refine (catchDI_Vote _ ⟨w.heap.size, 0, none⟩ ⟨w.heap.size + 1, 0, none⟩).mono ?_
      rintro e u' w'' ⟨rfl, rfl, rfl⟩
      have hb4 := hb3.far (p := ⟨w.heap.size + 1, 0, none⟩) (by simp) (.int .i64 0)
      have he4 := he3.set 0 (.int .i64 0)
      refine ⟨_, results_two rfl _ _ _ ⟨w.heap.size, 0, none⟩ ⟨w.heap.size + 1, 0, none⟩ _ _ rfl rfl (load_row hb4 Try.underlying31 rfl (by rw [hrow, hLn])) (load_errno (he4.cell 0)), ?_, by rw [hRs]; rfl⟩
      exact hn02.trans ((Chg.setCells (S := fun k => k = w.heap.size ∨ k = w.heap.size + 1) (.inl rfl) L _ 0 (Chg.refl _ _)).setCell (p := ⟨w.heap.size + 1, 0, none⟩) (.inl (.inr rfl)) (.int .i64 0)) (fun j hj => .inr (by omega))
    · have hRn : R = none := HR.out.symm.trans (by
        rw [k]
        match s, hs with
        | none, _ => rfl
        | some (_ :: _), _ => rfl)
      have hev : endv s = 21 := by unfold endv; rw [if_neg hs]
      rw [hev]
      clear hev hs HR
      go_wp2_with (go_at_call 37; refine (insist_no _).mono ?_; rintro e w5 ⟨rfl, rfl⟩)
      refine decErr_Vote w _ hn02 L _ hb2 hLn he2 _ rfl _ ?_ ?_ <;> rfl
end Go.Proofs.Ytgonbmcfeehfaaa
