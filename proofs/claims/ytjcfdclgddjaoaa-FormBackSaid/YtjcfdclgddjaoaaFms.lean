/- Package forms: seals and commits, written. -/
import Derived.Test.YtjcfdclgddjaoaaChecked
import Derived.WalkKit
import Derived.WalkLawsBesides
import Derived.Lib.Hide
import Derived.Deep.RegionHeld3
import Derived.Test.YtjcfdclgddjaoaaFw
import Derived.Test.YtjcfdclgddjaoaaFt2
import Derived.Test.YtjcfdclgddjaoaaFls
import Derived.Test.YtjcfdclgddjaoaaFmv
namespace Go.Proofs.Ytjcfdclgddjaoaa
open Go.RowKit
set_option linter.unusedVariables false
set_option linter.unusedSimpArgs false
set_option maxRecDepth 20000
theorem seal_w (g : Nat) (l : List UInt8) (w : World) (v : Value) (b o : Nat) (x : Se) (h : Wri w g v (some l)) (hc : w.rangeAt b o x.cells) (hb : ¬ Wft g v b) (hbl : b < w.heap.size) (ox : x.Ok) (hl : l.length ≤ 500000000) :
    Calls Try.prog 107 #[.agg #[.pointer (some ⟨g, 0, none⟩), .pointer none], .pointer (some ⟨b, o, none⟩)] w (WO w g v x.right (l ++ x.enc)) := by
  have S0 := (Wst.here h).non ((Chg.refl Non w).alloc (.cells #[.pointer (some ⟨g, 0, none⟩), .pointer none] 138))
  have R0 := ((Chg.refl Non w).alloc (.cells #[.pointer (some ⟨g, 0, none⟩), .pointer none] 138)).range' hc (fun f => f)
  have hw := h.nnew (Nat.le_refl w.heap.size)
  have hx := Hb.new w 138 #[.pointer (some ⟨g, 0, none⟩), .pointer none]
  have hx0 : (w.alloc (.cells #[.pointer (some ⟨g, 0, none⟩), .pointer none] 138)).cell? ⟨w.heap.size, 0, none⟩ = some (.pointer (some ⟨g, 0, none⟩)) := hx.cell 0
  have hx1 : (w.alloc (.cells #[.pointer (some ⟨g, 0, none⟩), .pointer none] 138)).cell? ⟨w.heap.size, 1, none⟩ = some (.pointer none) := hx.cell 1
  have hBl : b < (w.alloc (.cells #[.pointer (some ⟨g, 0, none⟩), .pointer none] 138)).heap.size := by simp; omega
  have hBw : w.heap.size < (w.alloc (.cells #[.pointer (some ⟨g, 0, none⟩), .pointer none] 138)).heap.size := by simp
  have S1 := Wst.here (S0.wri)
  obtain ⟨B, hB⟩ : ∃ B, B = w.alloc (.cells #[.pointer (some ⟨g, 0, none⟩), .pointer none] 138) := ⟨_, rfl⟩
  obtain ⟨f0, r1⟩ := rangeAt_cons R0
  obtain ⟨f1, r2⟩ := rangeAt_cons r1
  obtain ⟨f2, _⟩ := rangeAt_cons r2
  clear r1 r2
  rw [← hB] at f0 f1 f2
  generalize hok : x.right = ok
  have HOK := Lib.hid hok
  clear hok hx hc
  go_enter Try.func107, Try.ntmps107
  go_wp2_with fail
  rw [← hB] at S0 R0 hx0 hx1 hBl hBw S1 ⊢
  clear hB
  have D2 := S1.non ((Chg.refl Non B).drew)
  have x0 := D2.cell hx0 hw
  have x1 := D2.cell hx1 hw
  have hwn := D2.nw hw hBw
  go_region_held (fun w' => w'.cell? ⟨w.heap.size, 0, none⟩ = some (.pointer (some ⟨g, 0, none⟩)) ∧ w'.cell? ⟨w.heap.size, 1, none⟩ = some (.pointer none)) (first | exact ⟨y0, y1⟩ | exact ⟨x0, x1⟩ | assumption) (first | (go_at_call 94; go_loud (refine (word_w g _ _ v b o x.key D2.wri (D2.cell f0 hb) (D2.nw hb hBl) ox.key (by omega)).mono ?_; rintro e w2 h2; have y0 := h2.chg.cell x0 hwn; have y1 := h2.chg.cell x1 hwn; obtain ⟨rfl, v2, T2⟩ := h2)) | fail)
  have S2 := D2.trans T2
  clear D2 T2 x0 x1 hwn y0 y1
  go_wp2_with fail
  have D3 := S2.non ((Chg.refl Non w2).drew)
  have x0 := D3.cell hx0 hw
  have x1 := D3.cell hx1 hw
  have hwn := D3.nw hw hBw
  go_region_held (fun w' => w'.cell? ⟨w.heap.size, 0, none⟩ = some (.pointer (some ⟨g, 0, none⟩)) ∧ w'.cell? ⟨w.heap.size, 1, none⟩ = some (.pointer none)) (first | exact ⟨y0, y1⟩ | exact ⟨x0, x1⟩ | assumption) (first | (go_at_call 95; go_loud (refine (signature_w g _ _ v2 b (o + 1) x.r x.s D3.wri (D3.cell f1 hb) (D3.cell f2 hb) (D3.nw hb hBl) (by have := D3.chg.size; omega) ox.r ox.s (by rw [List.length_append, be_length]; omega)).mono ?_; rintro e w3 h3; have y0 := h3.chg.cell x0 hwn; have y1 := h3.chg.cell x1 hwn; obtain ⟨rfl, v3, T3⟩ := h3)) | fail)
  have S3 := D3.trans T3
  clear D3 T3 x0 x1 hwn y0 y1
  obtain rfl : ok = true := HOK.out.symm.trans (by simp [Se.right])
  go_wp2
  go_end0
  refine ⟨rfl, v3, ?_⟩
  have S := S0.trans S3
  simpa [Se.enc, List.append_assoc] using S


theorem listSealI_w (g : Nat) (l0 : List UInt8) (w : World) (v : Value) (b o : Nat) (A : Option Addr) (c : Nat) (l : List Se) (h : Wri w g v (some l0)) (hc : w.cell? ⟨b, o, none⟩ = some (.slice A l.length c)) (hb : ¬ Wft g v b) (hbl : b < w.heap.size) (hlm : l.length ≤ maxLen) (hl : l0.length ≤ 1000000) (HL : LstW w g v A l Se.cells 3) (ol : ∀ x ∈ l, x.Ok) :
    Calls Try.prog 106 #[.agg #[.pointer (some ⟨g, 0, none⟩), .pointer none], .pointer (some ⟨b, o, none⟩), .int .i64 64, .func (.func 107) #[] #[]] w (WO w g v (inR 0 64 l.length) (l0 ++ encL Se.enc l)) := by
  have hall : (inR 0 ((64 : Nat) : Int) l.length && allB (okAt Se.right l) l.length) = inR 0 64 l.length := by
    rw [allB_all, show l.all Se.right = true from List.all_eq_true.2 (fun x hx => rfl), Bool.and_true]; rfl
  have hbs : ∀ i, okAt Se.right l i = true → (bsAt Se.enc l i).length ≤ 20000 := by
    intro i _
    unfold bsAt
    cases l[i]? with
    | none => simp
    | some x => simp [Se.enc, be_length]
  have HN := listSeal_w g l0 w v b o A l.length c 64 (okAt Se.right l) (bsAt Se.enc l) h hc hb hbl hlm (by omega) (by omega) hbs (fun i hi => by
      obtain ⟨eb, eo, e, h1, h2, h3⟩ := HL i _ (List.getElem?_eq_getElem hi)
      refine ⟨eb, eo, e, fun l' w' v' S' hl' => ?_⟩
      have hx := List.getElem?_eq_getElem hi
      rw [okAt_get hx, bsAt_get hx]
      exact seal_w g l' w' v' eb (eo + i * 3) _ S'.wri (S'.range h3 h1) (S'.nw h1 h2) (by have := S'.chg.size; omega) (ol _ (List.getElem_mem hi)) (by omega))
  rw [jn_all, hall] at HN
  exact HN
set_option maxHeartbeats 1600000 in
theorem commit_w (g : Nat) (l : List UInt8) (w : World) (v : Value) (b o : Nat) (A : Option Addr) (c : Nat) (x : Cm) (h : Wri w g v (some l)) (R : w.rangeAt b o (x.cells (.slice A x.seals.length c))) (hlm : x.seals.length ≤ maxLen) (HL0 : LstW w g v A x.seals Se.cells 3) (ox : x.Ok) (hl : l.length ≤ 100000) (hb : ¬ Wft g v b) (hbl : b < w.heap.size) :
    Calls Try.prog 66 #[.agg #[.pointer (some ⟨g, 0, none⟩), .pointer none], .pointer (some ⟨b, o, none⟩)] w (WO w g v (x.right) (l ++ x.enc)) := by
  have hC0 := (Chg.refl Non w).alloc (.cells #[.pointer (some ⟨g, 0, none⟩), .pointer none] 138)
  have S0 := (Wst.here h).non hC0
  have hw := h.nnew (Nat.le_refl w.heap.size)
  have hx := Hb.new w 138 #[.pointer (some ⟨g, 0, none⟩), .pointer none]
  have hx0 : (w.alloc (.cells #[.pointer (some ⟨g, 0, none⟩), .pointer none] 138)).cell? ⟨w.heap.size, 0, none⟩ = some (.pointer (some ⟨g, 0, none⟩)) := hx.cell 0
  have hx1 : (w.alloc (.cells #[.pointer (some ⟨g, 0, none⟩), .pointer none] 138)).cell? ⟨w.heap.size, 1, none⟩ = some (.pointer none) := hx.cell 1
  have hBl : b < (w.alloc (.cells #[.pointer (some ⟨g, 0, none⟩), .pointer none] 138)).heap.size := by simp; omega
  have hBw : w.heap.size < (w.alloc (.cells #[.pointer (some ⟨g, 0, none⟩), .pointer none] 138)).heap.size := by simp
  have S1 := Wst.here (S0.wri)
  obtain ⟨r1, r2⟩ := rangeAt_app (hC0.range' R (fun f => f))
  obtain ⟨f0, r1⟩ := rangeAt_cons r1
  obtain ⟨f1, _⟩ := rangeAt_cons r1
  obtain ⟨f2, r2⟩ := rangeAt_app r2
  obtain ⟨f3, _⟩ := rangeAt_cons r2
  rw [bv_length, ox.block] at f3
  have f3 : (w.alloc (.cells #[.pointer (some ⟨g, 0, none⟩), .pointer none] 138)).cell? ⟨b, o + 34, none⟩ = some (.slice A x.seals.length c) := f3
  have f2 : (w.alloc (.cells #[.pointer (some ⟨g, 0, none⟩), .pointer none] 138)).rangeAt b (o + 2) (bv x.block) := f2
  have HL := HL0.chg hC0
  have ol := ox.seals
  have hall : (inR 0 ((64 : Nat) : Int) x.seals.length && allB (okAt Se.right x.seals) x.seals.length) = inR 0 64 x.seals.length := by
    rw [allB_all, show x.seals.all Se.right = true from List.all_eq_true.2 (fun x hx => rfl), Bool.and_true]; rfl
  have hbs : ∀ i, okAt Se.right x.seals i = true → (bsAt Se.enc x.seals i).length ≤ 20000 := by
    intro i _
    unfold bsAt
    cases x.seals[i]? with
    | none => simp
    | some x => simp [Se.enc, be_length]
  clear R r1 r2 HL0
  generalize hok : (x.right) = ok
  have HOK := Lib.hid hok
  clear hok hx hC0
  go_enter Try.func66, Try.ntmps66
  go_wp2_with fail
  generalize w.alloc (.cells #[.pointer (some ⟨g, 0, none⟩), .pointer none] 138) = B at *
  have x0 := S1.cell hx0 hw
  have x1 := S1.cell hx1 hw
  have hwn := S1.nw hw hBw
  go_wp2_with (first | (go_at_call 79; go_loud (refine (begin_w g l _ v 4 S1.wri ⟨by omega, by omega⟩ (by omega)).mono ?_; rintro e w2 h2; obtain ⟨rfl, v2, T2⟩ := h2)) | fail)
  have S2 := S1.trans T2
  clear T2 x0 x1 hwn
  go_wp2_with fail
  have D3 := S2.non ((Chg.refl Non w2).drew)
  have x0 := D3.cell hx0 hw
  have x1 := D3.cell hx1 hw
  have hwn := D3.nw hw hBw
  go_region_held (fun w' => w'.cell? ⟨w.heap.size, 0, none⟩ = some (.pointer (some ⟨g, 0, none⟩)) ∧ w'.cell? ⟨w.heap.size, 1, none⟩ = some (.pointer none)) (first | exact ⟨y0, y1⟩ | exact ⟨x0, x1⟩ | assumption) (first | (go_at_call 83; go_loud (refine (height_w g _ _ v2 b o x.height D3.wri (D3.cell f0 hb) (D3.nw hb hBl) ox.height (by simp [num_length]; omega)).mono ?_; rintro e w3 h3; have y0 := h3.chg.cell x0 hwn; have y1 := h3.chg.cell x1 hwn; rcases h3.cases with ⟨k3, he, C⟩ | ⟨k3, he, v3, T3⟩; (subst he; obtain rfl : ok = false := HOK.out.symm.trans (by simp [Cm.right, k3]); exact ⟨rfl, rfl, S0.chg.trans (D3.chg.trans C D3.wft) S0.wft⟩); subst he)) | fail)
  have S3 := D3.trans T3
  clear D3 T3 x0 x1 hwn y0 y1
  clear h3
  go_wp2_with fail
  have D4 := S3.non ((Chg.refl Non w3).drew)
  have x0 := D4.cell hx0 hw
  have x1 := D4.cell hx1 hw
  have hwn := D4.nw hw hBw
  go_region_held (fun w' => w'.cell? ⟨w.heap.size, 0, none⟩ = some (.pointer (some ⟨g, 0, none⟩)) ∧ w'.cell? ⟨w.heap.size, 1, none⟩ = some (.pointer none)) (first | exact ⟨y0, y1⟩ | exact ⟨x0, x1⟩ | assumption) (first | (go_at_call 91; go_loud (refine (round_w g _ _ v3 b (o + 1) x.round D4.wri (D4.cell f1 hb) (D4.nw hb hBl) ox.round (by simp [num_length]; omega)).mono ?_; rintro e w4 h4; have y0 := h4.chg.cell x0 hwn; have y1 := h4.chg.cell x1 hwn; rcases h4.cases with ⟨k4, he, C⟩ | ⟨k4, he, v4, T4⟩; (subst he; obtain rfl : ok = false := HOK.out.symm.trans (by simp [Cm.right, k3, k4]); exact ⟨rfl, rfl, S0.chg.trans (D4.chg.trans C D4.wft) S0.wft⟩); subst he)) | fail)
  have S4 := D4.trans T4
  clear D4 T4 x0 x1 hwn y0 y1
  clear h4
  go_wp2_with fail
  have D5 := S4.non ((Chg.refl Non w4).drew)
  have x0 := D5.cell hx0 hw
  have x1 := D5.cell hx1 hw
  have hwn := D5.nw hw hBw
  go_region_held (fun w' => w'.cell? ⟨w.heap.size, 0, none⟩ = some (.pointer (some ⟨g, 0, none⟩)) ∧ w'.cell? ⟨w.heap.size, 1, none⟩ = some (.pointer none)) (first | exact ⟨y0, y1⟩ | exact ⟨x0, x1⟩ | assumption) (first | (go_at_call 93; go_loud (refine (hash_w g _ _ v4 b (o + 2) x.block ox.block D5.wri (D5.range f2 hb) (D5.nw hb hBl) (by simp [num_length]; omega)).mono ?_; rintro e w5 h5; have y0 := h5.chg.cell x0 hwn; have y1 := h5.chg.cell x1 hwn; obtain ⟨rfl, v5, T5⟩ := h5)) | fail)
  have S5 := D5.trans T5
  clear D5 T5 x0 x1 hwn y0 y1
  go_wp2_with fail
  have D6 := S5.non ((Chg.refl Non w5).drew)
  have x0 := D6.cell hx0 hw
  have x1 := D6.cell hx1 hw
  have hwn := D6.nw hw hBw
  go_region_held (fun w' => w'.cell? ⟨w.heap.size, 0, none⟩ = some (.pointer (some ⟨g, 0, none⟩)) ∧ w'.cell? ⟨w.heap.size, 1, none⟩ = some (.pointer none)) (first | exact ⟨y0, y1⟩ | exact ⟨x0, x1⟩ | assumption) (first | (go_at_call 106; go_loud (refine (listSealI_w g _ _ v5 b (o + 34) A c x.seals D6.wri (D6.cell f3 hb) (D6.nw hb hBl) (by have := D6.chg.size; omega) hlm (by simp [num_length, ox.block]; omega) (HL.later D6) ol).mono ?_; rintro e w6 h6; have y0 := h6.chg.cell x0 hwn; have y1 := h6.chg.cell x1 hwn; rcases h6.cases with ⟨k6, he, C⟩ | ⟨k6, he, v6, T6⟩; (subst he; obtain rfl : ok = false := HOK.out.symm.trans (by simp [Cm.right, k3, k4, k6]); exact ⟨rfl, rfl, S0.chg.trans (D6.chg.trans C D6.wft) S0.wft⟩); subst he)) | fail)
  have S6 := D6.trans T6
  clear D6 T6 x0 x1 hwn y0 y1
  clear h6
  obtain rfl : ok = true := HOK.out.symm.trans (by simp [Cm.right, k3, k4, k6])
  go_wp2
  go_end0
  refine ⟨rfl, v6, ?_⟩
  have S := S0.trans S6
  simpa [Cm.enc, encL, List.append_assoc] using S

end Go.Proofs.Ytjcfdclgddjaoaa
