/- Package forms: light blocks, written. -/
import Derived.Test.YtjcfdclgddjaoaaChecked
import Derived.WalkKit
import Derived.WalkLawsBesides
import Derived.Lib.Hide
import Derived.Deep.RegionHeld3
import Derived.Test.YtjcfdclgddjaoaaFw
import Derived.Test.YtjcfdclgddjaoaaFt2
import Derived.Test.YtjcfdclgddjaoaaFms
import Derived.Test.YtjcfdclgddjaoaaFwh
namespace Go.Proofs.Ytjcfdclgddjaoaa
open Go.RowKit
set_option linter.unusedVariables false
set_option linter.unusedSimpArgs false
set_option maxRecDepth 20000

theorem Hd.enc_len (x : Hd) (h : x.right = true) (ox : x.Ok) : x.enc.length ≤ 1000 := by
  unfold Hd.right at h
  simp only [Bool.and_eq_true] at h
  have := nameOk_size h.1
  unfold Hd.enc
  simp [num_length, tx_length, ox.last, ox.set, ox.next, ox.data, ox.app]
  have e1 : x.chain.data.size = x.chain.size := rfl
  omega
theorem flat_len {α : Type} (f : α → List UInt8) (m : Nat) (hf : ∀ x, (f x).length ≤ m) : ∀ l : List α, (l.flatMap f).length ≤ l.length * m
  | [] => by simp
  | x :: l => by
    have h1 := flat_len f m hf l
    have h2 := hf x
    simp only [List.flatMap_cons, List.length_append, List.length_cons, Nat.succ_mul]
    omega
theorem Se.enc_len (x : Se) : x.enc.length ≤ 24 := by simp [Se.enc, be_length]
theorem Va.enc_len (x : Va) : x.enc.length ≤ 16 := by simp [Va.enc, be_length, num_length]
theorem Cm.enc_len (x : Cm) (h : x.right = true) (ox : x.Ok) : x.enc.length ≤ 3000 := by
  unfold Cm.right at h
  simp only [Bool.and_eq_true] at h
  have h3 := (inR_iff.1 h.2.2).2
  have h4 := flat_len Se.enc 24 Se.enc_len x.seals
  unfold Cm.enc encL
  simp only [List.length_append, num_length, ox.block]
  omega
theorem set_len (l : List Va) (h : setRight l = true) : (setEnc l).length ≤ 3000 := by
  have h3 := (inR_iff.1 h).2
  have h4 := flat_len Va.enc 16 Va.enc_len l
  unfold setEnc encL
  simp only [List.length_append, num_length]
  omega
theorem Lt.enc_len (x : Lt) (h : x.right = true) (ox : x.Ok) : x.enc.length ≤ 100000 := by
  unfold Lt.right at h
  simp only [Bool.and_eq_true] at h
  have h1 := x.header.enc_len h.1 ox.header
  have h2 := x.commit.enc_len h.2.1 ox.commit
  have h3 := set_len x.set h.2.2.1
  have h4 := set_len x.next h.2.2.2
  unfold Lt.enc
  simp only [List.length_append, num_length]
  omega
theorem Hd.cells_len (x : Hd) (ox : x.Ok) : x.cells.length = 163 := by
  unfold Hd.cells
  simp [bv_length, ox.last, ox.set, ox.next, ox.data, ox.app]
theorem Cm.cells_len (x : Cm) (ox : x.Ok) (a : Value) : (x.cells a).length = 35 := by
  unfold Cm.cells
  simp [bv_length, ox.block]
set_option maxHeartbeats 1600000 in
theorem light_w (g : Nat) (l : List UInt8) (w : World) (v : Value) (b o : Nat) (A1 A2 A3 : Option Addr) (c1 c2 c3 : Nat) (x : Lt) (h : Wri w g v (some l)) (R : w.rangeAt b o (x.cells (.slice A1 x.commit.seals.length c1) (.slice A2 x.set.length c2) (.slice A3 x.next.length c3))) (hl1 : x.commit.seals.length ≤ maxLen) (hl2 : x.set.length ≤ maxLen) (hl3 : x.next.length ≤ maxLen) (HL1 : LstW w g v A1 x.commit.seals Se.cells 3) (HL2 : LstW w g v A2 x.set Va.cells 2) (HL3 : LstW w g v A3 x.next Va.cells 2) (ox : x.Ok) (hl : l.length ≤ 1000) (hb : ¬ Wft g v b) (hbl : b < w.heap.size) :
    Calls Try.prog 70 #[.agg #[.pointer (some ⟨g, 0, none⟩), .pointer none], .pointer (some ⟨b, o, none⟩)] w (WO w g v (x.right) (l ++ x.enc)) := by
  have hC0 := (Chg.refl Non w).alloc (.cells #[.pointer (some ⟨g, 0, none⟩), .pointer none] 138)
  have S0 := (Wst.here h).non hC0
  have hw := h.nnew (Nat.le_refl w.heap.size)
  have hx := Hb.new w 138 #[.pointer (some ⟨g, 0, none⟩), .pointer none]
  have hx0 : (w.alloc (.cells #[.pointer (some ⟨g, 0, none⟩), .pointer none] 138)).cell? ⟨w.heap.size, 0, none⟩ = some (.pointer (some ⟨g, 0, none⟩)) := hx.cell 0
  have hx1 : (w.alloc (.cells #[.pointer (some ⟨g, 0, none⟩), .pointer none] 138)).cell? ⟨w.heap.size, 1, none⟩ = some (.pointer none) := hx.cell 1
  have hBl : b < (w.alloc (.cells #[.pointer (some ⟨g, 0, none⟩), .pointer none] 138)).heap.size := by simp; omega
  have hBw : w.heap.size < (w.alloc (.cells #[.pointer (some ⟨g, 0, none⟩), .pointer none] 138)).heap.size := by simp
  have S1 := Wst.here (S0.wri)
  obtain ⟨f0, r2⟩ := rangeAt_app (hC0.range' R (fun f => f))
  obtain ⟨f1, r3⟩ := rangeAt_app r2
  obtain ⟨f2, r4⟩ := rangeAt_cons r3
  obtain ⟨f3, _⟩ := rangeAt_cons r4
  rw [x.header.cells_len ox.header] at f1
  rw [x.header.cells_len ox.header, x.commit.cells_len ox.commit] at f2 f3
  have f2 : (w.alloc (.cells #[.pointer (some ⟨g, 0, none⟩), .pointer none] 138)).cell? ⟨b, o + 198, none⟩ = some (.slice A2 x.set.length c2) := f2
  have f3 : (w.alloc (.cells #[.pointer (some ⟨g, 0, none⟩), .pointer none] 138)).cell? ⟨b, o + 199, none⟩ = some (.slice A3 x.next.length c3) := f3
  have K1 := HL1.chg hC0
  have K2 := HL2.chg hC0
  have K3 := HL3.chg hC0
  have q1 := x.header.enc_len
  have q2 := x.commit.enc_len
  have q3 := set_len x.set
  have Q1 := Lib.hid q1
  have Q2 := Lib.hid q2
  have Q3 := Lib.hid q3
  clear R r2 r3 r4 HL1 HL2 HL3 q1 q2 q3
  generalize hok : (x.right) = ok
  have HOK := Lib.hid hok
  clear hok hx hC0
  go_enter Try.func70, Try.ntmps70
  go_wp2_with fail
  generalize w.alloc (.cells #[.pointer (some ⟨g, 0, none⟩), .pointer none] 138) = B at *
  have x0 := S1.cell hx0 hw
  have x1 := S1.cell hx1 hw
  have hwn := S1.nw hw hBw
  go_wp2_with (first | (go_at_call 79; go_loud (refine (begin_w g l _ v 5 S1.wri ⟨by omega, by omega⟩ (by omega)).mono ?_; rintro e w2 h2; obtain ⟨rfl, v2, T2⟩ := h2)) | fail)
  have S2 := S1.trans T2
  clear T2 x0 x1 hwn
  go_wp2_with fail
  have D3 := S2.non ((Chg.refl Non w2).drew)
  have x0 := D3.cell hx0 hw
  have x1 := D3.cell hx1 hw
  have hwn := D3.nw hw hBw
  go_region_held (fun w' => w'.cell? ⟨w.heap.size, 0, none⟩ = some (.pointer (some ⟨g, 0, none⟩)) ∧ w'.cell? ⟨w.heap.size, 1, none⟩ = some (.pointer none)) (first | exact ⟨y0, y1⟩ | exact ⟨x0, x1⟩ | assumption) (first | (go_at_call 53; go_loud (refine (header_w g _ _ v2 b o x.header D3.wri (D3.range f0 hb) (D3.nw hb hBl) (by have := D3.chg.size; omega) ox.header (by simp [num_length]; omega)).mono ?_; rintro e w3 h3; have y0 := h3.chg.cell x0 hwn; have y1 := h3.chg.cell x1 hwn; rcases h3.cases with ⟨k3, he, C⟩ | ⟨k3, he, v3, T3⟩; (subst he; obtain rfl : ok = false := HOK.out.symm.trans (by simp [Lt.right, k3]); exact ⟨rfl, rfl, S0.chg.trans (D3.chg.trans C D3.wft) S0.wft⟩); subst he)) | fail)
  have S3 := D3.trans T3
  clear D3 T3 x0 x1 hwn y0 y1
  clear h3
  go_wp2_with fail
  have D4 := S3.non ((Chg.refl Non w3).drew)
  have x0 := D4.cell hx0 hw
  have x1 := D4.cell hx1 hw
  have hwn := D4.nw hw hBw
  go_region_held (fun w' => w'.cell? ⟨w.heap.size, 0, none⟩ = some (.pointer (some ⟨g, 0, none⟩)) ∧ w'.cell? ⟨w.heap.size, 1, none⟩ = some (.pointer none)) (first | exact ⟨y0, y1⟩ | exact ⟨x0, x1⟩ | assumption) (first | (go_at_call 66; go_loud (refine (commit_w g _ _ v3 b (o + 163) A1 c1 x.commit D4.wri (D4.range f1 hb) hl1 (K1.later D4) ox.commit (by have := Q1.out k3 ox.header; simp [num_length]; omega) (D4.nw hb hBl) (by have := D4.chg.size; omega)).mono ?_; rintro e w4 h4; have y0 := h4.chg.cell x0 hwn; have y1 := h4.chg.cell x1 hwn; rcases h4.cases with ⟨k4, he, C⟩ | ⟨k4, he, v4, T4⟩; (subst he; obtain rfl : ok = false := HOK.out.symm.trans (by simp [Lt.right, k3, k4]); exact ⟨rfl, rfl, S0.chg.trans (D4.chg.trans C D4.wft) S0.wft⟩); subst he)) | fail)
  have S4 := D4.trans T4
  clear D4 T4 x0 x1 hwn y0 y1
  clear h4
  go_wp2_with fail
  have D5 := S4.non ((Chg.refl Non w4).drew)
  have x0 := D5.cell hx0 hw
  have x1 := D5.cell hx1 hw
  have hwn := D5.nw hw hBw
  go_region_held (fun w' => w'.cell? ⟨w.heap.size, 0, none⟩ = some (.pointer (some ⟨g, 0, none⟩)) ∧ w'.cell? ⟨w.heap.size, 1, none⟩ = some (.pointer none)) (first | exact ⟨y0, y1⟩ | exact ⟨x0, x1⟩ | assumption) (first | (go_at_call 63; go_loud (refine (set_w g _ _ v4 b (o + 198) A2 c2 x.set D5.wri (D5.cell f2 hb) hl2 (K2.later D5) ox.set (by have := Q1.out k3 ox.header; have := Q2.out k4 ox.commit; simp [num_length]; omega) (D5.nw hb hBl) (by have := D5.chg.size; omega)).mono ?_; rintro e w5 h5; have y0 := h5.chg.cell x0 hwn; have y1 := h5.chg.cell x1 hwn; rcases h5.cases with ⟨k5, he, C⟩ | ⟨k5, he, v5, T5⟩; (subst he; obtain rfl : ok = false := HOK.out.symm.trans (by simp [Lt.right, k3, k4, k5]); exact ⟨rfl, rfl, S0.chg.trans (D5.chg.trans C D5.wft) S0.wft⟩); subst he)) | fail)
  have S5 := D5.trans T5
  clear D5 T5 x0 x1 hwn y0 y1
  clear h5
  go_wp2_with fail
  have D6 := S5.non ((Chg.refl Non w5).drew)
  have x0 := D6.cell hx0 hw
  have x1 := D6.cell hx1 hw
  have hwn := D6.nw hw hBw
  go_region_held (fun w' => w'.cell? ⟨w.heap.size, 0, none⟩ = some (.pointer (some ⟨g, 0, none⟩)) ∧ w'.cell? ⟨w.heap.size, 1, none⟩ = some (.pointer none)) (first | exact ⟨y0, y1⟩ | exact ⟨x0, x1⟩ | assumption) (first | (go_at_call 63; go_loud (refine (set_w g _ _ v5 b (o + 199) A3 c3 x.next D6.wri (D6.cell f3 hb) hl3 (K3.later D6) ox.next (by have := Q1.out k3 ox.header; have := Q2.out k4 ox.commit; have := Q3.out k5; simp [num_length]; omega) (D6.nw hb hBl) (by have := D6.chg.size; omega)).mono ?_; rintro e w6 h6; have y0 := h6.chg.cell x0 hwn; have y1 := h6.chg.cell x1 hwn; rcases h6.cases with ⟨k6, he, C⟩ | ⟨k6, he, v6, T6⟩; (subst he; obtain rfl : ok = false := HOK.out.symm.trans (by simp [Lt.right, k3, k4, k5, k6]); exact ⟨rfl, rfl, S0.chg.trans (D6.chg.trans C D6.wft) S0.wft⟩); subst he)) | fail)
  have S6 := D6.trans T6
  clear D6 T6 x0 x1 hwn y0 y1
  clear h6
  obtain rfl : ok = true := HOK.out.symm.trans (by simp [Lt.right, k3, k4, k5, k6])
  go_wp2
  go_end0
  refine ⟨rfl, v6, ?_⟩
  have S := S0.trans S6
  simpa [Lt.enc, List.append_assoc] using S

end Go.Proofs.Ytjcfdclgddjaoaa
