/- Package forms: packets, written: contracts. -/
import Derived.Test.YtjcfdclgddjaoaaChecked
import Derived.WalkKit
import Derived.WalkLawsBesides
import Derived.Lib.Hide
import Derived.Deep.RegionHeld3
import Derived.Test.YtjcfdclgddjaoaaFt
import Derived.Test.YtjcfdclgddjaoaaFw
namespace Go.Proofs.Ytjcfdclgddjaoaa
open Go.RowKit
set_option linter.unusedVariables false
set_option maxRecDepth 20000
set_option maxHeartbeats 1600000 in
theorem packet_w (g : Nat) (l : List UInt8) (w : World) (v : Value) (b o : Nat) (x : Pk) (h : Wri w g v (some l)) (hc : w.rangeAt b o x.cells) (hb : ¬ Wft g v b) (hbl : b < w.heap.size) (ox : x.Ok) (hl : l.length ≤ 100000) :
    Calls Try.prog 39 #[.agg #[.pointer (some ⟨g, 0, none⟩), .pointer none], .pointer (some ⟨b, o, none⟩)] w (WO w g v x.right (l ++ x.enc)) := by
  have S0 := (Wst.here h).non ((Chg.refl Non w).alloc (.cells #[.pointer (some ⟨g, 0, none⟩), .pointer none] 138))
  have R0 := ((Chg.refl Non w).alloc (.cells #[.pointer (some ⟨g, 0, none⟩), .pointer none] 138)).range' hc (fun f => f)
  have hw := h.nnew (Nat.le_refl w.heap.size)
  have hx := Hb.new w 138 #[.pointer (some ⟨g, 0, none⟩), .pointer none]
  have hx0 : (w.alloc (.cells #[.pointer (some ⟨g, 0, none⟩), .pointer none] 138)).cell? ⟨w.heap.size, 0, none⟩ = some (.pointer (some ⟨g, 0, none⟩)) := hx.cell 0
  have hx1 : (w.alloc (.cells #[.pointer (some ⟨g, 0, none⟩), .pointer none] 138)).cell? ⟨w.heap.size, 1, none⟩ = some (.pointer none) := hx.cell 1
  have hBl : b < (w.alloc (.cells #[.pointer (some ⟨g, 0, none⟩), .pointer none] 138)).heap.size := by simp; omega
  have hBw : w.heap.size < (w.alloc (.cells #[.pointer (some ⟨g, 0, none⟩), .pointer none] 138)).heap.size := by simp
  have S1 := Wst.here (S0.wri)
  obtain ⟨B, hB⟩ : ∃ B, B = w.alloc (.cells #[.pointer (some ⟨g, 0, none⟩), .pointer none] 138) := ⟨_, rfl⟩
  obtain ⟨f0, f1, f2, f3⟩ := pk_facts R0
  rw [← hB] at f0 f1 f2 f3
  generalize hok : x.right = ok
  have HOK := Lib.hid hok
  clear hok hx hc
  go_enter Try.func39, Try.ntmps39
  go_wp2_with fail
  rw [← hB] at S0 R0 hx0 hx1 hBl hBw S1 ⊢
  clear hB
  have x0 := S1.cell hx0 hw
  have x1 := S1.cell hx1 hw
  have hwn := S1.nw hw hBw
  go_wp2_with (first | (go_at_call 79; refine (begin_w g l _ v 6 S1.wri ⟨by omega, by omega⟩ (by omega)).mono ?_; rintro e w2 h2; obtain ⟨rfl, v2, T2⟩ := h2) | fail)
  have S2 := S1.trans T2
  clear T2 x0 x1 hwn
  go_wp2_with fail
  have D3 := S2.non ((Chg.refl Non w2).drew)
  have x0 := D3.cell hx0 hw
  have x1 := D3.cell hx1 hw
  have hwn := D3.nw hw hBw
  go_region_held (fun w' => w'.cell? ⟨w.heap.size, 0, none⟩ = some (.pointer (some ⟨g, 0, none⟩)) ∧ w'.cell? ⟨w.heap.size, 1, none⟩ = some (.pointer none)) (first | exact ⟨y0, y1⟩ | exact ⟨x0, x1⟩ | assumption) (first | (go_at_call 80; go_loud (refine (numberI_w g _ _ v2 b o x.seq 1 1099511627776 D3.wri (D3.cell f0 hb) (D3.nw hb hBl) ox.seq (by simp [be_length, num_length, tx_length, bytes_len]; omega)).mono ?_; rintro e w3 h3; have y0 := h3.chg.cell x0 hwn; have y1 := h3.chg.cell x1 hwn; rcases h3.cases with ⟨k3, he, C⟩ | ⟨k3, he, v3, T3⟩; (subst he; obtain rfl : ok = false := HOK.out.symm.trans (by simp [Pk.right, k3]); exact ⟨rfl, rfl, S0.chg.trans (D3.chg.trans C D3.wft) S0.wft⟩); subst he)) | fail)
  have S3 := D3.trans T3
  clear D3 T3 x0 x1 hwn y0 y1
  clear h3
  go_wp2_with fail
  have D4 := S3.non ((Chg.refl Non w3).drew)
  have x0 := D4.cell hx0 hw
  have x1 := D4.cell hx1 hw
  have hwn := D4.nw hw hBw
  go_region_held (fun w' => w'.cell? ⟨w.heap.size, 0, none⟩ = some (.pointer (some ⟨g, 0, none⟩)) ∧ w'.cell? ⟨w.heap.size, 1, none⟩ = some (.pointer none)) (first | exact ⟨y0, y1⟩ | exact ⟨x0, x1⟩ | assumption) (first | (go_at_call 81; go_loud (refine (name_w g _ _ v3 b (o + 1) x.from D4.wri (D4.cell f1 hb) (D4.nw hb hBl) ox.from (by simp [be_length, num_length, tx_length, bytes_len]; omega)).mono ?_; rintro e w4 h4; have y0 := h4.chg.cell x0 hwn; have y1 := h4.chg.cell x1 hwn; rcases h4.cases with ⟨k4, he, C⟩ | ⟨k4, he, v4, T4⟩; (subst he; obtain rfl : ok = false := HOK.out.symm.trans (by simp [Pk.right, k3, k4]); exact ⟨rfl, rfl, S0.chg.trans (D4.chg.trans C D4.wft) S0.wft⟩); subst he)) | fail)
  have S4 := D4.trans T4
  clear D4 T4 x0 x1 hwn y0 y1
  clear h4
  go_wp2_with fail
  have D5 := S4.non ((Chg.refl Non w4).drew)
  have x0 := D5.cell hx0 hw
  have x1 := D5.cell hx1 hw
  have hwn := D5.nw hw hBw
  go_region_held (fun w' => w'.cell? ⟨w.heap.size, 0, none⟩ = some (.pointer (some ⟨g, 0, none⟩)) ∧ w'.cell? ⟨w.heap.size, 1, none⟩ = some (.pointer none)) (first | exact ⟨y0, y1⟩ | exact ⟨x0, x1⟩ | assumption) (first | (go_at_call 82; go_loud (refine (textI_w g _ _ v4 b (o + 2) x.data 256 D5.wri (D5.cell f2 hb) (D5.nw hb hBl) ox.data (by omega) (by simp [be_length, num_length, tx_length, bytes_len]; have := nameOk_size k4; omega)).mono ?_; rintro e w5 h5; have y0 := h5.chg.cell x0 hwn; have y1 := h5.chg.cell x1 hwn; rcases h5.cases with ⟨k5, he, C⟩ | ⟨k5, he, v5, T5⟩; (subst he; obtain rfl : ok = false := HOK.out.symm.trans (by simp [Pk.right, k3, k4, k5]); exact ⟨rfl, rfl, S0.chg.trans (D5.chg.trans C D5.wft) S0.wft⟩); subst he)) | fail)
  have S5 := D5.trans T5
  clear D5 T5 x0 x1 hwn y0 y1
  clear h5
  go_wp2_with fail
  have D6 := S5.non ((Chg.refl Non w5).drew)
  have x0 := D6.cell hx0 hw
  have x1 := D6.cell hx1 hw
  have hwn := D6.nw hw hBw
  go_region_held (fun w' => w'.cell? ⟨w.heap.size, 0, none⟩ = some (.pointer (some ⟨g, 0, none⟩)) ∧ w'.cell? ⟨w.heap.size, 1, none⟩ = some (.pointer none)) (first | exact ⟨y0, y1⟩ | exact ⟨x0, x1⟩ | assumption) (first | (go_at_call 83; go_loud (refine (height_w g _ _ v5 b (o + 3) x.timeout D6.wri (D6.cell f3 hb) (D6.nw hb hBl) ox.timeout (by simp [be_length, num_length, tx_length, bytes_len]; have := nameOk_size k4; have := of_decide_eq_true k5; omega)).mono ?_; rintro e w6 h6; have y0 := h6.chg.cell x0 hwn; have y1 := h6.chg.cell x1 hwn; rcases h6.cases with ⟨k6, he, C⟩ | ⟨k6, he, v6, T6⟩; (subst he; obtain rfl : ok = false := HOK.out.symm.trans (by simp [Pk.right, k3, k4, k5, k6]); exact ⟨rfl, rfl, S0.chg.trans (D6.chg.trans C D6.wft) S0.wft⟩); subst he)) | fail)
  have S6 := D6.trans T6
  clear D6 T6 x0 x1 hwn y0 y1
  clear h6
  obtain rfl : ok = true := HOK.out.symm.trans (by simp [Pk.right, k3, k4, k5, k6])
  go_wp2
  go_end0
  refine ⟨rfl, v6, ?_⟩
  have S := S0.trans S6
  simpa [Pk.enc, List.append_assoc] using S

end Go.Proofs.Ytjcfdclgddjaoaa
