/- Package forms: the things, written: contracts. -/
import Derived.Test.YtjcfdclgddjaoaaChecked
import Derived.WalkKit
import Derived.WalkLawsBesides
import Derived.Lib.Hide
import Derived.Deep.RegionHeld3
import Derived.Test.YtjcfdclgddjaoaaFt
namespace Go.Proofs.Ytjcfdclgddjaoaa
open Go.RowKit
set_option linter.unusedVariables false
set_option linter.unusedSimpArgs false
set_option maxRecDepth 20000

theorem name_w (g : Nat) (l : List UInt8) (w : World) (v : Value) (b o : Nat) (s : ByteArray) (h : Wri w g v (some l)) (hc : w.cell? ⟨b, o, none⟩ = some (.string s)) (hb : ¬ Wft g v b) (hm : s.size ≤ maxLen) (hl : l.length ≤ 1000000000) :
    Calls Try.prog 81 #[.agg #[.pointer (some ⟨g, 0, none⟩), .pointer none], .pointer (some ⟨b, o, none⟩)] w (WO w g v (nameOk s) (l ++ tx s.data.toList)) := by
  have S1 := (Wst.here h).non ((Chg.refl Non w).alloc (.cells #[.pointer (some ⟨g, 0, none⟩), .pointer none] 138))
  have c1 := ((Chg.refl Non w).alloc (.cells #[.pointer (some ⟨g, 0, none⟩), .pointer none] 138)).cell hc (fun f => f)
  have H := name_gen w (some ⟨g, 0, none⟩) none b o s hm (fun w' => Chg (Wft g v) w w' ∧ (s.size ≤ 16 → ∃ v', Wst w g v (l ++ tx s.data.toList) w' v'))
    (fun w1 w2 ⟨h1, h2⟩ k => ⟨h1.trans k (fun _ f => f.elim), fun hs => by obtain ⟨v', T⟩ := h2 hs; exact ⟨v', T.non k⟩⟩)
    ((text_w g l _ v b o s 16 S1.wri c1 hb hm (by omega) hl).mono fun e w' ⟨h1, h2⟩ => by
      have h3 := WO.after S1 h1
      refine ⟨?_, ⟨h3.chg, fun hs => ?_⟩, fun _ => h2⟩
      · revert h3; cases decide (s.size ≤ 16) <;> exact fun h3 => h3.1
      · rw [decide_eq_true hs] at h3; exact h3.2)
  refine H.mono ?_
  rintro e w' ⟨he, h1, h2⟩
  cases hk : nameOk s with
  | true => rw [hk] at he; exact ⟨he, h2 (nameOk_size hk)⟩
  | false => rw [hk] at he; exact ⟨he, h1⟩

theorem begin_w (g : Nat) (l : List UInt8) (w : World) (v : Value) (k : Int) (h : Wri w g v (some l)) (hk : I64 k) (hl : l.length ≤ 1000000000) :
    Calls Try.prog 79 #[.agg #[.pointer (some ⟨g, 0, none⟩), .pointer none], .int .i64 k] w (WO w g v true (l ++ num k)) := by
  have S1 := (Wst.here h).non (((Chg.refl Non w).alloc (.cells #[.pointer (some ⟨g, 0, none⟩), .pointer none] 138)).alloc (.cells #[.int .i64 k] 3))
  have hx0 := ((Hb.new w 138 #[.pointer (some ⟨g, 0, none⟩), .pointer none]).alloc (.cells #[.int .i64 k] 3)).cell 0
  have hx1 := ((Hb.new w 138 #[.pointer (some ⟨g, 0, none⟩), .pointer none]).alloc (.cells #[.int .i64 k] 3)).cell 1
  have c1 : ((w.alloc (.cells #[.pointer (some ⟨g, 0, none⟩), .pointer none] 138)).alloc (.cells #[.int .i64 k] 3)).cell? ⟨w.heap.size + 1, 0, none⟩ = some (.int .i64 k) := by
    have := (Hb.new (w.alloc (.cells #[.pointer (some ⟨g, 0, none⟩), .pointer none] 138)) 3 #[.int .i64 k]).cell 0
    rwa [show (w.alloc (.cells #[.pointer (some ⟨g, 0, none⟩), .pointer none] 138)).heap.size = w.heap.size + 1 by simp] at this
  have H := number_w g l _ v (w.heap.size + 1) 0 k k k S1.wri c1 (fun hj => h.nnew (by omega) hj) hk.l hk.h hl
  rw [decide_eq_true (show k ≤ k ∧ k ≤ k from ⟨Int.le_refl _, Int.le_refl _⟩)] at H
  have HH := Lib.hid H
  clear H
  go_enter Try.func79, Try.ntmps79
  go_wp2_with fail
  refine HH.out.mono ?_
  rintro e w1 h1
  obtain ⟨rfl, h3⟩ := WO.after S1 h1
  go_wp2
  go_end0
  exact ⟨rfl, h3⟩

theorem WO.cases {w w' : World} {g : Nat} {v : Value} {ok : Bool} {l : List UInt8} {e : Ending} (h : WO w g v ok l e w') : (ok = false ∧ e = .panicked bad ∧ Chg (Wft g v) w w') ∨ (ok = true ∧ e = .returned (.tuple #[]) ∧ ∃ v', Wst w g v l w' v') := by
  cases ok with
  | true => exact .inr ⟨rfl, h.1, h.2⟩
  | false => exact .inl ⟨rfl, h.1, h.2⟩
theorem numberI_w (g : Nat) (l : List UInt8) (w : World) (v : Value) (b o : Nat) (n lo hi : Int) (h : Wri w g v (some l)) (hc : w.cell? ⟨b, o, none⟩ = some (.int .i64 n)) (hb : ¬ Wft g v b) (hn : I64 n) (hl : l.length ≤ 1000000000) :
    Calls Try.prog 80 #[.agg #[.pointer (some ⟨g, 0, none⟩), .pointer none], .pointer (some ⟨b, o, none⟩), .int .i64 lo, .int .i64 hi] w (WO w g v (inR lo hi n) (l ++ num n)) := number_w g l w v b o n lo hi h hc hb hn.l hn.h hl
theorem textI_w (g : Nat) (l : List UInt8) (w : World) (v : Value) (b o : Nat) (s : ByteArray) (most : Nat) (h : Wri w g v (some l)) (hc : w.cell? ⟨b, o, none⟩ = some (.string s)) (hb : ¬ Wft g v b) (hm : s.size ≤ maxLen) (hmost : most ≤ 4096) (hl : l.length ≤ 1000000000) :
    Calls Try.prog 82 #[.agg #[.pointer (some ⟨g, 0, none⟩), .pointer none], .pointer (some ⟨b, o, none⟩), .int .i64 (most : Int)] w (WO w g v (decide (s.size ≤ most)) (l ++ tx s.data.toList)) := (text_w g l w v b o s most h hc hb hm hmost hl).mono fun _ _ h => h.1
theorem numberTI_w (g : Nat) (l : List UInt8) (w : World) (v : Value) (b o : Nat) (n lo hi : Int) (h : Wri w g v (some l)) (hc : w.cell? ⟨b, o, none⟩ = some (.int .i64 n)) (hb : ¬ Wft g v b) (hn : I64 n) (hl : l.length ≤ 1000000000) :
    Calls Try.prog 92 #[.agg #[.pointer (some ⟨g, 0, none⟩), .pointer none], .pointer (some ⟨b, o, none⟩), .int .i64 lo, .int .i64 hi] w (WO w g v (inR lo hi n) (l ++ num n)) := numberT_w g l w v b o n lo hi h hc hb hn.l hn.h hl

theorem height_w (g : Nat) (l : List UInt8) (w : World) (v : Value) (b o : Nat) (n : Int) (h : Wri w g v (some l)) (hc : w.cell? ⟨b, o, none⟩ = some (.int .i64 n)) (hb : ¬ Wft g v b) (hn : I64 n) (hl : l.length ≤ 1000000000) :
    Calls Try.prog 83 #[.agg #[.pointer (some ⟨g, 0, none⟩), .pointer none], .pointer (some ⟨b, o, none⟩)] w (WO w g v (inR 1 1099511627776 n) (l ++ num n)) := by
  have S1 := (Wst.here h).non ((Chg.refl Non w).alloc (.cells #[.pointer (some ⟨g, 0, none⟩), .pointer none] 138))
  have c1 := ((Chg.refl Non w).alloc (.cells #[.pointer (some ⟨g, 0, none⟩), .pointer none] 138)).cell hc (fun f => f)
  have H : Calls Try.prog _ _ _ (WO _ g v (inR 1 1099511627776 n) (l ++ num n)) := number_w g l _ v b o n 1 1099511627776 S1.wri c1 hb hn.l hn.h hl
  generalize inR 1 1099511627776 n = ok at *
  go_enter Try.func83, Try.ntmps83
  go_wp2_with fail
  refine H.mono ?_
  rintro e w1 h1
  have h2 := WO.after S1 h1
  cases ok with
  | true =>
    obtain ⟨rfl, h3⟩ := h2
    go_wp2
    go_end0
    exact ⟨rfl, h3⟩
  | false =>
    obtain ⟨rfl, h3⟩ := h2
    go_wp2
    exact ⟨rfl, rfl, h3⟩

theorem round_w (g : Nat) (l : List UInt8) (w : World) (v : Value) (b o : Nat) (n : Int) (h : Wri w g v (some l)) (hc : w.cell? ⟨b, o, none⟩ = some (.int .i64 n)) (hb : ¬ Wft g v b) (hn : I64 n) (hl : l.length ≤ 1000000000) :
    Calls Try.prog 91 #[.agg #[.pointer (some ⟨g, 0, none⟩), .pointer none], .pointer (some ⟨b, o, none⟩)] w (WO w g v (inR 0 1048576 n) (l ++ num n)) := by
  have S1 := (Wst.here h).non ((Chg.refl Non w).alloc (.cells #[.pointer (some ⟨g, 0, none⟩), .pointer none] 138))
  have c1 := ((Chg.refl Non w).alloc (.cells #[.pointer (some ⟨g, 0, none⟩), .pointer none] 138)).cell hc (fun f => f)
  have H : Calls Try.prog _ _ _ (WO _ g v (inR 0 1048576 n) (l ++ num n)) := number_w g l _ v b o n 0 1048576 S1.wri c1 hb hn.l hn.h hl
  generalize inR 0 1048576 n = ok at *
  go_enter Try.func91, Try.ntmps91
  go_wp2_with fail
  refine H.mono ?_
  rintro e w1 h1
  have h2 := WO.after S1 h1
  cases ok with
  | true =>
    obtain ⟨rfl, h3⟩ := h2
    go_wp2
    go_end0
    exact ⟨rfl, h3⟩
  | false =>
    obtain ⟨rfl, h3⟩ := h2
    go_wp2
    exact ⟨rfl, rfl, h3⟩

theorem signature_w (g : Nat) (l : List UInt8) (w : World) (v : Value) (b o m n : Nat) (h : Wri w g v (some l)) (hm : w.cell? ⟨b, o, none⟩ = some (.int .u64 (m : Int))) (hn : w.cell? ⟨b, o + 1, none⟩ = some (.int .u64 (n : Int))) (hb : ¬ Wft g v b) (hbl : b < w.heap.size) (hmm : m < 18446744073709551616) (hnn : n < 18446744073709551616) (hl : l.length ≤ 900000000) :
    Calls Try.prog 95 #[.agg #[.pointer (some ⟨g, 0, none⟩), .pointer none], .pointer (some ⟨b, o, none⟩)] w (WO w g v true (l ++ (be 8 m ++ be 8 n))) := by
  have S0 := (Wst.here h).non ((Chg.refl Non w).alloc (.cells #[.pointer (some ⟨g, 0, none⟩), .pointer none] 138))
  have c1 := ((Chg.refl Non w).alloc (.cells #[.pointer (some ⟨g, 0, none⟩), .pointer none] 138)).cell hm (fun f => f)
  have c2 := ((Chg.refl Non w).alloc (.cells #[.pointer (some ⟨g, 0, none⟩), .pointer none] 138)).cell hn (fun f => f)
  have hw := h.nnew (Nat.le_refl w.heap.size)
  have hx := Hb.new w 138 #[.pointer (some ⟨g, 0, none⟩), .pointer none]
  have hx0 : (w.alloc (.cells #[.pointer (some ⟨g, 0, none⟩), .pointer none] 138)).cell? ⟨w.heap.size, 0, none⟩ = some (.pointer (some ⟨g, 0, none⟩)) := hx.cell 0
  have hx1 : (w.alloc (.cells #[.pointer (some ⟨g, 0, none⟩), .pointer none] 138)).cell? ⟨w.heap.size, 1, none⟩ = some (.pointer none) := hx.cell 1
  have hBl : b < (w.alloc (.cells #[.pointer (some ⟨g, 0, none⟩), .pointer none] 138)).heap.size := by simp; omega
  have hBw : w.heap.size < (w.alloc (.cells #[.pointer (some ⟨g, 0, none⟩), .pointer none] 138)).heap.size := by simp
  have S1 := Wst.here (S0.wri)
  clear hx hm hn
  go_enter Try.func95, Try.ntmps95
  go_wp2_with fail
  generalize w.alloc (.cells #[.pointer (some ⟨g, 0, none⟩), .pointer none] 138) = B at *
  have D2 := S1.non ((Chg.refl Non B).drew)
  have x0 := D2.cell hx0 hw
  have x1 := D2.cell hx1 hw
  have hwn := D2.nw hw hBw
  go_region_held3 (fun w' => w'.cell? ⟨w.heap.size, 0, none⟩ = some (.pointer (some ⟨g, 0, none⟩)) ∧ w'.cell? ⟨w.heap.size, 1, none⟩ = some (.pointer none)) (first | exact ⟨x0, x1⟩ | exact ⟨y0, y1⟩ | assumption) (first | (go_at_call 94; refine (word_w g l _ v b o m D2.wri (D2.cell c1 hb) (D2.nw hb hBl) hmm (by omega)).mono ?_; rintro e w2 h2; have y0 := h2.chg.cell x0 hwn; have y1 := h2.chg.cell x1 hwn; obtain ⟨rfl, v2, T2⟩ := h2) | fail)
  have S2 := D2.trans T2
  clear D2 T2 x0 x1 hwn y0 y1
  go_wp2_with fail
  have D3 := S2.non ((Chg.refl Non w2).drew)
  have x0 := D3.cell hx0 hw
  have x1 := D3.cell hx1 hw
  have hwn := D3.nw hw hBw
  go_region_held3 (fun w' => w'.cell? ⟨w.heap.size, 0, none⟩ = some (.pointer (some ⟨g, 0, none⟩)) ∧ w'.cell? ⟨w.heap.size, 1, none⟩ = some (.pointer none)) (first | exact ⟨x0, x1⟩ | exact ⟨y0, y1⟩ | assumption) (first | (go_at_call 94; refine (word_w g (l ++ be 8 m) _ v2 b (o + 1) n D3.wri (D3.cell c2 hb) (D3.nw hb hBl) hnn (by rw [List.length_append, be_length]; omega)).mono ?_; rintro e w3 h3; have y0 := h3.chg.cell x0 hwn; have y1 := h3.chg.cell x1 hwn; obtain ⟨rfl, v3, T3⟩ := h3) | fail)
  have S3 := D3.trans T3
  go_wp2
  go_end0
  refine ⟨rfl, v3, ?_⟩
  have S := S0.trans S3
  simpa [List.append_assoc] using S

theorem vt_facts {w : World} {b o : Nat} {x : Vt} (R : w.rangeAt b o x.cells) (ox : x.Ok) : w.cell? ⟨b, o, none⟩ = some (.string x.chain) ∧ w.cell? ⟨b, o + 1, none⟩ = some (.int .i64 x.height) ∧ w.cell? ⟨b, o + 2, none⟩ = some (.int .i64 x.round) ∧ w.cell? ⟨b, o + 3, none⟩ = some (.int .i64 x.type) ∧ w.rangeAt b (o + 4) (bv x.block) ∧ w.cell? ⟨b, o + 36, none⟩ = some (.int .u64 (x.key : Int)) ∧ w.cell? ⟨b, o + 37, none⟩ = some (.int .u64 (x.r : Int)) ∧ w.cell? ⟨b, o + 38, none⟩ = some (.int .u64 (x.s : Int)) := by
  obtain ⟨r1, r2⟩ := rangeAt_app R
  obtain ⟨f0, r1⟩ := rangeAt_cons r1
  obtain ⟨f1, r1⟩ := rangeAt_cons r1
  obtain ⟨f2, r1⟩ := rangeAt_cons r1
  obtain ⟨f3, _⟩ := rangeAt_cons r1
  obtain ⟨f4, r2⟩ := rangeAt_app r2
  obtain ⟨f5, r2⟩ := rangeAt_cons r2
  obtain ⟨f6, r2⟩ := rangeAt_cons r2
  obtain ⟨f7, _⟩ := rangeAt_cons r2
  rw [bv_length, ox.block] at f5 f6 f7
  exact ⟨f0, f1, f2, f3, f4, f5, f6, f7⟩
theorem pk_facts {w : World} {b o : Nat} {x : Pk} (R : w.rangeAt b o x.cells) : w.cell? ⟨b, o, none⟩ = some (.int .i64 x.seq) ∧ w.cell? ⟨b, o + 1, none⟩ = some (.string x.from) ∧ w.cell? ⟨b, o + 2, none⟩ = some (.string x.data) ∧ w.cell? ⟨b, o + 3, none⟩ = some (.int .i64 x.timeout) := by
  obtain ⟨f0, r1⟩ := rangeAt_cons R
  obtain ⟨f1, r1⟩ := rangeAt_cons r1
  obtain ⟨f2, r1⟩ := rangeAt_cons r1
  obtain ⟨f3, _⟩ := rangeAt_cons r1
  exact ⟨f0, f1, f2, f3⟩
theorem hd_facts {w : World} {b o : Nat} {x : Hd} (R : w.rangeAt b o x.cells) (ox : x.Ok) : w.cell? ⟨b, o, none⟩ = some (.string x.chain) ∧ w.cell? ⟨b, o + 1, none⟩ = some (.int .i64 x.height) ∧ w.cell? ⟨b, o + 2, none⟩ = some (.int .i64 x.time) ∧ w.rangeAt b (o + 3) (bv x.last) ∧ w.rangeAt b (o + 35) (bv x.set) ∧ w.rangeAt b (o + 67) (bv x.next) ∧ w.rangeAt b (o + 99) (bv x.data) ∧ w.rangeAt b (o + 131) (bv x.app) := by
  obtain ⟨r1, r2⟩ := rangeAt_app R
  obtain ⟨f0, r1⟩ := rangeAt_cons r1
  obtain ⟨f1, r1⟩ := rangeAt_cons r1
  obtain ⟨f2, r1⟩ := rangeAt_cons r1
  obtain ⟨f3, r2⟩ := rangeAt_app r2
  obtain ⟨f4, r2⟩ := rangeAt_app r2
  obtain ⟨f5, r2⟩ := rangeAt_app r2
  obtain ⟨f6, f7⟩ := rangeAt_app r2
  simp only [bv_length, ox.last, ox.set, ox.next, ox.data] at f4 f5 f6 f7
  exact ⟨f0, f1, f2, f3, f4, f5, f6, f7⟩

set_option maxHeartbeats 1600000 in
theorem vote_w (g : Nat) (l : List UInt8) (w : World) (v : Value) (b o : Nat) (x : Vt) (h : Wri w g v (some l)) (hc : w.rangeAt b o x.cells) (hb : ¬ Wft g v b) (hbl : b < w.heap.size) (ox : x.Ok) (hl : l.length ≤ 100000) :
    Calls Try.prog 48 #[.agg #[.pointer (some ⟨g, 0, none⟩), .pointer none], .pointer (some ⟨b, o, none⟩)] w (WO w g v x.right (l ++ x.enc)) := by
  have S0 := (Wst.here h).non ((Chg.refl Non w).alloc (.cells #[.pointer (some ⟨g, 0, none⟩), .pointer none] 138))
  have R0 := ((Chg.refl Non w).alloc (.cells #[.pointer (some ⟨g, 0, none⟩), .pointer none] 138)).range' hc (fun f => f)
  have hw := h.nnew (Nat.le_refl w.heap.size)
  have hx := Hb.new w 138 #[.pointer (some ⟨g, 0, none⟩), .pointer none]
  have hx0 : (w.alloc (.cells #[.pointer (some ⟨g, 0, none⟩), .pointer none] 138)).cell? ⟨w.heap.size, 0, none⟩ = some (.pointer (some ⟨g, 0, none⟩)) := hx.cell 0
  have hx1 : (w.alloc (.cells #[.pointer (some ⟨g, 0, none⟩), .pointer none] 138)).cell? ⟨w.heap.size, 1, none⟩ = some (.pointer none) := hx.cell 1
  have hBl : b < (w.alloc (.cells #[.pointer (some ⟨g, 0, none⟩), .pointer none] 138)).heap.size := by simp; omega
  have hBw : w.heap.size < (w.alloc (.cells #[.pointer (some ⟨g, 0, none⟩), .pointer none] 138)).heap.size := by simp
  have S1 := Wst.here (S0.wri)
  obtain ⟨B, hB⟩ : ∃ B, B = w.alloc (.cells #[.pointer (some ⟨g, 0, none⟩), .pointer none] 138) := ⟨_, rfl⟩
  obtain ⟨f0, f1, f2, f3, f4, f5, f6, f7⟩ := vt_facts R0 ox
  rw [← hB] at f0 f1 f2 f3 f4 f5 f6 f7
  generalize hok : x.right = ok
  have HOK := Lib.hid hok
  clear hok hx hc
  go_enter Try.func48, Try.ntmps48
  go_wp2_with fail
  rw [← hB] at S0 R0 hx0 hx1 hBl hBw S1 ⊢
  clear hB
  have x0 := S1.cell hx0 hw
  have x1 := S1.cell hx1 hw
  have hwn := S1.nw hw hBw
  go_wp2_with (first | (go_at_call 79; refine (begin_w g l _ v 1 S1.wri ⟨by omega, by omega⟩ (by omega)).mono ?_; rintro e w2 h2; obtain ⟨rfl, v2, T2⟩ := h2) | fail)
  have S2 := S1.trans T2
  clear T2 x0 x1 hwn
  go_wp2_with fail
  have D3 := S2.non ((Chg.refl Non w2).drew)
  have x0 := D3.cell hx0 hw
  have x1 := D3.cell hx1 hw
  have hwn := D3.nw hw hBw
  go_region_held (fun w' => w'.cell? ⟨w.heap.size, 0, none⟩ = some (.pointer (some ⟨g, 0, none⟩)) ∧ w'.cell? ⟨w.heap.size, 1, none⟩ = some (.pointer none)) (first | exact ⟨y0, y1⟩ | exact ⟨x0, x1⟩ | assumption) (first | (go_at_call 81; go_loud (refine (name_w g _ _ v2 b o x.chain D3.wri (D3.cell f0 hb) (D3.nw hb hBl) ox.chain (by simp [be_length, num_length, tx_length, bytes_len]; omega)).mono ?_; rintro e w3 h3; have y0 := h3.chg.cell x0 hwn; have y1 := h3.chg.cell x1 hwn; rcases h3.cases with ⟨k3, he, C⟩ | ⟨k3, he, v3, T3⟩; (subst he; obtain rfl : ok = false := HOK.out.symm.trans (by simp [Vt.right, k3]); exact ⟨rfl, rfl, S0.chg.trans (D3.chg.trans C D3.wft) S0.wft⟩); subst he)) | fail)
  have S3 := D3.trans T3
  clear D3 T3 x0 x1 hwn y0 y1
  clear h3
  go_wp2_with fail
  have D4 := S3.non ((Chg.refl Non w3).drew)
  have x0 := D4.cell hx0 hw
  have x1 := D4.cell hx1 hw
  have hwn := D4.nw hw hBw
  go_region_held (fun w' => w'.cell? ⟨w.heap.size, 0, none⟩ = some (.pointer (some ⟨g, 0, none⟩)) ∧ w'.cell? ⟨w.heap.size, 1, none⟩ = some (.pointer none)) (first | exact ⟨y0, y1⟩ | exact ⟨x0, x1⟩ | assumption) (first | (go_at_call 83; go_loud (refine (height_w g _ _ v3 b (o + 1) x.height D4.wri (D4.cell f1 hb) (D4.nw hb hBl) ox.height (by simp [be_length, num_length, tx_length, bytes_len]; have := nameOk_size k3; omega)).mono ?_; rintro e w4 h4; have y0 := h4.chg.cell x0 hwn; have y1 := h4.chg.cell x1 hwn; rcases h4.cases with ⟨k4, he, C⟩ | ⟨k4, he, v4, T4⟩; (subst he; obtain rfl : ok = false := HOK.out.symm.trans (by simp [Vt.right, k3, k4]); exact ⟨rfl, rfl, S0.chg.trans (D4.chg.trans C D4.wft) S0.wft⟩); subst he)) | fail)
  have S4 := D4.trans T4
  clear D4 T4 x0 x1 hwn y0 y1
  clear h4
  go_wp2_with fail
  have D5 := S4.non ((Chg.refl Non w4).drew)
  have x0 := D5.cell hx0 hw
  have x1 := D5.cell hx1 hw
  have hwn := D5.nw hw hBw
  go_region_held (fun w' => w'.cell? ⟨w.heap.size, 0, none⟩ = some (.pointer (some ⟨g, 0, none⟩)) ∧ w'.cell? ⟨w.heap.size, 1, none⟩ = some (.pointer none)) (first | exact ⟨y0, y1⟩ | exact ⟨x0, x1⟩ | assumption) (first | (go_at_call 91; go_loud (refine (round_w g _ _ v4 b (o + 2) x.round D5.wri (D5.cell f2 hb) (D5.nw hb hBl) ox.round (by simp [be_length, num_length, tx_length, bytes_len]; have := nameOk_size k3; omega)).mono ?_; rintro e w5 h5; have y0 := h5.chg.cell x0 hwn; have y1 := h5.chg.cell x1 hwn; rcases h5.cases with ⟨k5, he, C⟩ | ⟨k5, he, v5, T5⟩; (subst he; obtain rfl : ok = false := HOK.out.symm.trans (by simp [Vt.right, k3, k4, k5]); exact ⟨rfl, rfl, S0.chg.trans (D5.chg.trans C D5.wft) S0.wft⟩); subst he)) | fail)
  have S5 := D5.trans T5
  clear D5 T5 x0 x1 hwn y0 y1
  clear h5
  go_wp2_with fail
  have D6 := S5.non ((Chg.refl Non w5).drew)
  have x0 := D6.cell hx0 hw
  have x1 := D6.cell hx1 hw
  have hwn := D6.nw hw hBw
  go_region_held (fun w' => w'.cell? ⟨w.heap.size, 0, none⟩ = some (.pointer (some ⟨g, 0, none⟩)) ∧ w'.cell? ⟨w.heap.size, 1, none⟩ = some (.pointer none)) (first | exact ⟨y0, y1⟩ | exact ⟨x0, x1⟩ | assumption) (first | (go_at_call 92; go_loud (refine (numberTI_w g _ _ v5 b (o + 3) x.type 1 2 D6.wri (D6.cell f3 hb) (D6.nw hb hBl) ox.type (by simp [be_length, num_length, tx_length, bytes_len]; have := nameOk_size k3; omega)).mono ?_; rintro e w6 h6; have y0 := h6.chg.cell x0 hwn; have y1 := h6.chg.cell x1 hwn; rcases h6.cases with ⟨k6, he, C⟩ | ⟨k6, he, v6, T6⟩; (subst he; obtain rfl : ok = false := HOK.out.symm.trans (by simp [Vt.right, k3, k4, k5, k6]); exact ⟨rfl, rfl, S0.chg.trans (D6.chg.trans C D6.wft) S0.wft⟩); subst he)) | fail)
  have S6 := D6.trans T6
  clear D6 T6 x0 x1 hwn y0 y1
  clear h6
  go_wp2_with fail
  have D7 := S6.non ((Chg.refl Non w6).drew)
  have x0 := D7.cell hx0 hw
  have x1 := D7.cell hx1 hw
  have hwn := D7.nw hw hBw
  go_region_held (fun w' => w'.cell? ⟨w.heap.size, 0, none⟩ = some (.pointer (some ⟨g, 0, none⟩)) ∧ w'.cell? ⟨w.heap.size, 1, none⟩ = some (.pointer none)) (first | exact ⟨y0, y1⟩ | exact ⟨x0, x1⟩ | assumption) (first | (go_at_call 93; go_loud (refine (hash_w g _ _ v6 b (o + 4) x.block ox.block D7.wri (D7.range f4 hb) (D7.nw hb hBl) (by simp [be_length, num_length, tx_length, bytes_len]; have := nameOk_size k3; omega)).mono ?_; rintro e w7 h7; have y0 := h7.chg.cell x0 hwn; have y1 := h7.chg.cell x1 hwn; obtain ⟨rfl, v7, T7⟩ := h7)) | fail)
  have S7 := D7.trans T7
  clear D7 T7 x0 x1 hwn y0 y1
  go_wp2_with fail
  have D8 := S7.non ((Chg.refl Non w7).drew)
  have x0 := D8.cell hx0 hw
  have x1 := D8.cell hx1 hw
  have hwn := D8.nw hw hBw
  go_region_held (fun w' => w'.cell? ⟨w.heap.size, 0, none⟩ = some (.pointer (some ⟨g, 0, none⟩)) ∧ w'.cell? ⟨w.heap.size, 1, none⟩ = some (.pointer none)) (first | exact ⟨y0, y1⟩ | exact ⟨x0, x1⟩ | assumption) (first | (go_at_call 94; go_loud (refine (word_w g _ _ v7 b (o + 36) x.key D8.wri (D8.cell f5 hb) (D8.nw hb hBl) ox.key (by simp [be_length, num_length, tx_length, bytes_len, ox.block]; have := nameOk_size k3; omega)).mono ?_; rintro e w8 h8; have y0 := h8.chg.cell x0 hwn; have y1 := h8.chg.cell x1 hwn; obtain ⟨rfl, v8, T8⟩ := h8)) | fail)
  have S8 := D8.trans T8
  clear D8 T8 x0 x1 hwn y0 y1
  go_wp2_with fail
  have D9 := S8.non ((Chg.refl Non w8).drew)
  have x0 := D9.cell hx0 hw
  have x1 := D9.cell hx1 hw
  have hwn := D9.nw hw hBw
  go_region_held (fun w' => w'.cell? ⟨w.heap.size, 0, none⟩ = some (.pointer (some ⟨g, 0, none⟩)) ∧ w'.cell? ⟨w.heap.size, 1, none⟩ = some (.pointer none)) (first | exact ⟨y0, y1⟩ | exact ⟨x0, x1⟩ | assumption) (first | (go_at_call 95; go_loud (refine (signature_w g _ _ v8 b (o + 37) x.r x.s D9.wri (D9.cell f6 hb) (D9.cell f7 hb) (D9.nw hb hBl) (by have := D9.chg.size; omega) ox.r ox.s (by simp [be_length, num_length, tx_length, bytes_len, ox.block]; have := nameOk_size k3; omega)).mono ?_; rintro e w9 h9; have y0 := h9.chg.cell x0 hwn; have y1 := h9.chg.cell x1 hwn; obtain ⟨rfl, v9, T9⟩ := h9)) | fail)
  have S9 := D9.trans T9
  clear D9 T9 x0 x1 hwn y0 y1
  obtain rfl : ok = true := HOK.out.symm.trans (by simp [Vt.right, k3, k4, k5, k6])
  go_wp2
  go_end0
  refine ⟨rfl, v9, ?_⟩
  have S := S0.trans S9
  simpa [Vt.enc, List.append_assoc] using S

end Go.Proofs.Ytjcfdclgddjaoaa
