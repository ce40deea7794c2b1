import Derived.Test.YteglpgakikigiaaChecked
import Derived.WalkKit
import Derived.WalkLawsBesides
import Derived.Lib.Hide
import Derived.Deep.RegionHeld3
import Derived.Recover
import Derived.Laws.Tables
import Derived.Deep.MidRow
import Derived.Test.YteglpgakikigiaaMFormLists4
import Derived.Test.YteglpgakikigiaaMFormLists5
/- Package forms: the things, written: contracts. -/
namespace Go.Proofs.Yteglpgakikigiaa
open Go.RowKit
set_option linter.unusedVariables false
set_option linter.unusedSimpArgs false
set_option maxRecDepth 20000

theorem name_w (g : Nat) (l : List UInt8) (w : World) (v : Value) (b o : Nat) (s : ByteArray) (h : Wri w g v (some l)) (hc : w.cell? ⟨b, o, none⟩ = some (.string s)) (hb : ¬ Wft g v b) (hm : s.size ≤ maxLen) (hl : l.length ≤ 1000000000) :
    Calls Try.prog 63 #[.agg #[.pointer (some ⟨g, 0, none⟩), .pointer none], .pointer (some ⟨b, o, none⟩)] w (WO w g v (nameOk s) (l ++ tx s.data.toList)) := by
  have S1 := (Wst.here h).non ((Chg.refl Non w).alloc (.cells #[.pointer (some ⟨g, 0, none⟩), .pointer none] 84))
  have c1 := ((Chg.refl Non w).alloc (.cells #[.pointer (some ⟨g, 0, none⟩), .pointer none] 84)).cell hc (fun f => f)
  have H := name_gen w (some ⟨g, 0, none⟩) none b o s hm (fun w' => Chg (Wft g v) w w' ∧ (s.size ≤ 16 → ∃ v', Wst w g v (l ++ tx s.data.toList) w' v'))
    (fun w1 w2 ⟨h1, h2⟩ k => ⟨h1.trans k (fun _ f => f.elim), fun hs => by obtain ⟨v', T⟩ := h2 hs; exact ⟨v', T.non k⟩⟩)
    ((text_w g l _ v b o s 16 S1.wri c1 hb hm (by omega) hl).mono fun e w' ⟨h1, h2⟩ => by
      have h3 := WO.after S1 h1
      refine ⟨?_, ⟨h3.chg, fun hs => ?_⟩, fun _ => h2⟩
      · revert h3; cases decide (s.size ≤ 16) <;> exact fun h3 => h3.1
      · rw [decide_eq_true hs] at h3; exact h3.2)
  refine H.mono ?_
  rintro e w' ⟨he, h1, h2⟩
  cases hk : nameOk s with
  | true => rw [hk] at he; exact ⟨he, h2 (nameOk_size hk)⟩
  | false => rw [hk] at he; exact ⟨he, h1⟩

theorem begin_w (g : Nat) (l : List UInt8) (w : World) (v : Value) (k : Int) (h : Wri w g v (some l)) (hk : I64 k) (hl : l.length ≤ 1000000000) :
    Calls Try.prog 37 #[.agg #[.pointer (some ⟨g, 0, none⟩), .pointer none], .int .i64 k] w (WO w g v true (l ++ num k)) := by
  have S1 := (Wst.here h).non (((Chg.refl Non w).alloc (.cells #[.pointer (some ⟨g, 0, none⟩), .pointer none] 84)).alloc (.cells #[.int .i64 k] 3))
  have hx0 := ((Hb.new w 84 #[.pointer (some ⟨g, 0, none⟩), .pointer none]).alloc (.cells #[.int .i64 k] 3)).cell 0
  have hx1 := ((Hb.new w 84 #[.pointer (some ⟨g, 0, none⟩), .pointer none]).alloc (.cells #[.int .i64 k] 3)).cell 1
  have c1 : ((w.alloc (.cells #[.pointer (some ⟨g, 0, none⟩), .pointer none] 84)).alloc (.cells #[.int .i64 k] 3)).cell? ⟨w.heap.size + 1, 0, none⟩ = some (.int .i64 k) := by
    have := (Hb.new (w.alloc (.cells #[.pointer (some ⟨g, 0, none⟩), .pointer none] 84)) 3 #[.int .i64 k]).cell 0
    rwa [show (w.alloc (.cells #[.pointer (some ⟨g, 0, none⟩), .pointer none] 84)).heap.size = w.heap.size + 1 by simp] at this
  have H := number_w g l _ v (w.heap.size + 1) 0 k k k S1.wri c1 (fun hj => h.nnew (by omega) hj) hk.l hk.h hl
  rw [decide_eq_true (show k ≤ k ∧ k ≤ k from ⟨Int.le_refl _, Int.le_refl _⟩)] at H
  have HH := Lib.hid H
  clear H
  go_enter Try.func37, Try.ntmps37
  go_wp2_with fail
  refine HH.out.mono ?_
  rintro e w1 h1
  obtain ⟨rfl, h3⟩ := WO.after S1 h1
  go_wp2
  go_end0
  exact ⟨rfl, h3⟩

theorem WO.cases {w w' : World} {g : Nat} {v : Value} {ok : Bool} {l : List UInt8} {e : Ending} (h : WO w g v ok l e w') : (ok = false ∧ e = .panicked bad ∧ Chg (Wft g v) w w') ∨ (ok = true ∧ e = .returned (.tuple #[]) ∧ ∃ v', Wst w g v l w' v') := by
  cases ok with
  | true => exact .inr ⟨rfl, h.1, h.2⟩
  | false => exact .inl ⟨rfl, h.1, h.2⟩
theorem numberI_w (g : Nat) (l : List UInt8) (w : World) (v : Value) (b o : Nat) (n lo hi : Int) (h : Wri w g v (some l)) (hc : w.cell? ⟨b, o, none⟩ = some (.int .i64 n)) (hb : ¬ Wft g v b) (hn : I64 n) (hl : l.length ≤ 1000000000) :
    Calls Try.prog 62 #[.agg #[.pointer (some ⟨g, 0, none⟩), .pointer none], .pointer (some ⟨b, o, none⟩), .int .i64 lo, .int .i64 hi] w (WO w g v (inR lo hi n) (l ++ num n)) := number_w g l w v b o n lo hi h hc hb hn.l hn.h hl
theorem textI_w (g : Nat) (l : List UInt8) (w : World) (v : Value) (b o : Nat) (s : ByteArray) (most : Nat) (h : Wri w g v (some l)) (hc : w.cell? ⟨b, o, none⟩ = some (.string s)) (hb : ¬ Wft g v b) (hm : s.size ≤ maxLen) (hmost : most ≤ 4096) (hl : l.length ≤ 1000000000) :
    Calls Try.prog 64 #[.agg #[.pointer (some ⟨g, 0, none⟩), .pointer none], .pointer (some ⟨b, o, none⟩), .int .i64 (most : Int)] w (WO w g v (decide (s.size ≤ most)) (l ++ tx s.data.toList)) := (text_w g l w v b o s most h hc hb hm hmost hl).mono fun _ _ h => h.1
theorem height_w (g : Nat) (l : List UInt8) (w : World) (v : Value) (b o : Nat) (n : Int) (h : Wri w g v (some l)) (hc : w.cell? ⟨b, o, none⟩ = some (.int .i64 n)) (hb : ¬ Wft g v b) (hn : I64 n) (hl : l.length ≤ 1000000000) :
    Calls Try.prog 44 #[.agg #[.pointer (some ⟨g, 0, none⟩), .pointer none], .pointer (some ⟨b, o, none⟩)] w (WO w g v (inR 1 1099511627776 n) (l ++ num n)) := by
  have S1 := (Wst.here h).non ((Chg.refl Non w).alloc (.cells #[.pointer (some ⟨g, 0, none⟩), .pointer none] 84))
  have c1 := ((Chg.refl Non w).alloc (.cells #[.pointer (some ⟨g, 0, none⟩), .pointer none] 84)).cell hc (fun f => f)
  have H : Calls Try.prog _ _ _ (WO _ g v (inR 1 1099511627776 n) (l ++ num n)) := number_w g l _ v b o n 1 1099511627776 S1.wri c1 hb hn.l hn.h hl
  generalize inR 1 1099511627776 n = ok at *
  go_enter Try.func44, Try.ntmps44
  go_wp2_with fail
  refine H.mono ?_
  rintro e w1 h1
  have h2 := WO.after S1 h1
  cases ok with
  | true =>
    obtain ⟨rfl, h3⟩ := h2
    go_wp2
    go_end0
    exact ⟨rfl, h3⟩
  | false =>
    obtain ⟨rfl, h3⟩ := h2
    go_wp2
    exact ⟨rfl, rfl, h3⟩

theorem round_w (g : Nat) (l : List UInt8) (w : World) (v : Value) (b o : Nat) (n : Int) (h : Wri w g v (some l)) (hc : w.cell? ⟨b, o, none⟩ = some (.int .i64 n)) (hb : ¬ Wft g v b) (hn : I64 n) (hl : l.length ≤ 1000000000) :
    Calls Try.prog 45 #[.agg #[.pointer (some ⟨g, 0, none⟩), .pointer none], .pointer (some ⟨b, o, none⟩)] w (WO w g v (inR 0 1048576 n) (l ++ num n)) := by
  have S1 := (Wst.here h).non ((Chg.refl Non w).alloc (.cells #[.pointer (some ⟨g, 0, none⟩), .pointer none] 84))
  have c1 := ((Chg.refl Non w).alloc (.cells #[.pointer (some ⟨g, 0, none⟩), .pointer none] 84)).cell hc (fun f => f)
  have H : Calls Try.prog _ _ _ (WO _ g v (inR 0 1048576 n) (l ++ num n)) := number_w g l _ v b o n 0 1048576 S1.wri c1 hb hn.l hn.h hl
  generalize inR 0 1048576 n = ok at *
  go_enter Try.func45, Try.ntmps45
  go_wp2_with fail
  refine H.mono ?_
  rintro e w1 h1
  have h2 := WO.after S1 h1
  cases ok with
  | true =>
    obtain ⟨rfl, h3⟩ := h2
    go_wp2
    go_end0
    exact ⟨rfl, h3⟩
  | false =>
    obtain ⟨rfl, h3⟩ := h2
    go_wp2
    exact ⟨rfl, rfl, h3⟩

theorem signature_w (g : Nat) (l : List UInt8) (w : World) (v : Value) (b o m n : Nat) (h : Wri w g v (some l)) (hm : w.cell? ⟨b, o, none⟩ = some (.int .u64 (m : Int))) (hn : w.cell? ⟨b, o + 1, none⟩ = some (.int .u64 (n : Int))) (hb : ¬ Wft g v b) (hbl : b < w.heap.size) (hmm : m < 18446744073709551616) (hnn : n < 18446744073709551616) (hl : l.length ≤ 900000000) :
    Calls Try.prog 71 #[.agg #[.pointer (some ⟨g, 0, none⟩), .pointer none], .pointer (some ⟨b, o, none⟩)] w (WO w g v true (l ++ (be 8 m ++ be 8 n))) := by
  have S0 := (Wst.here h).non ((Chg.refl Non w).alloc (.cells #[.pointer (some ⟨g, 0, none⟩), .pointer none] 84))
  have c1 := ((Chg.refl Non w).alloc (.cells #[.pointer (some ⟨g, 0, none⟩), .pointer none] 84)).cell hm (fun f => f)
  have c2 := ((Chg.refl Non w).alloc (.cells #[.pointer (some ⟨g, 0, none⟩), .pointer none] 84)).cell hn (fun f => f)
  have hw := h.nnew (Nat.le_refl w.heap.size)
  have hx := Hb.new w 84 #[.pointer (some ⟨g, 0, none⟩), .pointer none]
  have hx0 : (w.alloc (.cells #[.pointer (some ⟨g, 0, none⟩), .pointer none] 84)).cell? ⟨w.heap.size, 0, none⟩ = some (.pointer (some ⟨g, 0, none⟩)) := hx.cell 0
  have hx1 : (w.alloc (.cells #[.pointer (some ⟨g, 0, none⟩), .pointer none] 84)).cell? ⟨w.heap.size, 1, none⟩ = some (.pointer none) := hx.cell 1
  have hBl : b < (w.alloc (.cells #[.pointer (some ⟨g, 0, none⟩), .pointer none] 84)).heap.size := by simp; omega
  have hBw : w.heap.size < (w.alloc (.cells #[.pointer (some ⟨g, 0, none⟩), .pointer none] 84)).heap.size := by simp
  have S1 := Wst.here (S0.wri)
  clear hx hm hn
  go_enter Try.func71, Try.ntmps71
  go_wp2_with fail
  generalize w.alloc (.cells #[.pointer (some ⟨g, 0, none⟩), .pointer none] 84) = B at *
  have D2 := S1.non ((Chg.refl Non B).drew)
  have x0 := D2.cell hx0 hw
  have x1 := D2.cell hx1 hw
  have hwn := D2.nw hw hBw
  go_region_held3 (fun w' => w'.cell? ⟨w.heap.size, 0, none⟩ = some (.pointer (some ⟨g, 0, none⟩)) ∧ w'.cell? ⟨w.heap.size, 1, none⟩ = some (.pointer none)) (first | exact ⟨x0, x1⟩ | exact ⟨y0, y1⟩ | assumption) (first | (go_at_call 67; refine (word_w g l _ v b o m D2.wri (D2.cell c1 hb) (D2.nw hb hBl) hmm (by omega)).mono ?_; rintro e w2 h2; have y0 := h2.chg.cell x0 hwn; have y1 := h2.chg.cell x1 hwn; obtain ⟨rfl, v2, T2⟩ := h2) | fail)
  have S2 := D2.trans T2
  clear D2 T2 x0 x1 hwn y0 y1
  go_wp2_with fail
  have D3 := S2.non ((Chg.refl Non w2).drew)
  have x0 := D3.cell hx0 hw
  have x1 := D3.cell hx1 hw
  have hwn := D3.nw hw hBw
  go_region_held3 (fun w' => w'.cell? ⟨w.heap.size, 0, none⟩ = some (.pointer (some ⟨g, 0, none⟩)) ∧ w'.cell? ⟨w.heap.size, 1, none⟩ = some (.pointer none)) (first | exact ⟨x0, x1⟩ | exact ⟨y0, y1⟩ | assumption) (first | (go_at_call 67; refine (word_w g (l ++ be 8 m) _ v2 b (o + 1) n D3.wri (D3.cell c2 hb) (D3.nw hb hBl) hnn (by rw [List.length_append, be_length]; omega)).mono ?_; rintro e w3 h3; have y0 := h3.chg.cell x0 hwn; have y1 := h3.chg.cell x1 hwn; obtain ⟨rfl, v3, T3⟩ := h3) | fail)
  have S3 := D3.trans T3
  go_wp2
  go_end0
  refine ⟨rfl, v3, ?_⟩
  have S := S0.trans S3
  simpa [List.append_assoc] using S

theorem vt_facts {w : World} {b o : Nat} {x : Vt} (R : w.rangeAt b o x.cells) (ox : x.Ok) : w.cell? ⟨b, o, none⟩ = some (.string x.chain) ∧ w.cell? ⟨b, o + 1, none⟩ = some (.int .i64 x.height) ∧ w.cell? ⟨b, o + 2, none⟩ = some (.int .i64 x.round) ∧ w.cell? ⟨b, o + 3, none⟩ = some (.int .i64 x.type) ∧ w.rangeAt b (o + 4) (bv x.block) ∧ w.cell? ⟨b, o + 36, none⟩ = some (.int .u64 (x.key : Int)) ∧ w.cell? ⟨b, o + 37, none⟩ = some (.int .u64 (x.r : Int)) ∧ w.cell? ⟨b, o + 38, none⟩ = some (.int .u64 (x.s : Int)) := by
  obtain ⟨r1, r2⟩ := rangeAt_app R
  obtain ⟨f0, r1⟩ := rangeAt_cons r1
  obtain ⟨f1, r1⟩ := rangeAt_cons r1
  obtain ⟨f2, r1⟩ := rangeAt_cons r1
  obtain ⟨f3, _⟩ := rangeAt_cons r1
  obtain ⟨f4, r2⟩ := rangeAt_app r2
  obtain ⟨f5, r2⟩ := rangeAt_cons r2
  obtain ⟨f6, r2⟩ := rangeAt_cons r2
  obtain ⟨f7, _⟩ := rangeAt_cons r2
  rw [bv_length, ox.block] at f5 f6 f7
  exact ⟨f0, f1, f2, f3, f4, f5, f6, f7⟩
theorem pk_facts {w : World} {b o : Nat} {x : Pk} (R : w.rangeAt b o x.cells) : w.cell? ⟨b, o, none⟩ = some (.int .i64 x.seq) ∧ w.cell? ⟨b, o + 1, none⟩ = some (.string x.from) ∧ w.cell? ⟨b, o + 2, none⟩ = some (.string x.data) ∧ w.cell? ⟨b, o + 3, none⟩ = some (.int .i64 x.timeout) := by
  obtain ⟨f0, r1⟩ := rangeAt_cons R
  obtain ⟨f1, r1⟩ := rangeAt_cons r1
  obtain ⟨f2, r1⟩ := rangeAt_cons r1
  obtain ⟨f3, _⟩ := rangeAt_cons r1
  exact ⟨f0, f1, f2, f3⟩
theorem hd_facts {w : World} {b o : Nat} {x : Hd} (R : w.rangeAt b o x.cells) (ox : x.Ok) : w.cell? ⟨b, o, none⟩ = some (.string x.chain) ∧ w.cell? ⟨b, o + 1, none⟩ = some (.int .i64 x.height) ∧ w.cell? ⟨b, o + 2, none⟩ = some (.int .i64 x.time) ∧ w.rangeAt b (o + 3) (bv x.last) ∧ w.rangeAt b (o + 35) (bv x.set) ∧ w.rangeAt b (o + 67) (bv x.next) ∧ w.rangeAt b (o + 99) (bv x.data) ∧ w.rangeAt b (o + 131) (bv x.app) := by
  obtain ⟨r1, r2⟩ := rangeAt_app R
  obtain ⟨f0, r1⟩ := rangeAt_cons r1
  obtain ⟨f1, r1⟩ := rangeAt_cons r1
  obtain ⟨f2, r1⟩ := rangeAt_cons r1
  obtain ⟨f3, r2⟩ := rangeAt_app r2
  obtain ⟨f4, r2⟩ := rangeAt_app r2
  obtain ⟨f5, r2⟩ := rangeAt_app r2
  obtain ⟨f6, f7⟩ := rangeAt_app r2
  simp only [bv_length, ox.last, ox.set, ox.next, ox.data] at f4 f5 f6 f7
  exact ⟨f0, f1, f2, f3, f4, f5, f6, f7⟩

end Go.Proofs.Yteglpgakikigiaa

/- Package forms: encoded[T]: the bytes of what was gone through, or the error. -/
namespace Go.Proofs.Yteglpgakikigiaa
open Go.RowKit
set_option linter.unusedVariables false
set_option linter.unusedSimpArgs false
set_option maxRecDepth 20000

theorem results_two {fn : Func} {p q : Tmp} {t u : TypeId} (h : fn.results = #[.cell p t, .cell q u]) (tmps : Array Value) (P : Program) (w : World) (a b : Addr) (x y : Value)
    (hp : tmps.getD p undef = .pointer (some a)) (hq : tmps.getD q undef = .pointer (some b)) (hx : (loadVar t a).run P w = .ok x w) (hy : (loadVar u b).run P w = .ok y w) : (results fn tmps).run P w = .ok (.tuple #[x, y]) w := by
  have hp' : tmps[p]?.getD undef = .pointer (some a) := by simpa using hp
  have hq' : tmps[q]?.getD undef = .pointer (some b) := by simpa using hq
  simp [results, h, hp', hq', asAddr, hx, hy]
theorem load_bytes {w : World} {a : Addr} {v : Value} (h : w.cell? a = some v) : (loadVar 22 a).run Try.prog w = .ok v w := by
  have hagg : (isAgg 22).run Try.prog w = .ok false w := by
    unfold isAgg
    rw [Sem.run_bind, run_underlying Try.underlying22 w]
    rfl
  simp [loadVar, Sem.run_bind, hagg, h]
theorem load_errno {w : World} {a : Addr} {v : Value} (h : w.cell? a = some v) : (loadVar 25 a).run Try.prog w = .ok v w := by
  have hagg : (isAgg 25).run Try.prog w = .ok false w := by
    unfold isAgg
    rw [Sem.run_bind, run_underlying Try.underlying25 w]
    rfl
  simp [loadVar, Sem.run_bind, hagg, h]

/-- What encoding leaves: new bytes, or the error. -/
def Enc (w : World) (ok : Bool) (bs : List UInt8) (e : Ending) (w' : World) : Prop :=
  Chg Non w w' ∧ match ok with
    | true => ∃ v, e = .returned (.tuple #[v, .int .i64 0]) ∧ Own 5 w' v bs ∧ ∀ k, vbl v k → w.heap.size ≤ k
    | false => e = .returned (.tuple #[.slice none 0 0, .int .i64 61])

/-- The two results and the writer. -/
def ew (w : World) : World := ((w.alloc (.cells #[.slice none 0 0] 22)).alloc (.cells #[.int .i64 0] 25)).alloc (.cells #[.slice none 0 0, .bool false] 131)
theorem ew_chg (w : World) : Chg Non w (ew w) := (((Chg.refl Non w).alloc _).alloc _).alloc _
theorem ew_b (w : World) : Hb (ew w) w.heap.size 22 #[.slice none 0 0] := ((Hb.new w _ _).alloc _).alloc _
theorem ew_e (w : World) : Hb (ew w) (w.heap.size + 1) 25 #[.int .i64 0] := by
  have h := (Hb.new (w.alloc (.cells #[.slice none 0 0] 22)) 25 #[.int .i64 0]).alloc (.cells #[.slice none 0 0, .bool false] 131)
  rwa [show (w.alloc (.cells #[.slice none 0 0] 22)).heap.size = w.heap.size + 1 by simp] at h
theorem ew_w (w : World) : Wri (ew w) (w.heap.size + 2) (.slice none 0 0) (some []) := by
  have h := wri_new ((w.alloc (.cells #[.slice none 0 0] 22)).alloc (.cells #[.int .i64 0] 25))
  rwa [show ((w.alloc (.cells #[.slice none 0 0] 22)).alloc (.cells #[.int .i64 0] 25)).heap.size = w.heap.size + 2 by simp] at h
theorem ew_nb {w : World} {k : Nat} (h : k < w.heap.size + 2) : ¬ Wft (w.heap.size + 2) (.slice none 0 0) k := by
  rintro (rfl | h2)
  · omega
  · cases h2


theorem catchEP_Packet (w : World) (p q : Nat) (x y : Value) (v : Value) (u : TypeId) (older : List PanicEntry) (hp : Hb w p 22 #[x]) (hq : Hb w q 25 #[y]) (hpq : q ≠ p) :
    CallsD Try.prog 59 #[.pointer (some ⟨p, 0, none⟩), .pointer (some ⟨q, 0, none⟩)] (.panicking ({ v := .iface u v, recovered := false } :: older)) w fun e u' w' =>
      e = .returned (.tuple #[]) ∧ u' = .panicking ({ v := .iface u v, recovered := true } :: older) ∧ w' = (w.setCell ⟨p, 0, none⟩ (.slice none 0 0)).setCell ⟨q, 0, none⟩ (.int .i64 61) := by
  have c0 : w.cell? ⟨p, 0, none⟩ = some x := hp.cell 0
  have c1 : w.cell? ⟨q, 0, none⟩ = some y := hq.cell 0
  have f0 : w.frozen? ⟨p, 0, none⟩ = false := hp.frozen 0
  have f1 : w.frozen? ⟨q, 0, none⟩ = false := hq.frozen 0
  refine callsD_of_wpS Try.func59 rfl fun c₀ cs hu => ?_
  apply wpS_seq
  apply wpS_region
  simp [wpOpsS, go_sem, recoverD, hu, Try.ntmps59, Exit.thenS]
  refine wpS_cond (t := true) (by simp [Act.eval, Array.replicate]) ?_
  simp only [if_true]
  refine wpS_of_wp ?_
  go_wp2
  exact ⟨rfl, _, rfl, .tuple #[], by simp [results, Try.results59], rfl, rfl, rfl⟩

theorem catchEI_Packet (w : World) (p q : Addr) : CallsD Try.prog 59 #[.pointer (some p), .pointer (some q)] .returning w fun e u' w' => e = .returned (.tuple #[]) ∧ u' = .returning ∧ w' = w := by
  refine callsD_of_wpS Try.func59 rfl fun c₀ cs hu => ?_
  apply wpS_seq
  apply wpS_region
  simp [wpOpsS, go_sem, recoverD, hu, Try.ntmps59, Exit.thenS]
  refine wpS_cond (t := false) (by simp [Act.eval, Array.replicate]) ?_
  simp only [Bool.false_eq_true, if_false]
  refine wpS_of_wp (wp_skip ?_)
  cases c₀
  simp_all [bodyPostS, results, Try.results59]

theorem encoded_Packet (w : World) (b : Addr) (ok : Bool) (bs : List UInt8) (hbs : ok = true → bs.length ≤ 1000000000)
    (H : ∀ (w1 : World) (g : Nat), Chg Non w w1 → w.heap.size ≤ g → Wri w1 g (.slice none 0 0) (some []) → Calls Try.prog 31 #[.agg #[.pointer (some ⟨g, 0, none⟩), .pointer none], .pointer (some b)] w1 (WO w1 g (.slice none 0 0) ok bs)) :
    Calls Try.prog 30 #[.pointer (some b), .func (.func 31) #[] #[]] w (Enc w ok bs) := by
  have hmf := mkf
  have hC0 := ew_chg w
  have hb0 := ew_b w
  have he0 := ew_e w
  have H1 := H (ew w) (w.heap.size + 2) hC0 (by omega) (ew_w w)
  have nb := ew_nb (w := w) (k := w.heap.size) (by omega)
  have ne := ew_nb (w := w) (k := w.heap.size + 1) (by omega)
  clear H
  have HH := Lib.hid H1
  clear H1
  go_enter_defers Try.func30, Try.ntmps30
  go_wp2_with (go_at_call 60; refine (newWriter_any _).mono ?_; rintro e w' ⟨rfl, rfl⟩)
  have hew : ew w = ((w.alloc (.cells #[.slice none 0 0] 22)).alloc (.cells #[.int .i64 0] 25)).alloc (.cells #[.slice none 0 0, .bool false] 131) := rfl
  rw [← hew]
  clear hew
  generalize ew w = w1 at *
  refine HH.out.mono ?_
  rintro e w2 h2
  rcases h2.cases with ⟨rfl, rfl, C⟩ | ⟨rfl, rfl, v2, T⟩
  · have hb2 := hb0.chg C nb
    have he2 := he0.chg C ne
    go_wp2
    refine leaves_cons (f := 59) (args := #[.pointer (some ⟨w.heap.size, 0, none⟩), .pointer (some ⟨w.heap.size + 1, 0, none⟩)]) (by simp) (by simp [go_sem]) ?_
    refine (catchEP_Packet w2 w.heap.size (w.heap.size + 1) _ _ _ _ _ hb2 he2 (by omega)).mono ?_
    rintro e u' w'' ⟨rfl, rfl, rfl⟩
    have hb3 := (hb2.set 0 (.slice none 0 0)).far (p := ⟨w.heap.size + 1, 0, none⟩) (by simp) (.int .i64 61)
    have he3 := (he2.far (p := ⟨w.heap.size, 0, none⟩) (by simp) (.slice none 0 0)).set 0 (.int .i64 61)
    refine ⟨_, results_two rfl _ _ _ ⟨w.heap.size, 0, none⟩ ⟨w.heap.size + 1, 0, none⟩ _ _ rfl rfl (load_bytes (hb3.cell 0)) (load_errno (he3.cell 0)), ?_, rfl⟩
    have C1 : Chg Non w w2 := (hC0.trans C (fun j hj => .inr (by rcases hj with rfl | hj; omega; cases hj)))
    exact (C1.setCell (p := ⟨w.heap.size, 0, none⟩) (.inr (Nat.le_refl _)) _).setCell (p := ⟨w.heap.size + 1, 0, none⟩) (.inr (by simp)) _
  · have hb2 := hb0.chg T.chg nb
    have he2 := he0.chg T.chg ne
    have C1 : Chg Non w w2 := (hC0.trans T.chg (fun j hj => .inr (by rcases hj with rfl | hj; omega; cases hj)))
    have hlen := hbs rfl
    clear hb0 he0
    go_wp2_with fail
    refine (bytes_some _ (w.heap.size + 2) v2 bs T.wri hlen).mono ?_
    rintro e w3 ⟨v3, rfl, ho3, hl3, hc3⟩
    have hb3 := hb2.chg hc3 (fun f => f)
    have he3 := he2.chg hc3 (fun f => f)
    have c0 : w3.cell? ⟨w.heap.size, 0, none⟩ = some (.slice none 0 0) := hb3.cell 0
    have c1 : w3.cell? ⟨w.heap.size + 1, 0, none⟩ = some (.int .i64 0) := he3.cell 0
    have f0 : w3.frozen? ⟨w.heap.size, 0, none⟩ = false := hb3.frozen 0
    have f1 : w3.frozen? ⟨w.heap.size + 1, 0, none⟩ = false := he3.frozen 0
    obtain ⟨A, c, rfl, _⟩ := ho3.slice
    go_wp2_with (go_at_call 35; refine (insist_yes _).mono ?_; rintro e w5 ⟨rfl, rfl⟩)
    refine leaves_cons (f := 59) (args := #[.pointer (some ⟨w.heap.size, 0, none⟩), .pointer (some ⟨w.heap.size + 1, 0, none⟩)]) (by simp) (by simp [go_sem]) ?_
    refine (catchEI_Packet _ ⟨w.heap.size, 0, none⟩ ⟨w.heap.size + 1, 0, none⟩).mono ?_
    rintro e u' w'' ⟨rfl, rfl, rfl⟩
    have hb4 := (((hb3.set 0 (.slice A bs.length c)).far (p := ⟨w.heap.size + 1, 0, none⟩) (by simp) (.int .i64 0)).set 0 (.slice A bs.length c)).far (p := ⟨w.heap.size + 1, 0, none⟩) (by simp) (.int .i64 0)
    have he4 := (((he3.far (p := ⟨w.heap.size, 0, none⟩) (by simp) (.slice A bs.length c)).set 0 (.int .i64 0)).far (p := ⟨w.heap.size, 0, none⟩) (by simp) (.slice A bs.length c)).set 0 (.int .i64 0)
    have K := ((((Chg.refl (fun k => k = w.heap.size ∨ k = w.heap.size + 1) w3).setCell (p := ⟨w.heap.size, 0, none⟩) (.inl (.inl rfl)) (.slice A bs.length c)).setCell (p := ⟨w.heap.size + 1, 0, none⟩) (.inl (.inr rfl)) (.int .i64 0)).setCell (p := ⟨w.heap.size, 0, none⟩) (.inl (.inl rfl)) (.slice A bs.length c)).setCell (p := ⟨w.heap.size + 1, 0, none⟩) (.inl (.inr rfl)) (.int .i64 0)
    have hlt := he2.lt
    refine ⟨_, results_two rfl _ _ _ ⟨w.heap.size, 0, none⟩ ⟨w.heap.size + 1, 0, none⟩ _ _ rfl rfl (load_bytes (hb4.cell 0)) (load_errno (he4.cell 0)), (C1.trans hc3 (fun _ f => f.elim)).trans K (fun j hj => .inr (by omega)), _, rfl, ho3.chg K (fun j hj => ?_), fun k hk => ?_⟩
    · have := hl3 j hj; omega
    · have := hl3 k hk; omega


end Go.Proofs.Yteglpgakikigiaa

/- Package forms: words for decoded[T]. -/
namespace Go.Proofs.Yteglpgakikigiaa
open Go.RowKit
set_option linter.unusedVariables false
set_option linter.unusedSimpArgs false
set_option maxRecDepth 20000


theorem wpList_alloc_row {ops : Array Oper} {rest : List Oper} {o : Oper} {a : Act} {w : World} {Q : Exit → Act → World → Prop} (hgd : o.guard = none) (ty : TypeId) (ho : o.op = .alloc ty) (z : List Value)
    (hz : (Instr.alloc ty true (.tuple #[])).run Try.prog w = .ok (.pointer (some ⟨w.heap.size, 0, none⟩)) (w.alloc (.cells z.toArray ty)))
    (hK : wpList Try.prog ops Q rest (a.put o.dst (.pointer (some ⟨w.heap.size, 0, none⟩))) (w.alloc (.cells z.toArray ty))) : wpList Try.prog ops Q (o :: rest) a w := by
  refine wpList_plain hgd fun K hK' => ?_
  unfold Oper.wp execOp
  simp only [ho, Sem.run_bind, Sem.run_pure, Result.andThen_ok, hz]
  exact hK' _ _ hK
theorem wpList_box_row {ops : Array Oper} {rest : List Oper} {o : Oper} {a : Act} {w : World} {Q : Exit → Act → World → Prop} (hgd : o.guard = none) (ty : TypeId) (x : Operand) (ho : o.op = .box ty x) {cs : Array Value} (hx : a.eval x = .agg cs)
    (hK : ∀ w1, Hid (w1 = w.alloc (.cells cs ty)) → wpList Try.prog ops Q rest (a.put o.dst (.pointer (some ⟨w.heap.size, 0, none⟩))) w1) : wpList Try.prog ops Q (o :: rest) a w := by
  refine wpList_plain hgd fun K hK' => ?_
  unfold Oper.wp execOp
  simp only [ho, hx, Sem.run_bind, Sem.run_pure, Instr.box]
  exact hK' _ _ (hK _ (Lib.hid rfl))
theorem wpList_load_w {ops : Array Oper} {rest : List Oper} {op : Oper} {a : Act} {w : World} {Q : Exit → Act → World → Prop} (ty : TypeId) (x : Operand) (ho : op.op = .load ty x) (hw : Region.wanted op (yielded ops a.tmps) = true)
    (b o : Nat) (hx : a.eval x = .pointer (some ⟨b, o, none⟩)) (cs : List Value) (d : TypeDesc) (hc : w.rangeAt b o cs)
    (hu : Try.prog.underlying ty = some d) (hd : d.isRow = true) (hi : (Try.prog.info? ty).map (·.size) = some cs.length)
    (h : wpList Try.prog ops Q rest (a.put op.dst (.agg cs.toArray)) w) : wpList Try.prog ops Q (op :: rest) a w := by
  unfold wpList
  rw [if_pos hw]
  exact .inl (wp_load_mid ty x ho b o hx cs d hc hu hd hi h)
theorem Hb.range0 {w : World} {b : Nat} {t : TypeId} {L : List Value} (h : Hb w b t L.toArray) : w.rangeAt b 0 L := by
  intro j u hu
  rw [Nat.zero_add, h.cell]
  simpa using hu
theorem Hb.there0 {w : World} {b : Nat} {t : TypeId} {L : List Value} (h : Hb w b t L.toArray) : w.there b 0 L.length := by
  intro j hj
  refine ⟨?_, h.frozen _⟩
  rw [Nat.zero_add, h.cell, List.getElem?_toArray, List.getElem?_eq_getElem hj]
  rfl
theorem Hb.sets0 {w : World} {b : Nat} {t : TypeId} {L L' : List Value} (h : Hb w b t L.toArray) (hl : L.length = L'.length) : Hb (w.setCells b 0 L') b t L'.toArray := by
  have := Hb.setCells L' L [] [] w hl (by simpa using h)
  simpa using this
theorem Hb.farCells {w : World} {b tb : Nat} {t : TypeId} {cs : Array Value} (h : Hb w b t cs) (hne : b ≠ tb) (vs : List Value) (o : Nat) : Hb (w.setCells tb o vs) b t cs :=
  h.chg (Chg.setCells (S := fun k => k = tb) rfl vs w o (Chg.refl _ w)) hne
theorem one_mem {L : List Value} (h : ∀ v ∈ L, v.oneCell' = true) : L.toArray.all (·.oneCell') = true := all_oneCell_toArray h

/-- What was read, if nothing stands behind it. -/
def whole {α : Type} (r : Option (α × St)) : Option α := match r with | some (x, some []) => some x | _ => none
/-- What decoding leaves: the thing's cells, or none and the error. -/
def Dec (w : World) (z : List Value) (r : Option (List Value)) (e : Ending) (w' : World) : Prop :=
  Chg Non w w' ∧ e = (match r with | some L => .returned (.tuple #[.agg L.toArray, .int .i64 0]) | none => .returned (.tuple #[.agg z.toArray, .int .i64 61]))
/-- The two results. -/
def dw (w : World) (z : List Value) (t : TypeId) : World := (w.alloc (.cells z.toArray t)).alloc (.cells #[.int .i64 0] 25)
theorem dw_chg (w : World) (z : List Value) (t : TypeId) : Chg Non w (dw w z t) := ((Chg.refl Non w).alloc _).alloc _
theorem dw_b (w : World) (z : List Value) (t : TypeId) : Hb (dw w z t) w.heap.size t z.toArray := (Hb.new w _ _).alloc _
theorem dw_e (w : World) (z : List Value) (t : TypeId) : Hb (dw w z t) (w.heap.size + 1) 25 #[.int .i64 0] := by
  have h := Hb.new (w.alloc (.cells z.toArray t)) 25 #[.int .i64 0]
  rwa [show (w.alloc (.cells z.toArray t)).heap.size = w.heap.size + 1 by simp] at h
theorem endv_eq (st : St) : (endv st == 0) = decide (st = some []) := by
  unfold endv
  by_cases h : st = some []
  · rw [if_pos h, decide_eq_true h]; rfl
  · rw [if_neg h, decide_eq_false h]; rfl
theorem load_row {w : World} {b : Nat} {t ty : TypeId} {L : List Value} {d : TypeDesc} (h : Hb w b t L.toArray) (hu : Try.prog.underlying ty = some d) (hd : d.isRow = true) (hi : (Try.prog.info? ty).map (·.size) = some L.length) : (loadVar ty ⟨b, 0, none⟩).run Try.prog w = .ok (.agg L.toArray) w :=
  run_loadVar_mid w b 0 ty L d h.range0 hu hd hi
end Go.Proofs.Yteglpgakikigiaa

/- Package forms: words for lists. -/
namespace Go.Proofs.Yteglpgakikigiaa
open Go.RowKit
set_option linter.unusedVariables false
set_option linter.unusedSimpArgs false
set_option maxRecDepth 20000

/-- The first k, one behind the other. -/
def jn (bs : Nat → List UInt8) : Nat → List UInt8
  | 0 => []
  | k + 1 => jn bs k ++ bs k
/-- All of the first k are right. -/
def allB (ok : Nat → Bool) : Nat → Bool
  | 0 => true
  | k + 1 => allB ok k && ok k
theorem allB_no {ok : Nat → Bool} {n k : Nat} (h : k < n) (hk : ok k = false) : allB ok n = false := by
  induction n with
  | zero => omega
  | succ n ih =>
    unfold allB
    by_cases e : k = n
    · subst e; rw [hk, Bool.and_false]
    · rw [ih (by omega), Bool.false_and]
theorem allB_yes {ok : Nat → Bool} {n k : Nat} (h : allB ok n = true) (hk : k < n) : ok k = true := by
  cases e : ok k with
  | true => rfl
  | false => rw [allB_no hk e] at h; cases h
theorem jn_len {bs : Nat → List UInt8} {ok : Nat → Bool} {m : Nat} (hb : ∀ i, ok i = true → (bs i).length ≤ m) : ∀ k, allB ok k = true → (jn bs k).length ≤ k * m
  | 0, _ => by simp [jn]
  | k + 1, h => by
    unfold allB at h
    rw [Bool.and_eq_true] at h
    have h1 := jn_len hb k h.1
    have h2 := hb k h.2
    unfold jn
    rw [List.length_append, Nat.succ_mul]
    omega
end Go.Proofs.Yteglpgakikigiaa

/- Things of package forms that hold lists: their bytes, when they are right, and what bytes are. Plain mathematics. -/
namespace Go.Proofs.Yteglpgakikigiaa
open Go.RowKit
set_option linter.unusedVariables false
set_option linter.unusedSimpArgs false
set_option maxRecDepth 20000

theorem i64_in {lo hi n : Int} (h : inR lo hi n = true) (h1 : -9223372036854775808 ≤ lo) (h2 : hi ≤ 9223372036854775807) : I64 n := ⟨by have := (inR_iff.1 h).1; omega, by have := (inR_iff.1 h).2; omega⟩

/-! ### Lists -/
/-- The first k things, read one behind the other. -/
def dK {α : Type} (d : St → Option (α × St)) (st : St) : Nat → Option (List α × St)
  | 0 => some ([], st)
  | k + 1 => (dK d st k).bind fun x => (d x.2).bind fun y => some (x.1 ++ [y.1], y.2)
def dList {α : Type} (d : St → Option (α × St)) (most : Int) (st : St) : Option (List α × St) := (dNum 0 most st).bind fun n => dK d n.2 n.1.toNat
theorem dK_len {α : Type} {d : St → Option (α × St)} {st : St} : ∀ {k : Nat} {l : List α} {s : St}, dK d st k = some (l, s) → l.length = k
  | 0, l, s, h => by
    simp only [dK, Option.some.injEq, Prod.mk.injEq] at h
    rw [← h.1]; rfl
  | k + 1, l, s, h => by
    simp only [dK, Option.bind_eq_some_iff, Option.some.injEq, Prod.mk.injEq, Prod.exists] at h
    obtain ⟨a, s1, h1, b, s2, h2, rfl, rfl⟩ := h
    rw [List.length_append, dK_len h1]; rfl
theorem dK_inv {α : Type} {d : St → Option (α × St)} {enc : α → List UInt8} {P : α → Prop} (hd : ∀ st x r, d st = some (x, some r) → st = some (enc x ++ r) ∧ P x) {st : St} : ∀ {k : Nat} {l : List α} {r : List UInt8}, dK d st k = some (l, some r) → st = some (l.flatMap enc ++ r) ∧ ∀ x ∈ l, P x
  | 0, l, r, h => by
    simp only [dK, Option.some.injEq, Prod.mk.injEq] at h
    obtain ⟨rfl, rfl⟩ := h
    simp
  | k + 1, l, r, h => by
    simp only [dK, Option.bind_eq_some_iff, Option.some.injEq, Prod.mk.injEq, Prod.exists] at h
    obtain ⟨a, s1, h1, b, s2, h2, rfl, rfl⟩ := h
    obtain ⟨e2, o2⟩ := hd _ _ _ h2
    rw [e2] at h1
    obtain ⟨e1, o1⟩ := dK_inv hd h1
    refine ⟨by rw [e1]; simp, fun x hx => ?_⟩
    rw [List.mem_append, List.mem_singleton] at hx
    rcases hx with hx | rfl
    · exact o1 x hx
    · exact o2
theorem dK_app {α : Type} {d : St → Option (α × St)} {enc : α → List UInt8} {P : α → Prop} (hd : ∀ x r, P x → d (some (enc x ++ r)) = some (x, some r)) : ∀ (n : Nat) (l : List α), l.length = n → (∀ x ∈ l, P x) → ∀ r, dK d (some (l.flatMap enc ++ r)) l.length = some (l, some r) := by
  intro n
  induction n with
  | zero =>
    intro l hl _ r
    obtain rfl := List.eq_nil_of_length_eq_zero hl
    rfl
  | succ n ih =>
    intro l hl hp r
    have hne : l ≠ [] := by rintro rfl; simp at hl
    rw [← List.dropLast_concat_getLast hne] at hl hp ⊢
    generalize l.dropLast = a at *
    generalize l.getLast hne = b at *
    rw [List.length_append, List.length_singleton] at hl ⊢
    unfold dK
    have h1 := ih a (by omega) (fun x hx => hp x (by simp [hx])) (enc b ++ r)
    have e : (a ++ [b]).flatMap enc ++ r = a.flatMap enc ++ (enc b ++ r) := by simp
    rw [e, h1, Option.bind_some]
    simp only
    rw [hd b r (hp b (by simp)), Option.bind_some]

/-- A list's bytes. -/
def encL {α : Type} (enc : α → List UInt8) (l : List α) : List UInt8 := num l.length ++ l.flatMap enc
theorem dList_inv {α : Type} {d : St → Option (α × St)} {enc : α → List UInt8} {P : α → Prop} (hd : ∀ st x r, d st = some (x, some r) → st = some (enc x ++ r) ∧ P x) {most : Int} {st : St} {l : List α} {r : List UInt8} (h : dList d most st = some (l, some r)) : st = some (encL enc l ++ r) ∧ (∀ x ∈ l, P x) ∧ inR 0 most l.length = true := by
  unfold dList at h
  simp only [Option.bind_eq_some_iff, Prod.exists] at h
  obtain ⟨n, s1, h1, h2⟩ := h
  obtain ⟨e2, o2⟩ := dK_inv hd h2
  have hl := dK_len h2
  rw [e2] at h1
  obtain ⟨e1, o1⟩ := dNum_inv h1
  have hn : ((l.length : Nat) : Int) = n := by have := (inR_iff.1 o1).1; omega
  refine ⟨?_, o2, by rw [hn]; exact o1⟩
  rw [e1]
  unfold encL
  rw [hn, List.append_assoc]
theorem dList_app {α : Type} {d : St → Option (α × St)} {enc : α → List UInt8} {P : α → Prop} (hd : ∀ x r, P x → d (some (enc x ++ r)) = some (x, some r)) {most : Int} {l : List α} (hl : inR 0 most l.length = true) (h64 : (l.length : Int) ≤ 9223372036854775807) (hp : ∀ x ∈ l, P x) (r : List UInt8) : dList d most (some (encL enc l ++ r)) = some (l, some r) := by
  unfold dList encL
  rw [List.append_assoc, dNum_app (by omega) h64 hl, Option.bind_some]
  simp only [Int.toNat_natCast]
  exact dK_app hd l.length l rfl hp r

/-- An element's right and bytes, by place. -/
def okAt {α : Type} (p : α → Bool) (l : List α) (i : Nat) : Bool := ((l[i]?).map p).getD true
def bsAt {α : Type} (f : α → List UInt8) (l : List α) (i : Nat) : List UInt8 := ((l[i]?).map f).getD []
theorem jn_list {α : Type} (f : α → List UInt8) (l : List α) : ∀ k, k ≤ l.length → jn (bsAt f l) k = (l.take k).flatMap f
  | 0, _ => by simp [jn]
  | k + 1, h => by
    unfold jn
    rw [jn_list f l k (by omega), List.take_succ_eq_append_getElem (by omega), List.flatMap_append]
    simp [bsAt, List.getElem?_eq_getElem (show k < l.length by omega)]
theorem allB_list {α : Type} (p : α → Bool) (l : List α) : ∀ k, k ≤ l.length → allB (okAt p l) k = (l.take k).all p
  | 0, _ => by simp [allB]
  | k + 1, h => by
    unfold allB
    rw [allB_list p l k (by omega), List.take_succ_eq_append_getElem (by omega), List.all_append]
    simp [okAt, List.getElem?_eq_getElem (show k < l.length by omega)]
theorem jn_all {α : Type} (f : α → List UInt8) (l : List α) : jn (bsAt f l) l.length = l.flatMap f := by rw [jn_list f l _ (Nat.le_refl _), List.take_length]
theorem allB_all {α : Type} (p : α → Bool) (l : List α) : allB (okAt p l) l.length = l.all p := by rw [allB_list p l _ (Nat.le_refl _), List.take_length]

/-! ### Validators -/
structure Va where
  key : Nat
  power : Int
  deriving DecidableEq
structure Va.Ok (x : Va) : Prop where
  key : x.key < 18446744073709551616
  power : I64 x.power
def Va.cells (x : Va) : List Value := [.int .u64 (x.key : Int), .int .i64 x.power]
def Va.right (x : Va) : Bool := inR (-9223372036854775808) 9223372036854775807 x.power
theorem Va.right_ok {x : Va} (ox : x.Ok) : x.right = true := inR_iff.2 ⟨ox.power.l, ox.power.h⟩
def Va.enc (x : Va) : List UInt8 := be 8 x.key ++ num x.power
def dVa (st : St) : Option (Va × St) := (dNum (-9223372036854775808) 9223372036854775807 (nW st)).bind fun p => some (⟨vW st, p.1⟩, p.2)
theorem dVa_inv (st : St) (x : Va) (r : List UInt8) (h : dVa st = some (x, some r)) : st = some (x.enc ++ r) ∧ x.Ok := by
  have hw := vW_lt st
  unfold dVa at h
  simp only [Option.bind_eq_some_iff, Option.some.injEq, Prod.mk.injEq, Prod.exists] at h
  obtain ⟨p, s1, h1, rfl, rfl⟩ := h
  obtain ⟨e1, o1⟩ := dNum_inv h1
  have e2 := nW_inv e1
  refine ⟨?_, hw, (inR_iff.1 o1).1, (inR_iff.1 o1).2⟩
  rw [e2]
  simp [Va.enc]
  rw [← e2]
theorem dVa_app (x : Va) (r : List UInt8) (ox : x.Ok) : dVa (some (x.enc ++ r)) = some (x, some r) := by
  unfold dVa Va.enc
  rw [List.append_assoc, (vW_app x.key ox.key _).1, (vW_app x.key ox.key _).2, dNum_app ox.power.l ox.power.h (Va.right_ok ox), Option.bind_some]
/-- A set's bytes; is it right? -/
def setEnc (l : List Va) : List UInt8 := num 3 ++ encL Va.enc l
def setRight (l : List Va) : Bool := inR 0 64 l.length
def dSet (st : St) : Option (List Va × St) := (dBegin 3 st).bind fun s => dList dVa 64 s
theorem dSet_inv {st : St} {l : List Va} {r : List UInt8} (h : dSet st = some (l, some r)) : st = some (setEnc l ++ r) ∧ setRight l = true ∧ ∀ x ∈ l, x.Ok := by
  unfold dSet at h
  simp only [Option.bind_eq_some_iff] at h
  obtain ⟨s1, h1, h2⟩ := h
  obtain ⟨e2, o2, o3⟩ := dList_inv dVa_inv h2
  rw [e2] at h1
  have e1 := dBegin_inv h1
  exact ⟨by rw [e1]; simp [setEnc], o3, o2⟩
theorem dSet_app {l : List Va} (h : setRight l = true) (ol : ∀ x ∈ l, x.Ok) (r : List UInt8) : dSet (some (setEnc l ++ r)) = some (l, some r) := by
  unfold dSet setEnc
  have := (inR_iff.1 h).2
  rw [List.append_assoc, dBegin_app (by omega) (by omega), Option.bind_some]
  exact dList_app dVa_app h (by omega) ol r

/-! ### Commits -/
structure Se where
  key : Nat
  r : Nat
  s : Nat
  deriving DecidableEq
structure Se.Ok (x : Se) : Prop where
  key : x.key < 18446744073709551616
  r : x.r < 18446744073709551616
  s : x.s < 18446744073709551616
def Se.cells (x : Se) : List Value := [.int .u64 (x.key : Int), .int .u64 (x.r : Int), .int .u64 (x.s : Int)]
def Se.right (_ : Se) : Bool := true
def Se.enc (x : Se) : List UInt8 := be 8 x.key ++ (be 8 x.r ++ be 8 x.s)
def dSe (st : St) : Option (Se × St) := some (⟨vW st, vW (nW st), vW (nW (nW st))⟩, nW (nW (nW st)))
theorem dSe_inv (st : St) (x : Se) (r : List UInt8) (h : dSe st = some (x, some r)) : st = some (x.enc ++ r) ∧ x.Ok := by
  unfold dSe at h
  simp only [Option.some.injEq, Prod.mk.injEq] at h
  obtain ⟨rfl, h1⟩ := h
  have e1 := nW_inv h1
  have e2 := nW_inv e1
  have e3 := nW_inv e2
  refine ⟨?_, vW_lt _, vW_lt _, vW_lt _⟩
  conv => lhs; rw [e3]
  simp only [Se.enc, List.append_assoc]
theorem dSe_app (x : Se) (r : List UInt8) (ox : x.Ok) : dSe (some (x.enc ++ r)) = some (x, some r) := by
  unfold dSe Se.enc
  simp only [List.append_assoc]
  rw [(vW_app x.key ox.key _).1, (vW_app x.key ox.key _).2, (vW_app x.r ox.r _).1, (vW_app x.r ox.r _).2, (vW_app x.s ox.s _).1, (vW_app x.s ox.s _).2]
structure Cm where
  height : Int
  round : Int
  block : List UInt8
  seals : List Se
  deriving DecidableEq
structure Cm.Ok (x : Cm) : Prop where
  height : I64 x.height
  round : I64 x.round
  block : x.block.length = 32
  seals : ∀ y ∈ x.seals, y.Ok
def Cm.cells (x : Cm) (s : Value) : List Value := [.int .i64 x.height, .int .i64 x.round] ++ (bv x.block ++ [s])
def Cm.right (x : Cm) : Bool := inR 1 1099511627776 x.height && (inR 0 1048576 x.round && inR 0 64 x.seals.length)
def Cm.enc (x : Cm) : List UInt8 := num 4 ++ (num x.height ++ (num x.round ++ (x.block ++ encL Se.enc x.seals)))
def dCommit (st : St) : Option (Cm × St) :=
  (dBegin 4 st).bind fun s1 => (dNum 1 1099511627776 s1).bind fun h => (dNum 0 1048576 h.2).bind fun r => (dList dSe 64 (nH r.2)).bind fun l => some (⟨h.1, r.1, vH r.2, l.1⟩, l.2)
theorem dCommit_inv {st : St} {x : Cm} {r : List UInt8} (h : dCommit st = some (x, some r)) : st = some (x.enc ++ r) ∧ x.right = true ∧ x.Ok := by
  unfold dCommit at h
  simp only [Option.bind_eq_some_iff, Option.some.injEq, Prod.mk.injEq, Prod.exists] at h
  obtain ⟨s1, h1, ht, s2, h2, rd, s3, h3, l, s4, h4, rfl, rfl⟩ := h
  obtain ⟨e4, o4, o5⟩ := dList_inv dSe_inv h4
  have e3 := nH_inv e4
  have hb := vH_length s3
  generalize hbb : vH s3 = bb at *
  rw [e3] at h3
  obtain ⟨e2, o2⟩ := dNum_inv h3
  rw [e2] at h2
  obtain ⟨e1, o1⟩ := dNum_inv h2
  rw [e1] at h1
  have e0 := dBegin_inv h1
  refine ⟨?_, by simp [Cm.right, o1, o2, o5], i64_in o1 (by omega) (by omega), i64_in o2 (by omega) (by omega), hb, o4⟩
  rw [e0]
  simp only [Cm.enc, List.append_assoc]
theorem dCommit_app {x : Cm} (ox : x.Ok) (h : x.right = true) (r : List UInt8) : dCommit (some (x.enc ++ r)) = some (x, some r) := by
  unfold Cm.right at h
  simp only [Bool.and_eq_true] at h
  obtain ⟨o1, o2, o3⟩ := h
  unfold dCommit Cm.enc
  have h64 := (inR_iff.1 o3).2
  simp only [List.append_assoc]
  rw [dBegin_app (by omega) (by omega), Option.bind_some, dNum_app ox.height.l ox.height.h o1, Option.bind_some]
  simp only
  rw [dNum_app ox.round.l ox.round.h o2, Option.bind_some]
  simp only
  rw [(vH_app x.block ox.block _).1, (vH_app x.block ox.block _).2, dList_app dSe_app o3 (by omega) ox.seals, Option.bind_some]

/-! ### Light blocks -/
structure Lt where
  header : Hd
  commit : Cm
  set : List Va
  next : List Va
structure Lt.Ok (x : Lt) : Prop where
  header : x.header.Ok
  commit : x.commit.Ok
  set : ∀ y ∈ x.set, y.Ok
  next : ∀ y ∈ x.next, y.Ok
def Lt.cells (x : Lt) (a b c : Value) : List Value := x.header.cells ++ (x.commit.cells a ++ [b, c])
def Lt.right (x : Lt) : Bool := x.header.right && (x.commit.right && (setRight x.set && setRight x.next))
def Lt.enc (x : Lt) : List UInt8 := num 5 ++ (x.header.enc ++ (x.commit.enc ++ (setEnc x.set ++ setEnc x.next)))
def dLight (st : St) : Option (Lt × St) :=
  (dBegin 5 st).bind fun s1 => (dHeader s1).bind fun h => (dCommit h.2).bind fun c => (dSet c.2).bind fun s => (dSet s.2).bind fun n => some (⟨h.1, c.1, s.1, n.1⟩, n.2)
theorem dLight_app {x : Lt} (ox : x.Ok) (h : x.right = true) (r : List UInt8) : dLight (some (x.enc ++ r)) = some (x, some r) := by
  unfold Lt.right at h
  simp only [Bool.and_eq_true] at h
  obtain ⟨o1, o2, o3, o4⟩ := h
  unfold dLight Lt.enc
  simp only [List.append_assoc]
  rw [dBegin_app (by omega) (by omega), Option.bind_some, dHeader_app ox.header o1, Option.bind_some]
  simp only
  rw [dCommit_app ox.commit o2, Option.bind_some]
  simp only
  rw [dSet_app o3 ox.set, Option.bind_some]
  simp only
  rw [dSet_app o4 ox.next, Option.bind_some]
end Go.Proofs.Yteglpgakikigiaa

/- What the document's reader reads of things, right or not: plain mathematics. -/
namespace Go.Proofs.Yteglpgakikigiaa
open Go.RowKit
set_option linter.unusedVariables false
set_option linter.unusedSimpArgs false
set_option maxRecDepth 20000

/-- Behind a thing's number: broken, if it is another one. -/
def rBeg (k : Int) (st : St) : St := if vN st = k then nW st else none
theorem nW_none : nW none = none := rfl
theorem nH_none : nH none = none := rfl
theorem nT_none : nT none = none := rfl
def rVote (st : St) : Vt × St :=
  (⟨⟨(vT (rBeg 1 st)).toArray⟩, vN (nT (rBeg 1 st)), vN (nW (nT (rBeg 1 st))), vN (nW (nW (nT (rBeg 1 st)))), vH (nW (nW (nW (nT (rBeg 1 st))))), vW (nH (nW (nW (nW (nT (rBeg 1 st)))))), vW (nW (nH (nW (nW (nW (nT (rBeg 1 st))))))), vW (nW (nW (nH (nW (nW (nW (nT (rBeg 1 st))))))))⟩,
    nW (nW (nW (nH (nW (nW (nW (nT (rBeg 1 st)))))))))
theorem rVote_is (st : St) : whole (dVote st) = if (rVote st).2 = some [] ∧ (rVote st).1.right = true then some (rVote st).1 else none := by
  unfold dVote rVote rBeg dBegin
  by_cases h0 : vN st = 1
  · simp only [h0, if_true, Option.bind_some]
    generalize nW st = s1
    unfold dName dNum Vt.right
    by_cases h1 : nameOk ⟨(vT s1).toArray⟩ = true
    · simp only [h1, if_true, Option.bind_some, Bool.true_and]
      by_cases h2 : inR 1 1099511627776 (vN (nT s1)) = true
      · simp only [h2, if_true, Option.bind_some, Bool.true_and]
        by_cases h3 : inR 0 1048576 (vN (nW (nT s1))) = true
        · simp only [h3, if_true, Option.bind_some, Bool.true_and]
          by_cases h4 : inR 1 2 (vN (nW (nW (nT s1)))) = true
          · simp only [h4, if_true, Option.bind_some, and_true]
            match nW (nW (nW (nH (nW (nW (nW (nT s1))))))) with
            | none => rfl
            | some [] => rfl
            | some (_ :: _) => simp [whole]
          · simp [h4, whole]
        · simp [h3, whole]
      · simp [h2, whole]
    · simp [h1, whole]
  · simp [h0, whole, nW_none, nH_none, nT_none]
def rHeader (st : St) : Hd × St :=
  (⟨⟨(vT (rBeg 2 st)).toArray⟩, vN (nT (rBeg 2 st)), vN (nW (nT (rBeg 2 st))), vH (nW (nW (nT (rBeg 2 st)))), vH (nH (nW (nW (nT (rBeg 2 st))))), vH (nH (nH (nW (nW (nT (rBeg 2 st)))))), vH (nH (nH (nH (nW (nW (nT (rBeg 2 st))))))), vH (nH (nH (nH (nH (nW (nW (nT (rBeg 2 st))))))))⟩,
    nH (nH (nH (nH (nH (nW (nW (nT (rBeg 2 st)))))))))
theorem rHeader_is (st : St) : whole (dHeader st) = if (rHeader st).2 = some [] ∧ (rHeader st).1.right = true then some (rHeader st).1 else none := by
  unfold dHeader rHeader rBeg dBegin
  by_cases h0 : vN st = 2
  · simp only [h0, if_true, Option.bind_some]
    generalize nW st = s1
    unfold dName dNum Hd.right
    by_cases h1 : nameOk ⟨(vT s1).toArray⟩ = true
    · simp only [h1, if_true, Option.bind_some, Bool.true_and]
      by_cases h2 : inR 1 1099511627776 (vN (nT s1)) = true
      · simp only [h2, if_true, Option.bind_some, Bool.true_and]
        by_cases h3 : inR 0 1099511627776 (vN (nW (nT s1))) = true
        · simp only [h3, if_true, Option.bind_some, and_true]
          match nH (nH (nH (nH (nH (nW (nW (nT s1))))))) with
          | none => rfl
          | some [] => rfl
          | some (_ :: _) => simp [whole]
        · simp [h3, whole]
      · simp [h2, whole]
    · simp [h1, whole]
  · simp [h0, whole, nW_none, nH_none, nT_none]
def rPacket (st : St) : Pk × St :=
  (⟨vN (rBeg 6 st), ⟨(vT (nW (rBeg 6 st))).toArray⟩, ⟨(vT (nT (nW (rBeg 6 st)))).toArray⟩, vN (nT (nT (nW (rBeg 6 st))))⟩, nW (nT (nT (nW (rBeg 6 st)))))
theorem rPacket_is (st : St) : whole (dPacket st) = if (rPacket st).2 = some [] ∧ (rPacket st).1.right = true then some (rPacket st).1 else none := by
  unfold dPacket rPacket rBeg dBegin
  by_cases h0 : vN st = 6
  · simp only [h0, if_true, Option.bind_some]
    generalize nW st = s1
    unfold dName dNum dText Pk.right
    have e : ∀ l : List UInt8, (⟨l.toArray⟩ : ByteArray).size = l.length := fun l => List.size_toArray
    by_cases h1 : inR 1 1099511627776 (vN s1) = true
    · simp only [h1, if_true, Option.bind_some, Bool.true_and]
      by_cases h2 : nameOk ⟨(vT (nW s1)).toArray⟩ = true
      · simp only [h2, if_true, Option.bind_some, Bool.true_and]
        by_cases h3 : (vT (nT (nW s1))).length ≤ 256
        · simp only [h3, e, if_true, Option.bind_some, decide_true, Bool.true_and]
          by_cases h4 : inR 1 1099511627776 (vN (nT (nT (nW s1)))) = true
          · simp only [h4, if_true, Option.bind_some, and_true]
            match nW (nT (nT (nW s1))) with
            | none => rfl
            | some [] => rfl
            | some (_ :: _) => simp [whole]
          · simp [h4, whole]
        · simp [h3, e, whole]
      · simp [h2, whole]
    · simp [h1, whole]
  · simp [h0, whole, nW_none, nH_none, nT_none]
end Go.Proofs.Yteglpgakikigiaa

/- The document's reader, and a thing that is read with it, field by field: words. -/
namespace Go.Proofs.Yteglpgakikigiaa
open Go.RowKit
set_option linter.unusedVariables false
set_option linter.unusedSimpArgs false
set_option maxRecDepth 20000

theorem RdF.same {w : World} {g : Nat} {F : Nat → Prop} {st : St} (h : RdF w g F st) : RdF (w.setCell ⟨g, 1, none⟩ (.bool st.isNone)) g F st := by
  have k := (Chg.refl (Eqg g) w).setCell (p := ⟨g, 1, none⟩) (.inl rfl) (.bool st.isNone)
  cases st with
  | none =>
    obtain ⟨h1, A, n, c, hb⟩ := h
    exact ⟨h1, A, n, c, hb.set 1 (.bool true)⟩
  | some l =>
    obtain ⟨h1, A, c, hb, hr, hc, hm, hA⟩ := h
    exact ⟨h1, A, c, hb.set 1 (.bool false), hr.chg' k (fun hl j hj e => h1 (by unfold Eqg at e; rw [← e]; exact hA hl j hj)), hc, hm, hA⟩
theorem RdF.brk {w : World} {g : Nat} {F : Nat → Prop} {st : St} (h : RdF w g F st) : RdF (w.setCell ⟨g, 1, none⟩ (.bool true)) g F none := by
  obtain ⟨A, m, c, hb⟩ := h.blk
  exact ⟨h.nF, A, m, c, hb.set 1 _⟩
/-- The document's reader, a new block that is read into, and the result's block, behind what was done since the world W. -/
structure Rfs (W : World) (g : Nat) (F : Nat → Prop) (tb : Nat) (t : TypeId) (L : List Value) (rb : Nat) (Z : List Value) (st : St) (w : World) : Prop where
  rdr : RdF w g F st
  row : Hb w tb t L.toArray
  res : Hb w rb t Z.toArray
  chg : Chg (fun j => j = g ∨ j = tb ∨ j = rb) W w
  tg : tb ≠ g
  rg : rb ≠ g
  ne : tb ≠ rb
  nt : ¬ F tb
  nr : ¬ F rb
  fsw : ∀ j, F j → j < w.heap.size
section
variable {W w w' : World} {g : Nat} {F : Nat → Prop} {tb : Nat} {t : TypeId} {L : List Value} {rb : Nat} {Z : List Value} {st st' : St}
theorem Rfs.read (S : Rfs W g F tb t L rb Z st w) (h : RdF w' g F st') (k : Chg (Eqg g) w w') : Rfs W g F tb t L rb Z st' w' :=
  ⟨h, S.row.chg k S.tg, S.res.chg k S.rg, S.chg.trans k (fun j hj => .inl (.inl hj)), S.tg, S.rg, S.ne, S.nt, S.nr, fun j hj => Nat.lt_of_lt_of_le (S.fsw j hj) k.size⟩
theorem Rfs.non (S : Rfs W g F tb t L rb Z st w) (k : Chg Non w w') : Rfs W g F tb t L rb Z st w' :=
  ⟨S.rdr.chg k (fun f => f) (fun _ _ f => f), S.row.chg k (fun f => f), S.res.chg k (fun f => f), S.chg.trans k (fun _ f => f.elim), S.tg, S.rg, S.ne, S.nt, S.nr, fun j hj => Nat.lt_of_lt_of_le (S.fsw j hj) k.size⟩
theorem Rfs.eq {L' : List Value} (S : Rfs W g F tb t L rb Z st w) (h : L = L') : Rfs W g F tb t L' rb Z st w := h ▸ S
theorem Rfs.set {p q : List Value} {x : Value} (S : Rfs W g F tb t (p ++ x :: q) rb Z st w) {o : Nat} (ho : o = p.length) (u : Value) : Rfs W g F tb t (p ++ u :: q) rb Z st (w.setCell ⟨tb, o, none⟩ u) := by
  subst ho
  have k := (Chg.refl (fun j => j = tb) w).setCell (p := ⟨tb, p.length, none⟩) (.inl rfl) u
  refine ⟨S.rdr.chg k (fun e => S.tg e.symm) (fun j hj e => S.nt (e ▸ hj)), ?_, S.res.chg k (fun e => S.ne e.symm), S.chg.trans k (fun j hj => .inl (.inr (.inl hj))), S.tg, S.rg, S.ne, S.nt, S.nr, fun j hj => Nat.lt_of_lt_of_le (S.fsw j hj) k.size⟩
  rw [← row_set p x u q]
  exact S.row.set _ _
theorem Rfs.sets {p q old : List Value} (S : Rfs W g F tb t (p ++ (old ++ q)) rb Z st w) {o : Nat} (ho : o = p.length) (new : List Value) (hl : old.length = new.length) : Rfs W g F tb t (p ++ (new ++ q)) rb Z st (w.setCells tb o new) := by
  subst ho
  have k := Chg.setCells (S := fun j => j = tb) rfl new w p.length (Chg.refl (fun j => j = tb) w)
  exact ⟨S.rdr.chg k (fun e => S.tg e.symm) (fun j hj e => S.nt (e ▸ hj)), S.row.setCells new old p q w hl, S.res.chg k (fun e => S.ne e.symm), S.chg.trans k (fun j hj => .inl (.inr (.inl hj))), S.tg, S.rg, S.ne, S.nt, S.nr, fun j hj => Nat.lt_of_lt_of_le (S.fsw j hj) k.size⟩
theorem Rfs.cell {p q : List Value} {x : Value} (S : Rfs W g F tb t (p ++ x :: q) rb Z st w) {o : Nat} (ho : o = p.length) : w.cell? ⟨tb, o, none⟩ = some x ∧ w.frozen? ⟨tb, o, none⟩ = false := by
  subst ho
  refine ⟨?_, S.row.frozen _⟩
  rw [S.row.cell]
  simp
theorem Rfs.there {p q old : List Value} (S : Rfs W g F tb t (p ++ (old ++ q)) rb Z st w) {o : Nat} (ho : o = p.length) : w.there tb o old.length := by
  subst ho
  intro j hj
  refine ⟨?_, S.row.frozen _⟩
  rw [S.row.cell, List.getElem?_toArray, List.getElem?_append_right (by omega), Nat.add_sub_cancel_left, List.getElem?_append_left hj, List.getElem?_eq_getElem hj]
  rfl
/-- What the reading of a thing leaves: its cells, and the reader behind it. -/
def Gotr (w : World) (g : Nat) (F : Nat → Prop) (L : List Value) (st : St) (e : Ending) (w' : World) : Prop := e = .returned (.agg L.toArray) ∧ RdF w' g F st ∧ Chg (Eqg g) w w'
/-- The end: the whole row goes into the result. -/
theorem Rfs.done (S : Rfs W g F tb t L rb Z st w) (hz : Z.length = L.length) : RdF (w.setCells rb 0 L) g F st ∧ Chg (fun j => j = g ∨ j = tb ∨ j = rb) W (w.setCells rb 0 L) ∧ Hb (w.setCells rb 0 L) rb t L.toArray := by
  have k := Chg.setCells (S := fun j => j = rb) rfl L w 0 (Chg.refl (fun j => j = rb) w)
  exact ⟨S.rdr.chg k (fun e => S.rg e.symm) (fun j hj e => S.nr (e ▸ hj)), S.chg.trans k (fun j hj => .inl (.inr (.inr hj))), S.res.sets0 hz⟩
end
/-- A struct's value is built. -/
theorem wpList_build_row {ops : Array Oper} {rest : List Oper} {o : Oper} {a : Act} {w : World} {Q : Exit → Act → World → Prop} (hgd : o.guard = none) (ty : TypeId) (x : Operand) (ho : o.op = .build ty #[(0, x)]) {v : Value} (hx : a.eval x = v) {cs : Array Value} (hb : Try.prog.built ty [(0, v)] = some cs)
    (h : wpList Try.prog ops Q rest (a.put o.dst (.agg cs)) w) : wpList Try.prog ops Q (o :: rest) a w := by
  have e : (#[((0 : Nat), x)].map fun (i, x) => (i, a.eval x)).toList = [(0, v)] := by simp [hx]
  refine wpList_build hgd ty #[(0, x)] ho ?_ ?_
  · rw [e, hb]; rfl
  · rw [e, hb]; exact h
/-- A new box, and what is stored there. -/
theorem storedU (w : World) (t : TypeId) (Z L : List Value) (h : Z.length = L.length) :
    Chg Non w ((w.alloc (.cells Z.toArray t)).setCells w.heap.size 0 L) ∧ Hb ((w.alloc (.cells Z.toArray t)).setCells w.heap.size 0 L) w.heap.size t L.toArray ∧ (w.alloc (.cells Z.toArray t)).there w.heap.size 0 L.length := by
  have hb := Hb.new w t Z.toArray
  have ht := hb.there0
  rw [h] at ht
  exact ⟨((Chg.refl Non w).alloc (.cells Z.toArray t)).trans (Chg.setCells (S := fun j => j = w.heap.size) rfl L _ 0 (Chg.refl _ _)) (fun j hj => .inr (by omega)), hb.sets0 (L' := L) h, ht⟩
end Go.Proofs.Yteglpgakikigiaa
