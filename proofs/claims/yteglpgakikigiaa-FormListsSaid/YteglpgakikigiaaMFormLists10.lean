import Derived.Test.YteglpgakikigiaaChecked
import Derived.WalkKit
import Derived.WalkLawsBesides
import Derived.Lib.Hide
import Derived.Deep.RegionHeld3
import Derived.Test.YteglpgakikigiaaMFormLists4
import Derived.Test.YteglpgakikigiaaMFormLists5
import Derived.Test.YteglpgakikigiaaMFormLists6
import Derived.Test.YteglpgakikigiaaMFormLists9
/- Package forms: validators and sets, written. -/
namespace Go.Proofs.Yteglpgakikigiaa
open Go.RowKit
set_option linter.unusedVariables false
set_option linter.unusedSimpArgs false
set_option maxRecDepth 20000

/-- A list's elements lie from A on, in memory that is not the writer's. -/
def LstW {α : Type} (w : World) (g : Nat) (v : Value) (A : Option Addr) (l : List α) (cells : α → List Value) (sz : Nat) : Prop :=
  ∀ (i : Nat) (x : α), l[i]? = some x → ∃ eb eo, A = some ⟨eb, eo, none⟩ ∧ ¬ Wft g v eb ∧ eb < w.heap.size ∧ w.rangeAt eb (eo + i * sz) (cells x)
theorem LstW.chg {α : Type} {w w' : World} {g : Nat} {v : Value} {A : Option Addr} {l : List α} {cells : α → List Value} {sz : Nat} (h : LstW w g v A l cells sz) (k : Chg Non w w') : LstW w' g v A l cells sz := by
  intro i x hx
  obtain ⟨eb, eo, e, h1, h2, h3⟩ := h i x hx
  exact ⟨eb, eo, e, h1, Nat.lt_of_lt_of_le h2 k.size, k.range' h3 (fun f => f)⟩
theorem LstW.later {α : Type} {B w : World} {g : Nat} {v v' : Value} {l0 : List UInt8} {A : Option Addr} {l : List α} {cells : α → List Value} {sz : Nat} (h : LstW B g v A l cells sz) (S : Wst B g v l0 w v') : LstW w g v' A l cells sz := by
  intro i x hx
  obtain ⟨eb, eo, e, h1, h2, h3⟩ := h i x hx
  exact ⟨eb, eo, e, S.nw h1 h2, Nat.lt_of_lt_of_le h2 S.chg.size, S.range h3 h1⟩
theorem okAt_get {α : Type} {p : α → Bool} {l : List α} {i : Nat} {x : α} (h : l[i]? = some x) : okAt p l i = p x := by unfold okAt; rw [h]; rfl
theorem bsAt_get {α : Type} {f : α → List UInt8} {l : List α} {i : Nat} {x : α} (h : l[i]? = some x) : bsAt f l i = f x := by unfold bsAt; rw [h]; rfl
theorem validator_w (g : Nat) (l : List UInt8) (w : World) (v : Value) (b o : Nat) (x : Va) (h : Wri w g v (some l)) (hc : w.rangeAt b o x.cells) (hb : ¬ Wft g v b) (hbl : b < w.heap.size) (ox : x.Ok) (hl : l.length ≤ 500000000) :
    Calls Try.prog 39 #[.agg #[.pointer (some ⟨g, 0, none⟩), .pointer none], .pointer (some ⟨b, o, none⟩)] w (WO w g v x.right (l ++ x.enc)) := by
  have S0 := (Wst.here h).non ((Chg.refl Non w).alloc (.cells #[.pointer (some ⟨g, 0, none⟩), .pointer none] 84))
  have R0 := ((Chg.refl Non w).alloc (.cells #[.pointer (some ⟨g, 0, none⟩), .pointer none] 84)).range' hc (fun f => f)
  have hw := h.nnew (Nat.le_refl w.heap.size)
  have hx := Hb.new w 84 #[.pointer (some ⟨g, 0, none⟩), .pointer none]
  have hx0 : (w.alloc (.cells #[.pointer (some ⟨g, 0, none⟩), .pointer none] 84)).cell? ⟨w.heap.size, 0, none⟩ = some (.pointer (some ⟨g, 0, none⟩)) := hx.cell 0
  have hx1 : (w.alloc (.cells #[.pointer (some ⟨g, 0, none⟩), .pointer none] 84)).cell? ⟨w.heap.size, 1, none⟩ = some (.pointer none) := hx.cell 1
  have hBl : b < (w.alloc (.cells #[.pointer (some ⟨g, 0, none⟩), .pointer none] 84)).heap.size := by simp; omega
  have hBw : w.heap.size < (w.alloc (.cells #[.pointer (some ⟨g, 0, none⟩), .pointer none] 84)).heap.size := by simp
  have S1 := Wst.here (S0.wri)
  obtain ⟨B, hB⟩ : ∃ B, B = w.alloc (.cells #[.pointer (some ⟨g, 0, none⟩), .pointer none] 84) := ⟨_, rfl⟩
  obtain ⟨f0, r1⟩ := rangeAt_cons R0
  obtain ⟨f1, _⟩ := rangeAt_cons r1
  clear r1
  rw [← hB] at f0 f1
  generalize hok : x.right = ok
  have HOK := Lib.hid hok
  clear hok hx hc
  go_enter Try.func39, Try.ntmps39
  go_wp2_with fail
  rw [← hB] at S0 R0 hx0 hx1 hBl hBw S1 ⊢
  clear hB
  have D2 := S1.non ((Chg.refl Non B).drew)
  have x0 := D2.cell hx0 hw
  have x1 := D2.cell hx1 hw
  have hwn := D2.nw hw hBw
  go_region_held (fun w' => w'.cell? ⟨w.heap.size, 0, none⟩ = some (.pointer (some ⟨g, 0, none⟩)) ∧ w'.cell? ⟨w.heap.size, 1, none⟩ = some (.pointer none)) (first | exact ⟨y0, y1⟩ | exact ⟨x0, x1⟩ | assumption) (first | (go_at_call 67; go_loud (refine (word_w g _ _ v b o x.key D2.wri (D2.cell f0 hb) (D2.nw hb hBl) ox.key (by omega)).mono ?_; rintro e w2 h2; have y0 := h2.chg.cell x0 hwn; have y1 := h2.chg.cell x1 hwn; obtain ⟨rfl, v2, T2⟩ := h2)) | fail)
  have S2 := D2.trans T2
  clear D2 T2 x0 x1 hwn y0 y1
  go_wp2_with fail
  have D3 := S2.non ((Chg.refl Non w2).drew)
  have x0 := D3.cell hx0 hw
  have x1 := D3.cell hx1 hw
  have hwn := D3.nw hw hBw
  go_region_held (fun w' => w'.cell? ⟨w.heap.size, 0, none⟩ = some (.pointer (some ⟨g, 0, none⟩)) ∧ w'.cell? ⟨w.heap.size, 1, none⟩ = some (.pointer none)) (first | exact ⟨y0, y1⟩ | exact ⟨x0, x1⟩ | assumption) (first | (go_at_call 62; go_loud (refine (numberI_w g _ _ v2 b (o + 1) x.power (-9223372036854775808) 9223372036854775807 D3.wri (D3.cell f1 hb) (D3.nw hb hBl) ox.power (by rw [List.length_append, be_length]; omega)).mono ?_; rintro e w3 h3; have y0 := h3.chg.cell x0 hwn; have y1 := h3.chg.cell x1 hwn; rcases h3.cases with ⟨k3, he, C⟩ | ⟨k3, he, v3, T3⟩; (subst he; obtain rfl : ok = false := HOK.out.symm.trans (by simp [Va.right, k3]); exact ⟨rfl, rfl, S0.chg.trans (D3.chg.trans C D3.wft) S0.wft⟩); subst he)) | fail)
  have S3 := D3.trans T3
  clear D3 T3 x0 x1 hwn y0 y1
  clear h3
  obtain rfl : ok = true := HOK.out.symm.trans (by simp [Va.right, k3])
  go_wp2
  go_end0
  refine ⟨rfl, v3, ?_⟩
  have S := S0.trans S3
  simpa [Va.enc, List.append_assoc] using S


theorem set_w (g : Nat) (l0 : List UInt8) (w : World) (v : Value) (b o : Nat) (A : Option Addr) (c : Nat) (l : List Va) (h : Wri w g v (some l0)) (hc : w.cell? ⟨b, o, none⟩ = some (.slice A l.length c)) (hlm : l.length ≤ maxLen) (HL0 : LstW w g v A l Va.cells 2) (ol : ∀ x ∈ l, x.Ok) (hl : l0.length ≤ 1000000) (hb : ¬ Wft g v b) (hbl : b < w.heap.size) :
    Calls Try.prog 18 #[.agg #[.pointer (some ⟨g, 0, none⟩), .pointer none], .pointer (some ⟨b, o, none⟩)] w (WO w g v (setRight l) (l0 ++ setEnc l)) := by
  have hC0 := (Chg.refl Non w).alloc (.cells #[.pointer (some ⟨g, 0, none⟩), .pointer none] 84)
  have S0 := (Wst.here h).non hC0
  have hw := h.nnew (Nat.le_refl w.heap.size)
  have hx := Hb.new w 84 #[.pointer (some ⟨g, 0, none⟩), .pointer none]
  have hx0 : (w.alloc (.cells #[.pointer (some ⟨g, 0, none⟩), .pointer none] 84)).cell? ⟨w.heap.size, 0, none⟩ = some (.pointer (some ⟨g, 0, none⟩)) := hx.cell 0
  have hx1 : (w.alloc (.cells #[.pointer (some ⟨g, 0, none⟩), .pointer none] 84)).cell? ⟨w.heap.size, 1, none⟩ = some (.pointer none) := hx.cell 1
  have hBl : b < (w.alloc (.cells #[.pointer (some ⟨g, 0, none⟩), .pointer none] 84)).heap.size := by simp; omega
  have f0 := hC0.cell hc (fun f => f)
  have HL := HL0.chg hC0
  have S1 := Wst.here (S0.wri)
  have hall : (inR 0 64 l.length && allB (okAt Va.right l) l.length) = setRight l := by
    rw [allB_all, show l.all Va.right = true from List.all_eq_true.2 (fun x hx => Va.right_ok (ol x hx)), Bool.and_true]; rfl
  have hbs : ∀ i, okAt Va.right l i = true → (bsAt Va.enc l i).length ≤ 20000 := by
    intro i _
    unfold bsAt
    cases l[i]? with
    | none => simp
    | some x => simp [Va.enc, be_length, num_length]
  generalize setRight l = okt at hall ⊢
  have HLB := Lib.hid HL
  have HALL := Lib.hid hall
  clear hc HL0 hx hC0 HL hall
  go_enter Try.func18, Try.ntmps18
  go_wp2_with fail
  generalize w.alloc (.cells #[.pointer (some ⟨g, 0, none⟩), .pointer none] 84) = B at *
  refine (begin_w g l0 _ v 3 S1.wri ⟨by omega, by omega⟩ (by omega)).mono ?_
  rintro e w2 h2
  obtain ⟨rfl, v2, T2⟩ := h2
  have x0 := T2.cell hx0 hw
  have x1 := T2.cell hx1 hw
  have HN := listValidator_w g (l0 ++ num 3) w2 v2 b o A l.length c 64 (okAt Va.right l) (bsAt Va.enc l) T2.wri (T2.cell f0 hb) (T2.nw hb hBl) (by have := T2.chg.size; omega) hlm (by omega) (by rw [List.length_append, num_length]; omega) hbs (fun i hi => by
      obtain ⟨eb, eo, e, h1, h2, h3⟩ := HLB.out.later T2 i _ (List.getElem?_eq_getElem hi)
      refine ⟨eb, eo, e, fun l' w' v' S' hl' => ?_⟩
      have hx := List.getElem?_eq_getElem hi
      rw [okAt_get hx, bsAt_get hx]
      exact validator_w g l' w' v' eb (eo + i * 2) _ S'.wri (S'.range h3 h1) (S'.nw h1 h2) (by have := S'.chg.size; omega) (ol _ (List.getElem_mem hi)) (by omega))
  rw [jn_all] at HN
  have hall' : (inR 0 ((64 : Nat) : Int) l.length && allB (okAt Va.right l) l.length) = okt := HALL.out
  rw [hall'] at HN
  have HNN := Lib.hid HN
  clear HN hall' HLB
  go_wp2_with fail
  refine HNN.out.mono ?_
  rintro e w3 h3
  rcases h3.cases with ⟨k, he, C⟩ | ⟨k, he, v3, T3⟩
  · subst he
    subst k
    go_wp2
    exact ⟨rfl, rfl, S0.chg.trans (T2.chg.trans C T2.wft) S0.wft⟩
  · subst he
    subst k
    go_wp2
    go_end0
    refine ⟨rfl, v3, ?_⟩
    have S := S0.trans (T2.trans T3)
    simpa [setEnc, encL, List.append_assoc] using S
end Go.Proofs.Yteglpgakikigiaa

/- Package forms: seals and commits, written. -/
namespace Go.Proofs.Yteglpgakikigiaa
open Go.RowKit
set_option linter.unusedVariables false
set_option linter.unusedSimpArgs false
set_option maxRecDepth 20000
theorem seal_w (g : Nat) (l : List UInt8) (w : World) (v : Value) (b o : Nat) (x : Se) (h : Wri w g v (some l)) (hc : w.rangeAt b o x.cells) (hb : ¬ Wft g v b) (hbl : b < w.heap.size) (ox : x.Ok) (hl : l.length ≤ 500000000) :
    Calls Try.prog 48 #[.agg #[.pointer (some ⟨g, 0, none⟩), .pointer none], .pointer (some ⟨b, o, none⟩)] w (WO w g v x.right (l ++ x.enc)) := by
  have S0 := (Wst.here h).non ((Chg.refl Non w).alloc (.cells #[.pointer (some ⟨g, 0, none⟩), .pointer none] 84))
  have R0 := ((Chg.refl Non w).alloc (.cells #[.pointer (some ⟨g, 0, none⟩), .pointer none] 84)).range' hc (fun f => f)
  have hw := h.nnew (Nat.le_refl w.heap.size)
  have hx := Hb.new w 84 #[.pointer (some ⟨g, 0, none⟩), .pointer none]
  have hx0 : (w.alloc (.cells #[.pointer (some ⟨g, 0, none⟩), .pointer none] 84)).cell? ⟨w.heap.size, 0, none⟩ = some (.pointer (some ⟨g, 0, none⟩)) := hx.cell 0
  have hx1 : (w.alloc (.cells #[.pointer (some ⟨g, 0, none⟩), .pointer none] 84)).cell? ⟨w.heap.size, 1, none⟩ = some (.pointer none) := hx.cell 1
  have hBl : b < (w.alloc (.cells #[.pointer (some ⟨g, 0, none⟩), .pointer none] 84)).heap.size := by simp; omega
  have hBw : w.heap.size < (w.alloc (.cells #[.pointer (some ⟨g, 0, none⟩), .pointer none] 84)).heap.size := by simp
  have S1 := Wst.here (S0.wri)
  obtain ⟨B, hB⟩ : ∃ B, B = w.alloc (.cells #[.pointer (some ⟨g, 0, none⟩), .pointer none] 84) := ⟨_, rfl⟩
  obtain ⟨f0, r1⟩ := rangeAt_cons R0
  obtain ⟨f1, r2⟩ := rangeAt_cons r1
  obtain ⟨f2, _⟩ := rangeAt_cons r2
  clear r1 r2
  rw [← hB] at f0 f1 f2
  generalize hok : x.right = ok
  have HOK := Lib.hid hok
  clear hok hx hc
  go_enter Try.func48, Try.ntmps48
  go_wp2_with fail
  rw [← hB] at S0 R0 hx0 hx1 hBl hBw S1 ⊢
  clear hB
  have D2 := S1.non ((Chg.refl Non B).drew)
  have x0 := D2.cell hx0 hw
  have x1 := D2.cell hx1 hw
  have hwn := D2.nw hw hBw
  go_region_held (fun w' => w'.cell? ⟨w.heap.size, 0, none⟩ = some (.pointer (some ⟨g, 0, none⟩)) ∧ w'.cell? ⟨w.heap.size, 1, none⟩ = some (.pointer none)) (first | exact ⟨y0, y1⟩ | exact ⟨x0, x1⟩ | assumption) (first | (go_at_call 67; go_loud (refine (word_w g _ _ v b o x.key D2.wri (D2.cell f0 hb) (D2.nw hb hBl) ox.key (by omega)).mono ?_; rintro e w2 h2; have y0 := h2.chg.cell x0 hwn; have y1 := h2.chg.cell x1 hwn; obtain ⟨rfl, v2, T2⟩ := h2)) | fail)
  have S2 := D2.trans T2
  clear D2 T2 x0 x1 hwn y0 y1
  go_wp2_with fail
  have D3 := S2.non ((Chg.refl Non w2).drew)
  have x0 := D3.cell hx0 hw
  have x1 := D3.cell hx1 hw
  have hwn := D3.nw hw hBw
  go_region_held (fun w' => w'.cell? ⟨w.heap.size, 0, none⟩ = some (.pointer (some ⟨g, 0, none⟩)) ∧ w'.cell? ⟨w.heap.size, 1, none⟩ = some (.pointer none)) (first | exact ⟨y0, y1⟩ | exact ⟨x0, x1⟩ | assumption) (first | (go_at_call 71; go_loud (refine (signature_w g _ _ v2 b (o + 1) x.r x.s D3.wri (D3.cell f1 hb) (D3.cell f2 hb) (D3.nw hb hBl) (by have := D3.chg.size; omega) ox.r ox.s (by rw [List.length_append, be_length]; omega)).mono ?_; rintro e w3 h3; have y0 := h3.chg.cell x0 hwn; have y1 := h3.chg.cell x1 hwn; obtain ⟨rfl, v3, T3⟩ := h3)) | fail)
  have S3 := D3.trans T3
  clear D3 T3 x0 x1 hwn y0 y1
  obtain rfl : ok = true := HOK.out.symm.trans (by simp [Se.right])
  go_wp2
  go_end0
  refine ⟨rfl, v3, ?_⟩
  have S := S0.trans S3
  simpa [Se.enc, List.append_assoc] using S


theorem listSealI_w (g : Nat) (l0 : List UInt8) (w : World) (v : Value) (b o : Nat) (A : Option Addr) (c : Nat) (l : List Se) (h : Wri w g v (some l0)) (hc : w.cell? ⟨b, o, none⟩ = some (.slice A l.length c)) (hb : ¬ Wft g v b) (hbl : b < w.heap.size) (hlm : l.length ≤ maxLen) (hl : l0.length ≤ 1000000) (HL : LstW w g v A l Se.cells 3) (ol : ∀ x ∈ l, x.Ok) :
    Calls Try.prog 47 #[.agg #[.pointer (some ⟨g, 0, none⟩), .pointer none], .pointer (some ⟨b, o, none⟩), .int .i64 64, .func (.func 48) #[] #[]] w (WO w g v (inR 0 64 l.length) (l0 ++ encL Se.enc l)) := by
  have hall : (inR 0 ((64 : Nat) : Int) l.length && allB (okAt Se.right l) l.length) = inR 0 64 l.length := by
    rw [allB_all, show l.all Se.right = true from List.all_eq_true.2 (fun x hx => rfl), Bool.and_true]; rfl
  have hbs : ∀ i, okAt Se.right l i = true → (bsAt Se.enc l i).length ≤ 20000 := by
    intro i _
    unfold bsAt
    cases l[i]? with
    | none => simp
    | some x => simp [Se.enc, be_length]
  have HN := listSeal_w g l0 w v b o A l.length c 64 (okAt Se.right l) (bsAt Se.enc l) h hc hb hbl hlm (by omega) (by omega) hbs (fun i hi => by
      obtain ⟨eb, eo, e, h1, h2, h3⟩ := HL i _ (List.getElem?_eq_getElem hi)
      refine ⟨eb, eo, e, fun l' w' v' S' hl' => ?_⟩
      have hx := List.getElem?_eq_getElem hi
      rw [okAt_get hx, bsAt_get hx]
      exact seal_w g l' w' v' eb (eo + i * 3) _ S'.wri (S'.range h3 h1) (S'.nw h1 h2) (by have := S'.chg.size; omega) (ol _ (List.getElem_mem hi)) (by omega))
  rw [jn_all, hall] at HN
  exact HN
set_option maxHeartbeats 1600000 in
theorem commit_w (g : Nat) (l : List UInt8) (w : World) (v : Value) (b o : Nat) (A : Option Addr) (c : Nat) (x : Cm) (h : Wri w g v (some l)) (R : w.rangeAt b o (x.cells (.slice A x.seals.length c))) (hlm : x.seals.length ≤ maxLen) (HL0 : LstW w g v A x.seals Se.cells 3) (ox : x.Ok) (hl : l.length ≤ 100000) (hb : ¬ Wft g v b) (hbl : b < w.heap.size) :
    Calls Try.prog 22 #[.agg #[.pointer (some ⟨g, 0, none⟩), .pointer none], .pointer (some ⟨b, o, none⟩)] w (WO w g v (x.right) (l ++ x.enc)) := by
  have hC0 := (Chg.refl Non w).alloc (.cells #[.pointer (some ⟨g, 0, none⟩), .pointer none] 84)
  have S0 := (Wst.here h).non hC0
  have hw := h.nnew (Nat.le_refl w.heap.size)
  have hx := Hb.new w 84 #[.pointer (some ⟨g, 0, none⟩), .pointer none]
  have hx0 : (w.alloc (.cells #[.pointer (some ⟨g, 0, none⟩), .pointer none] 84)).cell? ⟨w.heap.size, 0, none⟩ = some (.pointer (some ⟨g, 0, none⟩)) := hx.cell 0
  have hx1 : (w.alloc (.cells #[.pointer (some ⟨g, 0, none⟩), .pointer none] 84)).cell? ⟨w.heap.size, 1, none⟩ = some (.pointer none) := hx.cell 1
  have hBl : b < (w.alloc (.cells #[.pointer (some ⟨g, 0, none⟩), .pointer none] 84)).heap.size := by simp; omega
  have hBw : w.heap.size < (w.alloc (.cells #[.pointer (some ⟨g, 0, none⟩), .pointer none] 84)).heap.size := by simp
  have S1 := Wst.here (S0.wri)
  obtain ⟨r1, r2⟩ := rangeAt_app (hC0.range' R (fun f => f))
  obtain ⟨f0, r1⟩ := rangeAt_cons r1
  obtain ⟨f1, _⟩ := rangeAt_cons r1
  obtain ⟨f2, r2⟩ := rangeAt_app r2
  obtain ⟨f3, _⟩ := rangeAt_cons r2
  rw [bv_length, ox.block] at f3
  have f3 : (w.alloc (.cells #[.pointer (some ⟨g, 0, none⟩), .pointer none] 84)).cell? ⟨b, o + 34, none⟩ = some (.slice A x.seals.length c) := f3
  have f2 : (w.alloc (.cells #[.pointer (some ⟨g, 0, none⟩), .pointer none] 84)).rangeAt b (o + 2) (bv x.block) := f2
  have HL := HL0.chg hC0
  have ol := ox.seals
  have hall : (inR 0 ((64 : Nat) : Int) x.seals.length && allB (okAt Se.right x.seals) x.seals.length) = inR 0 64 x.seals.length := by
    rw [allB_all, show x.seals.all Se.right = true from List.all_eq_true.2 (fun x hx => rfl), Bool.and_true]; rfl
  have hbs : ∀ i, okAt Se.right x.seals i = true → (bsAt Se.enc x.seals i).length ≤ 20000 := by
    intro i _
    unfold bsAt
    cases x.seals[i]? with
    | none => simp
    | some x => simp [Se.enc, be_length]
  clear R r1 r2 HL0
  generalize hok : (x.right) = ok
  have HOK := Lib.hid hok
  clear hok hx hC0
  go_enter Try.func22, Try.ntmps22
  go_wp2_with fail
  generalize w.alloc (.cells #[.pointer (some ⟨g, 0, none⟩), .pointer none] 84) = B at *
  have x0 := S1.cell hx0 hw
  have x1 := S1.cell hx1 hw
  have hwn := S1.nw hw hBw
  go_wp2_with (first | (go_at_call 37; go_loud (refine (begin_w g l _ v 4 S1.wri ⟨by omega, by omega⟩ (by omega)).mono ?_; rintro e w2 h2; obtain ⟨rfl, v2, T2⟩ := h2)) | fail)
  have S2 := S1.trans T2
  clear T2 x0 x1 hwn
  go_wp2_with fail
  have D3 := S2.non ((Chg.refl Non w2).drew)
  have x0 := D3.cell hx0 hw
  have x1 := D3.cell hx1 hw
  have hwn := D3.nw hw hBw
  go_region_held (fun w' => w'.cell? ⟨w.heap.size, 0, none⟩ = some (.pointer (some ⟨g, 0, none⟩)) ∧ w'.cell? ⟨w.heap.size, 1, none⟩ = some (.pointer none)) (first | exact ⟨y0, y1⟩ | exact ⟨x0, x1⟩ | assumption) (first | (go_at_call 44; go_loud (refine (height_w g _ _ v2 b o x.height D3.wri (D3.cell f0 hb) (D3.nw hb hBl) ox.height (by simp [num_length]; omega)).mono ?_; rintro e w3 h3; have y0 := h3.chg.cell x0 hwn; have y1 := h3.chg.cell x1 hwn; rcases h3.cases with ⟨k3, he, C⟩ | ⟨k3, he, v3, T3⟩; (subst he; obtain rfl : ok = false := HOK.out.symm.trans (by simp [Cm.right, k3]); exact ⟨rfl, rfl, S0.chg.trans (D3.chg.trans C D3.wft) S0.wft⟩); subst he)) | fail)
  have S3 := D3.trans T3
  clear D3 T3 x0 x1 hwn y0 y1
  clear h3
  go_wp2_with fail
  have D4 := S3.non ((Chg.refl Non w3).drew)
  have x0 := D4.cell hx0 hw
  have x1 := D4.cell hx1 hw
  have hwn := D4.nw hw hBw
  go_region_held (fun w' => w'.cell? ⟨w.heap.size, 0, none⟩ = some (.pointer (some ⟨g, 0, none⟩)) ∧ w'.cell? ⟨w.heap.size, 1, none⟩ = some (.pointer none)) (first | exact ⟨y0, y1⟩ | exact ⟨x0, x1⟩ | assumption) (first | (go_at_call 45; go_loud (refine (round_w g _ _ v3 b (o + 1) x.round D4.wri (D4.cell f1 hb) (D4.nw hb hBl) ox.round (by simp [num_length]; omega)).mono ?_; rintro e w4 h4; have y0 := h4.chg.cell x0 hwn; have y1 := h4.chg.cell x1 hwn; rcases h4.cases with ⟨k4, he, C⟩ | ⟨k4, he, v4, T4⟩; (subst he; obtain rfl : ok = false := HOK.out.symm.trans (by simp [Cm.right, k3, k4]); exact ⟨rfl, rfl, S0.chg.trans (D4.chg.trans C D4.wft) S0.wft⟩); subst he)) | fail)
  have S4 := D4.trans T4
  clear D4 T4 x0 x1 hwn y0 y1
  clear h4
  go_wp2_with fail
  have D5 := S4.non ((Chg.refl Non w4).drew)
  have x0 := D5.cell hx0 hw
  have x1 := D5.cell hx1 hw
  have hwn := D5.nw hw hBw
  go_region_held (fun w' => w'.cell? ⟨w.heap.size, 0, none⟩ = some (.pointer (some ⟨g, 0, none⟩)) ∧ w'.cell? ⟨w.heap.size, 1, none⟩ = some (.pointer none)) (first | exact ⟨y0, y1⟩ | exact ⟨x0, x1⟩ | assumption) (first | (go_at_call 46; go_loud (refine (hash_w g _ _ v4 b (o + 2) x.block ox.block D5.wri (D5.range f2 hb) (D5.nw hb hBl) (by simp [num_length]; omega)).mono ?_; rintro e w5 h5; have y0 := h5.chg.cell x0 hwn; have y1 := h5.chg.cell x1 hwn; obtain ⟨rfl, v5, T5⟩ := h5)) | fail)
  have S5 := D5.trans T5
  clear D5 T5 x0 x1 hwn y0 y1
  go_wp2_with fail
  have D6 := S5.non ((Chg.refl Non w5).drew)
  have x0 := D6.cell hx0 hw
  have x1 := D6.cell hx1 hw
  have hwn := D6.nw hw hBw
  go_region_held (fun w' => w'.cell? ⟨w.heap.size, 0, none⟩ = some (.pointer (some ⟨g, 0, none⟩)) ∧ w'.cell? ⟨w.heap.size, 1, none⟩ = some (.pointer none)) (first | exact ⟨y0, y1⟩ | exact ⟨x0, x1⟩ | assumption) (first | (go_at_call 47; go_loud (refine (listSealI_w g _ _ v5 b (o + 34) A c x.seals D6.wri (D6.cell f3 hb) (D6.nw hb hBl) (by have := D6.chg.size; omega) hlm (by simp [num_length, ox.block]; omega) (HL.later D6) ol).mono ?_; rintro e w6 h6; have y0 := h6.chg.cell x0 hwn; have y1 := h6.chg.cell x1 hwn; rcases h6.cases with ⟨k6, he, C⟩ | ⟨k6, he, v6, T6⟩; (subst he; obtain rfl : ok = false := HOK.out.symm.trans (by simp [Cm.right, k3, k4, k6]); exact ⟨rfl, rfl, S0.chg.trans (D6.chg.trans C D6.wft) S0.wft⟩); subst he)) | fail)
  have S6 := D6.trans T6
  clear D6 T6 x0 x1 hwn y0 y1
  clear h6
  obtain rfl : ok = true := HOK.out.symm.trans (by simp [Cm.right, k3, k4, k6])
  go_wp2
  go_end0
  refine ⟨rfl, v6, ?_⟩
  have S := S0.trans S6
  simpa [Cm.enc, encL, List.append_assoc] using S

end Go.Proofs.Yteglpgakikigiaa

/- Package forms: headers, written: contracts. -/
namespace Go.Proofs.Yteglpgakikigiaa
open Go.RowKit
set_option linter.unusedVariables false
set_option linter.unusedSimpArgs false
set_option maxRecDepth 20000
set_option maxHeartbeats 1600000 in
theorem header_w (g : Nat) (l : List UInt8) (w : World) (v : Value) (b o : Nat) (x : Hd) (h : Wri w g v (some l)) (hc : w.rangeAt b o x.cells) (hb : ¬ Wft g v b) (hbl : b < w.heap.size) (ox : x.Ok) (hl : l.length ≤ 100000) :
    Calls Try.prog 55 #[.agg #[.pointer (some ⟨g, 0, none⟩), .pointer none], .pointer (some ⟨b, o, none⟩)] w (WO w g v x.right (l ++ x.enc)) := by
  have S0 := (Wst.here h).non ((Chg.refl Non w).alloc (.cells #[.pointer (some ⟨g, 0, none⟩), .pointer none] 84))
  have R0 := ((Chg.refl Non w).alloc (.cells #[.pointer (some ⟨g, 0, none⟩), .pointer none] 84)).range' hc (fun f => f)
  have hw := h.nnew (Nat.le_refl w.heap.size)
  have hx := Hb.new w 84 #[.pointer (some ⟨g, 0, none⟩), .pointer none]
  have hx0 : (w.alloc (.cells #[.pointer (some ⟨g, 0, none⟩), .pointer none] 84)).cell? ⟨w.heap.size, 0, none⟩ = some (.pointer (some ⟨g, 0, none⟩)) := hx.cell 0
  have hx1 : (w.alloc (.cells #[.pointer (some ⟨g, 0, none⟩), .pointer none] 84)).cell? ⟨w.heap.size, 1, none⟩ = some (.pointer none) := hx.cell 1
  have hBl : b < (w.alloc (.cells #[.pointer (some ⟨g, 0, none⟩), .pointer none] 84)).heap.size := by simp; omega
  have hBw : w.heap.size < (w.alloc (.cells #[.pointer (some ⟨g, 0, none⟩), .pointer none] 84)).heap.size := by simp
  have S1 := Wst.here (S0.wri)
  obtain ⟨B, hB⟩ : ∃ B, B = w.alloc (.cells #[.pointer (some ⟨g, 0, none⟩), .pointer none] 84) := ⟨_, rfl⟩
  obtain ⟨f0, f1, f2, f3, f4, f5, f6, f7⟩ := hd_facts R0 ox
  rw [← hB] at f0 f1 f2 f3 f4 f5 f6 f7
  generalize hok : x.right = ok
  have HOK := Lib.hid hok
  clear hok hx hc
  go_enter Try.func55, Try.ntmps55
  go_wp2_with fail
  rw [← hB] at S0 R0 hx0 hx1 hBl hBw S1 ⊢
  clear hB
  have x0 := S1.cell hx0 hw
  have x1 := S1.cell hx1 hw
  have hwn := S1.nw hw hBw
  go_wp2_with (first | (go_at_call 37; refine (begin_w g l _ v 2 S1.wri ⟨by omega, by omega⟩ (by omega)).mono ?_; rintro e w2 h2; obtain ⟨rfl, v2, T2⟩ := h2) | fail)
  have S2 := S1.trans T2
  clear T2 x0 x1 hwn
  go_wp2_with fail
  have D3 := S2.non ((Chg.refl Non w2).drew)
  have x0 := D3.cell hx0 hw
  have x1 := D3.cell hx1 hw
  have hwn := D3.nw hw hBw
  go_region_held (fun w' => w'.cell? ⟨w.heap.size, 0, none⟩ = some (.pointer (some ⟨g, 0, none⟩)) ∧ w'.cell? ⟨w.heap.size, 1, none⟩ = some (.pointer none)) (first | exact ⟨y0, y1⟩ | exact ⟨x0, x1⟩ | assumption) (first | (go_at_call 63; go_loud (refine (name_w g _ _ v2 b o x.chain D3.wri (D3.cell f0 hb) (D3.nw hb hBl) ox.chain (by simp [be_length, num_length, tx_length, bytes_len]; omega)).mono ?_; rintro e w3 h3; have y0 := h3.chg.cell x0 hwn; have y1 := h3.chg.cell x1 hwn; rcases h3.cases with ⟨k3, he, C⟩ | ⟨k3, he, v3, T3⟩; (subst he; obtain rfl : ok = false := HOK.out.symm.trans (by simp [Hd.right, k3]); exact ⟨rfl, rfl, S0.chg.trans (D3.chg.trans C D3.wft) S0.wft⟩); subst he)) | fail)
  have S3 := D3.trans T3
  clear D3 T3 x0 x1 hwn y0 y1
  clear h3
  go_wp2_with fail
  have D4 := S3.non ((Chg.refl Non w3).drew)
  have x0 := D4.cell hx0 hw
  have x1 := D4.cell hx1 hw
  have hwn := D4.nw hw hBw
  go_region_held (fun w' => w'.cell? ⟨w.heap.size, 0, none⟩ = some (.pointer (some ⟨g, 0, none⟩)) ∧ w'.cell? ⟨w.heap.size, 1, none⟩ = some (.pointer none)) (first | exact ⟨y0, y1⟩ | exact ⟨x0, x1⟩ | assumption) (first | (go_at_call 44; go_loud (refine (height_w g _ _ v3 b (o + 1) x.height D4.wri (D4.cell f1 hb) (D4.nw hb hBl) ox.height (by simp [be_length, num_length, tx_length, bytes_len]; have := nameOk_size k3; omega)).mono ?_; rintro e w4 h4; have y0 := h4.chg.cell x0 hwn; have y1 := h4.chg.cell x1 hwn; rcases h4.cases with ⟨k4, he, C⟩ | ⟨k4, he, v4, T4⟩; (subst he; obtain rfl : ok = false := HOK.out.symm.trans (by simp [Hd.right, k3, k4]); exact ⟨rfl, rfl, S0.chg.trans (D4.chg.trans C D4.wft) S0.wft⟩); subst he)) | fail)
  have S4 := D4.trans T4
  clear D4 T4 x0 x1 hwn y0 y1
  clear h4
  go_wp2_with fail
  have D5 := S4.non ((Chg.refl Non w4).drew)
  have x0 := D5.cell hx0 hw
  have x1 := D5.cell hx1 hw
  have hwn := D5.nw hw hBw
  go_region_held (fun w' => w'.cell? ⟨w.heap.size, 0, none⟩ = some (.pointer (some ⟨g, 0, none⟩)) ∧ w'.cell? ⟨w.heap.size, 1, none⟩ = some (.pointer none)) (first | exact ⟨y0, y1⟩ | exact ⟨x0, x1⟩ | assumption) (first | (go_at_call 62; go_loud (refine (numberI_w g _ _ v4 b (o + 2) x.time 0 1099511627776 D5.wri (D5.cell f2 hb) (D5.nw hb hBl) ox.time (by simp [be_length, num_length, tx_length, bytes_len]; have := nameOk_size k3; omega)).mono ?_; rintro e w5 h5; have y0 := h5.chg.cell x0 hwn; have y1 := h5.chg.cell x1 hwn; rcases h5.cases with ⟨k5, he, C⟩ | ⟨k5, he, v5, T5⟩; (subst he; obtain rfl : ok = false := HOK.out.symm.trans (by simp [Hd.right, k3, k4, k5]); exact ⟨rfl, rfl, S0.chg.trans (D5.chg.trans C D5.wft) S0.wft⟩); subst he)) | fail)
  have S5 := D5.trans T5
  clear D5 T5 x0 x1 hwn y0 y1
  clear h5
  go_wp2_with fail
  have D6 := S5.non ((Chg.refl Non w5).drew)
  have x0 := D6.cell hx0 hw
  have x1 := D6.cell hx1 hw
  have hwn := D6.nw hw hBw
  go_region_held (fun w' => w'.cell? ⟨w.heap.size, 0, none⟩ = some (.pointer (some ⟨g, 0, none⟩)) ∧ w'.cell? ⟨w.heap.size, 1, none⟩ = some (.pointer none)) (first | exact ⟨y0, y1⟩ | exact ⟨x0, x1⟩ | assumption) (first | (go_at_call 46; go_loud (refine (hash_w g _ _ v5 b (o + 3) x.last ox.last D6.wri (D6.range f3 hb) (D6.nw hb hBl) (by simp [be_length, num_length, tx_length, bytes_len]; have := nameOk_size k3; omega)).mono ?_; rintro e w6 h6; have y0 := h6.chg.cell x0 hwn; have y1 := h6.chg.cell x1 hwn; obtain ⟨rfl, v6, T6⟩ := h6)) | fail)
  have S6 := D6.trans T6
  clear D6 T6 x0 x1 hwn y0 y1
  go_wp2_with fail
  have D7 := S6.non ((Chg.refl Non w6).drew)
  have x0 := D7.cell hx0 hw
  have x1 := D7.cell hx1 hw
  have hwn := D7.nw hw hBw
  go_region_held (fun w' => w'.cell? ⟨w.heap.size, 0, none⟩ = some (.pointer (some ⟨g, 0, none⟩)) ∧ w'.cell? ⟨w.heap.size, 1, none⟩ = some (.pointer none)) (first | exact ⟨y0, y1⟩ | exact ⟨x0, x1⟩ | assumption) (first | (go_at_call 46; go_loud (refine (hash_w g _ _ v6 b (o + 35) x.set ox.set D7.wri (D7.range f4 hb) (D7.nw hb hBl) (by simp [be_length, num_length, tx_length, bytes_len, ox.last]; have := nameOk_size k3; omega)).mono ?_; rintro e w7 h7; have y0 := h7.chg.cell x0 hwn; have y1 := h7.chg.cell x1 hwn; obtain ⟨rfl, v7, T7⟩ := h7)) | fail)
  have S7 := D7.trans T7
  clear D7 T7 x0 x1 hwn y0 y1
  go_wp2_with fail
  have D8 := S7.non ((Chg.refl Non w7).drew)
  have x0 := D8.cell hx0 hw
  have x1 := D8.cell hx1 hw
  have hwn := D8.nw hw hBw
  go_region_held (fun w' => w'.cell? ⟨w.heap.size, 0, none⟩ = some (.pointer (some ⟨g, 0, none⟩)) ∧ w'.cell? ⟨w.heap.size, 1, none⟩ = some (.pointer none)) (first | exact ⟨y0, y1⟩ | exact ⟨x0, x1⟩ | assumption) (first | (go_at_call 46; go_loud (refine (hash_w g _ _ v7 b (o + 67) x.next ox.next D8.wri (D8.range f5 hb) (D8.nw hb hBl) (by simp [be_length, num_length, tx_length, bytes_len, ox.last, ox.set]; have := nameOk_size k3; omega)).mono ?_; rintro e w8 h8; have y0 := h8.chg.cell x0 hwn; have y1 := h8.chg.cell x1 hwn; obtain ⟨rfl, v8, T8⟩ := h8)) | fail)
  have S8 := D8.trans T8
  clear D8 T8 x0 x1 hwn y0 y1
  go_wp2_with fail
  have D9 := S8.non ((Chg.refl Non w8).drew)
  have x0 := D9.cell hx0 hw
  have x1 := D9.cell hx1 hw
  have hwn := D9.nw hw hBw
  go_region_held (fun w' => w'.cell? ⟨w.heap.size, 0, none⟩ = some (.pointer (some ⟨g, 0, none⟩)) ∧ w'.cell? ⟨w.heap.size, 1, none⟩ = some (.pointer none)) (first | exact ⟨y0, y1⟩ | exact ⟨x0, x1⟩ | assumption) (first | (go_at_call 46; go_loud (refine (hash_w g _ _ v8 b (o + 99) x.data ox.data D9.wri (D9.range f6 hb) (D9.nw hb hBl) (by simp [be_length, num_length, tx_length, bytes_len, ox.last, ox.set, ox.next]; have := nameOk_size k3; omega)).mono ?_; rintro e w9 h9; have y0 := h9.chg.cell x0 hwn; have y1 := h9.chg.cell x1 hwn; obtain ⟨rfl, v9, T9⟩ := h9)) | fail)
  have S9 := D9.trans T9
  clear D9 T9 x0 x1 hwn y0 y1
  go_wp2_with fail
  have D10 := S9.non ((Chg.refl Non w9).drew)
  have x0 := D10.cell hx0 hw
  have x1 := D10.cell hx1 hw
  have hwn := D10.nw hw hBw
  go_region_held (fun w' => w'.cell? ⟨w.heap.size, 0, none⟩ = some (.pointer (some ⟨g, 0, none⟩)) ∧ w'.cell? ⟨w.heap.size, 1, none⟩ = some (.pointer none)) (first | exact ⟨y0, y1⟩ | exact ⟨x0, x1⟩ | assumption) (first | (go_at_call 46; go_loud (refine (hash_w g _ _ v9 b (o + 131) x.app ox.app D10.wri (D10.range f7 hb) (D10.nw hb hBl) (by simp [be_length, num_length, tx_length, bytes_len, ox.last, ox.set, ox.next, ox.data]; have := nameOk_size k3; omega)).mono ?_; rintro e w10 h10; have y0 := h10.chg.cell x0 hwn; have y1 := h10.chg.cell x1 hwn; obtain ⟨rfl, v10, T10⟩ := h10)) | fail)
  have S10 := D10.trans T10
  clear D10 T10 x0 x1 hwn y0 y1
  obtain rfl : ok = true := HOK.out.symm.trans (by simp [Hd.right, k3, k4, k5])
  go_wp2
  go_end0
  refine ⟨rfl, v10, ?_⟩
  have S := S0.trans S10
  simpa [Hd.enc, List.append_assoc] using S

end Go.Proofs.Yteglpgakikigiaa

/- Package forms: light blocks, written. -/
namespace Go.Proofs.Yteglpgakikigiaa
open Go.RowKit
set_option linter.unusedVariables false
set_option linter.unusedSimpArgs false
set_option maxRecDepth 20000

theorem Hd.enc_len (x : Hd) (h : x.right = true) (ox : x.Ok) : x.enc.length ≤ 1000 := by
  unfold Hd.right at h
  simp only [Bool.and_eq_true] at h
  have := nameOk_size h.1
  unfold Hd.enc
  simp [num_length, tx_length, ox.last, ox.set, ox.next, ox.data, ox.app]
  have e1 : x.chain.data.size = x.chain.size := rfl
  omega
theorem flat_len {α : Type} (f : α → List UInt8) (m : Nat) (hf : ∀ x, (f x).length ≤ m) : ∀ l : List α, (l.flatMap f).length ≤ l.length * m
  | [] => by simp
  | x :: l => by
    have h1 := flat_len f m hf l
    have h2 := hf x
    simp only [List.flatMap_cons, List.length_append, List.length_cons, Nat.succ_mul]
    omega
theorem Se.enc_len (x : Se) : x.enc.length ≤ 24 := by simp [Se.enc, be_length]
theorem Va.enc_len (x : Va) : x.enc.length ≤ 16 := by simp [Va.enc, be_length, num_length]
theorem Cm.enc_len (x : Cm) (h : x.right = true) (ox : x.Ok) : x.enc.length ≤ 3000 := by
  unfold Cm.right at h
  simp only [Bool.and_eq_true] at h
  have h3 := (inR_iff.1 h.2.2).2
  have h4 := flat_len Se.enc 24 Se.enc_len x.seals
  unfold Cm.enc encL
  simp only [List.length_append, num_length, ox.block]
  omega
theorem set_len (l : List Va) (h : setRight l = true) : (setEnc l).length ≤ 3000 := by
  have h3 := (inR_iff.1 h).2
  have h4 := flat_len Va.enc 16 Va.enc_len l
  unfold setEnc encL
  simp only [List.length_append, num_length]
  omega
theorem Lt.enc_len (x : Lt) (h : x.right = true) (ox : x.Ok) : x.enc.length ≤ 100000 := by
  unfold Lt.right at h
  simp only [Bool.and_eq_true] at h
  have h1 := x.header.enc_len h.1 ox.header
  have h2 := x.commit.enc_len h.2.1 ox.commit
  have h3 := set_len x.set h.2.2.1
  have h4 := set_len x.next h.2.2.2
  unfold Lt.enc
  simp only [List.length_append, num_length]
  omega
theorem Hd.cells_len (x : Hd) (ox : x.Ok) : x.cells.length = 163 := by
  unfold Hd.cells
  simp [bv_length, ox.last, ox.set, ox.next, ox.data, ox.app]
theorem Cm.cells_len (x : Cm) (ox : x.Ok) (a : Value) : (x.cells a).length = 35 := by
  unfold Cm.cells
  simp [bv_length, ox.block]
set_option maxHeartbeats 1600000 in
theorem light_w (g : Nat) (l : List UInt8) (w : World) (v : Value) (b o : Nat) (A1 A2 A3 : Option Addr) (c1 c2 c3 : Nat) (x : Lt) (h : Wri w g v (some l)) (R : w.rangeAt b o (x.cells (.slice A1 x.commit.seals.length c1) (.slice A2 x.set.length c2) (.slice A3 x.next.length c3))) (hl1 : x.commit.seals.length ≤ maxLen) (hl2 : x.set.length ≤ maxLen) (hl3 : x.next.length ≤ maxLen) (HL1 : LstW w g v A1 x.commit.seals Se.cells 3) (HL2 : LstW w g v A2 x.set Va.cells 2) (HL3 : LstW w g v A3 x.next Va.cells 2) (ox : x.Ok) (hl : l.length ≤ 1000) (hb : ¬ Wft g v b) (hbl : b < w.heap.size) :
    Calls Try.prog 26 #[.agg #[.pointer (some ⟨g, 0, none⟩), .pointer none], .pointer (some ⟨b, o, none⟩)] w (WO w g v (x.right) (l ++ x.enc)) := by
  have hC0 := (Chg.refl Non w).alloc (.cells #[.pointer (some ⟨g, 0, none⟩), .pointer none] 84)
  have S0 := (Wst.here h).non hC0
  have hw := h.nnew (Nat.le_refl w.heap.size)
  have hx := Hb.new w 84 #[.pointer (some ⟨g, 0, none⟩), .pointer none]
  have hx0 : (w.alloc (.cells #[.pointer (some ⟨g, 0, none⟩), .pointer none] 84)).cell? ⟨w.heap.size, 0, none⟩ = some (.pointer (some ⟨g, 0, none⟩)) := hx.cell 0
  have hx1 : (w.alloc (.cells #[.pointer (some ⟨g, 0, none⟩), .pointer none] 84)).cell? ⟨w.heap.size, 1, none⟩ = some (.pointer none) := hx.cell 1
  have hBl : b < (w.alloc (.cells #[.pointer (some ⟨g, 0, none⟩), .pointer none] 84)).heap.size := by simp; omega
  have hBw : w.heap.size < (w.alloc (.cells #[.pointer (some ⟨g, 0, none⟩), .pointer none] 84)).heap.size := by simp
  have S1 := Wst.here (S0.wri)
  obtain ⟨f0, r2⟩ := rangeAt_app (hC0.range' R (fun f => f))
  obtain ⟨f1, r3⟩ := rangeAt_app r2
  obtain ⟨f2, r4⟩ := rangeAt_cons r3
  obtain ⟨f3, _⟩ := rangeAt_cons r4
  rw [x.header.cells_len ox.header] at f1
  rw [x.header.cells_len ox.header, x.commit.cells_len ox.commit] at f2 f3
  have f2 : (w.alloc (.cells #[.pointer (some ⟨g, 0, none⟩), .pointer none] 84)).cell? ⟨b, o + 198, none⟩ = some (.slice A2 x.set.length c2) := f2
  have f3 : (w.alloc (.cells #[.pointer (some ⟨g, 0, none⟩), .pointer none] 84)).cell? ⟨b, o + 199, none⟩ = some (.slice A3 x.next.length c3) := f3
  have K1 := HL1.chg hC0
  have K2 := HL2.chg hC0
  have K3 := HL3.chg hC0
  have q1 := x.header.enc_len
  have q2 := x.commit.enc_len
  have q3 := set_len x.set
  have Q1 := Lib.hid q1
  have Q2 := Lib.hid q2
  have Q3 := Lib.hid q3
  clear R r2 r3 r4 HL1 HL2 HL3 q1 q2 q3
  generalize hok : (x.right) = ok
  have HOK := Lib.hid hok
  clear hok hx hC0
  go_enter Try.func26, Try.ntmps26
  go_wp2_with fail
  generalize w.alloc (.cells #[.pointer (some ⟨g, 0, none⟩), .pointer none] 84) = B at *
  have x0 := S1.cell hx0 hw
  have x1 := S1.cell hx1 hw
  have hwn := S1.nw hw hBw
  go_wp2_with (first | (go_at_call 37; go_loud (refine (begin_w g l _ v 5 S1.wri ⟨by omega, by omega⟩ (by omega)).mono ?_; rintro e w2 h2; obtain ⟨rfl, v2, T2⟩ := h2)) | fail)
  have S2 := S1.trans T2
  clear T2 x0 x1 hwn
  go_wp2_with fail
  have D3 := S2.non ((Chg.refl Non w2).drew)
  have x0 := D3.cell hx0 hw
  have x1 := D3.cell hx1 hw
  have hwn := D3.nw hw hBw
  go_region_held (fun w' => w'.cell? ⟨w.heap.size, 0, none⟩ = some (.pointer (some ⟨g, 0, none⟩)) ∧ w'.cell? ⟨w.heap.size, 1, none⟩ = some (.pointer none)) (first | exact ⟨y0, y1⟩ | exact ⟨x0, x1⟩ | assumption) (first | (go_at_call 55; go_loud (refine (header_w g _ _ v2 b o x.header D3.wri (D3.range f0 hb) (D3.nw hb hBl) (by have := D3.chg.size; omega) ox.header (by simp [num_length]; omega)).mono ?_; rintro e w3 h3; have y0 := h3.chg.cell x0 hwn; have y1 := h3.chg.cell x1 hwn; rcases h3.cases with ⟨k3, he, C⟩ | ⟨k3, he, v3, T3⟩; (subst he; obtain rfl : ok = false := HOK.out.symm.trans (by simp [Lt.right, k3]); exact ⟨rfl, rfl, S0.chg.trans (D3.chg.trans C D3.wft) S0.wft⟩); subst he)) | fail)
  have S3 := D3.trans T3
  clear D3 T3 x0 x1 hwn y0 y1
  clear h3
  go_wp2_with fail
  have D4 := S3.non ((Chg.refl Non w3).drew)
  have x0 := D4.cell hx0 hw
  have x1 := D4.cell hx1 hw
  have hwn := D4.nw hw hBw
  go_region_held (fun w' => w'.cell? ⟨w.heap.size, 0, none⟩ = some (.pointer (some ⟨g, 0, none⟩)) ∧ w'.cell? ⟨w.heap.size, 1, none⟩ = some (.pointer none)) (first | exact ⟨y0, y1⟩ | exact ⟨x0, x1⟩ | assumption) (first | (go_at_call 22; go_loud (refine (commit_w g _ _ v3 b (o + 163) A1 c1 x.commit D4.wri (D4.range f1 hb) hl1 (K1.later D4) ox.commit (by have := Q1.out k3 ox.header; simp [num_length]; omega) (D4.nw hb hBl) (by have := D4.chg.size; omega)).mono ?_; rintro e w4 h4; have y0 := h4.chg.cell x0 hwn; have y1 := h4.chg.cell x1 hwn; rcases h4.cases with ⟨k4, he, C⟩ | ⟨k4, he, v4, T4⟩; (subst he; obtain rfl : ok = false := HOK.out.symm.trans (by simp [Lt.right, k3, k4]); exact ⟨rfl, rfl, S0.chg.trans (D4.chg.trans C D4.wft) S0.wft⟩); subst he)) | fail)
  have S4 := D4.trans T4
  clear D4 T4 x0 x1 hwn y0 y1
  clear h4
  go_wp2_with fail
  have D5 := S4.non ((Chg.refl Non w4).drew)
  have x0 := D5.cell hx0 hw
  have x1 := D5.cell hx1 hw
  have hwn := D5.nw hw hBw
  go_region_held (fun w' => w'.cell? ⟨w.heap.size, 0, none⟩ = some (.pointer (some ⟨g, 0, none⟩)) ∧ w'.cell? ⟨w.heap.size, 1, none⟩ = some (.pointer none)) (first | exact ⟨y0, y1⟩ | exact ⟨x0, x1⟩ | assumption) (first | (go_at_call 18; go_loud (refine (set_w g _ _ v4 b (o + 198) A2 c2 x.set D5.wri (D5.cell f2 hb) hl2 (K2.later D5) ox.set (by have := Q1.out k3 ox.header; have := Q2.out k4 ox.commit; simp [num_length]; omega) (D5.nw hb hBl) (by have := D5.chg.size; omega)).mono ?_; rintro e w5 h5; have y0 := h5.chg.cell x0 hwn; have y1 := h5.chg.cell x1 hwn; rcases h5.cases with ⟨k5, he, C⟩ | ⟨k5, he, v5, T5⟩; (subst he; obtain rfl : ok = false := HOK.out.symm.trans (by simp [Lt.right, k3, k4, k5]); exact ⟨rfl, rfl, S0.chg.trans (D5.chg.trans C D5.wft) S0.wft⟩); subst he)) | fail)
  have S5 := D5.trans T5
  clear D5 T5 x0 x1 hwn y0 y1
  clear h5
  go_wp2_with fail
  have D6 := S5.non ((Chg.refl Non w5).drew)
  have x0 := D6.cell hx0 hw
  have x1 := D6.cell hx1 hw
  have hwn := D6.nw hw hBw
  go_region_held (fun w' => w'.cell? ⟨w.heap.size, 0, none⟩ = some (.pointer (some ⟨g, 0, none⟩)) ∧ w'.cell? ⟨w.heap.size, 1, none⟩ = some (.pointer none)) (first | exact ⟨y0, y1⟩ | exact ⟨x0, x1⟩ | assumption) (first | (go_at_call 18; go_loud (refine (set_w g _ _ v5 b (o + 199) A3 c3 x.next D6.wri (D6.cell f3 hb) hl3 (K3.later D6) ox.next (by have := Q1.out k3 ox.header; have := Q2.out k4 ox.commit; have := Q3.out k5; simp [num_length]; omega) (D6.nw hb hBl) (by have := D6.chg.size; omega)).mono ?_; rintro e w6 h6; have y0 := h6.chg.cell x0 hwn; have y1 := h6.chg.cell x1 hwn; rcases h6.cases with ⟨k6, he, C⟩ | ⟨k6, he, v6, T6⟩; (subst he; obtain rfl : ok = false := HOK.out.symm.trans (by simp [Lt.right, k3, k4, k5, k6]); exact ⟨rfl, rfl, S0.chg.trans (D6.chg.trans C D6.wft) S0.wft⟩); subst he)) | fail)
  have S6 := D6.trans T6
  clear D6 T6 x0 x1 hwn y0 y1
  clear h6
  obtain rfl : ok = true := HOK.out.symm.trans (by simp [Lt.right, k3, k4, k5, k6])
  go_wp2
  go_end0
  refine ⟨rfl, v6, ?_⟩
  have S := S0.trans S6
  simpa [Lt.enc, List.append_assoc] using S

end Go.Proofs.Yteglpgakikigiaa

/- Package forms: EncodeLight, DecodeLight. -/
namespace Go.Proofs.Yteglpgakikigiaa
open Go.RowKit
set_option linter.unusedVariables false
set_option linter.unusedSimpArgs false
set_option maxRecDepth 20000

/-- A list's elements lie from A on. -/
def LstM {α : Type} (w : World) (A : Option Addr) (l : List α) (cells : α → List Value) (sz : Nat) : Prop :=
  ∀ (i : Nat) (x : α), l[i]? = some x → ∃ eb eo, A = some ⟨eb, eo, none⟩ ∧ eb < w.heap.size ∧ w.rangeAt eb (eo + i * sz) (cells x)
theorem LstM.chg {α : Type} {w w' : World} {A : Option Addr} {l : List α} {cells : α → List Value} {sz : Nat} (h : LstM w A l cells sz) (k : Chg Non w w') : LstM w' A l cells sz := by
  intro i x hx
  obtain ⟨eb, eo, e, h2, h3⟩ := h i x hx
  exact ⟨eb, eo, e, Nat.lt_of_lt_of_le h2 k.size, k.range' h3 (fun f => f)⟩
theorem LstM.not {α : Type} {w w' : World} {A : Option Addr} {l : List α} {cells : α → List Value} {sz : Nat} (h : LstM w A l cells sz) (k : Chg Non w w') {g : Nat} (hg : w.heap.size ≤ g) : LstW w' g (.slice none 0 0) A l cells sz := by
  intro i x hx
  obtain ⟨eb, eo, e, h2, h3⟩ := h i x hx
  exact ⟨eb, eo, e, (by rintro (h | h); omega; cases h), Nat.lt_of_lt_of_le h2 k.size, k.range' h3 (fun f => f)⟩
theorem flat_get {α : Type} {cells : α → List Value} {sz : Nat} (hc : ∀ x, (cells x).length = sz) : ∀ (l : List α) (i : Nat) (x : α), l[i]? = some x → ∀ (j : Nat) (u : Value), (cells x)[j]? = some u → (l.flatMap cells)[i * sz + j]? = some u
  | [], i, x, h, _, _, _ => by simp at h
  | y :: l, 0, x, h, j, u, hu => by
    simp only [List.getElem?_cons_zero, Option.some.injEq] at h
    subst h
    rw [Nat.zero_mul, Nat.zero_add, List.flatMap_cons, List.getElem?_append_left (List.getElem?_eq_some_iff.1 hu).1]
    exact hu
  | y :: l, i + 1, x, h, j, u, hu => by
    rw [List.flatMap_cons, List.getElem?_append_right (by rw [hc, Nat.succ_mul]; omega), hc]
    have e : (i + 1) * sz + j - sz = i * sz + j := by rw [Nat.succ_mul]; omega
    rw [e]
    exact flat_get hc l i x (by simpa using h) j u hu
/-- A new block of elements. -/
theorem lstM_new {α : Type} {w : World} {n : Nat} {t : TypeId} {l : List α} {cells : α → List Value} {sz : Nat} (hc : ∀ x, (cells x).length = sz) (h : Hb w n t (l.flatMap cells).toArray) : LstM w (some ⟨n, 0, none⟩) l cells sz := by
  intro i x hx
  refine ⟨n, 0, rfl, h.lt, fun j u hu => ?_⟩
  rw [Nat.zero_add, h.cell]
  simpa using flat_get hc l i x hx j u hu

theorem DecodeLight_any (w : World) (A : Option Addr) (n c : Nat) (bs : List UInt8) (hn : n = bs.length) (hr : Rd w A bs) (hsz : bs.length ≤ 1000000000) : Calls Try.prog 9 #[.slice A n c] w (DecL w ltz (whole (dLight (some bs)))) := by
  have hz := dLight.alloc0 w
  have hzl := dLight.zlen
  have hrow := dLight.row
  have hC := (Chg.refl Non w).alloc (.cells ltz.toArray 38)
  have hb := Hb.new w 38 ltz.toArray
  have hltz : ltz = Hd.zero.cells ++ (.int .i64 0 :: .int .i64 0 :: (bv noH ++ (.slice none 0 0 :: .slice none 0 0 :: .slice none 0 0 :: []))) := rfl
  have hzh : Hd.zero.cells.length = 163 := rfl
  have H := decoded_Light (w.alloc (.cells ltz.toArray 38)) A n c bs (dLight (some bs)) hn (hr.chg hC (fun _ _ f => f)) hsz (fun x s h => dLight_len h) (fun w1 g F S => by
    generalize (w.alloc (.cells ltz.toArray 38)).heap.size = tb at *
    have h := light_r w1 g F tb 0 38 [] [] Hd.zero.cells hzh (.int .i64 0) (.int .i64 0) (bv noH) (by rw [bv_length]; rfl) (some bs) (S.eq (by rw [List.nil_append]; exact hltz)) rfl
    rw [List.nil_append, ← hltz, hzl] at h
    exact h)
  have hlen : ∀ x, whole (dLight (some bs)) = some x → ∀ a b c, (x.cells a b c).length = 200 := by
    intro x h a b c
    cases hd : dLight (some bs) with
    | none => rw [hd] at h; cases h
    | some y =>
      rw [hd] at h
      obtain ⟨y, st⟩ := y
      match st, h with
      | some [], h =>
        simp only [whole, Option.some.injEq] at h
        subst h
        exact dLight_len hd a b c
  generalize whole (dLight (some bs)) = r at *
  have hzone := ltz_one
  have HH := Lib.hid H
  have HC := Lib.hid hC
  clear H hC hn hr hltz hzh
  generalize ltz = z at *
  go_enter Try.func9, Try.ntmps9
  go_wp2_with (with_reducible refine wpList_alloc_row rfl _ rfl z hz ?_)
  refine HH.out.mono ?_
  rintro e w1 ⟨h1, h2⟩
  clear HH
  have hb1 := hb.chg h1 (fun f => f)
  have h0 := HC.out.trans h1 (fun _ f => f.elim)
  have hs1 := HC.out.size
  have hss : (w.alloc (.cells z.toArray 38)).heap.size = w.heap.size + 1 := by simp
  obtain ⟨L, k, rfl, hL1, hL2, hk⟩ : ∃ (L : List Value) (k : Int), e = .returned (.tuple #[.agg L.toArray, .int .i64 k]) ∧ L.length = 200 ∧ (∀ v ∈ L, v.oneCell' = true) ∧ (∀ w', Chg (fun j => j = w.heap.size) w1 w' → DecL w z r (.returned (.tuple #[.agg L.toArray, .int .i64 k])) w') := by
    cases r with
    | some x =>
      obtain ⟨n1, n2, n3, g1, g2, g3, rfl, B1, B2, B3⟩ := h2
      refine ⟨_, 0, rfl, hlen x rfl _ _ _, x.one n1 n2 n3, fun w' k => ⟨h0.trans k (fun j hj => .inr (by omega)), n1, n2, n3, by omega, by omega, by omega, rfl, B1.chg k (by omega), B2.chg k (by omega), B3.chg k (by omega)⟩⟩
    | none => exact ⟨z, 61, h2, hzl, hzone, fun w' k => ⟨h0.trans k (fun j hj => .inr (by omega)), rfl⟩⟩
  have hLs : L.toArray.size = 200 := by rw [List.size_toArray, hL1]
  have hth := hb1.there0
  rw [hzl] at hth
  have hb2 := hb1.sets0 (L' := L) (by rw [hzl, hL1])
  have HK := Lib.hid hk
  clear h2 hk hlen
  go_wp2_with (with_reducible refine wpList_store_mid rfl 38 _ _ rfl w.heap.size 0 L.toArray rfl rfl (by rw [hLs]; exact hth) (by rw [hLs, hrow]) (one_mem hL2) ?_)
  refine bodyPost_ret ((results_cell_tmp rfl _ _ _).trans ?_) rfl (R := DecL w z r) (v := .tuple #[.agg L.toArray, .int .i64 k]) ?_
  · simp only [asAddr, Sem.run_pure, Result.andThen_ok]
    have hl := load_row hb2 Try.underlying38 rfl (by rw [hrow, hL1])
    simp [hl]
  · exact HK.out _ (Chg.setCells (S := fun j => j = w.heap.size) rfl L _ 0 (Chg.refl _ _))
end Go.Proofs.Yteglpgakikigiaa

/- The document's answers for forms: the bytes of validators. -/
namespace Go.Proofs.Yteglpgakikigiaa
open Go.RowKit
set_option linter.unusedVariables false
set_option linter.unusedSimpArgs false
set_option maxRecDepth 20000

theorem va_enc_len (x : Va) : x.enc.length = 16 := by unfold Va.enc; rw [List.length_append, be_length, num_length]
theorem vas_enc_len : ∀ l : List Va, (l.flatMap Va.enc).length = l.length * 16
  | [] => rfl
  | x :: l => by rw [List.flatMap_cons, List.length_append, vas_enc_len l, va_enc_len, List.length_cons]; omega
set_option maxHeartbeats 3200000 in
theorem refSet_any (w : World) (A : Option Addr) (c : Nat) (l : List Va) (hl : l.length ≤ 64) (M : LstM w A l Va.cells 2) (ol : ∀ x ∈ l, x.Ok) :
    Calls Try.prog 58 #[.slice A l.length c] w fun e w' => Chg Non w w' ∧ ∃ v, e = .returned (.tuple #[v, .bool true]) ∧ Own 5 w' v (setEnc l) := by
  have HM := Lib.hid M
  have HOL := Lib.hid ol
  have HE : Hid (setEnc l = num 3 ++ (num l.length ++ l.flatMap Va.enc)) := Lib.hid rfl
  generalize setEnc l = enc at *
  clear M ol
  generalize hn : l.length = n at *
  have HN := Lib.hid hn
  clear hn
  go_enter Try.func58, Try.ntmps58
  go_wp2_with fail
  refine (refNumber_any _ 3).mono ?_
  rintro e w1 ⟨v1, rfl, o1, n1, j1⟩
  have B1 : Bts w w1 v1 (num 3) := ⟨o1, n1, j1⟩
  go_wp2_with fail
  refine (refNumber_any _ (n : Int)).mono ?_
  rintro e w2 ⟨v2, rfl, o2, n2, j2⟩
  obtain ⟨A2, c2, rfl, R2⟩ := o2.rd
  have B2 := B1.later j2
  clear B1 o1 n1 j1 o2 n2 j2
  go_wp2_with (at_builtin; refine wpList_app byt _ rfl _ _ rfl rfl B2.own (A := A2) (c := c2) rfl rfl R2 (by simp only [num_length]; omega) ?_; intro v3 w3 o3 g3 b3)
  have HB3 := Lib.hid (B2.app o3 g3 b3)
  clear B2 o3 g3 b3 R2
  go_loopw [4, 5] (fun b i wr => ∃ q : Nat, q ≤ n ∧ i = .int .i64 (q : Int) ∧ Hid (Bts w wr b ((num 3 ++ num (n : Int)) ++ (l.take q).flatMap Va.enc))) (fun _ i _ => n - (intOf i).toNat)
  case atStart => exact ⟨0, by omega, rfl, Lib.hid (by simpa using HB3.out)⟩
  case round =>
    obtain ⟨q, hq, rfl, HB⟩ := hrel
    clear HB3
    by_cases hlt : q < n
    · have hq1 : q < l.length := by rw [HN.out]; exact hlt
      have hx := List.getElem?_eq_getElem hq1
      have ox := HOL.out _ (List.getElem_mem hq1)
      obtain ⟨a, ao, rfl, _, r1⟩ := HM.out q _ hx
      have HNX : Hid ((l.take (q + 1)).flatMap Va.enc = (l.take q).flatMap Va.enc ++ (be 8 (l[q]).key ++ num (l[q]).power)) := Lib.hid (by rw [List.take_succ_eq_append_getElem hq1, List.flatMap_append]; simp [Va.enc])
      have HTL : Hid (((l.take q).flatMap Va.enc).length ≤ 1024) := Lib.hid (by rw [vas_enc_len, List.length_take]; omega)
      have hok := ox.key
      generalize l[q] = x at *
      have HAT : Hid (∀ w', Chg Non w w' → w'.cell? ⟨a, ao + q * 2, none⟩ = some (.int .u64 (x.key : Int)) ∧ w'.cell? ⟨a, ao + q * 2 + 1, none⟩ = some (.int .i64 x.power)) := Lib.hid fun w' k => by
        obtain ⟨p0, p1⟩ := rangeAt_cons (k.range' r1 (fun f => f))
        exact ⟨p0, (rangeAt_cons p1).1⟩
      generalize (l.take q).flatMap Va.enc = tl at *
      have hqi : (q : Int) < (n : Int) := by omega
      have hq64 : (q : Int) ≤ 64 := by omega
      have p0 := (HAT.out wr HB.out.chg).1
      clear hx hq1 r1 ox
      go_wp2_with fail
      refine (refWord_any _ x.key hok).mono ?_
      rintro e w5 ⟨v5, rfl, o5, n5, j5⟩
      obtain ⟨A5, c5, rfl, R5⟩ := o5.rd
      have B5 := HB.out.later j5
      clear p0
      go_wp2_with (at_builtin; refine wpList_app (v := u4) byt _ rfl _ _ rfl rfl B5.own (A := A5) (c := c5) rfl rfl R5 (by have := HTL.out; simp only [List.length_append, num_length, be_length]; omega) ?_; intro v6 w6 o6 g6 b6; have B6 := B5.app o6 g6 b6; have p1 := (HAT.out w6 B6.chg).2)
      refine (refNumber_any _ x.power).mono ?_
      rintro e w7 ⟨v7, rfl, o7, n7, j7⟩
      obtain ⟨A7, c7, rfl, R7⟩ := o7.rd
      have B7 := B6.later j7
      clear p1 B5 o5 n5 j5 R5 o6 g6 b6 B6 o7 n7 j7
      go_wp2_with (at_builtin; refine wpList_app (v := v6) byt _ rfl _ _ rfl rfl B7.own (A := A7) (c := c7) rfl rfl R7 (by have := HTL.out; simp only [List.length_append, num_length, be_length]; omega) ?_; intro v8 w8 o8 g8 b8)
      have HB8 := Lib.hid (B7.app o8 g8 b8)
      clear B7 o8 g8 b8 R7
      go_roundw
      case rel => exact ⟨q + 1, by omega, by go_num, Lib.hid (by rw [HNX.out]; simpa only [List.append_assoc] using HB8.out)⟩
      case measure => simp [intOf]; omega
    · obtain rfl : q = n := by omega
      have hq64 : (q : Int) ≤ 64 := by omega
      have hB := HB.out
      rw [show l.take q = l from by rw [← HN.out, List.take_length]] at hB
      have HBB := Lib.hid hB
      clear hB HB
      go_wp2_with fail
      go_ret2
      exact ⟨HBB.out.chg, u4, rfl, by rw [HE.out]; simpa only [List.append_assoc] using HBB.out.own⟩
end Go.Proofs.Yteglpgakikigiaa
