/- Package forms: validators and sets, written. -/
import Derived.Test.YtjcfdclgddjaoaaChecked
import Derived.WalkKit
import Derived.WalkLawsBesides
import Derived.Lib.Hide
import Derived.Deep.RegionHeld3
import Derived.Test.YtjcfdclgddjaoaaFw
import Derived.Test.YtjcfdclgddjaoaaFt2
import Derived.Test.YtjcfdclgddjaoaaFlv
namespace Go.Proofs.Ytjcfdclgddjaoaa
open Go.RowKit
set_option linter.unusedVariables false
set_option linter.unusedSimpArgs false
set_option maxRecDepth 20000

/-- A list's elements lie from A on, in memory that is not the writer's. -/
def LstW {α : Type} (w : World) (g : Nat) (v : Value) (A : Option Addr) (l : List α) (cells : α → List Value) (sz : Nat) : Prop :=
  ∀ (i : Nat) (x : α), l[i]? = some x → ∃ eb eo, A = some ⟨eb, eo, none⟩ ∧ ¬ Wft g v eb ∧ eb < w.heap.size ∧ w.rangeAt eb (eo + i * sz) (cells x)
theorem LstW.chg {α : Type} {w w' : World} {g : Nat} {v : Value} {A : Option Addr} {l : List α} {cells : α → List Value} {sz : Nat} (h : LstW w g v A l cells sz) (k : Chg Non w w') : LstW w' g v A l cells sz := by
  intro i x hx
  obtain ⟨eb, eo, e, h1, h2, h3⟩ := h i x hx
  exact ⟨eb, eo, e, h1, Nat.lt_of_lt_of_le h2 k.size, k.range' h3 (fun f => f)⟩
theorem LstW.later {α : Type} {B w : World} {g : Nat} {v v' : Value} {l0 : List UInt8} {A : Option Addr} {l : List α} {cells : α → List Value} {sz : Nat} (h : LstW B g v A l cells sz) (S : Wst B g v l0 w v') : LstW w g v' A l cells sz := by
  intro i x hx
  obtain ⟨eb, eo, e, h1, h2, h3⟩ := h i x hx
  exact ⟨eb, eo, e, S.nw h1 h2, Nat.lt_of_lt_of_le h2 S.chg.size, S.range h3 h1⟩
theorem okAt_get {α : Type} {p : α → Bool} {l : List α} {i : Nat} {x : α} (h : l[i]? = some x) : okAt p l i = p x := by unfold okAt; rw [h]; rfl
theorem bsAt_get {α : Type} {f : α → List UInt8} {l : List α} {i : Nat} {x : α} (h : l[i]? = some x) : bsAt f l i = f x := by unfold bsAt; rw [h]; rfl
theorem validator_w (g : Nat) (l : List UInt8) (w : World) (v : Value) (b o : Nat) (x : Va) (h : Wri w g v (some l)) (hc : w.rangeAt b o x.cells) (hb : ¬ Wft g v b) (hbl : b < w.heap.size) (ox : x.Ok) (hl : l.length ≤ 500000000) :
    Calls Try.prog 104 #[.agg #[.pointer (some ⟨g, 0, none⟩), .pointer none], .pointer (some ⟨b, o, none⟩)] w (WO w g v x.right (l ++ x.enc)) := by
  have S0 := (Wst.here h).non ((Chg.refl Non w).alloc (.cells #[.pointer (some ⟨g, 0, none⟩), .pointer none] 138))
  have R0 := ((Chg.refl Non w).alloc (.cells #[.pointer (some ⟨g, 0, none⟩), .pointer none] 138)).range' hc (fun f => f)
  have hw := h.nnew (Nat.le_refl w.heap.size)
  have hx := Hb.new w 138 #[.pointer (some ⟨g, 0, none⟩), .pointer none]
  have hx0 : (w.alloc (.cells #[.pointer (some ⟨g, 0, none⟩), .pointer none] 138)).cell? ⟨w.heap.size, 0, none⟩ = some (.pointer (some ⟨g, 0, none⟩)) := hx.cell 0
  have hx1 : (w.alloc (.cells #[.pointer (some ⟨g, 0, none⟩), .pointer none] 138)).cell? ⟨w.heap.size, 1, none⟩ = some (.pointer none) := hx.cell 1
  have hBl : b < (w.alloc (.cells #[.pointer (some ⟨g, 0, none⟩), .pointer none] 138)).heap.size := by simp; omega
  have hBw : w.heap.size < (w.alloc (.cells #[.pointer (some ⟨g, 0, none⟩), .pointer none] 138)).heap.size := by simp
  have S1 := Wst.here (S0.wri)
  obtain ⟨B, hB⟩ : ∃ B, B = w.alloc (.cells #[.pointer (some ⟨g, 0, none⟩), .pointer none] 138) := ⟨_, rfl⟩
  obtain ⟨f0, r1⟩ := rangeAt_cons R0
  obtain ⟨f1, _⟩ := rangeAt_cons r1
  clear r1
  rw [← hB] at f0 f1
  generalize hok : x.right = ok
  have HOK := Lib.hid hok
  clear hok hx hc
  go_enter Try.func104, Try.ntmps104
  go_wp2_with fail
  rw [← hB] at S0 R0 hx0 hx1 hBl hBw S1 ⊢
  clear hB
  have D2 := S1.non ((Chg.refl Non B).drew)
  have x0 := D2.cell hx0 hw
  have x1 := D2.cell hx1 hw
  have hwn := D2.nw hw hBw
  go_region_held (fun w' => w'.cell? ⟨w.heap.size, 0, none⟩ = some (.pointer (some ⟨g, 0, none⟩)) ∧ w'.cell? ⟨w.heap.size, 1, none⟩ = some (.pointer none)) (first | exact ⟨y0, y1⟩ | exact ⟨x0, x1⟩ | assumption) (first | (go_at_call 94; go_loud (refine (word_w g _ _ v b o x.key D2.wri (D2.cell f0 hb) (D2.nw hb hBl) ox.key (by omega)).mono ?_; rintro e w2 h2; have y0 := h2.chg.cell x0 hwn; have y1 := h2.chg.cell x1 hwn; obtain ⟨rfl, v2, T2⟩ := h2)) | fail)
  have S2 := D2.trans T2
  clear D2 T2 x0 x1 hwn y0 y1
  go_wp2_with fail
  have D3 := S2.non ((Chg.refl Non w2).drew)
  have x0 := D3.cell hx0 hw
  have x1 := D3.cell hx1 hw
  have hwn := D3.nw hw hBw
  go_region_held (fun w' => w'.cell? ⟨w.heap.size, 0, none⟩ = some (.pointer (some ⟨g, 0, none⟩)) ∧ w'.cell? ⟨w.heap.size, 1, none⟩ = some (.pointer none)) (first | exact ⟨y0, y1⟩ | exact ⟨x0, x1⟩ | assumption) (first | (go_at_call 80; go_loud (refine (numberI_w g _ _ v2 b (o + 1) x.power (-9223372036854775808) 9223372036854775807 D3.wri (D3.cell f1 hb) (D3.nw hb hBl) ox.power (by rw [List.length_append, be_length]; omega)).mono ?_; rintro e w3 h3; have y0 := h3.chg.cell x0 hwn; have y1 := h3.chg.cell x1 hwn; rcases h3.cases with ⟨k3, he, C⟩ | ⟨k3, he, v3, T3⟩; (subst he; obtain rfl : ok = false := HOK.out.symm.trans (by simp [Va.right, k3]); exact ⟨rfl, rfl, S0.chg.trans (D3.chg.trans C D3.wft) S0.wft⟩); subst he)) | fail)
  have S3 := D3.trans T3
  clear D3 T3 x0 x1 hwn y0 y1
  clear h3
  obtain rfl : ok = true := HOK.out.symm.trans (by simp [Va.right, k3])
  go_wp2
  go_end0
  refine ⟨rfl, v3, ?_⟩
  have S := S0.trans S3
  simpa [Va.enc, List.append_assoc] using S


theorem set_w (g : Nat) (l0 : List UInt8) (w : World) (v : Value) (b o : Nat) (A : Option Addr) (c : Nat) (l : List Va) (h : Wri w g v (some l0)) (hc : w.cell? ⟨b, o, none⟩ = some (.slice A l.length c)) (hlm : l.length ≤ maxLen) (HL0 : LstW w g v A l Va.cells 2) (ol : ∀ x ∈ l, x.Ok) (hl : l0.length ≤ 1000000) (hb : ¬ Wft g v b) (hbl : b < w.heap.size) :
    Calls Try.prog 63 #[.agg #[.pointer (some ⟨g, 0, none⟩), .pointer none], .pointer (some ⟨b, o, none⟩)] w (WO w g v (setRight l) (l0 ++ setEnc l)) := by
  have hC0 := (Chg.refl Non w).alloc (.cells #[.pointer (some ⟨g, 0, none⟩), .pointer none] 138)
  have S0 := (Wst.here h).non hC0
  have hw := h.nnew (Nat.le_refl w.heap.size)
  have hx := Hb.new w 138 #[.pointer (some ⟨g, 0, none⟩), .pointer none]
  have hx0 : (w.alloc (.cells #[.pointer (some ⟨g, 0, none⟩), .pointer none] 138)).cell? ⟨w.heap.size, 0, none⟩ = some (.pointer (some ⟨g, 0, none⟩)) := hx.cell 0
  have hx1 : (w.alloc (.cells #[.pointer (some ⟨g, 0, none⟩), .pointer none] 138)).cell? ⟨w.heap.size, 1, none⟩ = some (.pointer none) := hx.cell 1
  have hBl : b < (w.alloc (.cells #[.pointer (some ⟨g, 0, none⟩), .pointer none] 138)).heap.size := by simp; omega
  have f0 := hC0.cell hc (fun f => f)
  have HL := HL0.chg hC0
  have S1 := Wst.here (S0.wri)
  have hall : (inR 0 64 l.length && allB (okAt Va.right l) l.length) = setRight l := by
    rw [allB_all, show l.all Va.right = true from List.all_eq_true.2 (fun x hx => Va.right_ok (ol x hx)), Bool.and_true]; rfl
  have hbs : ∀ i, okAt Va.right l i = true → (bsAt Va.enc l i).length ≤ 20000 := by
    intro i _
    unfold bsAt
    cases l[i]? with
    | none => simp
    | some x => simp [Va.enc, be_length, num_length]
  generalize setRight l = okt at hall ⊢
  have HLB := Lib.hid HL
  have HALL := Lib.hid hall
  clear hc HL0 hx hC0 HL hall
  go_enter Try.func63, Try.ntmps63
  go_wp2_with fail
  generalize w.alloc (.cells #[.pointer (some ⟨g, 0, none⟩), .pointer none] 138) = B at *
  refine (begin_w g l0 _ v 3 S1.wri ⟨by omega, by omega⟩ (by omega)).mono ?_
  rintro e w2 h2
  obtain ⟨rfl, v2, T2⟩ := h2
  have x0 := T2.cell hx0 hw
  have x1 := T2.cell hx1 hw
  have HN := listValidator_w g (l0 ++ num 3) w2 v2 b o A l.length c 64 (okAt Va.right l) (bsAt Va.enc l) T2.wri (T2.cell f0 hb) (T2.nw hb hBl) (by have := T2.chg.size; omega) hlm (by omega) (by rw [List.length_append, num_length]; omega) hbs (fun i hi => by
      obtain ⟨eb, eo, e, h1, h2, h3⟩ := HLB.out.later T2 i _ (List.getElem?_eq_getElem hi)
      refine ⟨eb, eo, e, fun l' w' v' S' hl' => ?_⟩
      have hx := List.getElem?_eq_getElem hi
      rw [okAt_get hx, bsAt_get hx]
      exact validator_w g l' w' v' eb (eo + i * 2) _ S'.wri (S'.range h3 h1) (S'.nw h1 h2) (by have := S'.chg.size; omega) (ol _ (List.getElem_mem hi)) (by omega))
  rw [jn_all] at HN
  have hall' : (inR 0 ((64 : Nat) : Int) l.length && allB (okAt Va.right l) l.length) = okt := HALL.out
  rw [hall'] at HN
  have HNN := Lib.hid HN
  clear HN hall' HLB
  go_wp2_with fail
  refine HNN.out.mono ?_
  rintro e w3 h3
  rcases h3.cases with ⟨k, he, C⟩ | ⟨k, he, v3, T3⟩
  · subst he
    subst k
    go_wp2
    exact ⟨rfl, rfl, S0.chg.trans (T2.chg.trans C T2.wft) S0.wft⟩
  · subst he
    subst k
    go_wp2
    go_end0
    refine ⟨rfl, v3, ?_⟩
    have S := S0.trans (T2.trans T3)
    simpa [setEnc, encL, List.append_assoc] using S
end Go.Proofs.Ytjcfdclgddjaoaa
