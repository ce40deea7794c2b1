import Derived.Test.YtoafchfpnaojmaaChecked
import Derived.WalkKit
import Derived.WalkLawsBesides
import Derived.Lib.Hide
import Derived.Deep.RegionHeld3
import Derived.Test.YtoafchfpnaojmaaMFormPackets5
import Derived.Test.YtoafchfpnaojmaaMFormPackets6
import Derived.Test.YtoafchfpnaojmaaMFormPackets7
/- Parts and proofs of package forms, written. -/
namespace Go.Proofs.Ytoafchfpnaojmaa
open Go.RowKit
set_option linter.unusedVariables false
set_option linter.unusedSimpArgs false
set_option maxRecDepth 20000

theorem listHashI_w (g : Nat) (l0 : List UInt8) (w : World) (v : Value) (b o : Nat) (A : Option Addr) (c : Nat) (l : List (List UInt8)) (h : Wri w g v (some l0)) (hc : w.cell? ⟨b, o, none⟩ = some (.slice A l.length c)) (hb : ¬ Wft g v b) (hbl : b < w.heap.size) (hlm : l.length ≤ maxLen) (hl : l0.length ≤ 400000000) (HL : LstW w g v A l bv 32) (ol : ∀ x ∈ l, x.length = 32) :
    Calls Try.prog 43 #[.agg #[.pointer (some ⟨g, 0, none⟩), .pointer none], .pointer (some ⟨b, o, none⟩), .int .i64 16, .func (.func 44) #[] #[]] w (WO w g v (inR 0 16 l.length) (l0 ++ encL id l)) := by
  have hall : (inR 0 ((16 : Nat) : Int) l.length && allB (okAt (fun _ => true) l) l.length) = inR 0 16 l.length := by
    rw [allB_all, show l.all (fun _ => true) = true from List.all_eq_true.2 (fun x hx => rfl), Bool.and_true]; rfl
  have hbs : ∀ i, okAt (fun _ => true) l i = true → (bsAt id l i).length ≤ 20000 := by
    intro i _
    unfold bsAt
    cases hx : l[i]? with
    | none => simp
    | some x =>
      have := ol x (List.mem_of_getElem? hx)
      simp only [Option.map_some, Option.getD_some, id]
      omega
  have HN := listHash_w g l0 w v b o A l.length c 16 (okAt (fun _ => true) l) (bsAt id l) h hc hb hbl hlm (by omega) (by omega) hbs (fun i hi => by
      obtain ⟨eb, eo, e, h1, h2, h3⟩ := HL i _ (List.getElem?_eq_getElem hi)
      refine ⟨eb, eo, e, fun l' w' v' S' hl' => ?_⟩
      have hx := List.getElem?_eq_getElem hi
      rw [okAt_get hx, bsAt_get hx]
      exact hash_w g l' w' v' eb (eo + i * 32) _ (ol _ (List.getElem_mem hi)) S'.wri (S'.range h3 h1) (S'.nw h1 h2) (by omega))
  rw [jn_all, hall] at HN
  exact HN
set_option maxHeartbeats 1600000 in
theorem part_w (g : Nat) (l : List UInt8) (w : World) (v : Value) (b o : Nat) (m : Pm) (h : Wri w g v (some l)) (R : w.rangeAt b o m.cells) (hlm : m.part.path.length ≤ maxLen) (HL0 : LstW w g v m.A m.part.path bv 32) (ox : m.part.Ok) (hl : l.length ≤ 300000000) (hb : ¬ Wft g v b) (hbl : b < w.heap.size) :
    Calls Try.prog 34 #[.agg #[.pointer (some ⟨g, 0, none⟩), .pointer none], .pointer (some ⟨b, o, none⟩)] w (WO w g v (m.part.right) (l ++ m.part.enc)) := by
  have hC0 := (Chg.refl Non w).alloc (.cells #[.pointer (some ⟨g, 0, none⟩), .pointer none] 64)
  have S0 := (Wst.here h).non hC0
  have hw := h.nnew (Nat.le_refl w.heap.size)
  have hx := Hb.new w 64 #[.pointer (some ⟨g, 0, none⟩), .pointer none]
  have hx0 : (w.alloc (.cells #[.pointer (some ⟨g, 0, none⟩), .pointer none] 64)).cell? ⟨w.heap.size, 0, none⟩ = some (.pointer (some ⟨g, 0, none⟩)) := hx.cell 0
  have hx1 : (w.alloc (.cells #[.pointer (some ⟨g, 0, none⟩), .pointer none] 64)).cell? ⟨w.heap.size, 1, none⟩ = some (.pointer none) := hx.cell 1
  have hBl : b < (w.alloc (.cells #[.pointer (some ⟨g, 0, none⟩), .pointer none] 64)).heap.size := by simp; omega
  have hBw : w.heap.size < (w.alloc (.cells #[.pointer (some ⟨g, 0, none⟩), .pointer none] 64)).heap.size := by simp
  have S1 := Wst.here (S0.wri)
  obtain ⟨f0, r1⟩ := rangeAt_cons (hC0.range' R (fun f => f))
  obtain ⟨f1, r2⟩ := rangeAt_cons r1
  obtain ⟨f2, r3⟩ := rangeAt_cons r2
  obtain ⟨f3, _⟩ := rangeAt_cons r3
  have HL := HL0.chg hC0
  have op := ox.path
  clear R r1 r2 r3 HL0
  generalize hok : (m.part.right) = ok
  have HOK := Lib.hid hok
  clear hok hx hC0
  go_enter Try.func34, Try.ntmps34
  go_wp2_with fail
  generalize w.alloc (.cells #[.pointer (some ⟨g, 0, none⟩), .pointer none] 64) = B at *
  have D2 := S1.non ((Chg.refl Non B).drew)
  have x0 := D2.cell hx0 hw
  have x1 := D2.cell hx1 hw
  have hwn := D2.nw hw hBw
  go_region_held (fun w' => w'.cell? ⟨w.heap.size, 0, none⟩ = some (.pointer (some ⟨g, 0, none⟩)) ∧ w'.cell? ⟨w.heap.size, 1, none⟩ = some (.pointer none)) (first | exact ⟨y0, y1⟩ | exact ⟨x0, x1⟩ | assumption) (first | (go_at_call 27; go_loud (refine (numberI_w g _ _ v b o m.part.index 0 4096 D2.wri (D2.cell f0 hb) (D2.nw hb hBl) ox.index (by omega)).mono ?_; rintro e w2 h2; have y0 := h2.chg.cell x0 hwn; have y1 := h2.chg.cell x1 hwn; rcases h2.cases with ⟨k2, he, C⟩ | ⟨k2, he, v2, T2⟩; (subst he; obtain rfl : ok = false := HOK.out.symm.trans (by simp [Pa.right, k2]); exact ⟨rfl, rfl, S0.chg.trans (D2.chg.trans C D2.wft) S0.wft⟩); subst he)) | fail)
  have S2 := D2.trans T2
  clear D2 T2 x0 x1 hwn y0 y1
  clear h2
  go_wp2_with fail
  have D3 := S2.non ((Chg.refl Non w2).drew)
  have x0 := D3.cell hx0 hw
  have x1 := D3.cell hx1 hw
  have hwn := D3.nw hw hBw
  go_region_held (fun w' => w'.cell? ⟨w.heap.size, 0, none⟩ = some (.pointer (some ⟨g, 0, none⟩)) ∧ w'.cell? ⟨w.heap.size, 1, none⟩ = some (.pointer none)) (first | exact ⟨y0, y1⟩ | exact ⟨x0, x1⟩ | assumption) (first | (go_at_call 29; go_loud (refine (textI_w g _ _ v2 b (o + 1) m.part.key 4096 D3.wri (D3.cell f1 hb) (D3.nw hb hBl) ox.key (by omega) (by simp [num_length]; omega)).mono ?_; rintro e w3 h3; have y0 := h3.chg.cell x0 hwn; have y1 := h3.chg.cell x1 hwn; rcases h3.cases with ⟨k3, he, C⟩ | ⟨k3, he, v3, T3⟩; (subst he; obtain rfl : ok = false := HOK.out.symm.trans (by simp [Pa.right, k2, k3]); exact ⟨rfl, rfl, S0.chg.trans (D3.chg.trans C D3.wft) S0.wft⟩); subst he)) | fail)
  have S3 := D3.trans T3
  clear D3 T3 x0 x1 hwn y0 y1
  clear h3
  go_wp2_with fail
  have D4 := S3.non ((Chg.refl Non w3).drew)
  have x0 := D4.cell hx0 hw
  have x1 := D4.cell hx1 hw
  have hwn := D4.nw hw hBw
  go_region_held (fun w' => w'.cell? ⟨w.heap.size, 0, none⟩ = some (.pointer (some ⟨g, 0, none⟩)) ∧ w'.cell? ⟨w.heap.size, 1, none⟩ = some (.pointer none)) (first | exact ⟨y0, y1⟩ | exact ⟨x0, x1⟩ | assumption) (first | (go_at_call 29; go_loud (refine (textI_w g _ _ v3 b (o + 1 + 1) m.part.value 4096 D4.wri (D4.cell f2 hb) (D4.nw hb hBl) ox.value (by omega) (by simp [num_length, tx_length]; have e1 : m.part.key.data.size = m.part.key.size := rfl; have := of_decide_eq_true k3; omega)).mono ?_; rintro e w4 h4; have y0 := h4.chg.cell x0 hwn; have y1 := h4.chg.cell x1 hwn; rcases h4.cases with ⟨k4, he, C⟩ | ⟨k4, he, v4, T4⟩; (subst he; obtain rfl : ok = false := HOK.out.symm.trans (by simp [Pa.right, k2, k3, k4]); exact ⟨rfl, rfl, S0.chg.trans (D4.chg.trans C D4.wft) S0.wft⟩); subst he)) | fail)
  have S4 := D4.trans T4
  clear D4 T4 x0 x1 hwn y0 y1
  clear h4
  go_wp2_with fail
  have D5 := S4.non ((Chg.refl Non w4).drew)
  have x0 := D5.cell hx0 hw
  have x1 := D5.cell hx1 hw
  have hwn := D5.nw hw hBw
  go_region_held (fun w' => w'.cell? ⟨w.heap.size, 0, none⟩ = some (.pointer (some ⟨g, 0, none⟩)) ∧ w'.cell? ⟨w.heap.size, 1, none⟩ = some (.pointer none)) (first | exact ⟨y0, y1⟩ | exact ⟨x0, x1⟩ | assumption) (first | (go_at_call 43; go_loud (refine (listHashI_w g _ _ v4 b (o + 1 + 1 + 1) m.A m.c m.part.path D5.wri (D5.cell f3 hb) (D5.nw hb hBl) (by have := D5.chg.size; omega) hlm (by simp [num_length, tx_length]; have e1 : m.part.key.data.size = m.part.key.size := rfl; have e2 : m.part.value.data.size = m.part.value.size := rfl; have := of_decide_eq_true k3; have := of_decide_eq_true k4; omega) (HL.later D5) op).mono ?_; rintro e w5 h5; have y0 := h5.chg.cell x0 hwn; have y1 := h5.chg.cell x1 hwn; rcases h5.cases with ⟨k5, he, C⟩ | ⟨k5, he, v5, T5⟩; (subst he; obtain rfl : ok = false := HOK.out.symm.trans (by simp [Pa.right, k2, k3, k4, k5]); exact ⟨rfl, rfl, S0.chg.trans (D5.chg.trans C D5.wft) S0.wft⟩); subst he)) | fail)
  have S5 := D5.trans T5
  clear D5 T5 x0 x1 hwn y0 y1
  clear h5
  obtain rfl : ok = true := HOK.out.symm.trans (by simp [Pa.right, k2, k3, k4, k5])
  go_wp2
  go_end0
  refine ⟨rfl, v5, ?_⟩
  have S := S0.trans S5
  simpa [Pa.enc, encL, List.append_assoc] using S


/-- The parts lie in memory, their paths too, none of it the writer's. -/
structure LstP (w : World) (g : Nat) (v : Value) (A : Option Addr) (ms : List Pm) : Prop where
  rows : LstW w g v A ms Pm.cells 4
  paths : ∀ m ∈ ms, LstW w g v m.A m.part.path bv 32
theorem LstP.chg {w w' : World} {g : Nat} {v : Value} {A : Option Addr} {ms : List Pm} (h : LstP w g v A ms) (k : Chg Non w w') : LstP w' g v A ms := ⟨h.rows.chg k, fun m hm => (h.paths m hm).chg k⟩
theorem LstP.later {B w : World} {g : Nat} {v v' : Value} {l0 : List UInt8} {A : Option Addr} {ms : List Pm} (h : LstP B g v A ms) (S : Wst B g v l0 w v') : LstP w g v' A ms := ⟨h.rows.later S, fun m hm => (h.paths m hm).later S⟩

theorem listPartI_w (g : Nat) (l0 : List UInt8) (w : World) (v : Value) (b o : Nat) (A : Option Addr) (c : Nat) (ms : List Pm) (h : Wri w g v (some l0)) (hc : w.cell? ⟨b, o, none⟩ = some (.slice A ms.length c)) (hb : ¬ Wft g v b) (hbl : b < w.heap.size) (hlm : ms.length ≤ maxLen) (hl : l0.length ≤ 100000) (HL : LstP w g v A ms) (om : ∀ m ∈ ms, m.part.Ok ∧ m.part.path.length ≤ maxLen) :
    Calls Try.prog 33 #[.agg #[.pointer (some ⟨g, 0, none⟩), .pointer none], .pointer (some ⟨b, o, none⟩), .int .i64 2, .func (.func 34) #[] #[]] w (WO w g v (inR 0 2 ms.length && ms.all fun m => m.part.right) (l0 ++ encL (fun m => m.part.enc) ms)) := by
  have hall : (inR 0 ((2 : Nat) : Int) ms.length && allB (okAt (fun m : Pm => m.part.right) ms) ms.length) = (inR 0 2 ms.length && ms.all fun m => m.part.right) := by
    rw [allB_all]; rfl
  have hbs : ∀ i, okAt (fun m : Pm => m.part.right) ms i = true → (bsAt (fun m : Pm => m.part.enc) ms i).length ≤ 20000 := by
    intro i hi
    unfold bsAt
    cases hx : ms[i]? with
    | none => simp
    | some m =>
      rw [okAt_get hx] at hi
      exact Pa.enc_len hi (om m (List.mem_of_getElem? hx)).1
  have HN := listPart_w g l0 w v b o A ms.length c 2 (okAt (fun m : Pm => m.part.right) ms) (bsAt (fun m : Pm => m.part.enc) ms) h hc hb hbl hlm (by omega) (by omega) hbs (fun i hi => by
      obtain ⟨eb, eo, e, h1, h2, h3⟩ := HL.rows i _ (List.getElem?_eq_getElem hi)
      refine ⟨eb, eo, e, fun l' w' v' S' hl' => ?_⟩
      have hx := List.getElem?_eq_getElem hi
      rw [okAt_get hx, bsAt_get hx]
      exact part_w g l' w' v' eb (eo + i * 4) _ S'.wri (S'.range h3 h1) (om _ (List.getElem_mem hi)).2 ((HL.paths _ (List.getElem_mem hi)).later S') (om _ (List.getElem_mem hi)).1 (by omega) (S'.nw h1 h2) (by have := S'.chg.size; omega))
  rw [jn_all, hall] at HN
  exact HN
theorem encL_map (ms : List Pm) : encL Pa.enc (ms.map Pm.part) = encL (fun m => m.part.enc) ms := by
  unfold encL
  rw [List.length_map, List.flatMap_map]
set_option maxHeartbeats 1600000 in
theorem proof_w (g : Nat) (l : List UInt8) (w : World) (v : Value) (b o : Nat) (A : Option Addr) (c : Nat) (sz : Int) (ms : List Pm) (h : Wri w g v (some l)) (R : w.rangeAt b o [.int .i64 sz, .slice A ms.length c]) (hsz : I64 sz) (hlm : ms.length ≤ maxLen) (HL0 : LstP w g v A ms) (om : ∀ m ∈ ms, m.part.Ok ∧ m.part.path.length ≤ maxLen) (hl : l.length ≤ 10000) (hb : ¬ Wft g v b) (hbl : b < w.heap.size) :
    Calls Try.prog 18 #[.agg #[.pointer (some ⟨g, 0, none⟩), .pointer none], .pointer (some ⟨b, o, none⟩)] w (WO w g v (Pf.right ⟨sz, ms.map Pm.part⟩) (l ++ Pf.enc ⟨sz, ms.map Pm.part⟩)) := by
  have hC0 := (Chg.refl Non w).alloc (.cells #[.pointer (some ⟨g, 0, none⟩), .pointer none] 64)
  have S0 := (Wst.here h).non hC0
  have hw := h.nnew (Nat.le_refl w.heap.size)
  have hx := Hb.new w 64 #[.pointer (some ⟨g, 0, none⟩), .pointer none]
  have hx0 : (w.alloc (.cells #[.pointer (some ⟨g, 0, none⟩), .pointer none] 64)).cell? ⟨w.heap.size, 0, none⟩ = some (.pointer (some ⟨g, 0, none⟩)) := hx.cell 0
  have hx1 : (w.alloc (.cells #[.pointer (some ⟨g, 0, none⟩), .pointer none] 64)).cell? ⟨w.heap.size, 1, none⟩ = some (.pointer none) := hx.cell 1
  have hBl : b < (w.alloc (.cells #[.pointer (some ⟨g, 0, none⟩), .pointer none] 64)).heap.size := by simp; omega
  have hBw : w.heap.size < (w.alloc (.cells #[.pointer (some ⟨g, 0, none⟩), .pointer none] 64)).heap.size := by simp
  have S1 := Wst.here (S0.wri)
  obtain ⟨f0, r1⟩ := rangeAt_cons (hC0.range' R (fun f => f))
  obtain ⟨f1, _⟩ := rangeAt_cons r1
  have HL := HL0.chg hC0
  clear R r1 HL0
  generalize hok : (Pf.right ⟨sz, ms.map Pm.part⟩) = ok
  have HOK := Lib.hid hok
  clear hok hx hC0
  go_enter Try.func18, Try.ntmps18
  go_wp2_with fail
  generalize w.alloc (.cells #[.pointer (some ⟨g, 0, none⟩), .pointer none] 64) = B at *
  have x0 := S1.cell hx0 hw
  have x1 := S1.cell hx1 hw
  have hwn := S1.nw hw hBw
  go_wp2_with (first | (go_at_call 26; go_loud (refine (begin_w g l _ v 7 S1.wri ⟨by omega, by omega⟩ (by omega)).mono ?_; rintro e w2 h2; obtain ⟨rfl, v2, T2⟩ := h2)) | fail)
  have S2 := S1.trans T2
  clear T2 x0 x1 hwn
  go_wp2_with fail
  have D3 := S2.non ((Chg.refl Non w2).drew)
  have x0 := D3.cell hx0 hw
  have x1 := D3.cell hx1 hw
  have hwn := D3.nw hw hBw
  go_region_held (fun w' => w'.cell? ⟨w.heap.size, 0, none⟩ = some (.pointer (some ⟨g, 0, none⟩)) ∧ w'.cell? ⟨w.heap.size, 1, none⟩ = some (.pointer none)) (first | exact ⟨y0, y1⟩ | exact ⟨x0, x1⟩ | assumption) (first | (go_at_call 27; go_loud (refine (numberI_w g _ _ v2 b o sz 0 4096 D3.wri (D3.cell f0 hb) (D3.nw hb hBl) hsz (by simp [num_length]; omega)).mono ?_; rintro e w3 h3; have y0 := h3.chg.cell x0 hwn; have y1 := h3.chg.cell x1 hwn; rcases h3.cases with ⟨k3, he, C⟩ | ⟨k3, he, v3, T3⟩; (subst he; obtain rfl : ok = false := HOK.out.symm.trans (by simp [Pf.right, List.length_map, List.all_map, Function.comp_def, k3]); exact ⟨rfl, rfl, S0.chg.trans (D3.chg.trans C D3.wft) S0.wft⟩); subst he)) | fail)
  have S3 := D3.trans T3
  clear D3 T3 x0 x1 hwn y0 y1
  clear h3
  go_wp2_with fail
  have D4 := S3.non ((Chg.refl Non w3).drew)
  have x0 := D4.cell hx0 hw
  have x1 := D4.cell hx1 hw
  have hwn := D4.nw hw hBw
  go_region_held (fun w' => w'.cell? ⟨w.heap.size, 0, none⟩ = some (.pointer (some ⟨g, 0, none⟩)) ∧ w'.cell? ⟨w.heap.size, 1, none⟩ = some (.pointer none)) (first | exact ⟨y0, y1⟩ | exact ⟨x0, x1⟩ | assumption) (first | (go_at_call 33; go_loud (refine (listPartI_w g _ _ v3 b (o + 1) A c ms D4.wri (D4.cell f1 hb) (D4.nw hb hBl) (by have := D4.chg.size; omega) hlm (by simp [num_length]; omega) (HL.later D4) om).mono ?_; rintro e w4 h4; have y0 := h4.chg.cell x0 hwn; have y1 := h4.chg.cell x1 hwn; rcases h4.cases with ⟨k4, he, C⟩ | ⟨k4, he, v4, T4⟩; (subst he; obtain rfl : ok = false := HOK.out.symm.trans (by simp [Pf.right, List.length_map, List.all_map, Function.comp_def, k3, k4]); exact ⟨rfl, rfl, S0.chg.trans (D4.chg.trans C D4.wft) S0.wft⟩); subst he)) | fail)
  have S4 := D4.trans T4
  clear D4 T4 x0 x1 hwn y0 y1
  clear h4
  obtain rfl : ok = true := HOK.out.symm.trans (by simp [Pf.right, List.length_map, List.all_map, Function.comp_def, k3, k4])
  go_wp2
  go_end0
  refine ⟨rfl, v4, ?_⟩
  have S := S0.trans S4
  simpa [Pf.enc, encL_map, List.append_assoc] using S

end Go.Proofs.Ytoafchfpnaojmaa

/- Proofs of package forms as arguments: their cells, parts and paths out of a reading. -/
namespace Go.Proofs.Ytoafchfpnaojmaa
open Go.RowKit
set_option linter.unusedVariables false
set_option linter.unusedSimpArgs false
set_option maxRecDepth 20000

theorem part_cells : Try.prog.cellsOf 32 = 4 := by kernel_rfl
theorem entry_cells : Try.prog.cellsOf 29 = 2 := by kernel_rfl
theorem proof_cells : Try.prog.cellsOf 26 = 2 := by kernel_rfl
theorem hashes_cells : Try.prog.cellsOf 30 = 1 := by kernel_rfl
theorem parts_cells : Try.prog.cellsOf 24 = 1 := by kernel_rfl
/-- A part whose path lies in memory. -/
def Pm.In (w : World) (m : Pm) : Prop := m.part.Ok ∧ m.part.path.length ≤ maxLen ∧ LstM w m.A m.part.path bv 32
theorem entry_of {w : World} {n : Nat} {cs : List Value} (h : Okc Try.prog w (n + 2) 29 cs) : ∃ k v : ByteArray, cs = [.string k, .string v] ∧ k.size ≤ maxLen ∧ v.size ≤ maxLen := by
  unfold Okc at h
  simp only [Try.underlying29] at h
  obtain ⟨hl, hf⟩ := h
  rw [entry_cells] at hl
  have h0 : Okc Try.prog w (n + 1) 9 ((cs.drop 0).take (Try.prog.cellsOf 9)) := hf 0 _ rfl
  have h1 : Okc Try.prog w (n + 1) 9 ((cs.drop 1).take (Try.prog.cellsOf 9)) := hf 1 _ rfl
  rw [str_cells] at h0 h1
  obtain ⟨a0, e0, b0⟩ := okc_str h0
  obtain ⟨a1, e1, b1⟩ := okc_str h1
  refine ⟨a0, a1, ?_, b0, b1⟩
  have c0 := cut cs 0 1 1 rfl
  have c1 := cut cs 1 1 2 rfl
  rw [e1, List.drop_of_length_le (i := 2) (by omega)] at c1
  rw [e0, c1] at c0
  exact c0
theorem part_of {w : World} {n : Nat} {cs : List Value} (h : Okc Try.prog w (n + 5) 32 cs) : ∃ m : Pm, cs = m.cells ∧ m.In w := by
  unfold Okc at h
  simp only [Try.underlying32] at h
  obtain ⟨hl, hf⟩ := h
  rw [part_cells] at hl
  have h0 : Okc Try.prog w (n + 4) 3 ((cs.drop 0).take (Try.prog.cellsOf 3)) := hf 0 _ rfl
  have h1 : Okc Try.prog w (n + 4) 29 ((cs.drop 1).take (Try.prog.cellsOf 29)) := hf 1 _ rfl
  have h2 : Okc Try.prog w (n + 4) 30 ((cs.drop 3).take (Try.prog.cellsOf 30)) := hf 2 _ rfl
  rw [int_cells] at h0
  rw [entry_cells] at h1
  rw [hashes_cells] at h2
  obtain ⟨a0, e0, b0⟩ := okc_i64 Try.underlying3 h0
  obtain ⟨k, v, e1, bk, bv'⟩ := entry_of h1
  obtain ⟨A, c, l, e2, hlm, M, ol⟩ := slice_of (cells := bv) (Ok := fun x : List UInt8 => x.length = 32) Try.underlying30 hash_cells (by omega) (fun es h => okc_hash h) h2
  refine ⟨⟨⟨a0, k, v, l⟩, A, c⟩, ?_, ⟨b0, bk, bv', ol⟩, hlm, M⟩
  have c0 := cut cs 0 1 1 rfl
  have c1 := cut cs 1 2 3 rfl
  have c2 := cut cs 3 1 4 rfl
  rw [e2, List.drop_of_length_le (i := 4) (by omega)] at c2
  rw [e1, c2] at c1
  rw [e0, c1] at c0
  exact c0
theorem proof_arg {w : World} {v : Value} (h : Okv Try.prog w 26 v) : ∃ (sz : Int) (A : Option Addr) (c : Nat) (ms : List Pm), v = .agg #[.int .i64 sz, .slice A ms.length c] ∧ I64 sz ∧ ms.length ≤ maxLen ∧ LstM w A ms Pm.cells 4 ∧ ∀ m ∈ ms, m.In w := by
  obtain ⟨cs, rfl, ho⟩ := agg_arg Try.underlying26 h
  have h := ho 8
  unfold Okc at h
  simp only [Try.underlying26] at h
  obtain ⟨hl, hf⟩ := h
  rw [proof_cells] at hl
  have h0 : Okc Try.prog w 7 3 ((cs.toList.drop 0).take (Try.prog.cellsOf 3)) := hf 0 _ rfl
  have h1 : Okc Try.prog w 7 24 ((cs.toList.drop 1).take (Try.prog.cellsOf 24)) := hf 1 _ rfl
  rw [int_cells] at h0
  rw [parts_cells] at h1
  obtain ⟨a0, e0, b0⟩ := okc_i64 Try.underlying3 h0
  obtain ⟨A, c, ms, e1, hlm, M, om⟩ := slice_of (Ok := Pm.In w) Try.underlying24 part_cells (by omega) (fun es h => part_of h) h1
  refine ⟨a0, A, c, ms, ?_, b0, hlm, M, om⟩
  have c0 := cut cs.toList 0 1 1 rfl
  have c1 := cut cs.toList 1 1 2 rfl
  rw [e1, List.drop_of_length_le (i := 2) (by omega)] at c1
  rw [e0, c1] at c0
  have c0 : cs.toList = [.int .i64 a0, .slice A ms.length c] := c0
  have : cs = [Value.int .i64 a0, .slice A ms.length c].toArray := by rw [← c0]
  rw [this]
end Go.Proofs.Ytoafchfpnaojmaa

/- The document's answers for forms: a proof's bytes. -/
namespace Go.Proofs.Ytoafchfpnaojmaa
open Go.RowKit
set_option linter.unusedVariables false
set_option linter.unusedSimpArgs false
set_option maxRecDepth 20000

/-- Bytes appended part by part, beside a block that stays. -/
structure Btx (W w : World) (v : Value) (l : List UInt8) (xb : Nat) (t : TypeId) (L : List Value) : Prop where
  b : Bts W w v l
  x : Hb w xb t L.toArray
  ap : ∀ k, vbl v k → k ≠ xb
theorem Btx.later {W w w' : World} {v : Value} {l : List UInt8} {xb : Nat} {t : TypeId} {L : List Value} (h : Btx W w v l xb t L) (k : Chg Non w w') : Btx W w' v l xb t L := ⟨h.b.later k, h.x.chg k (fun f => f), h.ap⟩
theorem Btx.app {W w w' : World} {v v' : Value} {l l2 : List UInt8} {xb : Nat} {t : TypeId} {L : List Value} (h : Btx W w v l xb t L) (ho : Own 5 w' v' (l ++ l2)) (hg : w.grownBy w' v.ownBlock) (hl : v'.ownBlock = v.ownBlock ∨ v'.ownBlock = some w.heap.size) : Btx W w' v' (l ++ l2) xb t L := by
  refine ⟨h.b.app ho hg hl, h.x.chg (S := fun k => vbl v k) ((Chg.refl _ w).grown hg (fun k hk => .inl hk)) (fun hk => h.ap _ hk rfl), fun k hk => ?_⟩
  rcases hl with h2 | h2
  · exact h.ap k (by unfold vbl at hk ⊢; rw [← h2]; exact hk)
  · unfold vbl at hk
    rw [h2] at hk
    injection hk with hk
    have := h.x.lt
    omega
theorem own_lt {w : World} {v : Value} {l : List UInt8} (h : Own 5 w v l) : ∀ k, vbl v k → k < w.heap.size := by
  obtain ⟨A, c, _, _, _, _, h1, h2⟩ := h.slice
  exact fun k hk => h2 k ((h1 k).2 hk)
theorem part_row : (Try.prog.info? 32).map (·.size) = some 4 := by kernel_rfl
def partZ : List Value := [.int .i64 0, .string ⟨#[]⟩, .string ⟨#[]⟩, .slice none 0 0]
theorem part_alloc0 (w : World) : (Instr.alloc 32 true (.tuple #[])).run Try.prog w = .ok (.pointer (some ⟨w.heap.size, 0, none⟩)) (w.alloc (.cells partZ.toArray 32)) := by kernel_rfl
/-- A part in a block of its own. -/
def partIn (w : World) (L : List Value) : World := (w.alloc (.cells partZ.toArray 32)).setCells w.heap.size 0 L
theorem partIn_is (w : World) {L : List Value} (h : L.length = 4) : Hb (partIn w L) w.heap.size 32 L.toArray ∧ Chg Non w (partIn w L) := by
  have hb := Hb.new w 32 partZ.toArray
  refine ⟨hb.sets0 (L' := L) (by rw [h]; rfl), ?_⟩
  exact (Chg.refl Non w).trans (Chg.setCells (S := fun k => k = w.heap.size) rfl L _ 0 ((Chg.refl _ w).alloc (.cells partZ.toArray 32))) (fun j hj => .inr (by omega))
theorem part_there (w : World) : (w.alloc (.cells partZ.toArray 32)).there w.heap.size 0 4 := by
  have := (Hb.new w 32 partZ.toArray).there0
  exact this

set_option maxHeartbeats 6400000 in
theorem refProof_any (w : World) (A : Option Addr) (c : Nat) (sz : Int) (ms : List Pm) (hsz : I64 sz) (hlm : ms.length ≤ maxLen) (M : LstM w A ms Pm.cells 4) (hm : ∀ m ∈ ms, m.In w) :
    Calls Try.prog 8 #[.agg #[.int .i64 sz, .slice A ms.length c]] w fun e w' => Chg Non w w' ∧ ∃ v, e = .returned (.tuple #[v, .bool (Pf.right ⟨sz, ms.map Pm.part⟩)]) ∧ (Pf.right ⟨sz, ms.map Pm.part⟩ = true → Own 5 w' v (Pf.enc ⟨sz, ms.map Pm.part⟩)) := by
  have HM := Lib.hid M
  have HI := Lib.hid hm
  have hi2 : inR 0 2 ms.length = decide (ms.length ≤ 2) := by unfold inR; simp; omega
  have HR : Hid (Pf.right ⟨sz, ms.map Pm.part⟩ = (inR 0 4096 sz && (decide (ms.length ≤ 2) && ms.all fun m => m.part.right))) := Lib.hid (by rw [← hi2]; simp [Pf.right, List.length_map, List.all_map, Function.comp_def])
  have HE : Hid (Pf.enc ⟨sz, ms.map Pm.part⟩ = num 7 ++ (num sz ++ (num ms.length ++ ms.flatMap fun m => m.part.enc))) := Lib.hid (by unfold Pf.enc; rw [encL_map]; rfl)
  obtain ⟨pfx, HP⟩ : ∃ pfx : Nat → List UInt8, Hid (∀ k, pfx k = num 7 ++ (num sz ++ (num ms.length ++ (ms.take k).flatMap fun m => m.part.enc))) := ⟨fun k => num 7 ++ (num sz ++ (num ms.length ++ (ms.take k).flatMap fun m => m.part.enc)), Lib.hid fun k => rfl⟩
  have hC0 := (Chg.refl Non w).alloc (.cells #[.int .i64 sz, .slice A ms.length c] 26)
  have hb0 := Hb.new w 26 #[.int .i64 sz, .slice A ms.length c]
  generalize Pf.right ⟨sz, ms.map Pm.part⟩ = ok at *
  generalize Pf.enc ⟨sz, ms.map Pm.part⟩ = enc at *
  generalize hn : ms.length = n at *
  have HN := Lib.hid hn
  unfold maxLen at hlm
  clear M hm hn hi2
  have HIN : Hid (∀ w', Calls Try.prog 16 #[.int .i64 sz, .int .i64 0, .int .i64 4096] w' fun e w'' => e = .returned (.bool (inR 0 4096 sz)) ∧ w'' = w') := Lib.hid fun w' => in_any w' _ _ _
  generalize inR 0 4096 sz = p at *
  have c0 := hb0.cell 0
  have c1 := hb0.cell 1
  simp only [List.getElem?_toArray] at c0 c1
  go_enter Try.func8, Try.ntmps8
  go_wp2_with fail
  generalize w.alloc (.cells #[.int .i64 sz, .slice A n c] 26) = w1 at *
  have HC := Lib.hid hC0
  have H1 := Lib.hid c1
  clear hC0 hb0
  refine (HIN.out _).mono ?_
  rintro e wq ⟨rfl, hq⟩
  obtain rfl : w1 = wq := hq.symm
  clear hq
  by_cases h2n : n ≤ 2
  · have h2i : (n : Int) ≤ 2 := by omega
    cases p
    · have HF : Hid (ok = false) := Lib.hid (by rw [HR.out]; rfl)
      go_wp2_with fail
      go_region_held3 (fun w' => w'.cell? ⟨w.heap.size, 0, none⟩ = some (.int .i64 sz) ∧ w'.cell? ⟨w.heap.size, 1, none⟩ = some (.slice A n c)) (first | exact ⟨c0, c1⟩ | exact S8 | exact S7 | exact S6 | assumption)
        (first
          | (go_at_call_of 14 (Value.int IntKind.i64 7); refine (refNumber_any _ 7).mono ?_; rintro e w6 ⟨v6, rfl, o6, n6, j6⟩; have K6 : Chg Non w1 w6 := (by first | exact ((Chg.refl Non w1).drew).trans j6 (fun _ f => f.elim) | exact K7.trans j6 (fun _ f => f.elim)); have B6 : Bts w1 w6 v6 (num 7) := ⟨o6, fun k hk => Nat.le_trans (by first | exact Nat.le_refl _ | exact K7.size) (n6 k hk), K6⟩; have S6 := And.intro (K6.cell c0 (fun f => f)) (K6.cell c1 (fun f => f)))
          | (go_at_call_of 14 (Value.int IntKind.i64 sz); refine (refNumber_any _ sz).mono ?_; rintro e w7 ⟨v7, rfl, o7, n7, j7⟩; obtain ⟨A7, c7, rfl, R7⟩ := o7.rd; have K7 : Chg Non w1 w7 := (by first | exact ((Chg.refl Non w1).drew).trans j7 (fun _ f => f.elim) | exact K6.trans j7 (fun _ f => f.elim)); have S7 := And.intro (K7.cell c0 (fun f => f)) (K7.cell c1 (fun f => f)))
          | (refine step_app _ (by rfl) _ _ (by rfl) (l := num 7) (l2 := num sz) (by rfl) (by first | exact (B6.later j7).own | exact B6.own) (A := A7) (c := c7) (by rfl) (by rfl) (by first | exact R7 | exact R7.later j6) (by simp [num_length]) ?_; intro v8 w8 o8 g8 b8; have B8 : Bts w1 w8 v8 (num 7 ++ num sz) := (by first | exact (B6.later j7).app o8 g8 b8 | exact B6.app o8 g8 b8); have S8 := And.intro (B8.chg.cell c0 (fun f => f)) (B8.chg.cell c1 (fun f => f)))
          | fail)
      all_goals
        obtain ⟨d0, d1⟩ := S8
        have B8' := Lib.hid B8
        clear S6 S7 R7 o6 o7 o8 g8 b8 B6 B8 K6 K7 j6 j7 n6 n7
        go_wp2_with fail
        refine (refNumber_any _ (n : Int)).mono ?_
        rintro e wa ⟨va, rfl, oa, na, ja⟩
        obtain ⟨Aa, ca, rfl, Ra⟩ := oa.rd
        have Ba := B8'.out.later ja
        clear d0 d1
        go_wp2_with (at_builtin; refine wpList_app byt _ rfl _ _ rfl rfl Ba.own (A := Aa) (c := ca) rfl rfl Ra (by simp only [List.length_append, num_length]; omega) ?_; intro v9 w9 o9 g9 b9; have B9 := Ba.app o9 g9 b9; have d1 := B9.chg.cell H1.out (fun f => f))
        clear Ba oa Ra na ja o9 g9 b9 B8'
        go_loopw [4, 5, 6, 7, 8] (fun o b i x k wr => i = .int .i64 0 ∧ o = .bool false ∧ b = v9 ∧ wr = w9) (fun _ _ _ _ _ _ => 0)
        case atStart => exact ⟨rfl, rfl, rfl, rfl⟩
        case round =>
          obtain ⟨rfl, rfl, rfl, rfl⟩ := hrel
          by_cases h0 : (0 : Int) < (n : Int)
          · go_wp2_with fail
            go_ret2
            exact ⟨HC.out.trans B9.chg (fun _ f => f.elim), _, by rw [HF.out]; rfl, fun h => by rw [HF.out] at h; cases h⟩
          · go_wp2_with fail
            go_ret2
            exact ⟨HC.out.trans B9.chg (fun _ f => f.elim), _, by rw [HF.out]; rfl, fun h => by rw [HF.out] at h; cases h⟩
    · go_wp2_with fail
      go_region_held3 (fun w' => w'.cell? ⟨w.heap.size, 0, none⟩ = some (.int .i64 sz) ∧ w'.cell? ⟨w.heap.size, 1, none⟩ = some (.slice A n c)) (first | exact ⟨c0, c1⟩ | exact S8 | exact S7 | exact S6 | assumption)
        (first
          | (go_at_call_of 14 (Value.int IntKind.i64 7); refine (refNumber_any _ 7).mono ?_; rintro e w6 ⟨v6, rfl, o6, n6, j6⟩; have K6 : Chg Non w1 w6 := (by first | exact ((Chg.refl Non w1).drew).trans j6 (fun _ f => f.elim) | exact K7.trans j6 (fun _ f => f.elim)); have B6 : Bts w1 w6 v6 (num 7) := ⟨o6, fun k hk => Nat.le_trans (by first | exact Nat.le_refl _ | exact K7.size) (n6 k hk), K6⟩; have S6 := And.intro (K6.cell c0 (fun f => f)) (K6.cell c1 (fun f => f)))
          | (go_at_call_of 14 (Value.int IntKind.i64 sz); refine (refNumber_any _ sz).mono ?_; rintro e w7 ⟨v7, rfl, o7, n7, j7⟩; obtain ⟨A7, c7, rfl, R7⟩ := o7.rd; have K7 : Chg Non w1 w7 := (by first | exact ((Chg.refl Non w1).drew).trans j7 (fun _ f => f.elim) | exact K6.trans j7 (fun _ f => f.elim)); have S7 := And.intro (K7.cell c0 (fun f => f)) (K7.cell c1 (fun f => f)))
          | (refine step_app _ (by rfl) _ _ (by rfl) (l := num 7) (l2 := num sz) (by rfl) (by first | exact (B6.later j7).own | exact B6.own) (A := A7) (c := c7) (by rfl) (by rfl) (by first | exact R7 | exact R7.later j6) (by simp [num_length]) ?_; intro v8 w8 o8 g8 b8; have B8 : Bts w1 w8 v8 (num 7 ++ num sz) := (by first | exact (B6.later j7).app o8 g8 b8 | exact B6.app o8 g8 b8); have S8 := And.intro (B8.chg.cell c0 (fun f => f)) (B8.chg.cell c1 (fun f => f)))
          | fail)
      all_goals
        obtain ⟨d0, d1⟩ := S8
        have B8' := Lib.hid B8
        clear S6 S7 R7 o6 o7 o8 g8 b8 B6 B8 K6 K7 j6 j7 n6 n7
        go_wp2_with fail
        refine (refNumber_any _ (n : Int)).mono ?_
        rintro e wa ⟨va, rfl, oa, na, ja⟩
        obtain ⟨Aa, ca, rfl, Ra⟩ := oa.rd
        have Ba := B8'.out.later ja
        clear d0 d1
        go_wp2_with (at_builtin; refine wpList_app byt _ rfl _ _ rfl rfl Ba.own (A := Aa) (c := ca) rfl rfl Ra (by simp only [List.length_append, num_length]; omega) ?_; intro v9 w9 o9 g9 b9; have B9 := Ba.app o9 g9 b9; have d1 := B9.chg.cell H1.out (fun f => f))
        clear Ba oa Ra na ja o9 g9 b9 B8'
        have BH := Lib.hid (show Bts w1 w9 v9 (pfx 0) by simpa only [HP.out, List.take_zero, List.flatMap_nil, List.append_nil, List.append_assoc] using B9)
        clear B9 d1
        go_loopw [4, 5, 6, 7, 8] (fun o b i x k wr => ∃ K : Nat, K ≤ n ∧ i = .int .i64 (K : Int) ∧ o = .bool true ∧ Hid (∀ m ∈ ms.take K, m.part.right = true) ∧ Hid ((pfx K).length ≤ 24 + K * 20000) ∧ Hid (Bts w1 wr b (pfx K))) (fun _ _ i _ _ _ => n - (intOf i).toNat)
        case atStart => exact ⟨0, by omega, rfl, rfl, Lib.hid (by simp), Lib.hid (by rw [HP.out]; simp [num_length]), BH⟩
        case round =>
          obtain ⟨K, hK, rfl, rfl, hall, hlen, hB⟩ := hrel
          have d1 := hB.out.chg.cell H1.out (fun f => f)
          by_cases hlt : K < n
          · have hkl : K < ms.length := by rw [HN.out]; exact hlt
            have hx := List.getElem?_eq_getElem hkl
            have HX := Lib.hid hx
            have hC1 : Chg Non w wr := HC.out.trans hB.out.chg (fun _ f => f.elim)
            obtain ⟨a, ao, rfl, _, r1⟩ := (HM.out.chg hC1) K _ hx
            have hin := HI.out ms[K] (List.getElem_mem hkl)
            generalize ms[K] = m at *
            obtain ⟨⟨ix, ky, vu, pa⟩, PA, pc⟩ := m
            obtain ⟨ox, hpl, hpm⟩ := hin
            have hix := ox.index
            have hpa := Lib.hid ox.path
            have hpm := Lib.hid hpm
            have HL20 := Lib.hid (fun h : Pa.right ⟨ix, ky, vu, pa⟩ = true => Pa.enc_len h ox)
            clear ox
            simp only at hpl
            unfold maxLen at hpl
            have HRR : Hid (Pa.right ⟨ix, ky, vu, pa⟩ = (inR 0 4096 ix && (decide (ky.size ≤ 4096) && (decide (vu.size ≤ 4096) && inR 0 16 pa.length)))) := Lib.hid rfl
            have HEE : Hid (Pa.enc ⟨ix, ky, vu, pa⟩ = num ix ++ (tx ky.data.toList ++ (tx vu.data.toList ++ (num pa.length ++ pa.flatMap id)))) := Lib.hid rfl
            have HPN : Hid (pfx (K + 1) = pfx K ++ Pa.enc ⟨ix, ky, vu, pa⟩) := Lib.hid (by
              rw [HP.out, HP.out, List.take_add_one, HX.out]
              simp [List.flatMap_append, List.append_assoc])
            have HNO : Hid (Pa.right ⟨ix, ky, vu, pa⟩ = false → ok = false) := Lib.hid (fun h => by
              rw [HR.out, Bool.eq_false_iff]
              intro h2
              simp only [Bool.and_eq_true, List.all_eq_true] at h2
              have := h2.2.2 _ (List.mem_of_getElem? HX.out)
              simp only at this
              rw [this] at h; cases h)
            have HYE : Hid (Pa.right ⟨ix, ky, vu, pa⟩ = true → ∀ m ∈ ms.take (K + 1), m.part.right = true) := Lib.hid (fun h m hm => by
              rw [List.take_add_one, HX.out] at hm
              rcases List.mem_append.1 hm with hm | hm
              · exact hall.out m hm
              · simp at hm; subst hm; exact h)
            generalize Pa.right ⟨ix, ky, vu, pa⟩ = mr at *
            generalize Pa.enc ⟨ix, ky, vu, pa⟩ = me at *
            have hki : (K : Int) < (n : Int) := by omega
            have hin : Hid (∀ w', Calls Try.prog 16 #[.int .i64 ix, .int .i64 0, .int .i64 4096] w' fun e w'' => e = .returned (.bool (inR 0 4096 ix)) ∧ w'' = w') := Lib.hid fun w' => in_any w' _ _ _
            generalize inR 0 4096 ix = q at *
            have hi16 : inR 0 16 pa.length = decide (pa.length ≤ 16) := by unfold inR; simp; omega
            rw [hi16] at HRR
            have hrow : Pm.cells ⟨⟨ix, ky, vu, pa⟩, PA, pc⟩ = [.int .i64 ix, .string ky, .string vu, .slice PA pa.length pc] := rfl
            rw [hrow] at r1
            clear hi16 hrow hx hkl hall
            have hpn0 : pa.length = pa.length := rfl
            generalize hpn : pa.length = pn at *
            have HPL := Lib.hid hpn
            clear hpn0 hpn
            have HI2 := partIn_is wr (L := [.int .i64 ix, .string ky, .string vu, .slice PA pn pc]) rfl
            have hpx : (wr.alloc (.cells partZ.toArray 32)).setCells wr.heap.size 0 ([.int .i64 ix, .string ky, .string vu, .slice PA pn pc] : List Value).toArray.toList = partIn wr [.int .i64 ix, .string ky, .string vu, .slice PA pn pc] := rfl
            have hal := part_alloc0 wr
            have hth := part_there wr
            have hpr : (Try.prog.info? 32).map (·.size) = some ([.int .i64 ix, .string ky, .string vu, .slice PA pn pc] : List Value).length := part_row
            have hsz4 : ([.int .i64 ix, .string ky, .string vu, .slice PA pn pc] : List Value).toArray.size = 4 := rfl
            have hone : ([.int .i64 ix, .string ky, .string vu, .slice PA pn pc] : List Value).toArray.all (·.oneCell') = true := one_mem (by intro v hv; simp at hv; rcases hv with rfl | rfl | rfl | rfl <;> rfl)
            generalize u5 = bo at *
            have BX : Btx w1 (partIn wr [.int .i64 ix, .string ky, .string vu, .slice PA pn pc]) bo (pfx K) wr.heap.size 32 [.int .i64 ix, .string ky, .string vu, .slice PA pn pc] := ⟨hB.out.later HI2.2, HI2.1, fun k hk => by have := own_lt hB.out.own k hk; omega⟩
            have HBX := Lib.hid BX
            have HPM := Lib.hid (hpm.out)
            clear HI2 BX hpm hC1 hB
            go_wp2_with (first | (with_reducible refine wpList_load_mid rfl 32 _ rfl a (ao + K * 4) rfl [.int .i64 ix, .string ky, .string vu, .slice PA pn pc] _ r1 Try.underlying32 rfl hpr ?_) | (with_reducible refine wpList_alloc_row rfl _ rfl partZ hal ?_) | ((with_reducible refine wpList_store_mid rfl 32 _ _ rfl wr.heap.size 0 ([.int .i64 ix, .string ky, .string vu, .slice PA pn pc] : List Value).toArray rfl rfl (by rw [hsz4]; exact hth) (by rw [part_row, hsz4]) hone ?_); rw [hpx]; generalize partIn wr [.int .i64 ix, .string ky, .string vu, .slice PA pn pc] = wx at *; have x0 : wx.cell? ⟨wr.heap.size, 0, none⟩ = some (.int .i64 ix) := HBX.out.x.cell 0; have x1 : wx.cell? ⟨wr.heap.size, 1, none⟩ = some (.string ky) := HBX.out.x.cell 1; have x2 : wx.cell? ⟨wr.heap.size, 2, none⟩ = some (.string vu) := HBX.out.x.cell 2; have x3 : wx.cell? ⟨wr.heap.size, 3, none⟩ = some (.slice PA pn pc) := HBX.out.x.cell 3))
            refine (hin.out _).mono ?_
            rintro e wq ⟨rfl, hq⟩
            obtain rfl : wx = wq := hq.symm
            generalize hxb : wr.heap.size = xb at *
            clear hpx hpr hal hth hsz4 hone r1 d1 hq
            cases q
            · go_wp2_with fail
              go_ret2
              exact ⟨HC.out.trans HBX.out.b.chg (fun _ f => f.elim), _, by rw [HNO.out (by rw [HRR.out]; rfl)]; rfl, fun h => by rw [HNO.out (by rw [HRR.out]; rfl)] at h; cases h⟩
            by_cases hk1 : (4096 : Int) < (ky.size : Int)
            · have hd1 : decide ((ky.size : Int) ≤ 4096) = false := decide_eq_false (by omega)
              have hd1' : Hid (decide (ky.size ≤ 4096) = false) := Lib.hid (decide_eq_false (by omega))
              go_wp2_with fail
              go_ret2
              exact ⟨HC.out.trans HBX.out.b.chg (fun _ f => f.elim), _, by rw [HNO.out (by rw [HRR.out, hd1'.out]; simp)]; rfl, fun h => by rw [HNO.out (by rw [HRR.out, hd1'.out]; simp)] at h; cases h⟩
            have hk1 : (ky.size : Int) ≤ 4096 := by omega
            by_cases hk2 : (4096 : Int) < (vu.size : Int)
            · have hd2 : decide ((vu.size : Int) ≤ 4096) = false := decide_eq_false (by omega)
              have hd2' : Hid (decide (vu.size ≤ 4096) = false) := Lib.hid (decide_eq_false (by omega))
              go_wp2_with fail
              go_ret2
              exact ⟨HC.out.trans HBX.out.b.chg (fun _ f => f.elim), _, by rw [HNO.out (by rw [HRR.out, hd2'.out]; simp)]; rfl, fun h => by rw [HNO.out (by rw [HRR.out, hd2'.out]; simp)] at h; cases h⟩
            have hk2 : (vu.size : Int) ≤ 4096 := by omega
            by_cases hk3 : (16 : Int) < (pn : Int)
            · have hd3 : decide ((pn : Int) ≤ 16) = false := decide_eq_false (by omega)
              have hd3' : Hid (decide (pn ≤ 16) = false) := Lib.hid (decide_eq_false (by omega))
              go_wp2_with fail
              go_ret2
              exact ⟨HC.out.trans HBX.out.b.chg (fun _ f => f.elim), _, by rw [HNO.out (by rw [HRR.out, hd3'.out]; simp)]; rfl, fun h => by rw [HNO.out (by rw [HRR.out, hd3'.out]; simp)] at h; cases h⟩
            have hk3 : (pn : Int) ≤ 16 := by omega
            have hmr : mr = true := by rw [HRR.out, decide_eq_true (show ky.size ≤ 4096 by omega), decide_eq_true (show vu.size ≤ 4096 by omega), decide_eq_true (show pn ≤ 16 by omega)]; rfl
            have HMR := Lib.hid hmr
            have hsk : ky.data.toList.length = ky.size := by rw [Array.length_toList]; rfl
            have hsv : vu.data.toList.length = vu.size := by rw [Array.length_toList]; rfl
            have HSK := Lib.hid hsk
            have HSV := Lib.hid hsv
            clear hmr hsk hsv HNO HRR
            go_wp2_with fail
            refine (refNumber_any _ ix).mono ?_
            rintro e wa ⟨va, rfl, oa, na, ja⟩
            obtain ⟨Aa, ca, rfl, Ra⟩ := oa.rd
            have Ba := HBX.out.later ja
            clear x0 x1 x2 x3
            go_wp2_with (at_builtin; refine wpList_app byt _ rfl _ _ rfl rfl Ba.b.own (A := Aa) (c := ca) rfl rfl Ra (by have := hlen.out; rw [num_length]; omega) ?_; intro v10 w10 o10 g10 b10; have B10 := Ba.app o10 g10 b10; have x1 : w10.cell? ⟨xb, 1, none⟩ = some (.string ky) := B10.x.cell 1)
            refine (refText_any _ ky (by omega)).mono ?_
            rintro e wb ⟨vb, rfl, ob, nb, jb⟩
            obtain ⟨Ab, cb, rfl, Rb⟩ := ob.rd
            have Bb := B10.later jb
            clear x1 Ba oa Ra na ja o10 g10 b10 B10
            go_wp2_with (at_builtin; refine wpList_app byt _ rfl _ _ rfl rfl Bb.b.own (A := Ab) (c := cb) rfl rfl Rb (by have := hlen.out; simp only [List.length_append, num_length, tx_length, HSK.out]; omega) ?_; intro v11 w11 o11 g11 b11; have B11 := Bb.app o11 g11 b11; have x2 : w11.cell? ⟨xb, 2, none⟩ = some (.string vu) := B11.x.cell 2)
            refine (refText_any _ vu (by omega)).mono ?_
            rintro e wc ⟨vc, rfl, oc, nc, jc⟩
            obtain ⟨Ac, cc, rfl, Rc⟩ := oc.rd
            have Bc := B11.later jc
            clear x2 Bb ob Rb nb jb o11 g11 b11 B11
            go_wp2_with (at_builtin; refine wpList_app byt _ rfl _ _ rfl rfl Bc.b.own (A := Ac) (c := cc) rfl rfl Rc (by have := hlen.out; simp only [List.length_append, num_length, tx_length, HSK.out, HSV.out]; omega) ?_; intro v12 w12 o12 g12 b12; have B12 := Bc.app o12 g12 b12; have x3 : w12.cell? ⟨xb, 3, none⟩ = some (.slice PA pn pc) := B12.x.cell 3)
            refine (refNumber_any _ (pn : Int)).mono ?_
            rintro e wd ⟨vd, rfl, od, nd, jd⟩
            obtain ⟨Ad, cd, rfl, Rd'⟩ := od.rd
            have Bd := B12.later jd
            clear x3 Bc oc Rc nc jc o12 g12 b12 B12
            go_wp2_with (at_builtin; refine wpList_app byt _ rfl _ _ rfl rfl Bd.b.own (A := Ad) (c := cd) rfl rfl Rd' (by have := hlen.out; simp only [List.length_append, num_length, tx_length, HSK.out, HSV.out]; omega) ?_; intro v13 w13 o13 g13 b13; have B13 := Lib.hid (Bd.app o13 g13 b13); have x3 : w13.cell? ⟨xb, 3, none⟩ = some (.slice PA pn pc) := B13.out.x.cell 3)
            have hpbl : (pfx K ++ num ix ++ tx ky.data.toList ++ tx vu.data.toList ++ num (pn : Int)).length ≤ 60000 := by have := hlen.out; simp only [List.length_append, num_length, tx_length, HSK.out, HSV.out]; omega
            have HPB : Hid (pfx K ++ num ix ++ tx ky.data.toList ++ tx vu.data.toList ++ num (pn : Int) ++ pa.flatMap id = pfx (K + 1)) := Lib.hid (by rw [HPN.out, HEE.out]; simp [List.append_assoc])
            generalize pfx K ++ num ix ++ tx ky.data.toList ++ tx vu.data.toList ++ num (pn : Int) = pb at *
            have HPBL := Lib.hid hpbl
            have HX0 : Hid (Btx w1 w13 v13 (pb ++ (pa.take 0).flatMap id) xb 32 [.int .i64 ix, .string ky, .string vu, .slice PA pn pc]) := Lib.hid (by simpa using B13.out)
            clear x3 Bd od Rd' nd jd o13 g13 b13 B13 hpbl HBX
            go_loopw [5, 8] (fun b k wi => ∃ J : Nat, J ≤ pn ∧ k = .int .i64 (J : Int) ∧ Hid (Btx w1 wi b (pb ++ (pa.take J).flatMap id) xb 32 [.int .i64 ix, .string ky, .string vu, .slice PA pn pc])) (fun _ k _ => pn - (intOf k).toNat)
            case atStart => exact ⟨0, by omega, rfl, HX0⟩
            case round =>
              obtain ⟨J, hJ, rfl, hBJ⟩ := hrel
              have y3 : wr.cell? ⟨xb, 3, none⟩ = some (.slice PA pn pc) := hBJ.out.x.cell 3
              by_cases hlj : J < pn
              · have hjl : J < pa.length := by rw [HPL.out]; exact hlj
                have hj := List.getElem?_eq_getElem hjl
                have HJ := Lib.hid hj
                have h32 := hpa.out pa[J] (List.getElem_mem hjl)
                obtain ⟨eb, eo, rfl, _, rJ⟩ := (HPM.out.chg (HC.out.trans hBJ.out.b.chg (fun _ f => f.elim))) J _ hj
                generalize pa[J] = hh at *
                have hih : (Try.prog.info? 57).map (·.size) = some (bv hh).length := by rw [bv_length, h32]; exact hash_row
                have hJi : (J : Int) < (pn : Int) := by omega
                have HLJ : Hid ((pb ++ (pa.take J).flatMap id).length ≤ 61000) := Lib.hid (by
                  have h1 := path_len (l := pa.take J) (fun x hx => hpa.out x (List.mem_of_mem_take hx))
                  have h2 := HPBL.out
                  rw [List.length_append, h1, List.length_take]
                  omega)
                have HNX : Hid (pb ++ (pa.take J).flatMap id ++ hh = pb ++ (pa.take (J + 1)).flatMap id) := Lib.hid (by rw [List.take_add_one, HJ.out]; simp [List.flatMap_append, List.append_assoc])
                generalize u5 = bj at *
                generalize pb ++ (pa.take J).flatMap id = pj at *
                have HS32 := Lib.hid h32
                clear hj hjl
                go_wp2_with (first | (with_reducible refine wpList_load_mid rfl 57 _ rfl eb (eo + J * 32) rfl (bv hh) _ rJ Try.underlying57 rfl hih ?_) | fail)
                refine (refHash_any _ hh h32).mono ?_
                rintro e we ⟨ve, rfl, oe, ne, je⟩
                obtain ⟨Ae, ce, rfl, Re⟩ := oe.rd
                have Be := hBJ.out.later je
                clear h32 hih
                go_wp2_with (at_builtin; refine wpList_app byt _ rfl _ _ rfl rfl Be.b.own (A := Ae) (c := ce) rfl rfl Re (by have := HLJ.out; rw [HS32.out]; omega) ?_; intro v14 w14 o14 g14 b14; have B14 := Be.app o14 g14 b14)
                go_roundw
                case rel => exact ⟨J + 1, by omega, by go_num, Lib.hid (by rw [← HNX.out]; exact B14)⟩
                case measure => simp [intOf]; omega
              · obtain rfl : J = pn := by omega
                generalize u5 = bj at *
                have hBK : Hid (Bts w1 wr bj (pfx (K + 1))) := Lib.hid (by
                  have h := hBJ.out.b
                  rw [List.take_of_length_le (by have := HPL.out; omega), HPB.out] at h
                  exact h)
                have hLK : Hid ((pfx (K + 1)).length ≤ 24 + (K + 1) * 20000) := Lib.hid (by
                  have h1 := HL20.out HMR.out
                  have h2 := hlen.out
                  rw [HPN.out, List.length_append]
                  omega)
                clear hBJ
                go_wp2_with fail
                go_roundw
                case rel => exact ⟨K + 1, by omega, by go_num, rfl, Lib.hid (HYE.out HMR.out), hLK, hBK⟩
                case measure => simp [intOf]; omega
          · obtain rfl : K = n := by omega
            have ht : ms.take K = ms := List.take_of_length_le (by have := HN.out; omega)
            have hT := hall.out
            rw [ht] at hT
            have hok : Hid (ok = true) := Lib.hid (by
              rw [HR.out, Bool.true_and, decide_eq_true h2n, Bool.true_and, List.all_eq_true]
              exact hT)
            generalize u5 = bo at *
            have hEnd : Hid (Own 5 wr bo enc) := Lib.hid (by
              have h := hB.out.own
              rw [HP.out, ht, ← HE.out] at h
              exact h)
            clear hT ht
            go_wp2_with fail
            go_ret2
            exact ⟨HC.out.trans hB.out.chg (fun _ f => f.elim), _, by rw [hok.out]; rfl, fun _ => hEnd.out⟩
  · have h2i : ¬ (n : Int) ≤ 2 := by omega
    have hd0 : decide ((n : Int) ≤ 2) = false := decide_eq_false h2i
    have HF : Hid (ok = false) := Lib.hid (by rw [HR.out, decide_eq_false h2n]; simp)
    cases p
    · go_wp2_with fail
      go_region_held3 (fun w' => w'.cell? ⟨w.heap.size, 0, none⟩ = some (.int .i64 sz) ∧ w'.cell? ⟨w.heap.size, 1, none⟩ = some (.slice A n c)) (first | exact ⟨c0, c1⟩ | exact S8 | exact S7 | exact S6 | assumption)
        (first
          | (go_at_call_of 14 (Value.int IntKind.i64 7); refine (refNumber_any _ 7).mono ?_; rintro e w6 ⟨v6, rfl, o6, n6, j6⟩; have K6 : Chg Non w1 w6 := (by first | exact ((Chg.refl Non w1).drew).trans j6 (fun _ f => f.elim) | exact K7.trans j6 (fun _ f => f.elim)); have B6 : Bts w1 w6 v6 (num 7) := ⟨o6, fun k hk => Nat.le_trans (by first | exact Nat.le_refl _ | exact K7.size) (n6 k hk), K6⟩; have S6 := And.intro (K6.cell c0 (fun f => f)) (K6.cell c1 (fun f => f)))
          | (go_at_call_of 14 (Value.int IntKind.i64 sz); refine (refNumber_any _ sz).mono ?_; rintro e w7 ⟨v7, rfl, o7, n7, j7⟩; obtain ⟨A7, c7, rfl, R7⟩ := o7.rd; have K7 : Chg Non w1 w7 := (by first | exact ((Chg.refl Non w1).drew).trans j7 (fun _ f => f.elim) | exact K6.trans j7 (fun _ f => f.elim)); have S7 := And.intro (K7.cell c0 (fun f => f)) (K7.cell c1 (fun f => f)))
          | (refine step_app _ (by rfl) _ _ (by rfl) (l := num 7) (l2 := num sz) (by rfl) (by first | exact (B6.later j7).own | exact B6.own) (A := A7) (c := c7) (by rfl) (by rfl) (by first | exact R7 | exact R7.later j6) (by simp [num_length]) ?_; intro v8 w8 o8 g8 b8; have B8 : Bts w1 w8 v8 (num 7 ++ num sz) := (by first | exact (B6.later j7).app o8 g8 b8 | exact B6.app o8 g8 b8); have S8 := And.intro (B8.chg.cell c0 (fun f => f)) (B8.chg.cell c1 (fun f => f)))
          | fail)
      all_goals
        obtain ⟨d0, d1⟩ := S8
        have B8' := Lib.hid B8
        clear S6 S7 R7 o6 o7 o8 g8 b8 B6 B8 K6 K7 j6 j7 n6 n7
        go_wp2_with fail
        refine (refNumber_any _ (n : Int)).mono ?_
        rintro e wa ⟨va, rfl, oa, na, ja⟩
        obtain ⟨Aa, ca, rfl, Ra⟩ := oa.rd
        have Ba := B8'.out.later ja
        clear d0 d1
        go_wp2_with (at_builtin; refine wpList_app byt _ rfl _ _ rfl rfl Ba.own (A := Aa) (c := ca) rfl rfl Ra (by simp only [List.length_append, num_length]; omega) ?_; intro v9 w9 o9 g9 b9; have B9 := Ba.app o9 g9 b9; have d1 := B9.chg.cell H1.out (fun f => f))
        clear Ba oa Ra na ja o9 g9 b9 B8'
        go_loopw [4, 5, 6, 7, 8] (fun o b i x k wr => i = .int .i64 0 ∧ o = .bool false ∧ b = v9 ∧ wr = w9) (fun _ _ _ _ _ _ => 0)
        case atStart => exact ⟨rfl, rfl, rfl, rfl⟩
        case round =>
          obtain ⟨rfl, rfl, rfl, rfl⟩ := hrel
          have h0 : (0 : Int) < (n : Int) := by omega
          go_wp2_with fail
          go_ret2
          exact ⟨HC.out.trans B9.chg (fun _ f => f.elim), _, by rw [HF.out]; rfl, fun h => by rw [HF.out] at h; cases h⟩
    · go_wp2_with fail
      go_region_held3 (fun w' => w'.cell? ⟨w.heap.size, 0, none⟩ = some (.int .i64 sz) ∧ w'.cell? ⟨w.heap.size, 1, none⟩ = some (.slice A n c)) (first | exact ⟨c0, c1⟩ | exact S8 | exact S7 | exact S6 | assumption)
        (first
          | (go_at_call_of 14 (Value.int IntKind.i64 7); refine (refNumber_any _ 7).mono ?_; rintro e w6 ⟨v6, rfl, o6, n6, j6⟩; have K6 : Chg Non w1 w6 := (by first | exact ((Chg.refl Non w1).drew).trans j6 (fun _ f => f.elim) | exact K7.trans j6 (fun _ f => f.elim)); have B6 : Bts w1 w6 v6 (num 7) := ⟨o6, fun k hk => Nat.le_trans (by first | exact Nat.le_refl _ | exact K7.size) (n6 k hk), K6⟩; have S6 := And.intro (K6.cell c0 (fun f => f)) (K6.cell c1 (fun f => f)))
          | (go_at_call_of 14 (Value.int IntKind.i64 sz); refine (refNumber_any _ sz).mono ?_; rintro e w7 ⟨v7, rfl, o7, n7, j7⟩; obtain ⟨A7, c7, rfl, R7⟩ := o7.rd; have K7 : Chg Non w1 w7 := (by first | exact ((Chg.refl Non w1).drew).trans j7 (fun _ f => f.elim) | exact K6.trans j7 (fun _ f => f.elim)); have S7 := And.intro (K7.cell c0 (fun f => f)) (K7.cell c1 (fun f => f)))
          | (refine step_app _ (by rfl) _ _ (by rfl) (l := num 7) (l2 := num sz) (by rfl) (by first | exact (B6.later j7).own | exact B6.own) (A := A7) (c := c7) (by rfl) (by rfl) (by first | exact R7 | exact R7.later j6) (by simp [num_length]) ?_; intro v8 w8 o8 g8 b8; have B8 : Bts w1 w8 v8 (num 7 ++ num sz) := (by first | exact (B6.later j7).app o8 g8 b8 | exact B6.app o8 g8 b8); have S8 := And.intro (B8.chg.cell c0 (fun f => f)) (B8.chg.cell c1 (fun f => f)))
          | fail)
      all_goals
        obtain ⟨d0, d1⟩ := S8
        have B8' := Lib.hid B8
        clear S6 S7 R7 o6 o7 o8 g8 b8 B6 B8 K6 K7 j6 j7 n6 n7
        go_wp2_with fail
        refine (refNumber_any _ (n : Int)).mono ?_
        rintro e wa ⟨va, rfl, oa, na, ja⟩
        obtain ⟨Aa, ca, rfl, Ra⟩ := oa.rd
        have Ba := B8'.out.later ja
        clear d0 d1
        go_wp2_with (at_builtin; refine wpList_app byt _ rfl _ _ rfl rfl Ba.own (A := Aa) (c := ca) rfl rfl Ra (by simp only [List.length_append, num_length]; omega) ?_; intro v9 w9 o9 g9 b9; have B9 := Ba.app o9 g9 b9; have d1 := B9.chg.cell H1.out (fun f => f))
        clear Ba oa Ra na ja o9 g9 b9 B8'
        go_loopw [4, 5, 6, 7, 8] (fun o b i x k wr => i = .int .i64 0 ∧ o = .bool false ∧ b = v9 ∧ wr = w9) (fun _ _ _ _ _ _ => 0)
        case atStart => exact ⟨rfl, rfl, rfl, rfl⟩
        case round =>
          obtain ⟨rfl, rfl, rfl, rfl⟩ := hrel
          have h0 : (0 : Int) < (n : Int) := by omega
          go_wp2_with fail
          go_ret2
          exact ⟨HC.out.trans B9.chg (fun _ f => f.elim), _, by rw [HF.out]; rfl, fun h => by rw [HF.out] at h; cases h⟩
end Go.Proofs.Ytoafchfpnaojmaa
