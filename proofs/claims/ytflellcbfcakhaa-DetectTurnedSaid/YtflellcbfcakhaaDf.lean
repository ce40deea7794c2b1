/- Boxes of whole rows; shown: a witness's first headers, and the function that tells them. -/
import Derived.Test.YtflellcbfcakhaaChecked
import Derived.WalkKit
import Derived.WalkLawsBesides
import Derived.Lib.Hide
import Derived.Deep.MidRow
import Derived.Test.YtflellcbfcakhaaDd
namespace Go.Proofs.Ytflellcbfcakhaa
open Go.RowKit
set_option linter.unusedVariables false
set_option linter.unusedSimpArgs false
set_option maxRecDepth 20000

theorem row_set (p : List Value) (x u : Value) (q : List Value) : (p ++ x :: q).toArray.setIfInBounds p.length u = (p ++ u :: q).toArray := by simp
theorem Chg.setCells {S : Nat → Prop} {a : World} {tb : Nat} (hs : S tb) : ∀ (vs : List Value) (b : World) (o : Nat), Chg S a b → Chg S a (b.setCells tb o vs)
  | [], _, _, h => h
  | v :: vs, b, o, h => Chg.setCells hs vs _ _ (h.setCell (p := ⟨tb, o, none⟩) (.inl hs) v)
theorem Hb.setCells {t : TypeId} {tb : Nat} : ∀ (new old p q : List Value) (w : World), old.length = new.length → Hb w tb t (p ++ (old ++ q)).toArray → Hb (w.setCells tb p.length new) tb t (p ++ (new ++ q)).toArray
  | [], old, p, q, w, hl, h => by
    obtain rfl : old = [] := List.eq_nil_of_length_eq_zero hl
    exact h
  | v :: vs, [], p, q, w, hl, h => by simp at hl
  | v :: vs, x :: old, p, q, w, hl, h => by
    have h1 : Hb (w.setCell ⟨tb, p.length, none⟩ v) tb t ((p ++ [v]) ++ (old ++ q)).toArray := by
      have h2 := h.set p.length v
      rw [List.cons_append, row_set] at h2
      simpa using h2
    have h3 := Hb.setCells vs old (p ++ [v]) q _ (by simpa using hl) h1
    rw [List.length_append, List.length_singleton] at h3
    simpa [World.setCells] using h3
theorem Hb.sets0 {w : World} {b : Nat} {t : TypeId} {L L' : List Value} (h : Hb w b t L.toArray) (hl : L.length = L'.length) : Hb (w.setCells b 0 L') b t L'.toArray := by
  have := Hb.setCells L' L [] [] w hl (by simpa using h)
  simpa using this
theorem one_mem {L : List Value} (h : ∀ v ∈ L, v.oneCell' = true) : L.toArray.all (·.oneCell') = true := all_oneCell_toArray h
theorem Hd.one (x : Hd) : ∀ v ∈ x.cells, v.oneCell' = true := by
  intro v hv
  simp only [Hd.cells, List.mem_append, List.mem_cons, List.not_mem_nil, or_false] at hv
  rcases hv with (rfl | rfl | rfl) | (h | h | h | h | h) <;> first | rfl | exact bv_one _ _ h
def no32 : List UInt8 := List.replicate 32 0
def Hd.zero : Hd := ⟨ByteArray.empty, 0, 0, no32, no32, no32, no32, no32⟩
def Li.zero : Li := ⟨Hd.zero, 0, 0, no32, [], [], [], none, none, none, 0, 0, 0⟩
theorem Hd.zero_ok : Hd.zero.Ok := ⟨by decide, ⟨by decide, by decide⟩, ⟨by decide, by decide⟩, rfl, rfl, rfl, rfl, rfl⟩
theorem Li.zero_ok : Li.zero.Ok := ⟨Hd.zero_ok, ⟨by decide, by decide⟩, ⟨by decide, by decide⟩, rfl, by simp [Li.zero], by simp [Li.zero], by simp [Li.zero], by decide, by decide, by decide⟩
theorem Li.one (x : Li) : ∀ v ∈ x.cells, v.oneCell' = true := by
  intro v hv
  simp only [Li.cells, Li.tail, List.mem_append, List.mem_cons, List.not_mem_nil, or_false] at hv
  rcases hv with h | ((rfl | rfl) | h | rfl | rfl | rfl) <;> first | rfl | exact bv_one _ _ h | exact x.hd.one _ h
theorem light_row (x : Li) (ox : x.Ok) : (Try.prog.info? 31).map (·.size) = some x.cells.length := by rw [x.cells_len ox]; kernel_rfl
theorem header_alloc (w : World) : (Instr.alloc 25 true (.tuple #[])).run Try.prog w = .ok (.pointer (some ⟨w.heap.size, 0, none⟩)) (w.alloc (.cells (Hd.zero.cells).toArray 25)) := by kernel_rfl
theorem light_alloc (w : World) : (Instr.alloc 31 true (.tuple #[])).run Try.prog w = .ok (.pointer (some ⟨w.heap.size, 0, none⟩)) (w.alloc (.cells (Li.zero.cells).toArray 31)) := by kernel_rfl
/-- A new box of a whole row. -/
theorem wpList_alloc_h {ops : Array Oper} {rest : List Oper} {o : Oper} {a : Act} {w : World} {Q : Exit → Act → World → Prop} (hgd : o.guard = none) (ty : TypeId) (ho : o.op = .alloc ty) (z : List Value)
    (hz : ∀ w : World, (Instr.alloc ty true (.tuple #[])).run Try.prog w = .ok (.pointer (some ⟨w.heap.size, 0, none⟩)) (w.alloc (.cells z.toArray ty)))
    (hK : ∀ w1, Chg Non w w1 → Hid (Hb w1 w.heap.size ty z.toArray) → wpList Try.prog ops Q rest (a.put o.dst (.pointer (some ⟨w.heap.size, 0, none⟩))) w1) : wpList Try.prog ops Q (o :: rest) a w := by
  refine wpList_plain hgd fun K hK' => ?_
  unfold Oper.wp execOp
  simp only [ho, Sem.run_bind, Sem.run_pure, Result.andThen_ok, hz w]
  exact hK' _ _ (hK _ ((Chg.refl _ _).alloc _) (Lib.hid (Hb.new w ty _)))
/-- A whole row is stored into its box. -/
theorem wpList_store_h {ops : Array Oper} {rest : List Oper} {o : Oper} {a : Act} {w : World} {Q : Exit → Act → World → Prop} (hgd : o.guard = none) (ty : TypeId) (x y : Operand) (ho : o.op = .store ty x y) (g : Nat) (z cs : List Value)
    (hx : a.eval x = .pointer (some ⟨g, 0, none⟩)) (hy : a.eval y = .agg cs.toArray) (hb : Hb w g ty z.toArray) (hl : z.length = cs.length) (hi : (Try.prog.info? ty).map (·.size) = some cs.length) (h1 : ∀ v ∈ cs, v.oneCell' = true)
    (hK : ∀ w1, Chg (· = g) w w1 → Hid (Hb w1 g ty cs.toArray) → wpList Try.prog ops Q rest (a.put o.dst undef) w1) : wpList Try.prog ops Q (o :: rest) a w := by
  refine wpList_store_mid hgd ty x y ho g 0 cs.toArray hx hy ?_ (by rw [List.size_toArray]; exact hi) (one_mem h1) ?_
  · rw [List.size_toArray, ← hl]
    exact hb.there0
  · rw [List.toList_toArray]
    exact hK _ (Chg.setCells (S := (· = g)) rfl cs w 0 (Chg.refl _ w)) (Lib.hid (hb.sets0 hl))
/-- What a box holds, behind a store into it: new since w. -/
theorem Chg.fresh {w w1 w2 : World} (k1 : Chg Non w w1) (k2 : Chg (· = w.heap.size) w1 w2) : Chg Non w w2 := k1.trans k2 (fun j e => .inr (Nat.le_of_eq e.symm))

/-- The function that shown answers: its two boxes, its map. -/
structure Shn (w : World) (B : Option Addr) (d : Nat) (m : List Li) (n : Nat) (l : List Li) (bw bm bM : Nat) : Prop where
  lst : w.cell? ⟨bw, 0, none⟩ = some (.slice B m.length d)
  box : w.cell? ⟨bm, 0, none⟩ = some (.map (some bM))
  map : MapI .i64 3 w bM n (fun h => (fstOf l h).map fun (i : Nat) => (i : Int))
theorem Shn.chg {w w' : World} {B : Option Addr} {d : Nat} {m : List Li} {n : Nat} {l : List Li} {bw bm bM : Nat} (h : Shn w B d m n l bw bm bM) (k : Chg Non w w') : Shn w' B d m n l bw bm bM :=
  ⟨k.cell h.lst (fun f => f), k.cell h.box (fun f => f), h.map.chg k (fun f => f)⟩
theorem updM_fst {l : List Li} {x : Li} {k : Nat} (hk : k = l.length) (hn : fstOf l x.hd.height = none) : updM (fun h => (fstOf l h).map fun (i : Nat) => (i : Int)) x.hd.height (k : Int) = fun h => (fstOf (l ++ [x]) h).map fun (i : Nat) => (i : Int) := by
  funext h
  by_cases e : h = x.hd.height
  · subst e
    rw [updM_same, fst_snoc, hn, if_pos rfl, hk]
    rfl
  · rw [updM_other _ _ e, fst_snoc, if_neg (fun e' => e e'.symm)]
    cases fstOf l h <;> rfl
theorem keep_fst {l : List Li} {x : Li} (hn : (fstOf l x.hd.height).isSome = true) : (fun h => (fstOf l h).map fun (i : Nat) => (i : Int)) = fun h => (fstOf (l ++ [x]) h).map fun (i : Nat) => (i : Int) := by
  funext h
  rw [fst_snoc]
  by_cases e : x.hd.height = h
  · subst e
    obtain ⟨i, hi⟩ := Option.isSome_iff_exists.1 hn
    rw [hi]
    rfl
  · rw [if_neg e]
    cases fstOf l h <;> rfl
theorem map_of : Try.prog.underlying 69 = some (.map 3 3) := by kernel_rfl

set_option maxHeartbeats 3200000 in
theorem shown_any (w : World) (B : Option Addr) (d : Nat) (m : List Li) (hm : m.length ≤ maxLen) (om : ∀ x ∈ m, x.Ok) (N : LstM w B m Li.cells 200) :
    Calls Try.prog 14 #[.slice B m.length d] w fun e w' => Chg Non w w' ∧ ∃ bw bm bM, e = .returned (.func (.func 23) #[] #[.pointer (some ⟨bm, 0, none⟩), .pointer (some ⟨bw, 0, none⟩)]) ∧ Hid (Shn w' B d m m.length m bw bm bM) := by
  have HN := Lib.hid N
  have OM := Lib.hid om
  have HML := Lib.hid hm
  have HSH : Hid (∀ w' bw bm bM, w'.cell? ⟨bw, 0, none⟩ = some (.slice B m.length d) → w'.cell? ⟨bm, 0, none⟩ = some (.map (some bM)) → MapI .i64 3 w' bM m.length (fun h => (fstOf m h).map fun (i : Nat) => (i : Int)) → Shn w' B d m m.length m bw bm bM) := Lib.hid fun _ _ _ _ a b c => ⟨a, b, c⟩
  unfold maxLen at hm
  clear N om
  generalize hmm : m.length = mn at *
  have HLM := Lib.hid hmm
  clear hmm
  have hmk := @run_makeMap Try.prog
  go_enter Try.func14, Try.ntmps14
  go_wp2_with fail
  have e1 : ∀ (w : World) (o : Obj), (w.alloc o).heap.size = w.heap.size + 1 := fun w o => by simp
  have k0 := (((Chg.refl Non w).alloc (.cells #[.slice B mn d] 34)).alloc (.map #[] 0)).alloc (.cells #[.map (some (w.heap.size + 1))] 69)
  have f0 := (((Hb.new w 34 #[.slice B mn d]).alloc (.map #[] 0)).alloc (.cells #[.map (some (w.heap.size + 1))] 69)).cell 0
  have f1 := (Hb.new ((w.alloc (.cells #[.slice B mn d] 34)).alloc (.map #[] 0)) 69 #[.map (some (w.heap.size + 1))]).cell 0
  have f2 := (MapI.made .i64 3 (w.alloc (.cells #[.slice B mn d] 34))).chg ((Chg.refl Non _).alloc (.cells #[.map (some (w.heap.size + 1))] 69)) (fun f => f)
  rw [e1, e1] at f1
  rw [e1] at f2
  generalize hw0 : (((w.alloc (.cells #[.slice B mn d] 34)).alloc (.map #[] 0)).alloc (.cells #[.map (some (w.heap.size + 1))] 69)) = w0 at *
  clear hw0 e1 hmk
  generalize hb3 : w.heap.size + 1 + 1 = b3 at *
  generalize hb2 : w.heap.size + 1 = b2 at *
  have K0 := Lib.hid k0
  have F0 := Lib.hid f0
  have F1 := Lib.hid f1
  have HB : Hid (w.heap.size + 1 = b2 ∧ w.heap.size + 1 + 1 = b3) := Lib.hid ⟨hb2, by omega⟩
  have F2 : Hid (MapI .i64 3 w0 b2 0 (fun h => (fstOf (m.take 0) h).map fun (i : Nat) => (i : Int))) := Lib.hid f2
  clear k0 f0 f1 f2 hb2 hb3
  generalize hb1 : w.heap.size = b1 at *
  have HB1 := Lib.hid hb1
  clear hb1
  go_loopw [4, 5, 6, 7, 11] (fun s4 s5 s6 s7 i wr => ∃ k : Nat, k ≤ mn ∧ i = .int .i64 (k : Int) ∧ Hid (wr.cell? ⟨b1, 0, none⟩ = some (.slice B mn d)) ∧ Hid (wr.cell? ⟨b3, 0, none⟩ = some (.map (some b2))) ∧
    Hid (MapI .i64 3 wr b2 k (fun h => (fstOf (m.take k) h).map fun (i : Nat) => (i : Int))) ∧ Hid (Chg (· = b2) w0 wr)) (fun _ _ _ _ i _ => mn - (intOf i).toNat)
  case atStart => exact ⟨0, by omega, rfl, F0, F1, F2, Lib.hid (Chg.refl _ _)⟩
  case round =>
    obtain ⟨k, hk, rfl, hL, hX, hM, hC⟩ := hrel
    by_cases hlt : k < mn
    · have hkl : k < m.length := by rw [HLM.out]; exact hlt
      have hx := List.getElem?_eq_getElem hkl
      have hxm := List.getElem_mem hkl
      obtain ⟨eb, eo, rfl, hebl, R⟩ := HN.out k _ hx
      have HX := Lib.hid hx
      have ox := OM.out _ hxm
      generalize m[k] = x at *
      have hki : (k : Int) < (mn : Int) := by omega
      have hne : ¬ eb = b2 := by have := HB.out; have := HB1.out; omega
      have R1 := ((K0.out.trans hC.out (fun _ e => .inr (by have := HB.out; have := HB1.out; omega))).range' R (fun f => f))
      have hrow := light_row x ox
      have hone := x.one
      have hzl : Li.zero.cells.length = x.cells.length := by rw [x.cells_len ox, Li.zero.cells_len Li.zero_ok]
      have HOX := Lib.hid ox
      have HTK : Hid (m.take (k + 1) = m.take k ++ [x]) := Lib.hid (take_one HX.out)
      have HKL : Hid (k = (m.take k).length) := Lib.hid (by rw [List.length_take]; omega)
      clear hx hkl hxm R ox
      have hwf : (Lit.int .i64 x.hd.height).wf = true := i64_wf HOX.out.hd.height
      have hkw : (Lit.int .i64 (k : Int)).wf = true := i64_wf ⟨by omega, by omega⟩
      have hkm : k < maxLen := by have := HML.out; omega
      have HFA : Hid (∀ wa wb, Chg Non wr wa → Chg (· = wr.heap.size) wa wb → Hid (Hb wb wr.heap.size 31 x.cells.toArray) →
          wb.cell? ⟨b3, 0, none⟩ = some (.map (some b2)) ∧ wb.cell? ⟨wr.heap.size, 1, none⟩ = some (.int .i64 x.hd.height) ∧ Hid (MapI .i64 3 wb b2 k (fun h => (fstOf (m.take k) h).map fun (i : Nat) => (i : Int))) ∧ Hid (Chg (· = b2) w0 wb) ∧ Hid (wb.cell? ⟨b1, 0, none⟩ = some (.slice (some ⟨eb, eo, none⟩) mn d))) := Lib.hid fun wa wb ka kb hB => by
        have kf := ka.fresh kb
        have r := Li.rows HOX.out hB.out.range0
        exact ⟨kf.cell hX.out (fun f => f), by simpa using r.height, Lib.hid (hM.out.chg kf (fun f => f)), Lib.hid (hC.out.trans kf (fun _ f => f.elim)), Lib.hid (kf.cell hL.out (fun f => f))⟩
      have HFB : Hid (∀ wb wc, Hid (Chg (· = b2) w0 wb) → Hid (wb.cell? ⟨b1, 0, none⟩ = some (.slice (some ⟨eb, eo, none⟩) mn d)) → MapI .i64 3 wc b2 (k + 1) (updM (fun h => (fstOf (m.take k) h).map fun (i : Nat) => (i : Int)) x.hd.height (k : Int)) → Chg (· = b2) wb wc → 
          Hid (Chg (· = b2) w0 wc) ∧ Hid (wc.cell? ⟨b1, 0, none⟩ = some (.slice (some ⟨eb, eo, none⟩) mn d))) := Lib.hid fun wb wc h1 h2 _ kc => ⟨Lib.hid (h1.out.trans kc (fun _ e => .inl e)), Lib.hid (kc.cell h2.out (fun e => by have := HB.out; simp only at e; omega))⟩
      have hne3 : ¬ b3 = b2 := by have := HB.out; omega
      cases hf : fstOf (m.take k) x.hd.height with
      | some i =>
        have HV : Hid (((fun h => (fstOf (m.take k) h).map fun (i : Nat) => (i : Int)) x.hd.height).getD 0 = (i : Int)) := Lib.hid (by simp only [hf]; rfl)
        have HS : Hid (((fun h => (fstOf (m.take k) h).map fun (i : Nat) => (i : Int)) x.hd.height).isSome = true) := Lib.hid (by simp only [hf]; rfl)
        have HKE : Hid (((fun h => (fstOf (m.take k) h).map fun (i : Nat) => (i : Int))) = fun h => (fstOf (m.take (k + 1)) h).map fun (i : Nat) => (i : Int)) := Lib.hid (by rw [HTK.out]; exact keep_fst (by rw [hf]; rfl))
        clear hf
        go_wp2_with (first | (with_reducible refine wpList_load_mid rfl 31 _ rfl eb (eo + k * 200) rfl x.cells _ R1 Try.underlying31 rfl hrow ?_) | (with_reducible refine wpList_alloc_h rfl _ rfl Li.zero.cells light_alloc ?_; intro wa ka hA) | (with_reducible refine wpList_store_h rfl 31 _ _ rfl wr.heap.size Li.zero.cells x.cells rfl rfl hA.out hzl hrow hone ?_; intro wb kb hB; obtain ⟨p1, p2, p3, p4, p5⟩ := HFA.out wa wb ka kb hB) | (with_reducible refine wpList_look_ok' rfl _ _ _ rfl map_of Try.underlying3 rfl p3.out rfl hwf HV.out HS.out ?_))
        go_roundw
        case rel => exact ⟨k + 1, by omega, by go_num, p5, Lib.hid p1, Lib.hid (by have := (p3.out).mono (Nat.le_succ k); rw [HKE.out] at this; exact this), p4⟩
        case measure => simp [intOf]; omega
      | none =>
        have HV : Hid (((fun h => (fstOf (m.take k) h).map fun (i : Nat) => (i : Int)) x.hd.height).getD 0 = 0) := Lib.hid (by simp only [hf]; rfl)
        have HS : Hid (((fun h => (fstOf (m.take k) h).map fun (i : Nat) => (i : Int)) x.hd.height).isSome = false) := Lib.hid (by simp only [hf]; rfl)
        have HKE : Hid (updM (fun h => (fstOf (m.take k) h).map fun (i : Nat) => (i : Int)) x.hd.height (k : Int) = fun h => (fstOf (m.take (k + 1)) h).map fun (i : Nat) => (i : Int)) := Lib.hid (by rw [HTK.out]; exact updM_fst HKL.out hf)
        clear hf
        go_wp2_with (first | (with_reducible refine wpList_load_mid rfl 31 _ rfl eb (eo + k * 200) rfl x.cells _ R1 Try.underlying31 rfl hrow ?_) | (with_reducible refine wpList_alloc_h rfl _ rfl Li.zero.cells light_alloc ?_; intro wa ka hA) | (with_reducible refine wpList_store_h rfl 31 _ _ rfl wr.heap.size Li.zero.cells x.cells rfl rfl hA.out hzl hrow hone ?_; intro wb kb hB; obtain ⟨p1, p2, p3, p4, p5⟩ := HFA.out wa wb ka kb hB) | (with_reducible refine wpList_look_ok' rfl _ _ _ rfl map_of Try.underlying3 rfl p3.out rfl hwf HV.out HS.out ?_) | (with_reducible refine wpList_put rfl _ _ _ _ rfl map_of Try.underlying3 rfl p3.out hkm rfl hwf rfl hkw ?_; intro wc mc kc _; obtain ⟨q1, q2⟩ := HFB.out wb wc p4 p5 mc kc))
        go_roundw
        case rel => exact ⟨k + 1, by omega, by go_num, q2, Lib.hid (kc.cell p1 hne3), Lib.hid (by rw [← HKE.out]; exact mc), q1⟩
        case measure => simp [intOf]; omega
    · obtain rfl : k = mn := by omega
      go_wp2
      go_ret
      have e : m.take k = m := List.take_of_length_le (by have := HLM.out; omega)
      rw [e] at hM
      exact ⟨K0.out.trans hC.out (fun _ e => .inr (by have := HB.out; have := HB1.out; omega)), b1, b3, b2, rfl, Lib.hid (HSH.out _ _ _ _ hL.out hX.out hM.out)⟩
end Go.Proofs.Ytflellcbfcakhaa
