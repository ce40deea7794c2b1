import Derived.Test.YtgonbmcfeehfaaaChecked
import Derived.WalkKit
import Derived.WalkLawsBesides
import Derived.Lib.Hide
import Derived.Recover
import Derived.Deep.RegionHeld3
import Derived.Test.YtgonbmcfeehfaaaMFormReads5
/- Package forms: words for decoded[T]. -/
namespace Go.Proofs.Ytgonbmcfeehfaaa
open Go.RowKit
set_option linter.unusedVariables false
set_option linter.unusedSimpArgs false
set_option maxRecDepth 20000


theorem wpList_alloc_row {ops : Array Oper} {rest : List Oper} {o : Oper} {a : Act} {w : World} {Q : Exit → Act → World → Prop} (hgd : o.guard = none) (ty : TypeId) (ho : o.op = .alloc ty) (z : List Value)
    (hz : (Instr.alloc ty true (.tuple #[])).run Try.prog w = .ok (.pointer (some ⟨w.heap.size, 0, none⟩)) (w.alloc (.cells z.toArray ty)))
    (hK : wpList Try.prog ops Q rest (a.put o.dst (.pointer (some ⟨w.heap.size, 0, none⟩))) (w.alloc (.cells z.toArray ty))) : wpList Try.prog ops Q (o :: rest) a w := by
  refine wpList_plain hgd fun K hK' => ?_
  unfold Oper.wp execOp
  simp only [ho, Sem.run_bind, Sem.run_pure, Result.andThen_ok, hz]
  exact hK' _ _ hK
theorem wpList_box_row {ops : Array Oper} {rest : List Oper} {o : Oper} {a : Act} {w : World} {Q : Exit → Act → World → Prop} (hgd : o.guard = none) (ty : TypeId) (x : Operand) (ho : o.op = .box ty x) {cs : Array Value} (hx : a.eval x = .agg cs)
    (hK : ∀ w1, Hid (w1 = w.alloc (.cells cs ty)) → wpList Try.prog ops Q rest (a.put o.dst (.pointer (some ⟨w.heap.size, 0, none⟩))) w1) : wpList Try.prog ops Q (o :: rest) a w := by
  refine wpList_plain hgd fun K hK' => ?_
  unfold Oper.wp execOp
  simp only [ho, hx, Sem.run_bind, Sem.run_pure, Instr.box]
  exact hK' _ _ (hK _ (Lib.hid rfl))
theorem wpList_load_w {ops : Array Oper} {rest : List Oper} {op : Oper} {a : Act} {w : World} {Q : Exit → Act → World → Prop} (ty : TypeId) (x : Operand) (ho : op.op = .load ty x) (hw : Region.wanted op (yielded ops a.tmps) = true)
    (b o : Nat) (hx : a.eval x = .pointer (some ⟨b, o, none⟩)) (cs : List Value) (d : TypeDesc) (hc : w.rangeAt b o cs)
    (hu : Try.prog.underlying ty = some d) (hd : d.isRow = true) (hi : (Try.prog.info? ty).map (·.size) = some cs.length)
    (h : wpList Try.prog ops Q rest (a.put op.dst (.agg cs.toArray)) w) : wpList Try.prog ops Q (op :: rest) a w := by
  unfold wpList
  rw [if_pos hw]
  exact .inl (wp_load_mid ty x ho b o hx cs d hc hu hd hi h)
theorem Hb.range0 {w : World} {b : Nat} {t : TypeId} {L : List Value} (h : Hb w b t L.toArray) : w.rangeAt b 0 L := by
  intro j u hu
  rw [Nat.zero_add, h.cell]
  simpa using hu
theorem Hb.there0 {w : World} {b : Nat} {t : TypeId} {L : List Value} (h : Hb w b t L.toArray) : w.there b 0 L.length := by
  intro j hj
  refine ⟨?_, h.frozen _⟩
  rw [Nat.zero_add, h.cell, List.getElem?_toArray, List.getElem?_eq_getElem hj]
  rfl
theorem Hb.sets0 {w : World} {b : Nat} {t : TypeId} {L L' : List Value} (h : Hb w b t L.toArray) (hl : L.length = L'.length) : Hb (w.setCells b 0 L') b t L'.toArray := by
  have := Hb.setCells L' L [] [] w hl (by simpa using h)
  simpa using this
theorem Hb.farCells {w : World} {b tb : Nat} {t : TypeId} {cs : Array Value} (h : Hb w b t cs) (hne : b ≠ tb) (vs : List Value) (o : Nat) : Hb (w.setCells tb o vs) b t cs :=
  h.chg (Chg.setCells (S := fun k => k = tb) rfl vs w o (Chg.refl _ w)) hne
theorem one_mem {L : List Value} (h : ∀ v ∈ L, v.oneCell' = true) : L.toArray.all (·.oneCell') = true := all_oneCell_toArray h

/-- What was read, if nothing stands behind it. -/
def whole {α : Type} (r : Option (α × St)) : Option α := match r with | some (x, some []) => some x | _ => none
/-- What decoding leaves: the thing's cells, or none and the error. -/
def Dec (w : World) (z : List Value) (r : Option (List Value)) (e : Ending) (w' : World) : Prop :=
  Chg Non w w' ∧ e = (match r with | some L => .returned (.tuple #[.agg L.toArray, .int .i64 0]) | none => .returned (.tuple #[.agg z.toArray, .int .i64 61]))
/-- The two results. -/
def dw (w : World) (z : List Value) (t : TypeId) : World := (w.alloc (.cells z.toArray t)).alloc (.cells #[.int .i64 0] 32)
theorem dw_chg (w : World) (z : List Value) (t : TypeId) : Chg Non w (dw w z t) := ((Chg.refl Non w).alloc _).alloc _
theorem dw_b (w : World) (z : List Value) (t : TypeId) : Hb (dw w z t) w.heap.size t z.toArray := (Hb.new w _ _).alloc _
theorem dw_e (w : World) (z : List Value) (t : TypeId) : Hb (dw w z t) (w.heap.size + 1) 32 #[.int .i64 0] := by
  have h := Hb.new (w.alloc (.cells z.toArray t)) 32 #[.int .i64 0]
  rwa [show (w.alloc (.cells z.toArray t)).heap.size = w.heap.size + 1 by simp] at h
theorem endv_eq (st : St) : (endv st == 0) = decide (st = some []) := by
  unfold endv
  by_cases h : st = some []
  · rw [if_pos h, decide_eq_true h]; rfl
  · rw [if_neg h, decide_eq_false h]; rfl
theorem load_row {w : World} {b : Nat} {t ty : TypeId} {L : List Value} {d : TypeDesc} (h : Hb w b t L.toArray) (hu : Try.prog.underlying ty = some d) (hd : d.isRow = true) (hi : (Try.prog.info? ty).map (·.size) = some L.length) : (loadVar ty ⟨b, 0, none⟩).run Try.prog w = .ok (.agg L.toArray) w :=
  run_loadVar_mid w b 0 ty L d h.range0 hu hd hi
end Go.Proofs.Ytgonbmcfeehfaaa

/- Package forms: votes, read: contracts. -/
namespace Go.Proofs.Ytgonbmcfeehfaaa
open Go.RowKit
set_option linter.unusedVariables false
set_option linter.unusedSimpArgs false
set_option maxRecDepth 20000

theorem Rst.eq {W w : World} {g : Nat} {F : Nat → Prop} {tb : Nat} {t : TypeId} {L L' : List Value} {st : St} (S : Rst W g F tb t L st w) (h : L = L') : Rst W g F tb t L' st w := h ▸ S

theorem signature_r (w : World) (g : Nat) (F : Nat → Prop) (tb o : Nat) (t : TypeId) (p q : List Value) (x y : Value) (st : St) (S : Rst w g F tb t (p ++ x :: y :: q) st w) (ho : o = p.length) :
    Calls Try.prog 46 #[.agg #[.pointer none, .pointer (some ⟨g, 0, none⟩)], .pointer (some ⟨tb, o, none⟩)] w (RO w g F tb t (p ++ x :: y :: q).length (some (p ++ .int .u64 (vW st : Int) :: .int .u64 (vW (nW st) : Int) :: q, nW (nW st)))) := by
  have HO := Lib.hid ho
  clear ho
  have S0 := S.non ((Chg.refl Non w).alloc (.cells #[.pointer none, .pointer (some ⟨g, 0, none⟩)] 86))
  have hw := S.nw (Nat.le_refl w.heap.size)
  have hx := Hb.new w 86 #[.pointer none, .pointer (some ⟨g, 0, none⟩)]
  have hx0 : (w.alloc (.cells #[.pointer none, .pointer (some ⟨g, 0, none⟩)] 86)).cell? ⟨w.heap.size, 0, none⟩ = some (.pointer none) := hx.cell 0
  have hx1 : (w.alloc (.cells #[.pointer none, .pointer (some ⟨g, 0, none⟩)] 86)).cell? ⟨w.heap.size, 1, none⟩ = some (.pointer (some ⟨g, 0, none⟩)) := hx.cell 1
  have S1 := S0.here
  clear hx S
  go_enter Try.func46, Try.ntmps46
  go_wp2_with fail
  generalize w.alloc (.cells #[.pointer none, .pointer (some ⟨g, 0, none⟩)] 86) = B at *
  have D2 := S1.non ((Chg.refl Non B).drew)
  have x0 := D2.chg.cell hx0 hw
  have x1 := D2.chg.cell hx1 hw
  go_region_held (fun w' => w'.cell? ⟨w.heap.size, 0, none⟩ = some (.pointer none) ∧ w'.cell? ⟨w.heap.size, 1, none⟩ = some (.pointer (some ⟨g, 0, none⟩))) (first | exact ⟨y0, y1⟩ | exact ⟨x0, x1⟩ | assumption) (first | (go_at_call 45; go_loud (refine (word_r _ g F tb o t p (y :: q) x st D2.here HO.out).mono ?_; rintro e w2 h2; have y0 := h2.chg.cell x0 hw; have y1 := h2.chg.cell x1 hw; obtain ⟨rfl, T2⟩ := h2)) | fail)
  have S2 := D2.trans T2
  clear D2 T2 x0 x1 y0 y1
  go_wp2_with fail
  have D3 := S2.non ((Chg.refl Non w2).drew)
  have x0 := D3.chg.cell hx0 hw
  have x1 := D3.chg.cell hx1 hw
  go_region_held (fun w' => w'.cell? ⟨w.heap.size, 0, none⟩ = some (.pointer none) ∧ w'.cell? ⟨w.heap.size, 1, none⟩ = some (.pointer (some ⟨g, 0, none⟩))) (first | exact ⟨y0, y1⟩ | exact ⟨x0, x1⟩ | assumption) (first | (go_at_call 45; go_loud (refine (word_r _ g F tb (o + 1) t (p ++ [.int .u64 (vW st : Int)]) q y (nW st) (D3.here.eq (by simp)) (by rw [HO.out]; simp)).mono ?_; rintro e w3 h3; have y0 := h3.chg.cell x0 hw; have y1 := h3.chg.cell x1 hw; obtain ⟨rfl, T3⟩ := h3)) | fail)
  have S3 := D3.trans T3
  go_wp2
  go_end0
  exact ⟨rfl, (S0.trans S3).eq (by simp)⟩

theorem vote_r_old {old : List Value} (h : old.length = 39) : ∃ (a0 : Value) (a1 : Value) (a2 : Value) (a3 : Value) (o4 : List Value) (a5 : Value) (a6 : Value) (a7 : Value), old = [a0] ++ [a1] ++ [a2] ++ [a3] ++ o4 ++ [a5] ++ [a6] ++ [a7] ∧ o4.length = 32 ∧ True := by
  refine ⟨(old[0]'(by omega)), (old[1]'(by omega)), (old[2]'(by omega)), (old[3]'(by omega)), ((old.drop 4).take 32), (old[36]'(by omega)), (old[37]'(by omega)), (old[38]'(by omega)), ?_, by simp; omega, trivial⟩
  apply List.ext_getElem?
  intro j
  have hone : ∀ (i : Nat) (hi : i < old.length), [old[i]] = (old.drop i).take 1 := by
    intro i hi
    apply List.ext_getElem?
    intro k
    rw [List.getElem?_take, List.getElem?_drop]
    by_cases hk : k < 1
    · obtain rfl : k = 0 := by omega
      simp [List.getElem?_eq_getElem hi]
    · rw [if_neg hk, List.getElem?_eq_none (by simp; omega)]
  simp only [hone]
  have hj : ∀ (a b c : Nat), a + b = c → (old.drop a).take b ++ old.drop c = old.drop a := by
    intro a b c e
    subst e
    rw [← List.drop_drop, List.take_append_drop]
  have he : old.drop 39 = [] := List.drop_of_length_le (by omega)
  have hall : (old.drop 0).take 1 ++ ((old.drop 1).take 1 ++ ((old.drop 2).take 1 ++ ((old.drop 3).take 1 ++ ((old.drop 4).take 32 ++ ((old.drop 36).take 1 ++ ((old.drop 37).take 1 ++ ((old.drop 38).take 1 ++ old.drop 39))))))) = old := by
    rw [hj 38 1 39 rfl, hj 37 1 38 rfl, hj 36 1 37 rfl, hj 4 32 36 rfl, hj 3 1 4 rfl, hj 2 1 3 rfl, hj 1 1 2 rfl, hj 0 1 1 rfl]
    rfl
  rw [he, List.append_nil] at hall
  conv => lhs; rw [← hall]
  try simp only [List.append_assoc]

set_option maxHeartbeats 1600000 in
theorem vote_r (w : World) (g : Nat) (F : Nat → Prop) (tb o : Nat) (t : TypeId) (p q old : List Value) (st : St) (S : Rst w g F tb t (p ++ (old ++ q)) st w) (ho : o = p.length) (hold : old.length = 39) :
    Calls Try.prog 16 #[.agg #[.pointer none, .pointer (some ⟨g, 0, none⟩)], .pointer (some ⟨tb, o, none⟩)] w (RO w g F tb t (p ++ (old ++ q)).length ((dVote st).map fun y => (p ++ (y.1.cells ++ q), y.2))) := by
  obtain ⟨a0, a1, a2, a3, o4, a5, a6, a7, rfl, l_o4, _⟩ := vote_r_old hold
  generalize hn : (p ++ (_ ++ q)).length = n
  generalize hr : (dVote st).map _ = r
  have HR := Lib.hid hr
  have HN := Lib.hid hn
  have HO := Lib.hid ho
  clear hr hn ho hold
  have S0 := S.non ((Chg.refl Non w).alloc (.cells #[.pointer none, .pointer (some ⟨g, 0, none⟩)] 86))
  have hw := S.nw (Nat.le_refl w.heap.size)
  have hx := Hb.new w 86 #[.pointer none, .pointer (some ⟨g, 0, none⟩)]
  have hx0 : (w.alloc (.cells #[.pointer none, .pointer (some ⟨g, 0, none⟩)] 86)).cell? ⟨w.heap.size, 0, none⟩ = some (.pointer none) := hx.cell 0
  have hx1 : (w.alloc (.cells #[.pointer none, .pointer (some ⟨g, 0, none⟩)] 86)).cell? ⟨w.heap.size, 1, none⟩ = some (.pointer (some ⟨g, 0, none⟩)) := hx.cell 1
  have S1 := S0.here
  obtain ⟨B, hB⟩ : ∃ B, B = w.alloc (.cells #[.pointer none, .pointer (some ⟨g, 0, none⟩)] 86) := ⟨_, rfl⟩
  clear hx S
  go_enter Try.func16, Try.ntmps16
  go_wp2_with fail
  rw [← hB] at S0 hx0 hx1 S1 ⊢
  clear hB
  have x0 := S1.chg.cell hx0 hw
  have x1 := S1.chg.cell hx1 hw
  go_wp2_with (first | (go_at_call 39; go_loud (refine (begin_r _ g F tb t _ st S1.here 1).mono ?_; rintro e w2 h2; rcases h2.cases with ⟨k, he, C, L', hL1, hL2⟩ | ⟨y, k, he, T2⟩; (subst he; obtain rfl : r = none := HR.out.symm.trans (by (simp only [Option.map_eq_none_iff] at k) <;> simp [dVote, k]); exact ⟨rfl, rfl, (S0.chg.trans (S1.chg.trans C (fun _ h => .inl h)) (fun _ h => .inl h)), L', by (rw [hL1, ← HN.out]) <;> simp [bv_length, vH_length, l_o4], hL2⟩); subst he; obtain ⟨z2, k2, rfl⟩ := Option.map_eq_some_iff.1 k; clear k)) | fail)
  have S2 := S1.trans T2
  clear T2 x0 x1
  clear h2
  go_wp2_with fail
  have D3 := S2.non ((Chg.refl Non w2).drew)
  have x0 := D3.chg.cell hx0 hw
  have x1 := D3.chg.cell hx1 hw
  go_region_held (fun w' => w'.cell? ⟨w.heap.size, 0, none⟩ = some (.pointer none) ∧ w'.cell? ⟨w.heap.size, 1, none⟩ = some (.pointer (some ⟨g, 0, none⟩))) (first | exact ⟨y0, y1⟩ | exact ⟨x0, x1⟩ | assumption) (first | (go_at_call 40; go_loud (refine (name_r _ g F tb o t (p) (a1 :: a2 :: a3 :: o4 ++ (a5 :: a6 :: a7 :: q)) a0 z2 (D3.here.eq (by simp)) HO.out).mono ?_; rintro e w3 h3; have y0 := h3.chg.cell x0 hw; have y1 := h3.chg.cell x1 hw; rcases h3.cases with ⟨k, he, C, L', hL1, hL2⟩ | ⟨y, k, he, T3⟩; (subst he; obtain rfl : r = none := HR.out.symm.trans (by (simp only [Option.map_eq_none_iff] at k) <;> simp [dVote, k2, k]); exact ⟨rfl, rfl, (S0.chg.trans (D3.chg.trans C (fun _ h => .inl h)) (fun _ h => .inl h)), L', by (rw [hL1, ← HN.out]) <;> simp [bv_length, vH_length, l_o4], hL2⟩); subst he; obtain ⟨z3, k3, rfl⟩ := Option.map_eq_some_iff.1 k; clear k)) | fail)
  have S3 := D3.trans T3
  clear D3 T3 x0 x1 y0 y1
  clear h3
  go_wp2_with fail
  have D4 := S3.non ((Chg.refl Non w3).drew)
  have x0 := D4.chg.cell hx0 hw
  have x1 := D4.chg.cell hx1 hw
  go_region_held (fun w' => w'.cell? ⟨w.heap.size, 0, none⟩ = some (.pointer none) ∧ w'.cell? ⟨w.heap.size, 1, none⟩ = some (.pointer (some ⟨g, 0, none⟩))) (first | exact ⟨y0, y1⟩ | exact ⟨x0, x1⟩ | assumption) (first | (go_at_call 41; go_loud (refine (height_r _ g F tb (o + 1) t (p ++ (.string z3.1 :: [])) (a2 :: a3 :: o4 ++ (a5 :: a6 :: a7 :: q)) a1 z3.2 (D4.here.eq (by simp)) (by rw [HO.out]; simp [bv_length, vH_length])).mono ?_; rintro e w4 h4; have y0 := h4.chg.cell x0 hw; have y1 := h4.chg.cell x1 hw; rcases h4.cases with ⟨k, he, C, L', hL1, hL2⟩ | ⟨y, k, he, T4⟩; (subst he; obtain rfl : r = none := HR.out.symm.trans (by (simp only [Option.map_eq_none_iff] at k) <;> simp [dVote, k2, k3, k]); exact ⟨rfl, rfl, (S0.chg.trans (D4.chg.trans C (fun _ h => .inl h)) (fun _ h => .inl h)), L', by (rw [hL1, ← HN.out]) <;> simp [bv_length, vH_length, l_o4], hL2⟩); subst he; obtain ⟨z4, k4, rfl⟩ := Option.map_eq_some_iff.1 k; clear k)) | fail)
  have S4 := D4.trans T4
  clear D4 T4 x0 x1 y0 y1
  clear h4
  go_wp2_with fail
  have D5 := S4.non ((Chg.refl Non w4).drew)
  have x0 := D5.chg.cell hx0 hw
  have x1 := D5.chg.cell hx1 hw
  go_region_held (fun w' => w'.cell? ⟨w.heap.size, 0, none⟩ = some (.pointer none) ∧ w'.cell? ⟨w.heap.size, 1, none⟩ = some (.pointer (some ⟨g, 0, none⟩))) (first | exact ⟨y0, y1⟩ | exact ⟨x0, x1⟩ | assumption) (first | (go_at_call 42; go_loud (refine (round_r _ g F tb (o + 2) t (p ++ (.string z3.1 :: .int .i64 z4.1 :: [])) (a3 :: o4 ++ (a5 :: a6 :: a7 :: q)) a2 z4.2 (D5.here.eq (by simp)) (by rw [HO.out]; simp [bv_length, vH_length])).mono ?_; rintro e w5 h5; have y0 := h5.chg.cell x0 hw; have y1 := h5.chg.cell x1 hw; rcases h5.cases with ⟨k, he, C, L', hL1, hL2⟩ | ⟨y, k, he, T5⟩; (subst he; obtain rfl : r = none := HR.out.symm.trans (by (simp only [Option.map_eq_none_iff] at k) <;> simp [dVote, k2, k3, k4, k]); exact ⟨rfl, rfl, (S0.chg.trans (D5.chg.trans C (fun _ h => .inl h)) (fun _ h => .inl h)), L', by (rw [hL1, ← HN.out]) <;> simp [bv_length, vH_length, l_o4], hL2⟩); subst he; obtain ⟨z5, k5, rfl⟩ := Option.map_eq_some_iff.1 k; clear k)) | fail)
  have S5 := D5.trans T5
  clear D5 T5 x0 x1 y0 y1
  clear h5
  go_wp2_with fail
  have D6 := S5.non ((Chg.refl Non w5).drew)
  have x0 := D6.chg.cell hx0 hw
  have x1 := D6.chg.cell hx1 hw
  go_region_held (fun w' => w'.cell? ⟨w.heap.size, 0, none⟩ = some (.pointer none) ∧ w'.cell? ⟨w.heap.size, 1, none⟩ = some (.pointer (some ⟨g, 0, none⟩))) (first | exact ⟨y0, y1⟩ | exact ⟨x0, x1⟩ | assumption) (first | (go_at_call 43; go_loud (refine (numberT_r _ g F tb (o + 3) t (p ++ (.string z3.1 :: .int .i64 z4.1 :: .int .i64 z5.1 :: [])) (o4 ++ (a5 :: a6 :: a7 :: q)) a3 z5.2 (D6.here.eq (by simp)) (by rw [HO.out]; simp [bv_length, vH_length]) 1 2).mono ?_; rintro e w6 h6; have y0 := h6.chg.cell x0 hw; have y1 := h6.chg.cell x1 hw; rcases h6.cases with ⟨k, he, C, L', hL1, hL2⟩ | ⟨y, k, he, T6⟩; (subst he; obtain rfl : r = none := HR.out.symm.trans (by (simp only [Option.map_eq_none_iff] at k) <;> simp [dVote, k2, k3, k4, k5, k]); exact ⟨rfl, rfl, (S0.chg.trans (D6.chg.trans C (fun _ h => .inl h)) (fun _ h => .inl h)), L', by (rw [hL1, ← HN.out]) <;> simp [bv_length, vH_length, l_o4], hL2⟩); subst he; obtain ⟨z6, k6, rfl⟩ := Option.map_eq_some_iff.1 k; clear k)) | fail)
  have S6 := D6.trans T6
  clear D6 T6 x0 x1 y0 y1
  clear h6
  go_wp2_with fail
  have D7 := S6.non ((Chg.refl Non w6).drew)
  have x0 := D7.chg.cell hx0 hw
  have x1 := D7.chg.cell hx1 hw
  go_region_held (fun w' => w'.cell? ⟨w.heap.size, 0, none⟩ = some (.pointer none) ∧ w'.cell? ⟨w.heap.size, 1, none⟩ = some (.pointer (some ⟨g, 0, none⟩))) (first | exact ⟨y0, y1⟩ | exact ⟨x0, x1⟩ | assumption) (first | (go_at_call 44; go_loud (refine (hash_r _ g F tb (o + 4) t (p ++ (.string z3.1 :: .int .i64 z4.1 :: .int .i64 z5.1 :: .int .i64 z6.1 :: [])) (a5 :: a6 :: a7 :: q) o4 z6.2 (D7.here.eq (by simp)) (by rw [HO.out]; simp [bv_length, vH_length]) l_o4).mono ?_; rintro e w7 h7; have y0 := h7.chg.cell x0 hw; have y1 := h7.chg.cell x1 hw; obtain ⟨rfl, T7⟩ := h7)) | fail)
  have S7 := D7.trans T7
  clear D7 T7 x0 x1 y0 y1
  go_wp2_with fail
  have D8 := S7.non ((Chg.refl Non w7).drew)
  have x0 := D8.chg.cell hx0 hw
  have x1 := D8.chg.cell hx1 hw
  go_region_held (fun w' => w'.cell? ⟨w.heap.size, 0, none⟩ = some (.pointer none) ∧ w'.cell? ⟨w.heap.size, 1, none⟩ = some (.pointer (some ⟨g, 0, none⟩))) (first | exact ⟨y0, y1⟩ | exact ⟨x0, x1⟩ | assumption) (first | (go_at_call 45; go_loud (refine (word_r _ g F tb (o + 36) t (p ++ (.string z3.1 :: .int .i64 z4.1 :: .int .i64 z5.1 :: .int .i64 z6.1 :: bv (vH z6.2) ++ ([]))) (a6 :: a7 :: q) a5 (nH z6.2) (D8.here.eq (by simp)) (by rw [HO.out]; simp [bv_length, vH_length])).mono ?_; rintro e w8 h8; have y0 := h8.chg.cell x0 hw; have y1 := h8.chg.cell x1 hw; obtain ⟨rfl, T8⟩ := h8)) | fail)
  have S8 := D8.trans T8
  clear D8 T8 x0 x1 y0 y1
  go_wp2_with fail
  have D9 := S8.non ((Chg.refl Non w8).drew)
  have x0 := D9.chg.cell hx0 hw
  have x1 := D9.chg.cell hx1 hw
  go_region_held (fun w' => w'.cell? ⟨w.heap.size, 0, none⟩ = some (.pointer none) ∧ w'.cell? ⟨w.heap.size, 1, none⟩ = some (.pointer (some ⟨g, 0, none⟩))) (first | exact ⟨y0, y1⟩ | exact ⟨x0, x1⟩ | assumption) (first | (go_at_call 46; go_loud (refine (signature_r _ g F tb (o + 37) t (p ++ (.string z3.1 :: .int .i64 z4.1 :: .int .i64 z5.1 :: .int .i64 z6.1 :: bv (vH z6.2) ++ (.int .u64 (vW (nH z6.2) : Int) :: []))) (q) a6 a7 (nW (nH z6.2)) (D9.here.eq (by simp)) (by rw [HO.out]; simp [bv_length, vH_length])).mono ?_; rintro e w9 h9; have y0 := h9.chg.cell x0 hw; have y1 := h9.chg.cell x1 hw; obtain ⟨rfl, T9⟩ := h9)) | fail)
  have S9 := D9.trans T9
  clear D9 T9 x0 x1 y0 y1
  obtain rfl : r = some (_, (nW (nW (nW (nH z6.2))))) := HR.out.symm.trans (by simp only [dVote, k2, k3, k4, k5, k6, Option.bind_some, Option.map_some]; rfl)
  go_wp2
  go_end0
  refine ⟨rfl, (S0.trans S9).eq ?_⟩
  simp [Vt.cells]

end Go.Proofs.Ytgonbmcfeehfaaa

/- Package forms: words for lists. -/
namespace Go.Proofs.Ytgonbmcfeehfaaa
open Go.RowKit
set_option linter.unusedVariables false
set_option linter.unusedSimpArgs false
set_option maxRecDepth 20000

/-- The first k, one behind the other. -/
def jn (bs : Nat → List UInt8) : Nat → List UInt8
  | 0 => []
  | k + 1 => jn bs k ++ bs k
/-- All of the first k are right. -/
def allB (ok : Nat → Bool) : Nat → Bool
  | 0 => true
  | k + 1 => allB ok k && ok k
theorem allB_no {ok : Nat → Bool} {n k : Nat} (h : k < n) (hk : ok k = false) : allB ok n = false := by
  induction n with
  | zero => omega
  | succ n ih =>
    unfold allB
    by_cases e : k = n
    · subst e; rw [hk, Bool.and_false]
    · rw [ih (by omega), Bool.false_and]
theorem allB_yes {ok : Nat → Bool} {n k : Nat} (h : allB ok n = true) (hk : k < n) : ok k = true := by
  cases e : ok k with
  | true => rfl
  | false => rw [allB_no hk e] at h; cases h
theorem jn_len {bs : Nat → List UInt8} {ok : Nat → Bool} {m : Nat} (hb : ∀ i, ok i = true → (bs i).length ≤ m) : ∀ k, allB ok k = true → (jn bs k).length ≤ k * m
  | 0, _ => by simp [jn]
  | k + 1, h => by
    unfold allB at h
    rw [Bool.and_eq_true] at h
    have h1 := jn_len hb k h.1
    have h2 := hb k h.2
    unfold jn
    rw [List.length_append, Nat.succ_mul]
    omega
end Go.Proofs.Ytgonbmcfeehfaaa

/- Things of package forms that hold lists: their bytes, when they are right, and what bytes are. Plain mathematics. -/
namespace Go.Proofs.Ytgonbmcfeehfaaa
open Go.RowKit
set_option linter.unusedVariables false
set_option linter.unusedSimpArgs false
set_option maxRecDepth 20000

theorem i64_in {lo hi n : Int} (h : inR lo hi n = true) (h1 : -9223372036854775808 ≤ lo) (h2 : hi ≤ 9223372036854775807) : I64 n := ⟨by have := (inR_iff.1 h).1; omega, by have := (inR_iff.1 h).2; omega⟩

/-! ### Lists -/
/-- The first k things, read one behind the other. -/
def dK {α : Type} (d : St → Option (α × St)) (st : St) : Nat → Option (List α × St)
  | 0 => some ([], st)
  | k + 1 => (dK d st k).bind fun x => (d x.2).bind fun y => some (x.1 ++ [y.1], y.2)
def dList {α : Type} (d : St → Option (α × St)) (most : Int) (st : St) : Option (List α × St) := (dNum 0 most st).bind fun n => dK d n.2 n.1.toNat
theorem dK_len {α : Type} {d : St → Option (α × St)} {st : St} : ∀ {k : Nat} {l : List α} {s : St}, dK d st k = some (l, s) → l.length = k
  | 0, l, s, h => by
    simp only [dK, Option.some.injEq, Prod.mk.injEq] at h
    rw [← h.1]; rfl
  | k + 1, l, s, h => by
    simp only [dK, Option.bind_eq_some_iff, Option.some.injEq, Prod.mk.injEq, Prod.exists] at h
    obtain ⟨a, s1, h1, b, s2, h2, rfl, rfl⟩ := h
    rw [List.length_append, dK_len h1]; rfl
theorem dK_inv {α : Type} {d : St → Option (α × St)} {enc : α → List UInt8} {P : α → Prop} (hd : ∀ st x r, d st = some (x, some r) → st = some (enc x ++ r) ∧ P x) {st : St} : ∀ {k : Nat} {l : List α} {r : List UInt8}, dK d st k = some (l, some r) → st = some (l.flatMap enc ++ r) ∧ ∀ x ∈ l, P x
  | 0, l, r, h => by
    simp only [dK, Option.some.injEq, Prod.mk.injEq] at h
    obtain ⟨rfl, rfl⟩ := h
    simp
  | k + 1, l, r, h => by
    simp only [dK, Option.bind_eq_some_iff, Option.some.injEq, Prod.mk.injEq, Prod.exists] at h
    obtain ⟨a, s1, h1, b, s2, h2, rfl, rfl⟩ := h
    obtain ⟨e2, o2⟩ := hd _ _ _ h2
    rw [e2] at h1
    obtain ⟨e1, o1⟩ := dK_inv hd h1
    refine ⟨by rw [e1]; simp, fun x hx => ?_⟩
    rw [List.mem_append, List.mem_singleton] at hx
    rcases hx with hx | rfl
    · exact o1 x hx
    · exact o2
theorem dK_app {α : Type} {d : St → Option (α × St)} {enc : α → List UInt8} {P : α → Prop} (hd : ∀ x r, P x → d (some (enc x ++ r)) = some (x, some r)) : ∀ (n : Nat) (l : List α), l.length = n → (∀ x ∈ l, P x) → ∀ r, dK d (some (l.flatMap enc ++ r)) l.length = some (l, some r) := by
  intro n
  induction n with
  | zero =>
    intro l hl _ r
    obtain rfl := List.eq_nil_of_length_eq_zero hl
    rfl
  | succ n ih =>
    intro l hl hp r
    have hne : l ≠ [] := by rintro rfl; simp at hl
    rw [← List.dropLast_concat_getLast hne] at hl hp ⊢
    generalize l.dropLast = a at *
    generalize l.getLast hne = b at *
    rw [List.length_append, List.length_singleton] at hl ⊢
    unfold dK
    have h1 := ih a (by omega) (fun x hx => hp x (by simp [hx])) (enc b ++ r)
    have e : (a ++ [b]).flatMap enc ++ r = a.flatMap enc ++ (enc b ++ r) := by simp
    rw [e, h1, Option.bind_some]
    simp only
    rw [hd b r (hp b (by simp)), Option.bind_some]

/-- A list's bytes. -/
def encL {α : Type} (enc : α → List UInt8) (l : List α) : List UInt8 := num l.length ++ l.flatMap enc
theorem dList_inv {α : Type} {d : St → Option (α × St)} {enc : α → List UInt8} {P : α → Prop} (hd : ∀ st x r, d st = some (x, some r) → st = some (enc x ++ r) ∧ P x) {most : Int} {st : St} {l : List α} {r : List UInt8} (h : dList d most st = some (l, some r)) : st = some (encL enc l ++ r) ∧ (∀ x ∈ l, P x) ∧ inR 0 most l.length = true := by
  unfold dList at h
  simp only [Option.bind_eq_some_iff, Prod.exists] at h
  obtain ⟨n, s1, h1, h2⟩ := h
  obtain ⟨e2, o2⟩ := dK_inv hd h2
  have hl := dK_len h2
  rw [e2] at h1
  obtain ⟨e1, o1⟩ := dNum_inv h1
  have hn : ((l.length : Nat) : Int) = n := by have := (inR_iff.1 o1).1; omega
  refine ⟨?_, o2, by rw [hn]; exact o1⟩
  rw [e1]
  unfold encL
  rw [hn, List.append_assoc]
theorem dList_app {α : Type} {d : St → Option (α × St)} {enc : α → List UInt8} {P : α → Prop} (hd : ∀ x r, P x → d (some (enc x ++ r)) = some (x, some r)) {most : Int} {l : List α} (hl : inR 0 most l.length = true) (h64 : (l.length : Int) ≤ 9223372036854775807) (hp : ∀ x ∈ l, P x) (r : List UInt8) : dList d most (some (encL enc l ++ r)) = some (l, some r) := by
  unfold dList encL
  rw [List.append_assoc, dNum_app (by omega) h64 hl, Option.bind_some]
  simp only [Int.toNat_natCast]
  exact dK_app hd l.length l rfl hp r

/-- An element's right and bytes, by place. -/
def okAt {α : Type} (p : α → Bool) (l : List α) (i : Nat) : Bool := ((l[i]?).map p).getD true
def bsAt {α : Type} (f : α → List UInt8) (l : List α) (i : Nat) : List UInt8 := ((l[i]?).map f).getD []
theorem jn_list {α : Type} (f : α → List UInt8) (l : List α) : ∀ k, k ≤ l.length → jn (bsAt f l) k = (l.take k).flatMap f
  | 0, _ => by simp [jn]
  | k + 1, h => by
    unfold jn
    rw [jn_list f l k (by omega), List.take_succ_eq_append_getElem (by omega), List.flatMap_append]
    simp [bsAt, List.getElem?_eq_getElem (show k < l.length by omega)]
theorem allB_list {α : Type} (p : α → Bool) (l : List α) : ∀ k, k ≤ l.length → allB (okAt p l) k = (l.take k).all p
  | 0, _ => by simp [allB]
  | k + 1, h => by
    unfold allB
    rw [allB_list p l k (by omega), List.take_succ_eq_append_getElem (by omega), List.all_append]
    simp [okAt, List.getElem?_eq_getElem (show k < l.length by omega)]
theorem jn_all {α : Type} (f : α → List UInt8) (l : List α) : jn (bsAt f l) l.length = l.flatMap f := by rw [jn_list f l _ (Nat.le_refl _), List.take_length]
theorem allB_all {α : Type} (p : α → Bool) (l : List α) : allB (okAt p l) l.length = l.all p := by rw [allB_list p l _ (Nat.le_refl _), List.take_length]

/-! ### Validators -/
structure Va where
  key : Nat
  power : Int
  deriving DecidableEq
structure Va.Ok (x : Va) : Prop where
  key : x.key < 18446744073709551616
  power : I64 x.power
def Va.cells (x : Va) : List Value := [.int .u64 (x.key : Int), .int .i64 x.power]
def Va.right (x : Va) : Bool := inR (-9223372036854775808) 9223372036854775807 x.power
theorem Va.right_ok {x : Va} (ox : x.Ok) : x.right = true := inR_iff.2 ⟨ox.power.l, ox.power.h⟩
def Va.enc (x : Va) : List UInt8 := be 8 x.key ++ num x.power
def dVa (st : St) : Option (Va × St) := (dNum (-9223372036854775808) 9223372036854775807 (nW st)).bind fun p => some (⟨vW st, p.1⟩, p.2)
theorem dVa_inv (st : St) (x : Va) (r : List UInt8) (h : dVa st = some (x, some r)) : st = some (x.enc ++ r) ∧ x.Ok := by
  have hw := vW_lt st
  unfold dVa at h
  simp only [Option.bind_eq_some_iff, Option.some.injEq, Prod.mk.injEq, Prod.exists] at h
  obtain ⟨p, s1, h1, rfl, rfl⟩ := h
  obtain ⟨e1, o1⟩ := dNum_inv h1
  have e2 := nW_inv e1
  refine ⟨?_, hw, (inR_iff.1 o1).1, (inR_iff.1 o1).2⟩
  rw [e2]
  simp [Va.enc]
  rw [← e2]
theorem dVa_app (x : Va) (r : List UInt8) (ox : x.Ok) : dVa (some (x.enc ++ r)) = some (x, some r) := by
  unfold dVa Va.enc
  rw [List.append_assoc, (vW_app x.key ox.key _).1, (vW_app x.key ox.key _).2, dNum_app ox.power.l ox.power.h (Va.right_ok ox), Option.bind_some]
/-- A set's bytes; is it right? -/
def setEnc (l : List Va) : List UInt8 := num 3 ++ encL Va.enc l
def setRight (l : List Va) : Bool := inR 0 64 l.length
def dSet (st : St) : Option (List Va × St) := (dBegin 3 st).bind fun s => dList dVa 64 s
theorem dSet_inv {st : St} {l : List Va} {r : List UInt8} (h : dSet st = some (l, some r)) : st = some (setEnc l ++ r) ∧ setRight l = true ∧ ∀ x ∈ l, x.Ok := by
  unfold dSet at h
  simp only [Option.bind_eq_some_iff] at h
  obtain ⟨s1, h1, h2⟩ := h
  obtain ⟨e2, o2, o3⟩ := dList_inv dVa_inv h2
  rw [e2] at h1
  have e1 := dBegin_inv h1
  exact ⟨by rw [e1]; simp [setEnc], o3, o2⟩
theorem dSet_app {l : List Va} (h : setRight l = true) (ol : ∀ x ∈ l, x.Ok) (r : List UInt8) : dSet (some (setEnc l ++ r)) = some (l, some r) := by
  unfold dSet setEnc
  have := (inR_iff.1 h).2
  rw [List.append_assoc, dBegin_app (by omega) (by omega), Option.bind_some]
  exact dList_app dVa_app h (by omega) ol r

/-! ### Commits -/
structure Se where
  key : Nat
  r : Nat
  s : Nat
  deriving DecidableEq
structure Se.Ok (x : Se) : Prop where
  key : x.key < 18446744073709551616
  r : x.r < 18446744073709551616
  s : x.s < 18446744073709551616
def Se.cells (x : Se) : List Value := [.int .u64 (x.key : Int), .int .u64 (x.r : Int), .int .u64 (x.s : Int)]
def Se.right (_ : Se) : Bool := true
def Se.enc (x : Se) : List UInt8 := be 8 x.key ++ (be 8 x.r ++ be 8 x.s)
def dSe (st : St) : Option (Se × St) := some (⟨vW st, vW (nW st), vW (nW (nW st))⟩, nW (nW (nW st)))
theorem dSe_inv (st : St) (x : Se) (r : List UInt8) (h : dSe st = some (x, some r)) : st = some (x.enc ++ r) ∧ x.Ok := by
  unfold dSe at h
  simp only [Option.some.injEq, Prod.mk.injEq] at h
  obtain ⟨rfl, h1⟩ := h
  have e1 := nW_inv h1
  have e2 := nW_inv e1
  have e3 := nW_inv e2
  refine ⟨?_, vW_lt _, vW_lt _, vW_lt _⟩
  conv => lhs; rw [e3]
  simp only [Se.enc, List.append_assoc]
theorem dSe_app (x : Se) (r : List UInt8) (ox : x.Ok) : dSe (some (x.enc ++ r)) = some (x, some r) := by
  unfold dSe Se.enc
  simp only [List.append_assoc]
  rw [(vW_app x.key ox.key _).1, (vW_app x.key ox.key _).2, (vW_app x.r ox.r _).1, (vW_app x.r ox.r _).2, (vW_app x.s ox.s _).1, (vW_app x.s ox.s _).2]
structure Cm where
  height : Int
  round : Int
  block : List UInt8
  seals : List Se
  deriving DecidableEq
structure Cm.Ok (x : Cm) : Prop where
  height : I64 x.height
  round : I64 x.round
  block : x.block.length = 32
  seals : ∀ y ∈ x.seals, y.Ok
def Cm.cells (x : Cm) (s : Value) : List Value := [.int .i64 x.height, .int .i64 x.round] ++ (bv x.block ++ [s])
def Cm.right (x : Cm) : Bool := inR 1 1099511627776 x.height && (inR 0 1048576 x.round && inR 0 64 x.seals.length)
def Cm.enc (x : Cm) : List UInt8 := num 4 ++ (num x.height ++ (num x.round ++ (x.block ++ encL Se.enc x.seals)))
def dCommit (st : St) : Option (Cm × St) :=
  (dBegin 4 st).bind fun s1 => (dNum 1 1099511627776 s1).bind fun h => (dNum 0 1048576 h.2).bind fun r => (dList dSe 64 (nH r.2)).bind fun l => some (⟨h.1, r.1, vH r.2, l.1⟩, l.2)
theorem dCommit_inv {st : St} {x : Cm} {r : List UInt8} (h : dCommit st = some (x, some r)) : st = some (x.enc ++ r) ∧ x.right = true ∧ x.Ok := by
  unfold dCommit at h
  simp only [Option.bind_eq_some_iff, Option.some.injEq, Prod.mk.injEq, Prod.exists] at h
  obtain ⟨s1, h1, ht, s2, h2, rd, s3, h3, l, s4, h4, rfl, rfl⟩ := h
  obtain ⟨e4, o4, o5⟩ := dList_inv dSe_inv h4
  have e3 := nH_inv e4
  have hb := vH_length s3
  generalize hbb : vH s3 = bb at *
  rw [e3] at h3
  obtain ⟨e2, o2⟩ := dNum_inv h3
  rw [e2] at h2
  obtain ⟨e1, o1⟩ := dNum_inv h2
  rw [e1] at h1
  have e0 := dBegin_inv h1
  refine ⟨?_, by simp [Cm.right, o1, o2, o5], i64_in o1 (by omega) (by omega), i64_in o2 (by omega) (by omega), hb, o4⟩
  rw [e0]
  simp only [Cm.enc, List.append_assoc]
theorem dCommit_app {x : Cm} (ox : x.Ok) (h : x.right = true) (r : List UInt8) : dCommit (some (x.enc ++ r)) = some (x, some r) := by
  unfold Cm.right at h
  simp only [Bool.and_eq_true] at h
  obtain ⟨o1, o2, o3⟩ := h
  unfold dCommit Cm.enc
  have h64 := (inR_iff.1 o3).2
  simp only [List.append_assoc]
  rw [dBegin_app (by omega) (by omega), Option.bind_some, dNum_app ox.height.l ox.height.h o1, Option.bind_some]
  simp only
  rw [dNum_app ox.round.l ox.round.h o2, Option.bind_some]
  simp only
  rw [(vH_app x.block ox.block _).1, (vH_app x.block ox.block _).2, dList_app dSe_app o3 (by omega) ox.seals, Option.bind_some]

/-! ### Light blocks -/
structure Lt where
  header : Hd
  commit : Cm
  set : List Va
  next : List Va
structure Lt.Ok (x : Lt) : Prop where
  header : x.header.Ok
  commit : x.commit.Ok
  set : ∀ y ∈ x.set, y.Ok
  next : ∀ y ∈ x.next, y.Ok
def Lt.cells (x : Lt) (a b c : Value) : List Value := x.header.cells ++ (x.commit.cells a ++ [b, c])
def Lt.right (x : Lt) : Bool := x.header.right && (x.commit.right && (setRight x.set && setRight x.next))
def Lt.enc (x : Lt) : List UInt8 := num 5 ++ (x.header.enc ++ (x.commit.enc ++ (setEnc x.set ++ setEnc x.next)))
def dLight (st : St) : Option (Lt × St) :=
  (dBegin 5 st).bind fun s1 => (dHeader s1).bind fun h => (dCommit h.2).bind fun c => (dSet c.2).bind fun s => (dSet s.2).bind fun n => some (⟨h.1, c.1, s.1, n.1⟩, n.2)
theorem dLight_app {x : Lt} (ox : x.Ok) (h : x.right = true) (r : List UInt8) : dLight (some (x.enc ++ r)) = some (x, some r) := by
  unfold Lt.right at h
  simp only [Bool.and_eq_true] at h
  obtain ⟨o1, o2, o3, o4⟩ := h
  unfold dLight Lt.enc
  simp only [List.append_assoc]
  rw [dBegin_app (by omega) (by omega), Option.bind_some, dHeader_app ox.header o1, Option.bind_some]
  simp only
  rw [dCommit_app ox.commit o2, Option.bind_some]
  simp only
  rw [dSet_app o3 ox.set, Option.bind_some]
  simp only
  rw [dSet_app o4 ox.next, Option.bind_some]
end Go.Proofs.Ytgonbmcfeehfaaa

/- Package forms: words for lists, read. -/
namespace Go.Proofs.Ytgonbmcfeehfaaa
open Go.RowKit
set_option linter.unusedVariables false
set_option linter.unusedSimpArgs false
set_option maxRecDepth 20000

/-- What the reading of a list leaves: a slice of new memory, in which its elements lie; or the panic. -/
def RLO {α : Type} (w : World) (g : Nat) (F : Nat → Prop) (tb : Nat) (t : TypeId) (n : Nat) (p q : List Value) (et : TypeId) (cells : α → List Value) (r : Option (List α × St)) (e : Ending) (w' : World) : Prop :=
  match r with
  | some x => e = .returned (.tuple #[]) ∧ ∃ nb, w.heap.size ≤ nb ∧ Rst w g F tb t (p ++ .slice (some ⟨nb, 0, none⟩) x.1.length x.1.length :: q) x.2 w' ∧ Hb w' nb et (x.1.flatMap cells).toArray
  | none => e = .panicked bad ∧ Chg (Two g tb) w w' ∧ ∃ L' : List Value, L'.length = n ∧ Hb w' tb t L'.toArray
theorem dK_none {α : Type} {d : St → Option (α × St)} {st : St} {k n : Nat} (h : k ≤ n) (hk : dK d st k = none) : dK d st n = none := by
  induction n with
  | zero =>
    obtain rfl : k = 0 := by omega
    exact hk
  | succ n ih =>
    by_cases e : k = n + 1
    · subst e; exact hk
    · unfold dK
      rw [ih (by omega)]
      rfl
theorem dK_flat {α : Type} {d : St → Option (α × St)} {cells : α → List Value} {sz : Nat} (hc : ∀ st x s, d st = some (x, s) → (cells x).length = sz) {st : St} : ∀ {k : Nat} {l : List α} {s : St}, dK d st k = some (l, s) → (l.flatMap cells).length = k * sz
  | 0, l, s, h => by
    simp only [dK, Option.some.injEq, Prod.mk.injEq] at h
    rw [← h.1]; simp
  | k + 1, l, s, h => by
    simp only [dK, Option.bind_eq_some_iff, Option.some.injEq, Prod.mk.injEq, Prod.exists] at h
    obtain ⟨a, s1, h1, b, s2, h2, rfl, rfl⟩ := h
    rw [List.flatMap_append, List.length_append, dK_flat hc h1]
    simp [hc _ _ _ h2, Nat.succ_mul]
end Go.Proofs.Ytgonbmcfeehfaaa

/- Package forms: validators, and lists of them, read. -/
namespace Go.Proofs.Ytgonbmcfeehfaaa
open Go.RowKit
set_option linter.unusedVariables false
set_option linter.unusedSimpArgs false
set_option maxRecDepth 20000
theorem validator_r_old {old : List Value} (h : old.length = 2) : ∃ (a0 : Value) (a1 : Value), old = [a0] ++ [a1] ∧ True := by
  refine ⟨(old[0]'(by omega)), (old[1]'(by omega)), ?_, trivial⟩
  apply List.ext_getElem?
  intro j
  have hone : ∀ (i : Nat) (hi : i < old.length), [old[i]] = (old.drop i).take 1 := by
    intro i hi
    apply List.ext_getElem?
    intro k
    rw [List.getElem?_take, List.getElem?_drop]
    by_cases hk : k < 1
    · obtain rfl : k = 0 := by omega
      simp [List.getElem?_eq_getElem hi]
    · rw [if_neg hk, List.getElem?_eq_none (by simp; omega)]
  simp only [hone]
  have hj : ∀ (a b c : Nat), a + b = c → (old.drop a).take b ++ old.drop c = old.drop a := by
    intro a b c e
    subst e
    rw [← List.drop_drop, List.take_append_drop]
  have he : old.drop 2 = [] := List.drop_of_length_le (by omega)
  have hall : (old.drop 0).take 1 ++ ((old.drop 1).take 1 ++ old.drop 2) = old := by
    rw [hj 1 1 2 rfl, hj 0 1 1 rfl]
    rfl
  rw [he, List.append_nil] at hall
  conv => lhs; rw [← hall]
  try simp only [List.append_assoc]

end Go.Proofs.Ytgonbmcfeehfaaa

/- Package forms: seals, and lists of them; sets and commits, read. -/
namespace Go.Proofs.Ytgonbmcfeehfaaa
open Go.RowKit
set_option linter.unusedVariables false
set_option linter.unusedSimpArgs false
set_option maxRecDepth 20000
theorem seal_r_old {old : List Value} (h : old.length = 3) : ∃ (a0 : Value) (a1 : Value) (a2 : Value), old = [a0] ++ [a1] ++ [a2] ∧ True := by
  refine ⟨(old[0]'(by omega)), (old[1]'(by omega)), (old[2]'(by omega)), ?_, trivial⟩
  apply List.ext_getElem?
  intro j
  have hone : ∀ (i : Nat) (hi : i < old.length), [old[i]] = (old.drop i).take 1 := by
    intro i hi
    apply List.ext_getElem?
    intro k
    rw [List.getElem?_take, List.getElem?_drop]
    by_cases hk : k < 1
    · obtain rfl : k = 0 := by omega
      simp [List.getElem?_eq_getElem hi]
    · rw [if_neg hk, List.getElem?_eq_none (by simp; omega)]
  simp only [hone]
  have hj : ∀ (a b c : Nat), a + b = c → (old.drop a).take b ++ old.drop c = old.drop a := by
    intro a b c e
    subst e
    rw [← List.drop_drop, List.take_append_drop]
  have he : old.drop 3 = [] := List.drop_of_length_le (by omega)
  have hall : (old.drop 0).take 1 ++ ((old.drop 1).take 1 ++ ((old.drop 2).take 1 ++ old.drop 3)) = old := by
    rw [hj 2 1 3 rfl, hj 1 1 2 rfl, hj 0 1 1 rfl]
    rfl
  rw [he, List.append_nil] at hall
  conv => lhs; rw [← hall]
  try simp only [List.append_assoc]

end Go.Proofs.Ytgonbmcfeehfaaa

/- Package forms: sets and commits, read. -/
namespace Go.Proofs.Ytgonbmcfeehfaaa
open Go.RowKit
set_option linter.unusedVariables false
set_option linter.unusedSimpArgs false
set_option maxRecDepth 20000

theorem RLO.cases {α : Type} {w w' : World} {g : Nat} {F : Nat → Prop} {tb : Nat} {t : TypeId} {n : Nat} {p q : List Value} {et : TypeId} {cells : α → List Value} {r : Option (List α × St)} {e : Ending} (h : RLO w g F tb t n p q et cells r e w') : (r = none ∧ e = .panicked bad ∧ Chg (Two g tb) w w' ∧ ∃ L' : List Value, L'.length = n ∧ Hb w' tb t L'.toArray) ∨
    (∃ x, r = some x ∧ e = .returned (.tuple #[]) ∧ ∃ nb, w.heap.size ≤ nb ∧ Rst w g F tb t (p ++ .slice (some ⟨nb, 0, none⟩) x.1.length x.1.length :: q) x.2 w' ∧ Hb w' nb et (x.1.flatMap cells).toArray) := by
  cases r with
  | some x => exact .inr ⟨x, rfl, h.1, h.2⟩
  | none => exact .inl ⟨rfl, h.1, h.2⟩
theorem RLO.chg {α : Type} {w w' : World} {g : Nat} {F : Nat → Prop} {tb : Nat} {t : TypeId} {n : Nat} {p q : List Value} {et : TypeId} {cells : α → List Value} {r : Option (List α × St)} {e : Ending} (h : RLO w g F tb t n p q et cells r e w') : Chg (Two g tb) w w' := by
  cases r with
  | some x => obtain ⟨_, nb, _, h1, _⟩ := h; exact h1.chg
  | none => exact h.2.1
end Go.Proofs.Ytgonbmcfeehfaaa

/- Package forms: headers, read: contracts. -/
namespace Go.Proofs.Ytgonbmcfeehfaaa
open Go.RowKit
set_option linter.unusedVariables false
set_option linter.unusedSimpArgs false
set_option maxRecDepth 20000
theorem header_r_old {old : List Value} (h : old.length = 163) : ∃ (a0 : Value) (a1 : Value) (a2 : Value) (o3 : List Value) (o4 : List Value) (o5 : List Value) (o6 : List Value) (o7 : List Value), old = [a0] ++ [a1] ++ [a2] ++ o3 ++ o4 ++ o5 ++ o6 ++ o7 ∧ o3.length = 32 ∧ o4.length = 32 ∧ o5.length = 32 ∧ o6.length = 32 ∧ o7.length = 32 ∧ True := by
  refine ⟨(old[0]'(by omega)), (old[1]'(by omega)), (old[2]'(by omega)), ((old.drop 3).take 32), ((old.drop 35).take 32), ((old.drop 67).take 32), ((old.drop 99).take 32), ((old.drop 131).take 32), ?_, by simp; omega, by simp; omega, by simp; omega, by simp; omega, by simp; omega, trivial⟩
  apply List.ext_getElem?
  intro j
  have hone : ∀ (i : Nat) (hi : i < old.length), [old[i]] = (old.drop i).take 1 := by
    intro i hi
    apply List.ext_getElem?
    intro k
    rw [List.getElem?_take, List.getElem?_drop]
    by_cases hk : k < 1
    · obtain rfl : k = 0 := by omega
      simp [List.getElem?_eq_getElem hi]
    · rw [if_neg hk, List.getElem?_eq_none (by simp; omega)]
  simp only [hone]
  have hj : ∀ (a b c : Nat), a + b = c → (old.drop a).take b ++ old.drop c = old.drop a := by
    intro a b c e
    subst e
    rw [← List.drop_drop, List.take_append_drop]
  have he : old.drop 163 = [] := List.drop_of_length_le (by omega)
  have hall : (old.drop 0).take 1 ++ ((old.drop 1).take 1 ++ ((old.drop 2).take 1 ++ ((old.drop 3).take 32 ++ ((old.drop 35).take 32 ++ ((old.drop 67).take 32 ++ ((old.drop 99).take 32 ++ ((old.drop 131).take 32 ++ old.drop 163))))))) = old := by
    rw [hj 131 32 163 rfl, hj 99 32 131 rfl, hj 67 32 99 rfl, hj 35 32 67 rfl, hj 3 32 35 rfl, hj 2 1 3 rfl, hj 1 1 2 rfl, hj 0 1 1 rfl]
    rfl
  rw [he, List.append_nil] at hall
  conv => lhs; rw [← hall]
  try simp only [List.append_assoc]

set_option maxHeartbeats 1600000 in
theorem header_r (w : World) (g : Nat) (F : Nat → Prop) (tb o : Nat) (t : TypeId) (p q old : List Value) (st : St) (S : Rst w g F tb t (p ++ (old ++ q)) st w) (ho : o = p.length) (hold : old.length = 163) :
    Calls Try.prog 21 #[.agg #[.pointer none, .pointer (some ⟨g, 0, none⟩)], .pointer (some ⟨tb, o, none⟩)] w (RO w g F tb t (p ++ (old ++ q)).length ((dHeader st).map fun y => (p ++ (y.1.cells ++ q), y.2))) := by
  obtain ⟨a0, a1, a2, o3, o4, o5, o6, o7, rfl, l_o3, l_o4, l_o5, l_o6, l_o7, _⟩ := header_r_old hold
  generalize hn : (p ++ (_ ++ q)).length = n
  generalize hr : (dHeader st).map _ = r
  have HR := Lib.hid hr
  have HN := Lib.hid hn
  have HO := Lib.hid ho
  clear hr hn ho hold
  have S0 := S.non ((Chg.refl Non w).alloc (.cells #[.pointer none, .pointer (some ⟨g, 0, none⟩)] 86))
  have hw := S.nw (Nat.le_refl w.heap.size)
  have hx := Hb.new w 86 #[.pointer none, .pointer (some ⟨g, 0, none⟩)]
  have hx0 : (w.alloc (.cells #[.pointer none, .pointer (some ⟨g, 0, none⟩)] 86)).cell? ⟨w.heap.size, 0, none⟩ = some (.pointer none) := hx.cell 0
  have hx1 : (w.alloc (.cells #[.pointer none, .pointer (some ⟨g, 0, none⟩)] 86)).cell? ⟨w.heap.size, 1, none⟩ = some (.pointer (some ⟨g, 0, none⟩)) := hx.cell 1
  have S1 := S0.here
  obtain ⟨B, hB⟩ : ∃ B, B = w.alloc (.cells #[.pointer none, .pointer (some ⟨g, 0, none⟩)] 86) := ⟨_, rfl⟩
  clear hx S
  go_enter Try.func21, Try.ntmps21
  go_wp2_with fail
  rw [← hB] at S0 hx0 hx1 S1 ⊢
  clear hB
  have x0 := S1.chg.cell hx0 hw
  have x1 := S1.chg.cell hx1 hw
  go_wp2_with (first | (go_at_call 39; go_loud (refine (begin_r _ g F tb t _ st S1.here 2).mono ?_; rintro e w2 h2; rcases h2.cases with ⟨k, he, C, L', hL1, hL2⟩ | ⟨y, k, he, T2⟩; (subst he; obtain rfl : r = none := HR.out.symm.trans (by (simp only [Option.map_eq_none_iff] at k) <;> simp [dHeader, k]); exact ⟨rfl, rfl, (S0.chg.trans (S1.chg.trans C (fun _ h => .inl h)) (fun _ h => .inl h)), L', by (rw [hL1, ← HN.out]) <;> simp [bv_length, vH_length, l_o3, l_o4, l_o5, l_o6, l_o7], hL2⟩); subst he; obtain ⟨z2, k2, rfl⟩ := Option.map_eq_some_iff.1 k; clear k)) | fail)
  have S2 := S1.trans T2
  clear T2 x0 x1
  clear h2
  go_wp2_with fail
  have D3 := S2.non ((Chg.refl Non w2).drew)
  have x0 := D3.chg.cell hx0 hw
  have x1 := D3.chg.cell hx1 hw
  go_region_held (fun w' => w'.cell? ⟨w.heap.size, 0, none⟩ = some (.pointer none) ∧ w'.cell? ⟨w.heap.size, 1, none⟩ = some (.pointer (some ⟨g, 0, none⟩))) (first | exact ⟨y0, y1⟩ | exact ⟨x0, x1⟩ | assumption) (first | (go_at_call 40; go_loud (refine (name_r _ g F tb o t (p) (a1 :: a2 :: o3 ++ (o4 ++ (o5 ++ (o6 ++ (o7 ++ (q)))))) a0 z2 (D3.here.eq (by simp)) HO.out).mono ?_; rintro e w3 h3; have y0 := h3.chg.cell x0 hw; have y1 := h3.chg.cell x1 hw; rcases h3.cases with ⟨k, he, C, L', hL1, hL2⟩ | ⟨y, k, he, T3⟩; (subst he; obtain rfl : r = none := HR.out.symm.trans (by (simp only [Option.map_eq_none_iff] at k) <;> simp [dHeader, k2, k]); exact ⟨rfl, rfl, (S0.chg.trans (D3.chg.trans C (fun _ h => .inl h)) (fun _ h => .inl h)), L', by (rw [hL1, ← HN.out]) <;> simp [bv_length, vH_length, l_o3, l_o4, l_o5, l_o6, l_o7], hL2⟩); subst he; obtain ⟨z3, k3, rfl⟩ := Option.map_eq_some_iff.1 k; clear k)) | fail)
  have S3 := D3.trans T3
  clear D3 T3 x0 x1 y0 y1
  clear h3
  go_wp2_with fail
  have D4 := S3.non ((Chg.refl Non w3).drew)
  have x0 := D4.chg.cell hx0 hw
  have x1 := D4.chg.cell hx1 hw
  go_region_held (fun w' => w'.cell? ⟨w.heap.size, 0, none⟩ = some (.pointer none) ∧ w'.cell? ⟨w.heap.size, 1, none⟩ = some (.pointer (some ⟨g, 0, none⟩))) (first | exact ⟨y0, y1⟩ | exact ⟨x0, x1⟩ | assumption) (first | (go_at_call 41; go_loud (refine (height_r _ g F tb (o + 1) t (p ++ (.string z3.1 :: [])) (a2 :: o3 ++ (o4 ++ (o5 ++ (o6 ++ (o7 ++ (q)))))) a1 z3.2 (D4.here.eq (by simp)) (by rw [HO.out]; simp [bv_length, vH_length])).mono ?_; rintro e w4 h4; have y0 := h4.chg.cell x0 hw; have y1 := h4.chg.cell x1 hw; rcases h4.cases with ⟨k, he, C, L', hL1, hL2⟩ | ⟨y, k, he, T4⟩; (subst he; obtain rfl : r = none := HR.out.symm.trans (by (simp only [Option.map_eq_none_iff] at k) <;> simp [dHeader, k2, k3, k]); exact ⟨rfl, rfl, (S0.chg.trans (D4.chg.trans C (fun _ h => .inl h)) (fun _ h => .inl h)), L', by (rw [hL1, ← HN.out]) <;> simp [bv_length, vH_length, l_o3, l_o4, l_o5, l_o6, l_o7], hL2⟩); subst he; obtain ⟨z4, k4, rfl⟩ := Option.map_eq_some_iff.1 k; clear k)) | fail)
  have S4 := D4.trans T4
  clear D4 T4 x0 x1 y0 y1
  clear h4
  go_wp2_with fail
  have D5 := S4.non ((Chg.refl Non w4).drew)
  have x0 := D5.chg.cell hx0 hw
  have x1 := D5.chg.cell hx1 hw
  go_region_held (fun w' => w'.cell? ⟨w.heap.size, 0, none⟩ = some (.pointer none) ∧ w'.cell? ⟨w.heap.size, 1, none⟩ = some (.pointer (some ⟨g, 0, none⟩))) (first | exact ⟨y0, y1⟩ | exact ⟨x0, x1⟩ | assumption) (first | (go_at_call 56; go_loud (refine (number_r _ g F tb (o + 2) t (p ++ (.string z3.1 :: .int .i64 z4.1 :: [])) (o3 ++ (o4 ++ (o5 ++ (o6 ++ (o7 ++ (q)))))) a2 z4.2 (D5.here.eq (by simp)) (by rw [HO.out]; simp [bv_length, vH_length]) 0 1099511627776).mono ?_; rintro e w5 h5; have y0 := h5.chg.cell x0 hw; have y1 := h5.chg.cell x1 hw; rcases h5.cases with ⟨k, he, C, L', hL1, hL2⟩ | ⟨y, k, he, T5⟩; (subst he; obtain rfl : r = none := HR.out.symm.trans (by (simp only [Option.map_eq_none_iff] at k) <;> simp [dHeader, k2, k3, k4, k]); exact ⟨rfl, rfl, (S0.chg.trans (D5.chg.trans C (fun _ h => .inl h)) (fun _ h => .inl h)), L', by (rw [hL1, ← HN.out]) <;> simp [bv_length, vH_length, l_o3, l_o4, l_o5, l_o6, l_o7], hL2⟩); subst he; obtain ⟨z5, k5, rfl⟩ := Option.map_eq_some_iff.1 k; clear k)) | fail)
  have S5 := D5.trans T5
  clear D5 T5 x0 x1 y0 y1
  clear h5
  go_wp2_with fail
  have D6 := S5.non ((Chg.refl Non w5).drew)
  have x0 := D6.chg.cell hx0 hw
  have x1 := D6.chg.cell hx1 hw
  go_region_held (fun w' => w'.cell? ⟨w.heap.size, 0, none⟩ = some (.pointer none) ∧ w'.cell? ⟨w.heap.size, 1, none⟩ = some (.pointer (some ⟨g, 0, none⟩))) (first | exact ⟨y0, y1⟩ | exact ⟨x0, x1⟩ | assumption) (first | (go_at_call 44; go_loud (refine (hash_r _ g F tb (o + 3) t (p ++ (.string z3.1 :: .int .i64 z4.1 :: .int .i64 z5.1 :: [])) (o4 ++ (o5 ++ (o6 ++ (o7 ++ (q))))) o3 z5.2 (D6.here.eq (by simp)) (by rw [HO.out]; simp [bv_length, vH_length]) l_o3).mono ?_; rintro e w6 h6; have y0 := h6.chg.cell x0 hw; have y1 := h6.chg.cell x1 hw; obtain ⟨rfl, T6⟩ := h6)) | fail)
  have S6 := D6.trans T6
  clear D6 T6 x0 x1 y0 y1
  go_wp2_with fail
  have D7 := S6.non ((Chg.refl Non w6).drew)
  have x0 := D7.chg.cell hx0 hw
  have x1 := D7.chg.cell hx1 hw
  go_region_held (fun w' => w'.cell? ⟨w.heap.size, 0, none⟩ = some (.pointer none) ∧ w'.cell? ⟨w.heap.size, 1, none⟩ = some (.pointer (some ⟨g, 0, none⟩))) (first | exact ⟨y0, y1⟩ | exact ⟨x0, x1⟩ | assumption) (first | (go_at_call 44; go_loud (refine (hash_r _ g F tb (o + 35) t (p ++ (.string z3.1 :: .int .i64 z4.1 :: .int .i64 z5.1 :: bv (vH z5.2) ++ ([]))) (o5 ++ (o6 ++ (o7 ++ (q)))) o4 (nH z5.2) (D7.here.eq (by simp)) (by rw [HO.out]; simp [bv_length, vH_length]) l_o4).mono ?_; rintro e w7 h7; have y0 := h7.chg.cell x0 hw; have y1 := h7.chg.cell x1 hw; obtain ⟨rfl, T7⟩ := h7)) | fail)
  have S7 := D7.trans T7
  clear D7 T7 x0 x1 y0 y1
  go_wp2_with fail
  have D8 := S7.non ((Chg.refl Non w7).drew)
  have x0 := D8.chg.cell hx0 hw
  have x1 := D8.chg.cell hx1 hw
  go_region_held (fun w' => w'.cell? ⟨w.heap.size, 0, none⟩ = some (.pointer none) ∧ w'.cell? ⟨w.heap.size, 1, none⟩ = some (.pointer (some ⟨g, 0, none⟩))) (first | exact ⟨y0, y1⟩ | exact ⟨x0, x1⟩ | assumption) (first | (go_at_call 44; go_loud (refine (hash_r _ g F tb (o + 67) t (p ++ (.string z3.1 :: .int .i64 z4.1 :: .int .i64 z5.1 :: bv (vH z5.2) ++ (bv (vH (nH z5.2)) ++ ([])))) (o6 ++ (o7 ++ (q))) o5 (nH (nH z5.2)) (D8.here.eq (by simp)) (by rw [HO.out]; simp [bv_length, vH_length]) l_o5).mono ?_; rintro e w8 h8; have y0 := h8.chg.cell x0 hw; have y1 := h8.chg.cell x1 hw; obtain ⟨rfl, T8⟩ := h8)) | fail)
  have S8 := D8.trans T8
  clear D8 T8 x0 x1 y0 y1
  go_wp2_with fail
  have D9 := S8.non ((Chg.refl Non w8).drew)
  have x0 := D9.chg.cell hx0 hw
  have x1 := D9.chg.cell hx1 hw
  go_region_held (fun w' => w'.cell? ⟨w.heap.size, 0, none⟩ = some (.pointer none) ∧ w'.cell? ⟨w.heap.size, 1, none⟩ = some (.pointer (some ⟨g, 0, none⟩))) (first | exact ⟨y0, y1⟩ | exact ⟨x0, x1⟩ | assumption) (first | (go_at_call 44; go_loud (refine (hash_r _ g F tb (o + 99) t (p ++ (.string z3.1 :: .int .i64 z4.1 :: .int .i64 z5.1 :: bv (vH z5.2) ++ (bv (vH (nH z5.2)) ++ (bv (vH (nH (nH z5.2))) ++ ([]))))) (o7 ++ (q)) o6 (nH (nH (nH z5.2))) (D9.here.eq (by simp)) (by rw [HO.out]; simp [bv_length, vH_length]) l_o6).mono ?_; rintro e w9 h9; have y0 := h9.chg.cell x0 hw; have y1 := h9.chg.cell x1 hw; obtain ⟨rfl, T9⟩ := h9)) | fail)
  have S9 := D9.trans T9
  clear D9 T9 x0 x1 y0 y1
  go_wp2_with fail
  have D10 := S9.non ((Chg.refl Non w9).drew)
  have x0 := D10.chg.cell hx0 hw
  have x1 := D10.chg.cell hx1 hw
  go_region_held (fun w' => w'.cell? ⟨w.heap.size, 0, none⟩ = some (.pointer none) ∧ w'.cell? ⟨w.heap.size, 1, none⟩ = some (.pointer (some ⟨g, 0, none⟩))) (first | exact ⟨y0, y1⟩ | exact ⟨x0, x1⟩ | assumption) (first | (go_at_call 44; go_loud (refine (hash_r _ g F tb (o + 131) t (p ++ (.string z3.1 :: .int .i64 z4.1 :: .int .i64 z5.1 :: bv (vH z5.2) ++ (bv (vH (nH z5.2)) ++ (bv (vH (nH (nH z5.2))) ++ (bv (vH (nH (nH (nH z5.2)))) ++ ([])))))) (q) o7 (nH (nH (nH (nH z5.2)))) (D10.here.eq (by simp)) (by rw [HO.out]; simp [bv_length, vH_length]) l_o7).mono ?_; rintro e w10 h10; have y0 := h10.chg.cell x0 hw; have y1 := h10.chg.cell x1 hw; obtain ⟨rfl, T10⟩ := h10)) | fail)
  have S10 := D10.trans T10
  clear D10 T10 x0 x1 y0 y1
  obtain rfl : r = some (_, (nH (nH (nH (nH (nH z5.2)))))) := HR.out.symm.trans (by simp only [dHeader, k2, k3, k4, k5, Option.bind_some, Option.map_some]; rfl)
  go_wp2
  go_end0
  refine ⟨rfl, (S0.trans S10).eq ?_⟩
  simp [Hd.cells]

end Go.Proofs.Ytgonbmcfeehfaaa

/- Package forms: light blocks, read. -/
namespace Go.Proofs.Ytgonbmcfeehfaaa
open Go.RowKit
set_option linter.unusedVariables false
set_option linter.unusedSimpArgs false
set_option maxRecDepth 20000

/-- A slice of new memory. -/
abbrev sl (n k : Nat) : Value := .slice (some ⟨n, 0, none⟩) k k
theorem dHeader_len {st : St} {y : Hd × St} (h : dHeader st = some y) : y.1.cells.length = 163 := by
  unfold dHeader at h
  simp only [Option.bind_eq_some_iff, Option.some.injEq, Prod.exists] at h
  obtain ⟨s1, h1, c, s2, h2, ht, s3, h3, tm, s5, h5, rfl⟩ := h
  simp [Hd.cells, bv_length, vH_length]
theorem dCommit_len {st : St} {y : Cm × St} (h : dCommit st = some y) (a : Value) : (y.1.cells a).length = 35 := by
  unfold dCommit at h
  simp only [Option.bind_eq_some_iff, Option.some.injEq, Prod.exists] at h
  obtain ⟨s1, h1, ht, s2, h2, rd, s3, h3, l, s4, h4, rfl⟩ := h
  simp [Cm.cells, bv_length, vH_length]
end Go.Proofs.Ytgonbmcfeehfaaa

/- Parts and proofs of package forms: their bytes, when they are right. Plain mathematics. -/
namespace Go.Proofs.Ytgonbmcfeehfaaa
open Go.RowKit
set_option linter.unusedVariables false
set_option linter.unusedSimpArgs false
set_option maxRecDepth 20000

structure Pa where
  index : Int
  key : ByteArray
  value : ByteArray
  path : List (List UInt8)
structure Pa.Ok (x : Pa) : Prop where
  index : I64 x.index
  key : x.key.size ≤ maxLen
  value : x.value.size ≤ maxLen
  path : ∀ h ∈ x.path, h.length = 32
def Pa.right (x : Pa) : Bool := inR 0 4096 x.index && (decide (x.key.size ≤ 4096) && (decide (x.value.size ≤ 4096) && inR 0 16 x.path.length))
def Pa.enc (x : Pa) : List UInt8 := num x.index ++ (tx x.key.data.toList ++ (tx x.value.data.toList ++ encL id x.path))
/-- A part in memory: its path is a slice. -/
structure Pm where
  part : Pa
  A : Option Addr
  c : Nat
def Pm.cells (m : Pm) : List Value := [.int .i64 m.part.index, .string m.part.key, .string m.part.value, .slice m.A m.part.path.length m.c]
structure Pf where
  size : Int
  parts : List Pa
def Pf.right (x : Pf) : Bool := inR 0 4096 x.size && (inR 0 2 x.parts.length && x.parts.all Pa.right)
def Pf.enc (x : Pf) : List UInt8 := num 7 ++ (num x.size ++ encL Pa.enc x.parts)
theorem path_len {l : List (List UInt8)} (h : ∀ x ∈ l, x.length = 32) : (l.flatMap id).length = l.length * 32 := by
  induction l with
  | nil => rfl
  | cons x l ih =>
    rw [List.flatMap_cons, List.length_append, ih (fun y hy => h y (by simp [hy])), List.length_cons]
    have := h x (by simp)
    simp only [id]
    omega
theorem Pa.enc_len {x : Pa} (h : x.right = true) (ox : x.Ok) : x.enc.length ≤ 20000 := by
  unfold Pa.right at h
  simp only [Bool.and_eq_true, decide_eq_true_eq] at h
  obtain ⟨_, h1, h2, h3⟩ := h
  have h4 := (inR_iff.1 h3).2
  have hp := path_len ox.path
  unfold Pa.enc encL
  simp only [List.length_append, num_length, tx_length, hp]
  have e1 : x.key.data.size = x.key.size := rfl
  have e2 : x.value.data.size = x.value.size := rfl
  simp only [Array.length_toList]
  omega
end Go.Proofs.Ytgonbmcfeehfaaa
