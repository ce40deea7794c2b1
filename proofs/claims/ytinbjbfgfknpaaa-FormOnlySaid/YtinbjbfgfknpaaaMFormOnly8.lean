import Derived.Test.YtinbjbfgfknpaaaChecked
import Derived.WalkKit
import Derived.WalkLawsBesides
import Derived.Lib.Hide
import Derived.Deep.RegionHeld3
import Derived.Test.YtinbjbfgfknpaaaMFormOnly5
import Derived.Test.YtinbjbfgfknpaaaMFormOnly6
import Derived.Test.YtinbjbfgfknpaaaMFormOnly7
/- Package forms: sets and commits, read. -/
namespace Go.Proofs.Ytinbjbfgfknpaaa
open Go.RowKit
set_option linter.unusedVariables false
set_option linter.unusedSimpArgs false
set_option maxRecDepth 20000

theorem RLO.cases {α : Type} {w w' : World} {g : Nat} {F : Nat → Prop} {tb : Nat} {t : TypeId} {n : Nat} {p q : List Value} {et : TypeId} {cells : α → List Value} {r : Option (List α × St)} {e : Ending} (h : RLO w g F tb t n p q et cells r e w') : (r = none ∧ e = .panicked bad ∧ Chg (Two g tb) w w' ∧ ∃ L' : List Value, L'.length = n ∧ Hb w' tb t L'.toArray) ∨
    (∃ x, r = some x ∧ e = .returned (.tuple #[]) ∧ ∃ nb, w.heap.size ≤ nb ∧ Rst w g F tb t (p ++ .slice (some ⟨nb, 0, none⟩) x.1.length x.1.length :: q) x.2 w' ∧ Hb w' nb et (x.1.flatMap cells).toArray) := by
  cases r with
  | some x => exact .inr ⟨x, rfl, h.1, h.2⟩
  | none => exact .inl ⟨rfl, h.1, h.2⟩
theorem RLO.chg {α : Type} {w w' : World} {g : Nat} {F : Nat → Prop} {tb : Nat} {t : TypeId} {n : Nat} {p q : List Value} {et : TypeId} {cells : α → List Value} {r : Option (List α × St)} {e : Ending} (h : RLO w g F tb t n p q et cells r e w') : Chg (Two g tb) w w' := by
  cases r with
  | some x => obtain ⟨_, nb, _, h1, _⟩ := h; exact h1.chg
  | none => exact h.2.1
/-- What the reading of a commit leaves. -/
def RCO (w : World) (g : Nat) (F : Nat → Prop) (tb : Nat) (t : TypeId) (n : Nat) (p q : List Value) (r : Option (Cm × St)) (e : Ending) (w' : World) : Prop :=
  match r with
  | some x => e = .returned (.tuple #[]) ∧ ∃ nb, w.heap.size ≤ nb ∧ Rst w g F tb t (p ++ (x.1.cells (.slice (some ⟨nb, 0, none⟩) x.1.seals.length x.1.seals.length) ++ q)) x.2 w' ∧ Hb w' nb 132 (x.1.seals.flatMap Se.cells).toArray
  | none => e = .panicked bad ∧ Chg (Two g tb) w w' ∧ ∃ L' : List Value, L'.length = n ∧ Hb w' tb t L'.toArray
theorem RCO.cases {w w' : World} {g : Nat} {F : Nat → Prop} {tb : Nat} {t : TypeId} {n : Nat} {p q : List Value} {r : Option (Cm × St)} {e : Ending} (h : RCO w g F tb t n p q r e w') : (r = none ∧ e = .panicked bad ∧ Chg (Two g tb) w w' ∧ ∃ L' : List Value, L'.length = n ∧ Hb w' tb t L'.toArray) ∨
    (∃ x, r = some x ∧ e = .returned (.tuple #[]) ∧ ∃ nb, w.heap.size ≤ nb ∧ Rst w g F tb t (p ++ (x.1.cells (.slice (some ⟨nb, 0, none⟩) x.1.seals.length x.1.seals.length) ++ q)) x.2 w' ∧ Hb w' nb 132 (x.1.seals.flatMap Se.cells).toArray) := by
  cases r with
  | some x => exact .inr ⟨x, rfl, h.1, h.2⟩
  | none => exact .inl ⟨rfl, h.1, h.2⟩
theorem RCO.chg {w w' : World} {g : Nat} {F : Nat → Prop} {tb : Nat} {t : TypeId} {n : Nat} {p q : List Value} {r : Option (Cm × St)} {e : Ending} (h : RCO w g F tb t n p q r e w') : Chg (Two g tb) w w' := by
  cases r with
  | some x => obtain ⟨_, nb, _, h1, _⟩ := h; exact h1.chg
  | none => exact h.2.1

theorem listValidatorI_r (w : World) (g : Nat) (F : Nat → Prop) (tb o : Nat) (t : TypeId) (p q : List Value) (st : St) (S : Rst w g F tb t (p ++ .slice none 0 0 :: q) st w) (ho : o = p.length) :
    Calls Try.prog 69 #[.agg #[.pointer none, .pointer (some ⟨g, 0, none⟩)], .pointer (some ⟨tb, o, none⟩), .int .i64 64, .func (.func 70) #[] #[]] w (RLO w g F tb t (p ++ .slice none 0 0 :: q).length p q 137 Va.cells (dList dVa 64 st)) :=
  listValidator_r w g F tb o t p q none 0 0 st S ho (by unfold maxLen; omega) 64 (by omega)

theorem listSealI_r (w : World) (g : Nat) (F : Nat → Prop) (tb o : Nat) (t : TypeId) (p q : List Value) (st : St) (S : Rst w g F tb t (p ++ .slice none 0 0 :: q) st w) (ho : o = p.length) :
    Calls Try.prog 67 #[.agg #[.pointer none, .pointer (some ⟨g, 0, none⟩)], .pointer (some ⟨tb, o, none⟩), .int .i64 64, .func (.func 68) #[] #[]] w (RLO w g F tb t (p ++ .slice none 0 0 :: q).length p q 132 Se.cells (dList dSe 64 st)) :=
  listSeal_r w g F tb o t p q none 0 0 st S ho (by unfold maxLen; omega) 64 (by omega)
set_option maxHeartbeats 1600000 in
theorem set_r (w : World) (g : Nat) (F : Nat → Prop) (tb o : Nat) (t : TypeId) (p q : List Value)  (st : St) (S : Rst w g F tb t (p ++ (.slice none 0 0 :: q)) st w) (ho : o = p.length) :
    Calls Try.prog 51 #[.agg #[.pointer none, .pointer (some ⟨g, 0, none⟩)], .pointer (some ⟨tb, o, none⟩)] w (RLO w g F tb t (p ++ .slice none 0 0 :: q).length p q 137 Va.cells (dSet st)) := by
  generalize hn : (p ++ (.slice none 0 0 :: q)).length = n
  generalize hr : dSet st = r
  have HR := Lib.hid hr
  have HN := Lib.hid hn
  have HO := Lib.hid ho
  clear hr hn ho
  have S0 := S.non ((Chg.refl Non w).alloc (.cells #[.pointer none, .pointer (some ⟨g, 0, none⟩)] 88))
  have hw := S.nw (Nat.le_refl w.heap.size)
  have hx := Hb.new w 88 #[.pointer none, .pointer (some ⟨g, 0, none⟩)]
  have hgl := S.rdr.lt
  have htl := S.row.lt
  have hx0 : (w.alloc (.cells #[.pointer none, .pointer (some ⟨g, 0, none⟩)] 88)).cell? ⟨w.heap.size, 0, none⟩ = some (.pointer none) := hx.cell 0
  have hx1 : (w.alloc (.cells #[.pointer none, .pointer (some ⟨g, 0, none⟩)] 88)).cell? ⟨w.heap.size, 1, none⟩ = some (.pointer (some ⟨g, 0, none⟩)) := hx.cell 1
  have hBs : (w.alloc (.cells #[.pointer none, .pointer (some ⟨g, 0, none⟩)] 88)).heap.size = w.heap.size + 1 := by simp
  have S1 := S0.here
  clear hx S
  go_enter Try.func51, Try.ntmps51
  go_wp2_with fail
  generalize w.alloc (.cells #[.pointer none, .pointer (some ⟨g, 0, none⟩)] 88) = B at *
  have x0 := S1.chg.cell hx0 hw
  have x1 := S1.chg.cell hx1 hw
  refine (begin_r _ g F tb t _ st S1.here 3).mono ?_
  rintro e w2 h2
  rcases h2.cases with ⟨k, he, C, L', hL1, hL2⟩ | ⟨y, k, he, T2⟩
  · subst he; obtain rfl : r = none := HR.out.symm.trans (by (try simp only [Option.map_eq_none_iff] at k); simp [dSet, k]); go_wp2; exact ⟨rfl, rfl, (S0.chg.trans (S1.chg.trans C (fun _ h => .inl h)) (fun _ h => .inl h)), L', by (rw [hL1, ← HN.out]) <;> simp [bv_length, vH_length, hlens] <;> omega, hL2⟩
  subst he
  obtain ⟨z2, k2, rfl⟩ := Option.map_eq_some_iff.1 k
  clear k
  have S2 := S1.trans T2
  clear x0 x1 T2 h2
  have x0 := S2.chg.cell hx0 hw
  have x1 := S2.chg.cell hx1 hw
  go_wp2_with fail
  refine (listValidatorI_r _ g F tb o t p q z2 S2.here HO.out).mono ?_
  rintro e w3 h3
  rcases h3.cases with ⟨k, he, C, L', hL1, hL2⟩ | ⟨z3, k3, he, nb3, N3, T3, B3⟩
  · subst he; obtain rfl : r = none := HR.out.symm.trans (by (try simp only [Option.map_eq_none_iff] at k); simp [dSet, k2, k]); go_wp2; exact ⟨rfl, rfl, (S0.chg.trans (S2.chg.trans C (fun _ h => .inl h)) (fun _ h => .inl h)), L', by (rw [hL1, ← HN.out]) <;> simp [bv_length, vH_length, hlens] <;> omega, hL2⟩
  subst he
  have S3 := S2.trans T3
  have N3 : w.heap.size < nb3 := by have := S2.chg.size; omega
  clear x0 x1 T3 h3
  obtain rfl : r = some (_, z3.2) := HR.out.symm.trans (by simp only [dSet, k2, k3, Option.bind_some, Option.map_some]; rfl)
  go_wp2
  go_end0
  exact ⟨rfl, nb3, by omega, S0.trans S3, B3⟩
set_option maxHeartbeats 1600000 in
theorem commit_r (w : World) (g : Nat) (F : Nat → Prop) (tb o : Nat) (t : TypeId) (p q : List Value) (a0 a1 : Value) (o2 : List Value) (hlens : o2.length = 32) (st : St) (S : Rst w g F tb t (p ++ (a0 :: a1 :: (o2 ++ (.slice none 0 0 :: q)))) st w) (ho : o = p.length) :
    Calls Try.prog 50 #[.agg #[.pointer none, .pointer (some ⟨g, 0, none⟩)], .pointer (some ⟨tb, o, none⟩)] w (RCO w g F tb t (p ++ (a0 :: a1 :: (o2 ++ (.slice none 0 0 :: q)))).length p q (dCommit st)) := by
  generalize hn : (p ++ (a0 :: a1 :: (o2 ++ (.slice none 0 0 :: q)))).length = n
  generalize hr : dCommit st = r
  have HR := Lib.hid hr
  have HN := Lib.hid hn
  have HO := Lib.hid ho
  clear hr hn ho
  have S0 := S.non ((Chg.refl Non w).alloc (.cells #[.pointer none, .pointer (some ⟨g, 0, none⟩)] 88))
  have hw := S.nw (Nat.le_refl w.heap.size)
  have hx := Hb.new w 88 #[.pointer none, .pointer (some ⟨g, 0, none⟩)]
  have hgl := S.rdr.lt
  have htl := S.row.lt
  have hx0 : (w.alloc (.cells #[.pointer none, .pointer (some ⟨g, 0, none⟩)] 88)).cell? ⟨w.heap.size, 0, none⟩ = some (.pointer none) := hx.cell 0
  have hx1 : (w.alloc (.cells #[.pointer none, .pointer (some ⟨g, 0, none⟩)] 88)).cell? ⟨w.heap.size, 1, none⟩ = some (.pointer (some ⟨g, 0, none⟩)) := hx.cell 1
  have hBs : (w.alloc (.cells #[.pointer none, .pointer (some ⟨g, 0, none⟩)] 88)).heap.size = w.heap.size + 1 := by simp
  have S1 := S0.here
  clear hx S
  go_enter Try.func50, Try.ntmps50
  go_wp2_with fail
  generalize w.alloc (.cells #[.pointer none, .pointer (some ⟨g, 0, none⟩)] 88) = B at *
  have x0 := S1.chg.cell hx0 hw
  have x1 := S1.chg.cell hx1 hw
  refine (begin_r _ g F tb t _ st S1.here 4).mono ?_
  rintro e w2 h2
  rcases h2.cases with ⟨k, he, C, L', hL1, hL2⟩ | ⟨y, k, he, T2⟩
  · subst he; obtain rfl : r = none := HR.out.symm.trans (by (try simp only [Option.map_eq_none_iff] at k); simp [dCommit, k]); go_wp2; exact ⟨rfl, rfl, (S0.chg.trans (S1.chg.trans C (fun _ h => .inl h)) (fun _ h => .inl h)), L', by (rw [hL1, ← HN.out]) <;> simp [bv_length, vH_length, hlens] <;> omega, hL2⟩
  subst he
  obtain ⟨z2, k2, rfl⟩ := Option.map_eq_some_iff.1 k
  clear k
  have S2 := S1.trans T2
  clear x0 x1 T2 h2
  go_wp2_with fail
  have D3 := S2.non ((Chg.refl Non w2).drew)
  have x0 := D3.chg.cell hx0 hw
  have x1 := D3.chg.cell hx1 hw
  go_region_held (fun w' => w'.cell? ⟨w.heap.size, 0, none⟩ = some (.pointer none) ∧ w'.cell? ⟨w.heap.size, 1, none⟩ = some (.pointer (some ⟨g, 0, none⟩))) (first | exact ⟨y0, y1⟩ | exact ⟨x0, x1⟩ | assumption) (first | (go_at_call 37; go_loud (refine (height_r _ g F tb o t p (a1 :: (o2 ++ (.slice none 0 0 :: q))) a0 z2 D3.here HO.out).mono ?_; rintro e w3 h3; have y0 := h3.chg.cell x0 hw; have y1 := h3.chg.cell x1 hw; rcases h3.cases with ⟨k, he, C, L', hL1, hL2⟩ | ⟨y, k, he, T3⟩; (subst he; obtain rfl : r = none := HR.out.symm.trans (by (try simp only [Option.map_eq_none_iff] at k); simp [dCommit, k2, k]); exact ⟨rfl, rfl, (S0.chg.trans (D3.chg.trans C (fun _ h => .inl h)) (fun _ h => .inl h)), L', by (rw [hL1, ← HN.out]) <;> simp [bv_length, vH_length, hlens] <;> omega, hL2⟩); subst he; obtain ⟨z3, k3, rfl⟩ := Option.map_eq_some_iff.1 k; clear k)) | fail)
  have S3 := D3.trans T3
  clear x0 x1 T3 D3 y0 y1 h3
  go_wp2_with fail
  have D4 := S3.non ((Chg.refl Non w3).drew)
  have x0 := D4.chg.cell hx0 hw
  have x1 := D4.chg.cell hx1 hw
  go_region_held (fun w' => w'.cell? ⟨w.heap.size, 0, none⟩ = some (.pointer none) ∧ w'.cell? ⟨w.heap.size, 1, none⟩ = some (.pointer (some ⟨g, 0, none⟩))) (first | exact ⟨y0, y1⟩ | exact ⟨x0, x1⟩ | assumption) (first | (go_at_call 38; go_loud (refine (round_r _ g F tb (o + 1) t (p ++ [.int .i64 z3.1]) (o2 ++ (.slice none 0 0 :: q)) a1 z3.2 (D4.here.eq (by simp)) (by rw [HO.out]; simp)).mono ?_; rintro e w4 h4; have y0 := h4.chg.cell x0 hw; have y1 := h4.chg.cell x1 hw; rcases h4.cases with ⟨k, he, C, L', hL1, hL2⟩ | ⟨y, k, he, T4⟩; (subst he; obtain rfl : r = none := HR.out.symm.trans (by (try simp only [Option.map_eq_none_iff] at k); simp [dCommit, k2, k3, k]); exact ⟨rfl, rfl, (S0.chg.trans (D4.chg.trans C (fun _ h => .inl h)) (fun _ h => .inl h)), L', by (rw [hL1, ← HN.out]) <;> simp [bv_length, vH_length, hlens] <;> omega, hL2⟩); subst he; obtain ⟨z4, k4, rfl⟩ := Option.map_eq_some_iff.1 k; clear k)) | fail)
  have S4 := D4.trans T4
  clear x0 x1 T4 D4 y0 y1 h4
  go_wp2_with fail
  have D5 := S4.non ((Chg.refl Non w4).drew)
  have x0 := D5.chg.cell hx0 hw
  have x1 := D5.chg.cell hx1 hw
  go_region_held (fun w' => w'.cell? ⟨w.heap.size, 0, none⟩ = some (.pointer none) ∧ w'.cell? ⟨w.heap.size, 1, none⟩ = some (.pointer (some ⟨g, 0, none⟩))) (first | exact ⟨y0, y1⟩ | exact ⟨x0, x1⟩ | assumption) (first | (go_at_call 40; go_loud (refine (hash_r _ g F tb (o + 2) t (p ++ [.int .i64 z3.1, .int .i64 z4.1]) (.slice none 0 0 :: q) o2 z4.2 (D5.here.eq (by simp)) (by rw [HO.out]; simp) hlens).mono ?_; rintro e w5 h5; have y0 := h5.chg.cell x0 hw; have y1 := h5.chg.cell x1 hw; obtain ⟨rfl, T5⟩ := h5)) | fail)
  have S5 := D5.trans T5
  clear x0 x1 T5 D5 y0 y1
  go_wp2_with fail
  have D6 := S5.non ((Chg.refl Non w5).drew)
  have x0 := D6.chg.cell hx0 hw
  have x1 := D6.chg.cell hx1 hw
  go_region_held (fun w' => w'.cell? ⟨w.heap.size, 0, none⟩ = some (.pointer none) ∧ w'.cell? ⟨w.heap.size, 1, none⟩ = some (.pointer (some ⟨g, 0, none⟩))) (first | exact ⟨y0, y1⟩ | exact ⟨x0, x1⟩ | assumption) (first | (go_at_call 67; go_loud (refine (listSealI_r _ g F tb (o + 34) t (p ++ ([.int .i64 z3.1, .int .i64 z4.1] ++ bv (vH z4.2))) q (nH z4.2) (D6.here.eq (by simp)) (by rw [HO.out]; simp [bv_length, vH_length])).mono ?_; rintro e w6 h6; have y0 := h6.chg.cell x0 hw; have y1 := h6.chg.cell x1 hw; rcases h6.cases with ⟨k, he, C, L', hL1, hL2⟩ | ⟨z6, k6, he, nb6, N6, T6, B6⟩; (subst he; obtain rfl : r = none := HR.out.symm.trans (by (try simp only [Option.map_eq_none_iff] at k); simp [dCommit, k2, k3, k4, k]); exact ⟨rfl, rfl, (S0.chg.trans (D6.chg.trans C (fun _ h => .inl h)) (fun _ h => .inl h)), L', by (rw [hL1, ← HN.out]) <;> simp [bv_length, vH_length, hlens] <;> omega, hL2⟩); subst he)) | fail)
  have S6 := D6.trans T6
  have N6 : w.heap.size < nb6 := by have := D6.chg.size; omega
  clear x0 x1 T6 D6 y0 y1 h6
  obtain rfl : r = some (_, z6.2) := HR.out.symm.trans (by simp only [dCommit, k2, k3, k4, k6, Option.bind_some, Option.map_some]; rfl)
  go_wp2
  go_end0
  exact ⟨rfl, nb6, by omega, (S0.trans S6).eq (by simp [Cm.cells]), B6⟩
end Go.Proofs.Ytinbjbfgfknpaaa

/- Package forms: headers, read: contracts. -/
namespace Go.Proofs.Ytinbjbfgfknpaaa
open Go.RowKit
set_option linter.unusedVariables false
set_option linter.unusedSimpArgs false
set_option maxRecDepth 20000
theorem header_r_old {old : List Value} (h : old.length = 163) : ∃ (a0 : Value) (a1 : Value) (a2 : Value) (o3 : List Value) (o4 : List Value) (o5 : List Value) (o6 : List Value) (o7 : List Value), old = [a0] ++ [a1] ++ [a2] ++ o3 ++ o4 ++ o5 ++ o6 ++ o7 ∧ o3.length = 32 ∧ o4.length = 32 ∧ o5.length = 32 ∧ o6.length = 32 ∧ o7.length = 32 ∧ True := by
  refine ⟨(old[0]'(by omega)), (old[1]'(by omega)), (old[2]'(by omega)), ((old.drop 3).take 32), ((old.drop 35).take 32), ((old.drop 67).take 32), ((old.drop 99).take 32), ((old.drop 131).take 32), ?_, by simp; omega, by simp; omega, by simp; omega, by simp; omega, by simp; omega, trivial⟩
  apply List.ext_getElem?
  intro j
  have hone : ∀ (i : Nat) (hi : i < old.length), [old[i]] = (old.drop i).take 1 := by
    intro i hi
    apply List.ext_getElem?
    intro k
    rw [List.getElem?_take, List.getElem?_drop]
    by_cases hk : k < 1
    · obtain rfl : k = 0 := by omega
      simp [List.getElem?_eq_getElem hi]
    · rw [if_neg hk, List.getElem?_eq_none (by simp; omega)]
  simp only [hone]
  have hj : ∀ (a b c : Nat), a + b = c → (old.drop a).take b ++ old.drop c = old.drop a := by
    intro a b c e
    subst e
    rw [← List.drop_drop, List.take_append_drop]
  have he : old.drop 163 = [] := List.drop_of_length_le (by omega)
  have hall : (old.drop 0).take 1 ++ ((old.drop 1).take 1 ++ ((old.drop 2).take 1 ++ ((old.drop 3).take 32 ++ ((old.drop 35).take 32 ++ ((old.drop 67).take 32 ++ ((old.drop 99).take 32 ++ ((old.drop 131).take 32 ++ old.drop 163))))))) = old := by
    rw [hj 131 32 163 rfl, hj 99 32 131 rfl, hj 67 32 99 rfl, hj 35 32 67 rfl, hj 3 32 35 rfl, hj 2 1 3 rfl, hj 1 1 2 rfl, hj 0 1 1 rfl]
    rfl
  rw [he, List.append_nil] at hall
  conv => lhs; rw [← hall]
  try simp only [List.append_assoc]

set_option maxHeartbeats 1600000 in
theorem header_r (w : World) (g : Nat) (F : Nat → Prop) (tb o : Nat) (t : TypeId) (p q old : List Value) (st : St) (S : Rst w g F tb t (p ++ (old ++ q)) st w) (ho : o = p.length) (hold : old.length = 163) :
    Calls Try.prog 20 #[.agg #[.pointer none, .pointer (some ⟨g, 0, none⟩)], .pointer (some ⟨tb, o, none⟩)] w (RO w g F tb t (p ++ (old ++ q)).length ((dHeader st).map fun y => (p ++ (y.1.cells ++ q), y.2))) := by
  obtain ⟨a0, a1, a2, o3, o4, o5, o6, o7, rfl, l_o3, l_o4, l_o5, l_o6, l_o7, _⟩ := header_r_old hold
  generalize hn : (p ++ (_ ++ q)).length = n
  generalize hr : (dHeader st).map _ = r
  have HR := Lib.hid hr
  have HN := Lib.hid hn
  have HO := Lib.hid ho
  clear hr hn ho hold
  have S0 := S.non ((Chg.refl Non w).alloc (.cells #[.pointer none, .pointer (some ⟨g, 0, none⟩)] 88))
  have hw := S.nw (Nat.le_refl w.heap.size)
  have hx := Hb.new w 88 #[.pointer none, .pointer (some ⟨g, 0, none⟩)]
  have hx0 : (w.alloc (.cells #[.pointer none, .pointer (some ⟨g, 0, none⟩)] 88)).cell? ⟨w.heap.size, 0, none⟩ = some (.pointer none) := hx.cell 0
  have hx1 : (w.alloc (.cells #[.pointer none, .pointer (some ⟨g, 0, none⟩)] 88)).cell? ⟨w.heap.size, 1, none⟩ = some (.pointer (some ⟨g, 0, none⟩)) := hx.cell 1
  have S1 := S0.here
  obtain ⟨B, hB⟩ : ∃ B, B = w.alloc (.cells #[.pointer none, .pointer (some ⟨g, 0, none⟩)] 88) := ⟨_, rfl⟩
  clear hx S
  go_enter Try.func20, Try.ntmps20
  go_wp2_with fail
  rw [← hB] at S0 hx0 hx1 S1 ⊢
  clear hB
  have x0 := S1.chg.cell hx0 hw
  have x1 := S1.chg.cell hx1 hw
  go_wp2_with (first | (go_at_call 35; go_loud (refine (begin_r _ g F tb t _ st S1.here 2).mono ?_; rintro e w2 h2; rcases h2.cases with ⟨k, he, C, L', hL1, hL2⟩ | ⟨y, k, he, T2⟩; (subst he; obtain rfl : r = none := HR.out.symm.trans (by (simp only [Option.map_eq_none_iff] at k) <;> simp [dHeader, k]); exact ⟨rfl, rfl, (S0.chg.trans (S1.chg.trans C (fun _ h => .inl h)) (fun _ h => .inl h)), L', by (rw [hL1, ← HN.out]) <;> simp [bv_length, vH_length, l_o3, l_o4, l_o5, l_o6, l_o7], hL2⟩); subst he; obtain ⟨z2, k2, rfl⟩ := Option.map_eq_some_iff.1 k; clear k)) | fail)
  have S2 := S1.trans T2
  clear T2 x0 x1
  clear h2
  go_wp2_with fail
  have D3 := S2.non ((Chg.refl Non w2).drew)
  have x0 := D3.chg.cell hx0 hw
  have x1 := D3.chg.cell hx1 hw
  go_region_held (fun w' => w'.cell? ⟨w.heap.size, 0, none⟩ = some (.pointer none) ∧ w'.cell? ⟨w.heap.size, 1, none⟩ = some (.pointer (some ⟨g, 0, none⟩))) (first | exact ⟨y0, y1⟩ | exact ⟨x0, x1⟩ | assumption) (first | (go_at_call 36; go_loud (refine (name_r _ g F tb o t (p) (a1 :: a2 :: o3 ++ (o4 ++ (o5 ++ (o6 ++ (o7 ++ (q)))))) a0 z2 (D3.here.eq (by simp)) HO.out).mono ?_; rintro e w3 h3; have y0 := h3.chg.cell x0 hw; have y1 := h3.chg.cell x1 hw; rcases h3.cases with ⟨k, he, C, L', hL1, hL2⟩ | ⟨y, k, he, T3⟩; (subst he; obtain rfl : r = none := HR.out.symm.trans (by (simp only [Option.map_eq_none_iff] at k) <;> simp [dHeader, k2, k]); exact ⟨rfl, rfl, (S0.chg.trans (D3.chg.trans C (fun _ h => .inl h)) (fun _ h => .inl h)), L', by (rw [hL1, ← HN.out]) <;> simp [bv_length, vH_length, l_o3, l_o4, l_o5, l_o6, l_o7], hL2⟩); subst he; obtain ⟨z3, k3, rfl⟩ := Option.map_eq_some_iff.1 k; clear k)) | fail)
  have S3 := D3.trans T3
  clear D3 T3 x0 x1 y0 y1
  clear h3
  go_wp2_with fail
  have D4 := S3.non ((Chg.refl Non w3).drew)
  have x0 := D4.chg.cell hx0 hw
  have x1 := D4.chg.cell hx1 hw
  go_region_held (fun w' => w'.cell? ⟨w.heap.size, 0, none⟩ = some (.pointer none) ∧ w'.cell? ⟨w.heap.size, 1, none⟩ = some (.pointer (some ⟨g, 0, none⟩))) (first | exact ⟨y0, y1⟩ | exact ⟨x0, x1⟩ | assumption) (first | (go_at_call 37; go_loud (refine (height_r _ g F tb (o + 1) t (p ++ (.string z3.1 :: [])) (a2 :: o3 ++ (o4 ++ (o5 ++ (o6 ++ (o7 ++ (q)))))) a1 z3.2 (D4.here.eq (by simp)) (by rw [HO.out]; simp [bv_length, vH_length])).mono ?_; rintro e w4 h4; have y0 := h4.chg.cell x0 hw; have y1 := h4.chg.cell x1 hw; rcases h4.cases with ⟨k, he, C, L', hL1, hL2⟩ | ⟨y, k, he, T4⟩; (subst he; obtain rfl : r = none := HR.out.symm.trans (by (simp only [Option.map_eq_none_iff] at k) <;> simp [dHeader, k2, k3, k]); exact ⟨rfl, rfl, (S0.chg.trans (D4.chg.trans C (fun _ h => .inl h)) (fun _ h => .inl h)), L', by (rw [hL1, ← HN.out]) <;> simp [bv_length, vH_length, l_o3, l_o4, l_o5, l_o6, l_o7], hL2⟩); subst he; obtain ⟨z4, k4, rfl⟩ := Option.map_eq_some_iff.1 k; clear k)) | fail)
  have S4 := D4.trans T4
  clear D4 T4 x0 x1 y0 y1
  clear h4
  go_wp2_with fail
  have D5 := S4.non ((Chg.refl Non w4).drew)
  have x0 := D5.chg.cell hx0 hw
  have x1 := D5.chg.cell hx1 hw
  go_region_held (fun w' => w'.cell? ⟨w.heap.size, 0, none⟩ = some (.pointer none) ∧ w'.cell? ⟨w.heap.size, 1, none⟩ = some (.pointer (some ⟨g, 0, none⟩))) (first | exact ⟨y0, y1⟩ | exact ⟨x0, x1⟩ | assumption) (first | (go_at_call 47; go_loud (refine (number_r _ g F tb (o + 2) t (p ++ (.string z3.1 :: .int .i64 z4.1 :: [])) (o3 ++ (o4 ++ (o5 ++ (o6 ++ (o7 ++ (q)))))) a2 z4.2 (D5.here.eq (by simp)) (by rw [HO.out]; simp [bv_length, vH_length]) 0 1099511627776).mono ?_; rintro e w5 h5; have y0 := h5.chg.cell x0 hw; have y1 := h5.chg.cell x1 hw; rcases h5.cases with ⟨k, he, C, L', hL1, hL2⟩ | ⟨y, k, he, T5⟩; (subst he; obtain rfl : r = none := HR.out.symm.trans (by (simp only [Option.map_eq_none_iff] at k) <;> simp [dHeader, k2, k3, k4, k]); exact ⟨rfl, rfl, (S0.chg.trans (D5.chg.trans C (fun _ h => .inl h)) (fun _ h => .inl h)), L', by (rw [hL1, ← HN.out]) <;> simp [bv_length, vH_length, l_o3, l_o4, l_o5, l_o6, l_o7], hL2⟩); subst he; obtain ⟨z5, k5, rfl⟩ := Option.map_eq_some_iff.1 k; clear k)) | fail)
  have S5 := D5.trans T5
  clear D5 T5 x0 x1 y0 y1
  clear h5
  go_wp2_with fail
  have D6 := S5.non ((Chg.refl Non w5).drew)
  have x0 := D6.chg.cell hx0 hw
  have x1 := D6.chg.cell hx1 hw
  go_region_held (fun w' => w'.cell? ⟨w.heap.size, 0, none⟩ = some (.pointer none) ∧ w'.cell? ⟨w.heap.size, 1, none⟩ = some (.pointer (some ⟨g, 0, none⟩))) (first | exact ⟨y0, y1⟩ | exact ⟨x0, x1⟩ | assumption) (first | (go_at_call 40; go_loud (refine (hash_r _ g F tb (o + 3) t (p ++ (.string z3.1 :: .int .i64 z4.1 :: .int .i64 z5.1 :: [])) (o4 ++ (o5 ++ (o6 ++ (o7 ++ (q))))) o3 z5.2 (D6.here.eq (by simp)) (by rw [HO.out]; simp [bv_length, vH_length]) l_o3).mono ?_; rintro e w6 h6; have y0 := h6.chg.cell x0 hw; have y1 := h6.chg.cell x1 hw; obtain ⟨rfl, T6⟩ := h6)) | fail)
  have S6 := D6.trans T6
  clear D6 T6 x0 x1 y0 y1
  go_wp2_with fail
  have D7 := S6.non ((Chg.refl Non w6).drew)
  have x0 := D7.chg.cell hx0 hw
  have x1 := D7.chg.cell hx1 hw
  go_region_held (fun w' => w'.cell? ⟨w.heap.size, 0, none⟩ = some (.pointer none) ∧ w'.cell? ⟨w.heap.size, 1, none⟩ = some (.pointer (some ⟨g, 0, none⟩))) (first | exact ⟨y0, y1⟩ | exact ⟨x0, x1⟩ | assumption) (first | (go_at_call 40; go_loud (refine (hash_r _ g F tb (o + 35) t (p ++ (.string z3.1 :: .int .i64 z4.1 :: .int .i64 z5.1 :: bv (vH z5.2) ++ ([]))) (o5 ++ (o6 ++ (o7 ++ (q)))) o4 (nH z5.2) (D7.here.eq (by simp)) (by rw [HO.out]; simp [bv_length, vH_length]) l_o4).mono ?_; rintro e w7 h7; have y0 := h7.chg.cell x0 hw; have y1 := h7.chg.cell x1 hw; obtain ⟨rfl, T7⟩ := h7)) | fail)
  have S7 := D7.trans T7
  clear D7 T7 x0 x1 y0 y1
  go_wp2_with fail
  have D8 := S7.non ((Chg.refl Non w7).drew)
  have x0 := D8.chg.cell hx0 hw
  have x1 := D8.chg.cell hx1 hw
  go_region_held (fun w' => w'.cell? ⟨w.heap.size, 0, none⟩ = some (.pointer none) ∧ w'.cell? ⟨w.heap.size, 1, none⟩ = some (.pointer (some ⟨g, 0, none⟩))) (first | exact ⟨y0, y1⟩ | exact ⟨x0, x1⟩ | assumption) (first | (go_at_call 40; go_loud (refine (hash_r _ g F tb (o + 67) t (p ++ (.string z3.1 :: .int .i64 z4.1 :: .int .i64 z5.1 :: bv (vH z5.2) ++ (bv (vH (nH z5.2)) ++ ([])))) (o6 ++ (o7 ++ (q))) o5 (nH (nH z5.2)) (D8.here.eq (by simp)) (by rw [HO.out]; simp [bv_length, vH_length]) l_o5).mono ?_; rintro e w8 h8; have y0 := h8.chg.cell x0 hw; have y1 := h8.chg.cell x1 hw; obtain ⟨rfl, T8⟩ := h8)) | fail)
  have S8 := D8.trans T8
  clear D8 T8 x0 x1 y0 y1
  go_wp2_with fail
  have D9 := S8.non ((Chg.refl Non w8).drew)
  have x0 := D9.chg.cell hx0 hw
  have x1 := D9.chg.cell hx1 hw
  go_region_held (fun w' => w'.cell? ⟨w.heap.size, 0, none⟩ = some (.pointer none) ∧ w'.cell? ⟨w.heap.size, 1, none⟩ = some (.pointer (some ⟨g, 0, none⟩))) (first | exact ⟨y0, y1⟩ | exact ⟨x0, x1⟩ | assumption) (first | (go_at_call 40; go_loud (refine (hash_r _ g F tb (o + 99) t (p ++ (.string z3.1 :: .int .i64 z4.1 :: .int .i64 z5.1 :: bv (vH z5.2) ++ (bv (vH (nH z5.2)) ++ (bv (vH (nH (nH z5.2))) ++ ([]))))) (o7 ++ (q)) o6 (nH (nH (nH z5.2))) (D9.here.eq (by simp)) (by rw [HO.out]; simp [bv_length, vH_length]) l_o6).mono ?_; rintro e w9 h9; have y0 := h9.chg.cell x0 hw; have y1 := h9.chg.cell x1 hw; obtain ⟨rfl, T9⟩ := h9)) | fail)
  have S9 := D9.trans T9
  clear D9 T9 x0 x1 y0 y1
  go_wp2_with fail
  have D10 := S9.non ((Chg.refl Non w9).drew)
  have x0 := D10.chg.cell hx0 hw
  have x1 := D10.chg.cell hx1 hw
  go_region_held (fun w' => w'.cell? ⟨w.heap.size, 0, none⟩ = some (.pointer none) ∧ w'.cell? ⟨w.heap.size, 1, none⟩ = some (.pointer (some ⟨g, 0, none⟩))) (first | exact ⟨y0, y1⟩ | exact ⟨x0, x1⟩ | assumption) (first | (go_at_call 40; go_loud (refine (hash_r _ g F tb (o + 131) t (p ++ (.string z3.1 :: .int .i64 z4.1 :: .int .i64 z5.1 :: bv (vH z5.2) ++ (bv (vH (nH z5.2)) ++ (bv (vH (nH (nH z5.2))) ++ (bv (vH (nH (nH (nH z5.2)))) ++ ([])))))) (q) o7 (nH (nH (nH (nH z5.2)))) (D10.here.eq (by simp)) (by rw [HO.out]; simp [bv_length, vH_length]) l_o7).mono ?_; rintro e w10 h10; have y0 := h10.chg.cell x0 hw; have y1 := h10.chg.cell x1 hw; obtain ⟨rfl, T10⟩ := h10)) | fail)
  have S10 := D10.trans T10
  clear D10 T10 x0 x1 y0 y1
  obtain rfl : r = some (_, (nH (nH (nH (nH (nH z5.2)))))) := HR.out.symm.trans (by simp only [dHeader, k2, k3, k4, k5, Option.bind_some, Option.map_some]; rfl)
  go_wp2
  go_end0
  refine ⟨rfl, (S0.trans S10).eq ?_⟩
  simp [Hd.cells]

end Go.Proofs.Ytinbjbfgfknpaaa

/- Package forms: light blocks, read. -/
namespace Go.Proofs.Ytinbjbfgfknpaaa
open Go.RowKit
set_option linter.unusedVariables false
set_option linter.unusedSimpArgs false
set_option maxRecDepth 20000

/-- A slice of new memory. -/
abbrev sl (n k : Nat) : Value := .slice (some ⟨n, 0, none⟩) k k
theorem dHeader_len {st : St} {y : Hd × St} (h : dHeader st = some y) : y.1.cells.length = 163 := by
  unfold dHeader at h
  simp only [Option.bind_eq_some_iff, Option.some.injEq, Prod.exists] at h
  obtain ⟨s1, h1, c, s2, h2, ht, s3, h3, tm, s5, h5, rfl⟩ := h
  simp [Hd.cells, bv_length, vH_length]
theorem dCommit_len {st : St} {y : Cm × St} (h : dCommit st = some y) (a : Value) : (y.1.cells a).length = 35 := by
  unfold dCommit at h
  simp only [Option.bind_eq_some_iff, Option.some.injEq, Prod.exists] at h
  obtain ⟨s1, h1, ht, s2, h2, rd, s3, h3, l, s4, h4, rfl⟩ := h
  simp [Cm.cells, bv_length, vH_length]
/-- What the reading of a light block leaves. -/
def RTO (w : World) (g : Nat) (F : Nat → Prop) (tb : Nat) (t : TypeId) (n : Nat) (p q : List Value) (r : Option (Lt × St)) (e : Ending) (w' : World) : Prop :=
  match r with
  | some x => e = .returned (.tuple #[]) ∧ ∃ n1 n2 n3, w.heap.size ≤ n1 ∧ w.heap.size ≤ n2 ∧ w.heap.size ≤ n3 ∧ Rst w g F tb t (p ++ (x.1.cells (sl n1 x.1.commit.seals.length) (sl n2 x.1.set.length) (sl n3 x.1.next.length) ++ q)) x.2 w' ∧
      Hb w' n1 132 (x.1.commit.seals.flatMap Se.cells).toArray ∧ Hb w' n2 137 (x.1.set.flatMap Va.cells).toArray ∧ Hb w' n3 137 (x.1.next.flatMap Va.cells).toArray
  | none => e = .panicked bad ∧ Chg (Two g tb) w w' ∧ ∃ L' : List Value, L'.length = n ∧ Hb w' tb t L'.toArray
theorem RTO.cases {w w' : World} {g : Nat} {F : Nat → Prop} {tb : Nat} {t : TypeId} {n : Nat} {p q : List Value} {r : Option (Lt × St)} {e : Ending} (h : RTO w g F tb t n p q r e w') : (r = none ∧ e = .panicked bad ∧ Chg (Two g tb) w w' ∧ ∃ L' : List Value, L'.length = n ∧ Hb w' tb t L'.toArray) ∨
    (∃ x, r = some x ∧ e = .returned (.tuple #[]) ∧ ∃ n1 n2 n3, w.heap.size ≤ n1 ∧ w.heap.size ≤ n2 ∧ w.heap.size ≤ n3 ∧ Rst w g F tb t (p ++ (x.1.cells (sl n1 x.1.commit.seals.length) (sl n2 x.1.set.length) (sl n3 x.1.next.length) ++ q)) x.2 w' ∧
      Hb w' n1 132 (x.1.commit.seals.flatMap Se.cells).toArray ∧ Hb w' n2 137 (x.1.set.flatMap Va.cells).toArray ∧ Hb w' n3 137 (x.1.next.flatMap Va.cells).toArray) := by
  cases r with
  | some x => exact .inr ⟨x, rfl, h.1, h.2⟩
  | none => exact .inl ⟨rfl, h.1, h.2⟩
set_option maxHeartbeats 1600000 in
theorem light_r (w : World) (g : Nat) (F : Nat → Prop) (tb o : Nat) (t : TypeId) (p q : List Value) (oh : List Value) (hoh : oh.length = 163) (a0 a1 : Value) (o2 : List Value) (hlens : o2.length = 32) (st : St) (S : Rst w g F tb t (p ++ (oh ++ (a0 :: a1 :: (o2 ++ (.slice none 0 0 :: .slice none 0 0 :: .slice none 0 0 :: q))))) st w) (ho : o = p.length) :
    Calls Try.prog 23 #[.agg #[.pointer none, .pointer (some ⟨g, 0, none⟩)], .pointer (some ⟨tb, o, none⟩)] w (RTO w g F tb t (p ++ (oh ++ (a0 :: a1 :: (o2 ++ (.slice none 0 0 :: .slice none 0 0 :: .slice none 0 0 :: q))))).length p q (dLight st)) := by
  generalize hn : (p ++ (oh ++ (a0 :: a1 :: (o2 ++ (.slice none 0 0 :: .slice none 0 0 :: .slice none 0 0 :: q))))).length = n
  generalize hr : dLight st = r
  have HR := Lib.hid hr
  have HN := Lib.hid hn
  have HO := Lib.hid ho
  clear hr hn ho
  have S0 := S.non ((Chg.refl Non w).alloc (.cells #[.pointer none, .pointer (some ⟨g, 0, none⟩)] 88))
  have hw := S.nw (Nat.le_refl w.heap.size)
  have hx := Hb.new w 88 #[.pointer none, .pointer (some ⟨g, 0, none⟩)]
  have hgl := S.rdr.lt
  have htl := S.row.lt
  have hx0 : (w.alloc (.cells #[.pointer none, .pointer (some ⟨g, 0, none⟩)] 88)).cell? ⟨w.heap.size, 0, none⟩ = some (.pointer none) := hx.cell 0
  have hx1 : (w.alloc (.cells #[.pointer none, .pointer (some ⟨g, 0, none⟩)] 88)).cell? ⟨w.heap.size, 1, none⟩ = some (.pointer (some ⟨g, 0, none⟩)) := hx.cell 1
  have hBs : (w.alloc (.cells #[.pointer none, .pointer (some ⟨g, 0, none⟩)] 88)).heap.size = w.heap.size + 1 := by simp
  have S1 := S0.here
  clear hx S
  go_enter Try.func23, Try.ntmps23
  go_wp2_with fail
  generalize w.alloc (.cells #[.pointer none, .pointer (some ⟨g, 0, none⟩)] 88) = B at *
  have x0 := S1.chg.cell hx0 hw
  have x1 := S1.chg.cell hx1 hw
  refine (begin_r _ g F tb t _ st S1.here 5).mono ?_
  rintro e w2 h2
  rcases h2.cases with ⟨k, he, C, L', hL1, hL2⟩ | ⟨y, k, he, T2⟩
  · subst he; obtain rfl : r = none := HR.out.symm.trans (by (try simp only [Option.map_eq_none_iff] at k); simp [dLight, k]); go_wp2; exact ⟨rfl, rfl, (S0.chg.trans (S1.chg.trans C (fun _ h => .inl h)) (fun _ h => .inl h)), L', by (rw [hL1, ← HN.out]) <;> simp [bv_length, vH_length, hlens, hoh] <;> omega, hL2⟩
  subst he
  obtain ⟨z2, k2, rfl⟩ := Option.map_eq_some_iff.1 k
  clear k
  have S2 := S1.trans T2
  clear x0 x1 T2 h2
  go_wp2_with fail
  have D3 := S2.non ((Chg.refl Non w2).drew)
  have x0 := D3.chg.cell hx0 hw
  have x1 := D3.chg.cell hx1 hw
  go_region_held (fun w' => w'.cell? ⟨w.heap.size, 0, none⟩ = some (.pointer none) ∧ w'.cell? ⟨w.heap.size, 1, none⟩ = some (.pointer (some ⟨g, 0, none⟩))) (first | exact ⟨y0, y1⟩ | exact ⟨x0, x1⟩ | assumption) (first | (go_at_call 20; go_loud (refine (header_r _ g F tb o t p (a0 :: a1 :: (o2 ++ (.slice none 0 0 :: .slice none 0 0 :: .slice none 0 0 :: q))) oh z2 D3.here HO.out hoh).mono ?_; rintro e w3 h3; have y0 := h3.chg.cell x0 hw; have y1 := h3.chg.cell x1 hw; rcases h3.cases with ⟨k, he, C, L', hL1, hL2⟩ | ⟨y, k, he, T3⟩; (subst he; obtain rfl : r = none := HR.out.symm.trans (by (try simp only [Option.map_eq_none_iff] at k); simp [dLight, k2, k]); exact ⟨rfl, rfl, (S0.chg.trans (D3.chg.trans C (fun _ h => .inl h)) (fun _ h => .inl h)), L', by (rw [hL1, ← HN.out]) <;> simp [bv_length, vH_length, hlens, hoh] <;> omega, hL2⟩); subst he; obtain ⟨z3, k3, rfl⟩ := Option.map_eq_some_iff.1 k; clear k)) | fail)
  have S3 := D3.trans T3
  clear x0 x1 T3 D3 y0 y1 h3
  go_wp2_with fail
  have D4 := S3.non ((Chg.refl Non w3).drew)
  have x0 := D4.chg.cell hx0 hw
  have x1 := D4.chg.cell hx1 hw
  go_region_held (fun w' => w'.cell? ⟨w.heap.size, 0, none⟩ = some (.pointer none) ∧ w'.cell? ⟨w.heap.size, 1, none⟩ = some (.pointer (some ⟨g, 0, none⟩))) (first | exact ⟨y0, y1⟩ | exact ⟨x0, x1⟩ | assumption) (first | (go_at_call 50; go_loud (refine (commit_r _ g F tb (o + 163) t (p ++ z3.1.cells) (.slice none 0 0 :: .slice none 0 0 :: q) a0 a1 o2 hlens z3.2 (D4.here.eq (by simp)) (by rw [HO.out]; simp [dHeader_len k3])).mono ?_; rintro e w4 h4; have y0 := h4.chg.cell x0 hw; have y1 := h4.chg.cell x1 hw; rcases h4.cases with ⟨k, he, C, L', hL1, hL2⟩ | ⟨z4, k4, he, nb4, N4, T4, B4⟩; (subst he; obtain rfl : r = none := HR.out.symm.trans (by (try simp only [Option.map_eq_none_iff] at k); simp [dLight, k2, k3, k]); exact ⟨rfl, rfl, (S0.chg.trans (D4.chg.trans C (fun _ h => .inl h)) (fun _ h => .inl h)), L', by (rw [hL1, ← HN.out]) <;> simp [bv_length, vH_length, hlens, hoh, dHeader_len k3] <;> omega, hL2⟩); subst he)) | fail)
  have S4 := D4.trans T4
  have N4 : w.heap.size < nb4 := by have := D4.chg.size; omega
  clear x0 x1 T4 D4 y0 y1 h4
  go_wp2_with fail
  have D5 := S4.non ((Chg.refl Non w4).drew)
  have x0 := D5.chg.cell hx0 hw
  have x1 := D5.chg.cell hx1 hw
  go_region_held (fun w' => w'.cell? ⟨w.heap.size, 0, none⟩ = some (.pointer none) ∧ w'.cell? ⟨w.heap.size, 1, none⟩ = some (.pointer (some ⟨g, 0, none⟩))) (first | exact ⟨y0, y1⟩ | exact ⟨x0, x1⟩ | assumption) (first | (go_at_call 51; go_loud (refine (set_r _ g F tb (o + 198) t (p ++ (z3.1.cells ++ z4.1.cells (sl nb4 z4.1.seals.length))) (.slice none 0 0 :: q) z4.2 (D5.here.eq (by simp)) (by rw [HO.out]; simp [dHeader_len k3, dCommit_len k4])).mono ?_; rintro e w5 h5; have y0 := h5.chg.cell x0 hw; have y1 := h5.chg.cell x1 hw; rcases h5.cases with ⟨k, he, C, L', hL1, hL2⟩ | ⟨z5, k5, he, nb5, N5, T5, B5⟩; (subst he; obtain rfl : r = none := HR.out.symm.trans (by (try simp only [Option.map_eq_none_iff] at k); simp [dLight, k2, k3, k4, k]); exact ⟨rfl, rfl, (S0.chg.trans (D5.chg.trans C (fun _ h => .inl h)) (fun _ h => .inl h)), L', by (rw [hL1, ← HN.out]) <;> simp [bv_length, vH_length, hlens, hoh, dHeader_len k3, dCommit_len k4] <;> omega, hL2⟩); subst he)) | fail)
  have S5 := D5.trans T5
  have B4 := (B4.chg ((Chg.refl Non w4).drew) (fun f => f)).chg T5.chg (by rintro (h | h) <;> omega)
  have N5 : w.heap.size < nb5 := by have := D5.chg.size; omega
  clear x0 x1 T5 D5 y0 y1 h5
  go_wp2_with fail
  have D6 := S5.non ((Chg.refl Non w5).drew)
  have x0 := D6.chg.cell hx0 hw
  have x1 := D6.chg.cell hx1 hw
  go_region_held (fun w' => w'.cell? ⟨w.heap.size, 0, none⟩ = some (.pointer none) ∧ w'.cell? ⟨w.heap.size, 1, none⟩ = some (.pointer (some ⟨g, 0, none⟩))) (first | exact ⟨y0, y1⟩ | exact ⟨x0, x1⟩ | assumption) (first | (go_at_call 51; go_loud (refine (set_r _ g F tb (o + 199) t (p ++ (z3.1.cells ++ (z4.1.cells (sl nb4 z4.1.seals.length) ++ [sl nb5 z5.1.length]))) q z5.2 (D6.here.eq (by simp)) (by rw [HO.out]; simp [dHeader_len k3, dCommit_len k4])).mono ?_; rintro e w6 h6; have y0 := h6.chg.cell x0 hw; have y1 := h6.chg.cell x1 hw; rcases h6.cases with ⟨k, he, C, L', hL1, hL2⟩ | ⟨z6, k6, he, nb6, N6, T6, B6⟩; (subst he; obtain rfl : r = none := HR.out.symm.trans (by (try simp only [Option.map_eq_none_iff] at k); simp [dLight, k2, k3, k4, k5, k]); exact ⟨rfl, rfl, (S0.chg.trans (D6.chg.trans C (fun _ h => .inl h)) (fun _ h => .inl h)), L', by (rw [hL1, ← HN.out]) <;> simp [bv_length, vH_length, hlens, hoh, dHeader_len k3, dCommit_len k4] <;> omega, hL2⟩); subst he)) | fail)
  have S6 := D6.trans T6
  have B4 := (B4.chg ((Chg.refl Non w5).drew) (fun f => f)).chg T6.chg (by rintro (h | h) <;> omega)
  have B5 := (B5.chg ((Chg.refl Non w5).drew) (fun f => f)).chg T6.chg (by rintro (h | h) <;> omega)
  have N6 : w.heap.size < nb6 := by have := D6.chg.size; omega
  clear x0 x1 T6 D6 y0 y1 h6
  obtain rfl : r = some (_, z6.2) := HR.out.symm.trans (by simp only [dLight, k2, k3, k4, k5, k6, Option.bind_some, Option.map_some]; rfl)
  go_wp2
  go_end0
  exact ⟨rfl, nb4, nb5, nb6, by omega, by omega, by omega, (S0.trans S6).eq (by simp [Lt.cells]), B4, B5, B6⟩
end Go.Proofs.Ytinbjbfgfknpaaa

/- Parts and proofs of package forms: their bytes, when they are right. Plain mathematics. -/
namespace Go.Proofs.Ytinbjbfgfknpaaa
open Go.RowKit
set_option linter.unusedVariables false
set_option linter.unusedSimpArgs false
set_option maxRecDepth 20000

structure Pa where
  index : Int
  key : ByteArray
  value : ByteArray
  path : List (List UInt8)
structure Pa.Ok (x : Pa) : Prop where
  index : I64 x.index
  key : x.key.size ≤ maxLen
  value : x.value.size ≤ maxLen
  path : ∀ h ∈ x.path, h.length = 32
def Pa.right (x : Pa) : Bool := inR 0 4096 x.index && (decide (x.key.size ≤ 4096) && (decide (x.value.size ≤ 4096) && inR 0 16 x.path.length))
def Pa.enc (x : Pa) : List UInt8 := num x.index ++ (tx x.key.data.toList ++ (tx x.value.data.toList ++ encL id x.path))
/-- A part in memory: its path is a slice. -/
structure Pm where
  part : Pa
  A : Option Addr
  c : Nat
def Pm.cells (m : Pm) : List Value := [.int .i64 m.part.index, .string m.part.key, .string m.part.value, .slice m.A m.part.path.length m.c]
structure Pf where
  size : Int
  parts : List Pa
def Pf.right (x : Pf) : Bool := inR 0 4096 x.size && (inR 0 2 x.parts.length && x.parts.all Pa.right)
def Pf.enc (x : Pf) : List UInt8 := num 7 ++ (num x.size ++ encL Pa.enc x.parts)
theorem path_len {l : List (List UInt8)} (h : ∀ x ∈ l, x.length = 32) : (l.flatMap id).length = l.length * 32 := by
  induction l with
  | nil => rfl
  | cons x l ih =>
    rw [List.flatMap_cons, List.length_append, ih (fun y hy => h y (by simp [hy])), List.length_cons]
    have := h x (by simp)
    simp only [id]
    omega
theorem Pa.enc_len {x : Pa} (h : x.right = true) (ox : x.Ok) : x.enc.length ≤ 20000 := by
  unfold Pa.right at h
  simp only [Bool.and_eq_true, decide_eq_true_eq] at h
  obtain ⟨_, h1, h2, h3⟩ := h
  have h4 := (inR_iff.1 h3).2
  have hp := path_len ox.path
  unfold Pa.enc encL
  simp only [List.length_append, num_length, tx_length, hp]
  have e1 : x.key.data.size = x.key.size := rfl
  have e2 : x.value.data.size = x.value.size := rfl
  simp only [Array.length_toList]
  omega
end Go.Proofs.Ytinbjbfgfknpaaa

/- Parts and proofs of package forms: what bytes are. Plain mathematics. -/
namespace Go.Proofs.Ytinbjbfgfknpaaa
open Go.RowKit
set_option linter.unusedVariables false
set_option linter.unusedSimpArgs false
set_option maxRecDepth 20000

def dHs (st : St) : Option (List UInt8 × St) := some (vH st, nH st)
theorem dHs_inv (st : St) (x : List UInt8) (r : List UInt8) (h : dHs st = some (x, some r)) : st = some (id x ++ r) ∧ x.length = 32 := by
  unfold dHs at h
  simp only [Option.some.injEq, Prod.mk.injEq] at h
  obtain ⟨rfl, h1⟩ := h
  exact ⟨nH_inv h1, vH_length st⟩
theorem dHs_app (x : List UInt8) (r : List UInt8) (ox : x.length = 32) : dHs (some (id x ++ r)) = some (x, some r) := by
  unfold dHs
  rw [id, (vH_app x ox r).1, (vH_app x ox r).2]
def dPa (st : St) : Option (Pa × St) :=
  (dNum 0 4096 st).bind fun i => (dText 4096 i.2).bind fun k => (dText 4096 k.2).bind fun v => (dList dHs 16 v.2).bind fun l => some (⟨i.1, k.1, v.1, l.1⟩, l.2)
theorem dPa_inv (st : St) (x : Pa) (r : List UInt8) (h : dPa st = some (x, some r)) : st = some (x.enc ++ r) ∧ (x.right = true ∧ x.Ok) := by
  unfold dPa at h
  simp only [Option.bind_eq_some_iff, Option.some.injEq, Prod.mk.injEq, Prod.exists] at h
  obtain ⟨i, s1, h1, k, s2, h2, v, s3, h3, l, s4, h4, rfl, rfl⟩ := h
  obtain ⟨e4, o4, o5⟩ := dList_inv dHs_inv h4
  rw [e4] at h3
  obtain ⟨e3, o3⟩ := dText_inv h3
  rw [e3] at h2
  obtain ⟨e2, o2⟩ := dText_inv h2
  rw [e2] at h1
  obtain ⟨e1, o1⟩ := dNum_inv h1
  refine ⟨?_, by simp [Pa.right, o1, o2, o3, o5], i64_in o1 (by omega) (by omega), by show k.size ≤ maxLen; unfold maxLen; omega, by show v.size ≤ maxLen; unfold maxLen; omega, o4⟩
  rw [e1]
  simp only [Pa.enc, List.append_assoc]
theorem dPa_app (x : Pa) (r : List UInt8) (h : x.right = true ∧ x.Ok) : dPa (some (x.enc ++ r)) = some (x, some r) := by
  obtain ⟨h, ox⟩ := h
  unfold Pa.right at h
  simp only [Bool.and_eq_true, decide_eq_true_eq] at h
  obtain ⟨o1, o2, o3, o4⟩ := h
  have h64 := (inR_iff.1 o4).2
  unfold dPa Pa.enc
  simp only [List.append_assoc]
  rw [dNum_app ox.index.l ox.index.h o1, Option.bind_some]
  simp only
  rw [dText_app o2 (by omega), Option.bind_some]
  simp only
  rw [dText_app o3 (by omega), Option.bind_some]
  simp only
  rw [dList_app dHs_app o4 (by omega) ox.path, Option.bind_some]
def dProof (st : St) : Option (Pf × St) :=
  (dBegin 7 st).bind fun s => (dNum 0 4096 s).bind fun n => (dList dPa 2 n.2).bind fun l => some (⟨n.1, l.1⟩, l.2)
theorem dProof_inv {st : St} {x : Pf} {r : List UInt8} (h : dProof st = some (x, some r)) : st = some (x.enc ++ r) ∧ x.right = true ∧ I64 x.size ∧ ∀ y ∈ x.parts, y.right = true ∧ y.Ok := by
  unfold dProof at h
  simp only [Option.bind_eq_some_iff, Option.some.injEq, Prod.mk.injEq, Prod.exists] at h
  obtain ⟨s1, h1, n, s2, h2, l, s3, h3, rfl, rfl⟩ := h
  obtain ⟨e3, o3, o4⟩ := dList_inv dPa_inv h3
  rw [e3] at h2
  obtain ⟨e2, o2⟩ := dNum_inv h2
  rw [e2] at h1
  have e1 := dBegin_inv h1
  refine ⟨?_, ?_, i64_in o2 (by omega) (by omega), o3⟩
  · rw [e1]; simp only [Pf.enc, List.append_assoc]
  · unfold Pf.right
    simp only [Bool.and_eq_true, List.all_eq_true]
    exact ⟨o2, o4, fun y hy => (o3 y hy).1⟩
theorem dProof_app {x : Pf} (hs : I64 x.size) (h : x.right = true) (ol : ∀ y ∈ x.parts, y.Ok) (r : List UInt8) : dProof (some (x.enc ++ r)) = some (x, some r) := by
  unfold Pf.right at h
  simp only [Bool.and_eq_true, List.all_eq_true] at h
  obtain ⟨o1, o2, o3⟩ := h
  have h64 := (inR_iff.1 o2).2
  unfold dProof Pf.enc
  simp only [List.append_assoc]
  rw [dBegin_app (by omega) (by omega), Option.bind_some, dNum_app hs.l hs.h o1, Option.bind_some]
  simp only
  rw [dList_app dPa_app o2 (by omega) (fun y hy => ⟨o3 y hy, ol y hy⟩), Option.bind_some]
end Go.Proofs.Ytinbjbfgfknpaaa
