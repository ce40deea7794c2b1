/- Package forms: sets and commits, read. -/
import Derived.Test.YtjcfdclgddjaoaaChecked
import Derived.WalkKit
import Derived.WalkLawsBesides
import Derived.Lib.Hide
import Derived.Deep.RegionHeld3
import Derived.Test.YtjcfdclgddjaoaaFcv
import Derived.Test.YtjcfdclgddjaoaaFt2
import Derived.Test.YtjcfdclgddjaoaaFqs
namespace Go.Proofs.Ytjcfdclgddjaoaa
open Go.RowKit
set_option linter.unusedVariables false
set_option linter.unusedSimpArgs false
set_option maxRecDepth 20000

theorem RLO.cases {α : Type} {w w' : World} {g : Nat} {F : Nat → Prop} {tb : Nat} {t : TypeId} {n : Nat} {p q : List Value} {et : TypeId} {cells : α → List Value} {r : Option (List α × St)} {e : Ending} (h : RLO w g F tb t n p q et cells r e w') : (r = none ∧ e = .panicked bad ∧ Chg (Two g tb) w w' ∧ ∃ L' : List Value, L'.length = n ∧ Hb w' tb t L'.toArray) ∨
    (∃ x, r = some x ∧ e = .returned (.tuple #[]) ∧ ∃ nb, w.heap.size ≤ nb ∧ Rst w g F tb t (p ++ .slice (some ⟨nb, 0, none⟩) x.1.length x.1.length :: q) x.2 w' ∧ Hb w' nb et (x.1.flatMap cells).toArray) := by
  cases r with
  | some x => exact .inr ⟨x, rfl, h.1, h.2⟩
  | none => exact .inl ⟨rfl, h.1, h.2⟩
theorem RLO.chg {α : Type} {w w' : World} {g : Nat} {F : Nat → Prop} {tb : Nat} {t : TypeId} {n : Nat} {p q : List Value} {et : TypeId} {cells : α → List Value} {r : Option (List α × St)} {e : Ending} (h : RLO w g F tb t n p q et cells r e w') : Chg (Two g tb) w w' := by
  cases r with
  | some x => obtain ⟨_, nb, _, h1, _⟩ := h; exact h1.chg
  | none => exact h.2.1
/-- What the reading of a commit leaves. -/
def RCO (w : World) (g : Nat) (F : Nat → Prop) (tb : Nat) (t : TypeId) (n : Nat) (p q : List Value) (r : Option (Cm × St)) (e : Ending) (w' : World) : Prop :=
  match r with
  | some x => e = .returned (.tuple #[]) ∧ ∃ nb, w.heap.size ≤ nb ∧ Rst w g F tb t (p ++ (x.1.cells (.slice (some ⟨nb, 0, none⟩) x.1.seals.length x.1.seals.length) ++ q)) x.2 w' ∧ Hb w' nb 127 (x.1.seals.flatMap Se.cells).toArray
  | none => e = .panicked bad ∧ Chg (Two g tb) w w' ∧ ∃ L' : List Value, L'.length = n ∧ Hb w' tb t L'.toArray
theorem RCO.cases {w w' : World} {g : Nat} {F : Nat → Prop} {tb : Nat} {t : TypeId} {n : Nat} {p q : List Value} {r : Option (Cm × St)} {e : Ending} (h : RCO w g F tb t n p q r e w') : (r = none ∧ e = .panicked bad ∧ Chg (Two g tb) w w' ∧ ∃ L' : List Value, L'.length = n ∧ Hb w' tb t L'.toArray) ∨
    (∃ x, r = some x ∧ e = .returned (.tuple #[]) ∧ ∃ nb, w.heap.size ≤ nb ∧ Rst w g F tb t (p ++ (x.1.cells (.slice (some ⟨nb, 0, none⟩) x.1.seals.length x.1.seals.length) ++ q)) x.2 w' ∧ Hb w' nb 127 (x.1.seals.flatMap Se.cells).toArray) := by
  cases r with
  | some x => exact .inr ⟨x, rfl, h.1, h.2⟩
  | none => exact .inl ⟨rfl, h.1, h.2⟩
theorem RCO.chg {w w' : World} {g : Nat} {F : Nat → Prop} {tb : Nat} {t : TypeId} {n : Nat} {p q : List Value} {r : Option (Cm × St)} {e : Ending} (h : RCO w g F tb t n p q r e w') : Chg (Two g tb) w w' := by
  cases r with
  | some x => obtain ⟨_, nb, _, h1, _⟩ := h; exact h1.chg
  | none => exact h.2.1

theorem listValidatorI_r (w : World) (g : Nat) (F : Nat → Prop) (tb o : Nat) (t : TypeId) (p q : List Value) (st : St) (S : Rst w g F tb t (p ++ .slice none 0 0 :: q) st w) (ho : o = p.length) :
    Calls Try.prog 103 #[.agg #[.pointer none, .pointer (some ⟨g, 0, none⟩)], .pointer (some ⟨tb, o, none⟩), .int .i64 64, .func (.func 104) #[] #[]] w (RLO w g F tb t (p ++ .slice none 0 0 :: q).length p q 125 Va.cells (dList dVa 64 st)) :=
  listValidator_r w g F tb o t p q none 0 0 st S ho (by unfold maxLen; omega) 64 (by omega)

theorem listSealI_r (w : World) (g : Nat) (F : Nat → Prop) (tb o : Nat) (t : TypeId) (p q : List Value) (st : St) (S : Rst w g F tb t (p ++ .slice none 0 0 :: q) st w) (ho : o = p.length) :
    Calls Try.prog 106 #[.agg #[.pointer none, .pointer (some ⟨g, 0, none⟩)], .pointer (some ⟨tb, o, none⟩), .int .i64 64, .func (.func 107) #[] #[]] w (RLO w g F tb t (p ++ .slice none 0 0 :: q).length p q 127 Se.cells (dList dSe 64 st)) :=
  listSeal_r w g F tb o t p q none 0 0 st S ho (by unfold maxLen; omega) 64 (by omega)
set_option maxHeartbeats 1600000 in
theorem set_r (w : World) (g : Nat) (F : Nat → Prop) (tb o : Nat) (t : TypeId) (p q : List Value)  (st : St) (S : Rst w g F tb t (p ++ (.slice none 0 0 :: q)) st w) (ho : o = p.length) :
    Calls Try.prog 63 #[.agg #[.pointer none, .pointer (some ⟨g, 0, none⟩)], .pointer (some ⟨tb, o, none⟩)] w (RLO w g F tb t (p ++ .slice none 0 0 :: q).length p q 125 Va.cells (dSet st)) := by
  generalize hn : (p ++ (.slice none 0 0 :: q)).length = n
  generalize hr : dSet st = r
  have HR := Lib.hid hr
  have HN := Lib.hid hn
  have HO := Lib.hid ho
  clear hr hn ho
  have S0 := S.non ((Chg.refl Non w).alloc (.cells #[.pointer none, .pointer (some ⟨g, 0, none⟩)] 138))
  have hw := S.nw (Nat.le_refl w.heap.size)
  have hx := Hb.new w 138 #[.pointer none, .pointer (some ⟨g, 0, none⟩)]
  have hgl := S.rdr.lt
  have htl := S.row.lt
  have hx0 : (w.alloc (.cells #[.pointer none, .pointer (some ⟨g, 0, none⟩)] 138)).cell? ⟨w.heap.size, 0, none⟩ = some (.pointer none) := hx.cell 0
  have hx1 : (w.alloc (.cells #[.pointer none, .pointer (some ⟨g, 0, none⟩)] 138)).cell? ⟨w.heap.size, 1, none⟩ = some (.pointer (some ⟨g, 0, none⟩)) := hx.cell 1
  have hBs : (w.alloc (.cells #[.pointer none, .pointer (some ⟨g, 0, none⟩)] 138)).heap.size = w.heap.size + 1 := by simp
  have S1 := S0.here
  clear hx S
  go_enter Try.func63, Try.ntmps63
  go_wp2_with fail
  generalize w.alloc (.cells #[.pointer none, .pointer (some ⟨g, 0, none⟩)] 138) = B at *
  have x0 := S1.chg.cell hx0 hw
  have x1 := S1.chg.cell hx1 hw
  refine (begin_r _ g F tb t _ st S1.here 3).mono ?_
  rintro e w2 h2
  rcases h2.cases with ⟨k, he, C, L', hL1, hL2⟩ | ⟨y, k, he, T2⟩
  · subst he; obtain rfl : r = none := HR.out.symm.trans (by (try simp only [Option.map_eq_none_iff] at k); simp [dSet, k]); go_wp2; exact ⟨rfl, rfl, (S0.chg.trans (S1.chg.trans C (fun _ h => .inl h)) (fun _ h => .inl h)), L', by (rw [hL1, ← HN.out]) <;> simp [bv_length, vH_length, hlens] <;> omega, hL2⟩
  subst he
  obtain ⟨z2, k2, rfl⟩ := Option.map_eq_some_iff.1 k
  clear k
  have S2 := S1.trans T2
  clear x0 x1 T2 h2
  have x0 := S2.chg.cell hx0 hw
  have x1 := S2.chg.cell hx1 hw
  go_wp2_with fail
  refine (listValidatorI_r _ g F tb o t p q z2 S2.here HO.out).mono ?_
  rintro e w3 h3
  rcases h3.cases with ⟨k, he, C, L', hL1, hL2⟩ | ⟨z3, k3, he, nb3, N3, T3, B3⟩
  · subst he; obtain rfl : r = none := HR.out.symm.trans (by (try simp only [Option.map_eq_none_iff] at k); simp [dSet, k2, k]); go_wp2; exact ⟨rfl, rfl, (S0.chg.trans (S2.chg.trans C (fun _ h => .inl h)) (fun _ h => .inl h)), L', by (rw [hL1, ← HN.out]) <;> simp [bv_length, vH_length, hlens] <;> omega, hL2⟩
  subst he
  have S3 := S2.trans T3
  have N3 : w.heap.size < nb3 := by have := S2.chg.size; omega
  clear x0 x1 T3 h3
  obtain rfl : r = some (_, z3.2) := HR.out.symm.trans (by simp only [dSet, k2, k3, Option.bind_some, Option.map_some]; rfl)
  go_wp2
  go_end0
  exact ⟨rfl, nb3, by omega, S0.trans S3, B3⟩
set_option maxHeartbeats 1600000 in
theorem commit_r (w : World) (g : Nat) (F : Nat → Prop) (tb o : Nat) (t : TypeId) (p q : List Value) (a0 a1 : Value) (o2 : List Value) (hlens : o2.length = 32) (st : St) (S : Rst w g F tb t (p ++ (a0 :: a1 :: (o2 ++ (.slice none 0 0 :: q)))) st w) (ho : o = p.length) :
    Calls Try.prog 66 #[.agg #[.pointer none, .pointer (some ⟨g, 0, none⟩)], .pointer (some ⟨tb, o, none⟩)] w (RCO w g F tb t (p ++ (a0 :: a1 :: (o2 ++ (.slice none 0 0 :: q)))).length p q (dCommit st)) := by
  generalize hn : (p ++ (a0 :: a1 :: (o2 ++ (.slice none 0 0 :: q)))).length = n
  generalize hr : dCommit st = r
  have HR := Lib.hid hr
  have HN := Lib.hid hn
  have HO := Lib.hid ho
  clear hr hn ho
  have S0 := S.non ((Chg.refl Non w).alloc (.cells #[.pointer none, .pointer (some ⟨g, 0, none⟩)] 138))
  have hw := S.nw (Nat.le_refl w.heap.size)
  have hx := Hb.new w 138 #[.pointer none, .pointer (some ⟨g, 0, none⟩)]
  have hgl := S.rdr.lt
  have htl := S.row.lt
  have hx0 : (w.alloc (.cells #[.pointer none, .pointer (some ⟨g, 0, none⟩)] 138)).cell? ⟨w.heap.size, 0, none⟩ = some (.pointer none) := hx.cell 0
  have hx1 : (w.alloc (.cells #[.pointer none, .pointer (some ⟨g, 0, none⟩)] 138)).cell? ⟨w.heap.size, 1, none⟩ = some (.pointer (some ⟨g, 0, none⟩)) := hx.cell 1
  have hBs : (w.alloc (.cells #[.pointer none, .pointer (some ⟨g, 0, none⟩)] 138)).heap.size = w.heap.size + 1 := by simp
  have S1 := S0.here
  clear hx S
  go_enter Try.func66, Try.ntmps66
  go_wp2_with fail
  generalize w.alloc (.cells #[.pointer none, .pointer (some ⟨g, 0, none⟩)] 138) = B at *
  have x0 := S1.chg.cell hx0 hw
  have x1 := S1.chg.cell hx1 hw
  refine (begin_r _ g F tb t _ st S1.here 4).mono ?_
  rintro e w2 h2
  rcases h2.cases with ⟨k, he, C, L', hL1, hL2⟩ | ⟨y, k, he, T2⟩
  · subst he; obtain rfl : r = none := HR.out.symm.trans (by (try simp only [Option.map_eq_none_iff] at k); simp [dCommit, k]); go_wp2; exact ⟨rfl, rfl, (S0.chg.trans (S1.chg.trans C (fun _ h => .inl h)) (fun _ h => .inl h)), L', by (rw [hL1, ← HN.out]) <;> simp [bv_length, vH_length, hlens] <;> omega, hL2⟩
  subst he
  obtain ⟨z2, k2, rfl⟩ := Option.map_eq_some_iff.1 k
  clear k
  have S2 := S1.trans T2
  clear x0 x1 T2 h2
  go_wp2_with fail
  have D3 := S2.non ((Chg.refl Non w2).drew)
  have x0 := D3.chg.cell hx0 hw
  have x1 := D3.chg.cell hx1 hw
  go_region_held (fun w' => w'.cell? ⟨w.heap.size, 0, none⟩ = some (.pointer none) ∧ w'.cell? ⟨w.heap.size, 1, none⟩ = some (.pointer (some ⟨g, 0, none⟩))) (first | exact ⟨y0, y1⟩ | exact ⟨x0, x1⟩ | assumption) (first | (go_at_call 83; go_loud (refine (height_r _ g F tb o t p (a1 :: (o2 ++ (.slice none 0 0 :: q))) a0 z2 D3.here HO.out).mono ?_; rintro e w3 h3; have y0 := h3.chg.cell x0 hw; have y1 := h3.chg.cell x1 hw; rcases h3.cases with ⟨k, he, C, L', hL1, hL2⟩ | ⟨y, k, he, T3⟩; (subst he; obtain rfl : r = none := HR.out.symm.trans (by (try simp only [Option.map_eq_none_iff] at k); simp [dCommit, k2, k]); exact ⟨rfl, rfl, (S0.chg.trans (D3.chg.trans C (fun _ h => .inl h)) (fun _ h => .inl h)), L', by (rw [hL1, ← HN.out]) <;> simp [bv_length, vH_length, hlens] <;> omega, hL2⟩); subst he; obtain ⟨z3, k3, rfl⟩ := Option.map_eq_some_iff.1 k; clear k)) | fail)
  have S3 := D3.trans T3
  clear x0 x1 T3 D3 y0 y1 h3
  go_wp2_with fail
  have D4 := S3.non ((Chg.refl Non w3).drew)
  have x0 := D4.chg.cell hx0 hw
  have x1 := D4.chg.cell hx1 hw
  go_region_held (fun w' => w'.cell? ⟨w.heap.size, 0, none⟩ = some (.pointer none) ∧ w'.cell? ⟨w.heap.size, 1, none⟩ = some (.pointer (some ⟨g, 0, none⟩))) (first | exact ⟨y0, y1⟩ | exact ⟨x0, x1⟩ | assumption) (first | (go_at_call 91; go_loud (refine (round_r _ g F tb (o + 1) t (p ++ [.int .i64 z3.1]) (o2 ++ (.slice none 0 0 :: q)) a1 z3.2 (D4.here.eq (by simp)) (by rw [HO.out]; simp)).mono ?_; rintro e w4 h4; have y0 := h4.chg.cell x0 hw; have y1 := h4.chg.cell x1 hw; rcases h4.cases with ⟨k, he, C, L', hL1, hL2⟩ | ⟨y, k, he, T4⟩; (subst he; obtain rfl : r = none := HR.out.symm.trans (by (try simp only [Option.map_eq_none_iff] at k); simp [dCommit, k2, k3, k]); exact ⟨rfl, rfl, (S0.chg.trans (D4.chg.trans C (fun _ h => .inl h)) (fun _ h => .inl h)), L', by (rw [hL1, ← HN.out]) <;> simp [bv_length, vH_length, hlens] <;> omega, hL2⟩); subst he; obtain ⟨z4, k4, rfl⟩ := Option.map_eq_some_iff.1 k; clear k)) | fail)
  have S4 := D4.trans T4
  clear x0 x1 T4 D4 y0 y1 h4
  go_wp2_with fail
  have D5 := S4.non ((Chg.refl Non w4).drew)
  have x0 := D5.chg.cell hx0 hw
  have x1 := D5.chg.cell hx1 hw
  go_region_held (fun w' => w'.cell? ⟨w.heap.size, 0, none⟩ = some (.pointer none) ∧ w'.cell? ⟨w.heap.size, 1, none⟩ = some (.pointer (some ⟨g, 0, none⟩))) (first | exact ⟨y0, y1⟩ | exact ⟨x0, x1⟩ | assumption) (first | (go_at_call 93; go_loud (refine (hash_r _ g F tb (o + 2) t (p ++ [.int .i64 z3.1, .int .i64 z4.1]) (.slice none 0 0 :: q) o2 z4.2 (D5.here.eq (by simp)) (by rw [HO.out]; simp) hlens).mono ?_; rintro e w5 h5; have y0 := h5.chg.cell x0 hw; have y1 := h5.chg.cell x1 hw; obtain ⟨rfl, T5⟩ := h5)) | fail)
  have S5 := D5.trans T5
  clear x0 x1 T5 D5 y0 y1
  go_wp2_with fail
  have D6 := S5.non ((Chg.refl Non w5).drew)
  have x0 := D6.chg.cell hx0 hw
  have x1 := D6.chg.cell hx1 hw
  go_region_held (fun w' => w'.cell? ⟨w.heap.size, 0, none⟩ = some (.pointer none) ∧ w'.cell? ⟨w.heap.size, 1, none⟩ = some (.pointer (some ⟨g, 0, none⟩))) (first | exact ⟨y0, y1⟩ | exact ⟨x0, x1⟩ | assumption) (first | (go_at_call 106; go_loud (refine (listSealI_r _ g F tb (o + 34) t (p ++ ([.int .i64 z3.1, .int .i64 z4.1] ++ bv (vH z4.2))) q (nH z4.2) (D6.here.eq (by simp)) (by rw [HO.out]; simp [bv_length, vH_length])).mono ?_; rintro e w6 h6; have y0 := h6.chg.cell x0 hw; have y1 := h6.chg.cell x1 hw; rcases h6.cases with ⟨k, he, C, L', hL1, hL2⟩ | ⟨z6, k6, he, nb6, N6, T6, B6⟩; (subst he; obtain rfl : r = none := HR.out.symm.trans (by (try simp only [Option.map_eq_none_iff] at k); simp [dCommit, k2, k3, k4, k]); exact ⟨rfl, rfl, (S0.chg.trans (D6.chg.trans C (fun _ h => .inl h)) (fun _ h => .inl h)), L', by (rw [hL1, ← HN.out]) <;> simp [bv_length, vH_length, hlens] <;> omega, hL2⟩); subst he)) | fail)
  have S6 := D6.trans T6
  have N6 : w.heap.size < nb6 := by have := D6.chg.size; omega
  clear x0 x1 T6 D6 y0 y1 h6
  obtain rfl : r = some (_, z6.2) := HR.out.symm.trans (by simp only [dCommit, k2, k3, k4, k6, Option.bind_some, Option.map_some]; rfl)
  go_wp2
  go_end0
  exact ⟨rfl, nb6, by omega, (S0.trans S6).eq (by simp [Cm.cells]), B6⟩
end Go.Proofs.Ytjcfdclgddjaoaa
