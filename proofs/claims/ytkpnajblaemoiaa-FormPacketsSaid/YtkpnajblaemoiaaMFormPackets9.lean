import Derived.Test.YtkpnajblaemoiaaChecked
import Derived.WalkKit
import Derived.WalkLawsBesides
import Derived.Lib.Hide
import Derived.Deep.RegionHeld3
import Derived.Recover
import Derived.Test.YtkpnajblaemoiaaMFormPackets5
import Derived.Test.YtkpnajblaemoiaaMFormPackets6
import Derived.Test.YtkpnajblaemoiaaMFormPackets7
import Derived.Test.YtkpnajblaemoiaaMFormPackets8
/- Package forms: sets and commits, read. -/
namespace Go.Proofs.Ytkpnajblaemoiaa
open Go.RowKit
set_option linter.unusedVariables false
set_option linter.unusedSimpArgs false
set_option maxRecDepth 20000

theorem RLO.cases {α : Type} {w w' : World} {g : Nat} {F : Nat → Prop} {tb : Nat} {t : TypeId} {n : Nat} {p q : List Value} {et : TypeId} {cells : α → List Value} {r : Option (List α × St)} {e : Ending} (h : RLO w g F tb t n p q et cells r e w') : (r = none ∧ e = .panicked bad ∧ Chg (Two g tb) w w' ∧ ∃ L' : List Value, L'.length = n ∧ Hb w' tb t L'.toArray) ∨
    (∃ x, r = some x ∧ e = .returned (.tuple #[]) ∧ ∃ nb, w.heap.size ≤ nb ∧ Rst w g F tb t (p ++ .slice (some ⟨nb, 0, none⟩) x.1.length x.1.length :: q) x.2 w' ∧ Hb w' nb et (x.1.flatMap cells).toArray) := by
  cases r with
  | some x => exact .inr ⟨x, rfl, h.1, h.2⟩
  | none => exact .inl ⟨rfl, h.1, h.2⟩
theorem RLO.chg {α : Type} {w w' : World} {g : Nat} {F : Nat → Prop} {tb : Nat} {t : TypeId} {n : Nat} {p q : List Value} {et : TypeId} {cells : α → List Value} {r : Option (List α × St)} {e : Ending} (h : RLO w g F tb t n p q et cells r e w') : Chg (Two g tb) w w' := by
  cases r with
  | some x => obtain ⟨_, nb, _, h1, _⟩ := h; exact h1.chg
  | none => exact h.2.1
/-- What the reading of a commit leaves. -/
def RCO (w : World) (g : Nat) (F : Nat → Prop) (tb : Nat) (t : TypeId) (n : Nat) (p q : List Value) (r : Option (Cm × St)) (e : Ending) (w' : World) : Prop :=
  match r with
  | some x => e = .returned (.tuple #[]) ∧ ∃ nb, w.heap.size ≤ nb ∧ Rst w g F tb t (p ++ (x.1.cells (.slice (some ⟨nb, 0, none⟩) x.1.seals.length x.1.seals.length) ++ q)) x.2 w' ∧ Hb w' nb 125 (x.1.seals.flatMap Se.cells).toArray
  | none => e = .panicked bad ∧ Chg (Two g tb) w w' ∧ ∃ L' : List Value, L'.length = n ∧ Hb w' tb t L'.toArray
theorem RCO.cases {w w' : World} {g : Nat} {F : Nat → Prop} {tb : Nat} {t : TypeId} {n : Nat} {p q : List Value} {r : Option (Cm × St)} {e : Ending} (h : RCO w g F tb t n p q r e w') : (r = none ∧ e = .panicked bad ∧ Chg (Two g tb) w w' ∧ ∃ L' : List Value, L'.length = n ∧ Hb w' tb t L'.toArray) ∨
    (∃ x, r = some x ∧ e = .returned (.tuple #[]) ∧ ∃ nb, w.heap.size ≤ nb ∧ Rst w g F tb t (p ++ (x.1.cells (.slice (some ⟨nb, 0, none⟩) x.1.seals.length x.1.seals.length) ++ q)) x.2 w' ∧ Hb w' nb 125 (x.1.seals.flatMap Se.cells).toArray) := by
  cases r with
  | some x => exact .inr ⟨x, rfl, h.1, h.2⟩
  | none => exact .inl ⟨rfl, h.1, h.2⟩
theorem RCO.chg {w w' : World} {g : Nat} {F : Nat → Prop} {tb : Nat} {t : TypeId} {n : Nat} {p q : List Value} {r : Option (Cm × St)} {e : Ending} (h : RCO w g F tb t n p q r e w') : Chg (Two g tb) w w' := by
  cases r with
  | some x => obtain ⟨_, nb, _, h1, _⟩ := h; exact h1.chg
  | none => exact h.2.1

theorem listValidatorI_r (w : World) (g : Nat) (F : Nat → Prop) (tb o : Nat) (t : TypeId) (p q : List Value) (st : St) (S : Rst w g F tb t (p ++ .slice none 0 0 :: q) st w) (ho : o = p.length) :
    Calls Try.prog 100 #[.agg #[.pointer none, .pointer (some ⟨g, 0, none⟩)], .pointer (some ⟨tb, o, none⟩), .int .i64 64, .func (.func 101) #[] #[]] w (RLO w g F tb t (p ++ .slice none 0 0 :: q).length p q 123 Va.cells (dList dVa 64 st)) :=
  listValidator_r w g F tb o t p q none 0 0 st S ho (by unfold maxLen; omega) 64 (by omega)

theorem listSealI_r (w : World) (g : Nat) (F : Nat → Prop) (tb o : Nat) (t : TypeId) (p q : List Value) (st : St) (S : Rst w g F tb t (p ++ .slice none 0 0 :: q) st w) (ho : o = p.length) :
    Calls Try.prog 103 #[.agg #[.pointer none, .pointer (some ⟨g, 0, none⟩)], .pointer (some ⟨tb, o, none⟩), .int .i64 64, .func (.func 104) #[] #[]] w (RLO w g F tb t (p ++ .slice none 0 0 :: q).length p q 125 Se.cells (dList dSe 64 st)) :=
  listSeal_r w g F tb o t p q none 0 0 st S ho (by unfold maxLen; omega) 64 (by omega)
set_option maxHeartbeats 1600000 in
theorem set_r (w : World) (g : Nat) (F : Nat → Prop) (tb o : Nat) (t : TypeId) (p q : List Value)  (st : St) (S : Rst w g F tb t (p ++ (.slice none 0 0 :: q)) st w) (ho : o = p.length) :
    Calls Try.prog 60 #[.agg #[.pointer none, .pointer (some ⟨g, 0, none⟩)], .pointer (some ⟨tb, o, none⟩)] w (RLO w g F tb t (p ++ .slice none 0 0 :: q).length p q 123 Va.cells (dSet st)) := by
  generalize hn : (p ++ (.slice none 0 0 :: q)).length = n
  generalize hr : dSet st = r
  have HR := Lib.hid hr
  have HN := Lib.hid hn
  have HO := Lib.hid ho
  clear hr hn ho
  have S0 := S.non ((Chg.refl Non w).alloc (.cells #[.pointer none, .pointer (some ⟨g, 0, none⟩)] 136))
  have hw := S.nw (Nat.le_refl w.heap.size)
  have hx := Hb.new w 136 #[.pointer none, .pointer (some ⟨g, 0, none⟩)]
  have hgl := S.rdr.lt
  have htl := S.row.lt
  have hx0 : (w.alloc (.cells #[.pointer none, .pointer (some ⟨g, 0, none⟩)] 136)).cell? ⟨w.heap.size, 0, none⟩ = some (.pointer none) := hx.cell 0
  have hx1 : (w.alloc (.cells #[.pointer none, .pointer (some ⟨g, 0, none⟩)] 136)).cell? ⟨w.heap.size, 1, none⟩ = some (.pointer (some ⟨g, 0, none⟩)) := hx.cell 1
  have hBs : (w.alloc (.cells #[.pointer none, .pointer (some ⟨g, 0, none⟩)] 136)).heap.size = w.heap.size + 1 := by simp
  have S1 := S0.here
  clear hx S
  go_enter Try.func60, Try.ntmps60
  go_wp2_with fail
  generalize w.alloc (.cells #[.pointer none, .pointer (some ⟨g, 0, none⟩)] 136) = B at *
  have x0 := S1.chg.cell hx0 hw
  have x1 := S1.chg.cell hx1 hw
  refine (begin_r _ g F tb t _ st S1.here 3).mono ?_
  rintro e w2 h2
  rcases h2.cases with ⟨k, he, C, L', hL1, hL2⟩ | ⟨y, k, he, T2⟩
  · subst he; obtain rfl : r = none := HR.out.symm.trans (by (try simp only [Option.map_eq_none_iff] at k); simp [dSet, k]); go_wp2; exact ⟨rfl, rfl, (S0.chg.trans (S1.chg.trans C (fun _ h => .inl h)) (fun _ h => .inl h)), L', by (rw [hL1, ← HN.out]) <;> simp [bv_length, vH_length, hlens] <;> omega, hL2⟩
  subst he
  obtain ⟨z2, k2, rfl⟩ := Option.map_eq_some_iff.1 k
  clear k
  have S2 := S1.trans T2
  clear x0 x1 T2 h2
  have x0 := S2.chg.cell hx0 hw
  have x1 := S2.chg.cell hx1 hw
  go_wp2_with fail
  refine (listValidatorI_r _ g F tb o t p q z2 S2.here HO.out).mono ?_
  rintro e w3 h3
  rcases h3.cases with ⟨k, he, C, L', hL1, hL2⟩ | ⟨z3, k3, he, nb3, N3, T3, B3⟩
  · subst he; obtain rfl : r = none := HR.out.symm.trans (by (try simp only [Option.map_eq_none_iff] at k); simp [dSet, k2, k]); go_wp2; exact ⟨rfl, rfl, (S0.chg.trans (S2.chg.trans C (fun _ h => .inl h)) (fun _ h => .inl h)), L', by (rw [hL1, ← HN.out]) <;> simp [bv_length, vH_length, hlens] <;> omega, hL2⟩
  subst he
  have S3 := S2.trans T3
  have N3 : w.heap.size < nb3 := by have := S2.chg.size; omega
  clear x0 x1 T3 h3
  obtain rfl : r = some (_, z3.2) := HR.out.symm.trans (by simp only [dSet, k2, k3, Option.bind_some, Option.map_some]; rfl)
  go_wp2
  go_end0
  exact ⟨rfl, nb3, by omega, S0.trans S3, B3⟩
set_option maxHeartbeats 1600000 in
theorem commit_r (w : World) (g : Nat) (F : Nat → Prop) (tb o : Nat) (t : TypeId) (p q : List Value) (a0 a1 : Value) (o2 : List Value) (hlens : o2.length = 32) (st : St) (S : Rst w g F tb t (p ++ (a0 :: a1 :: (o2 ++ (.slice none 0 0 :: q)))) st w) (ho : o = p.length) :
    Calls Try.prog 63 #[.agg #[.pointer none, .pointer (some ⟨g, 0, none⟩)], .pointer (some ⟨tb, o, none⟩)] w (RCO w g F tb t (p ++ (a0 :: a1 :: (o2 ++ (.slice none 0 0 :: q)))).length p q (dCommit st)) := by
  generalize hn : (p ++ (a0 :: a1 :: (o2 ++ (.slice none 0 0 :: q)))).length = n
  generalize hr : dCommit st = r
  have HR := Lib.hid hr
  have HN := Lib.hid hn
  have HO := Lib.hid ho
  clear hr hn ho
  have S0 := S.non ((Chg.refl Non w).alloc (.cells #[.pointer none, .pointer (some ⟨g, 0, none⟩)] 136))
  have hw := S.nw (Nat.le_refl w.heap.size)
  have hx := Hb.new w 136 #[.pointer none, .pointer (some ⟨g, 0, none⟩)]
  have hgl := S.rdr.lt
  have htl := S.row.lt
  have hx0 : (w.alloc (.cells #[.pointer none, .pointer (some ⟨g, 0, none⟩)] 136)).cell? ⟨w.heap.size, 0, none⟩ = some (.pointer none) := hx.cell 0
  have hx1 : (w.alloc (.cells #[.pointer none, .pointer (some ⟨g, 0, none⟩)] 136)).cell? ⟨w.heap.size, 1, none⟩ = some (.pointer (some ⟨g, 0, none⟩)) := hx.cell 1
  have hBs : (w.alloc (.cells #[.pointer none, .pointer (some ⟨g, 0, none⟩)] 136)).heap.size = w.heap.size + 1 := by simp
  have S1 := S0.here
  clear hx S
  go_enter Try.func63, Try.ntmps63
  go_wp2_with fail
  generalize w.alloc (.cells #[.pointer none, .pointer (some ⟨g, 0, none⟩)] 136) = B at *
  have x0 := S1.chg.cell hx0 hw
  have x1 := S1.chg.cell hx1 hw
  refine (begin_r _ g F tb t _ st S1.here 4).mono ?_
  rintro e w2 h2
  rcases h2.cases with ⟨k, he, C, L', hL1, hL2⟩ | ⟨y, k, he, T2⟩
  · subst he; obtain rfl : r = none := HR.out.symm.trans (by (try simp only [Option.map_eq_none_iff] at k); simp [dCommit, k]); go_wp2; exact ⟨rfl, rfl, (S0.chg.trans (S1.chg.trans C (fun _ h => .inl h)) (fun _ h => .inl h)), L', by (rw [hL1, ← HN.out]) <;> simp [bv_length, vH_length, hlens] <;> omega, hL2⟩
  subst he
  obtain ⟨z2, k2, rfl⟩ := Option.map_eq_some_iff.1 k
  clear k
  have S2 := S1.trans T2
  clear x0 x1 T2 h2
  go_wp2_with fail
  have D3 := S2.non ((Chg.refl Non w2).drew)
  have x0 := D3.chg.cell hx0 hw
  have x1 := D3.chg.cell hx1 hw
  go_region_held (fun w' => w'.cell? ⟨w.heap.size, 0, none⟩ = some (.pointer none) ∧ w'.cell? ⟨w.heap.size, 1, none⟩ = some (.pointer (some ⟨g, 0, none⟩))) (first | exact ⟨y0, y1⟩ | exact ⟨x0, x1⟩ | assumption) (first | (go_at_call 80; go_loud (refine (height_r _ g F tb o t p (a1 :: (o2 ++ (.slice none 0 0 :: q))) a0 z2 D3.here HO.out).mono ?_; rintro e w3 h3; have y0 := h3.chg.cell x0 hw; have y1 := h3.chg.cell x1 hw; rcases h3.cases with ⟨k, he, C, L', hL1, hL2⟩ | ⟨y, k, he, T3⟩; (subst he; obtain rfl : r = none := HR.out.symm.trans (by (try simp only [Option.map_eq_none_iff] at k); simp [dCommit, k2, k]); exact ⟨rfl, rfl, (S0.chg.trans (D3.chg.trans C (fun _ h => .inl h)) (fun _ h => .inl h)), L', by (rw [hL1, ← HN.out]) <;> simp [bv_length, vH_length, hlens] <;> omega, hL2⟩); subst he; obtain ⟨z3, k3, rfl⟩ := Option.map_eq_some_iff.1 k; clear k)) | fail)
  have S3 := D3.trans T3
  clear x0 x1 T3 D3 y0 y1 h3
  go_wp2_with fail
  have D4 := S3.non ((Chg.refl Non w3).drew)
  have x0 := D4.chg.cell hx0 hw
  have x1 := D4.chg.cell hx1 hw
  go_region_held (fun w' => w'.cell? ⟨w.heap.size, 0, none⟩ = some (.pointer none) ∧ w'.cell? ⟨w.heap.size, 1, none⟩ = some (.pointer (some ⟨g, 0, none⟩))) (first | exact ⟨y0, y1⟩ | exact ⟨x0, x1⟩ | assumption) (first | (go_at_call 88; go_loud (refine (round_r _ g F tb (o + 1) t (p ++ [.int .i64 z3.1]) (o2 ++ (.slice none 0 0 :: q)) a1 z3.2 (D4.here.eq (by simp)) (by rw [HO.out]; simp)).mono ?_; rintro e w4 h4; have y0 := h4.chg.cell x0 hw; have y1 := h4.chg.cell x1 hw; rcases h4.cases with ⟨k, he, C, L', hL1, hL2⟩ | ⟨y, k, he, T4⟩; (subst he; obtain rfl : r = none := HR.out.symm.trans (by (try simp only [Option.map_eq_none_iff] at k); simp [dCommit, k2, k3, k]); exact ⟨rfl, rfl, (S0.chg.trans (D4.chg.trans C (fun _ h => .inl h)) (fun _ h => .inl h)), L', by (rw [hL1, ← HN.out]) <;> simp [bv_length, vH_length, hlens] <;> omega, hL2⟩); subst he; obtain ⟨z4, k4, rfl⟩ := Option.map_eq_some_iff.1 k; clear k)) | fail)
  have S4 := D4.trans T4
  clear x0 x1 T4 D4 y0 y1 h4
  go_wp2_with fail
  have D5 := S4.non ((Chg.refl Non w4).drew)
  have x0 := D5.chg.cell hx0 hw
  have x1 := D5.chg.cell hx1 hw
  go_region_held (fun w' => w'.cell? ⟨w.heap.size, 0, none⟩ = some (.pointer none) ∧ w'.cell? ⟨w.heap.size, 1, none⟩ = some (.pointer (some ⟨g, 0, none⟩))) (first | exact ⟨y0, y1⟩ | exact ⟨x0, x1⟩ | assumption) (first | (go_at_call 90; go_loud (refine (hash_r _ g F tb (o + 2) t (p ++ [.int .i64 z3.1, .int .i64 z4.1]) (.slice none 0 0 :: q) o2 z4.2 (D5.here.eq (by simp)) (by rw [HO.out]; simp) hlens).mono ?_; rintro e w5 h5; have y0 := h5.chg.cell x0 hw; have y1 := h5.chg.cell x1 hw; obtain ⟨rfl, T5⟩ := h5)) | fail)
  have S5 := D5.trans T5
  clear x0 x1 T5 D5 y0 y1
  go_wp2_with fail
  have D6 := S5.non ((Chg.refl Non w5).drew)
  have x0 := D6.chg.cell hx0 hw
  have x1 := D6.chg.cell hx1 hw
  go_region_held (fun w' => w'.cell? ⟨w.heap.size, 0, none⟩ = some (.pointer none) ∧ w'.cell? ⟨w.heap.size, 1, none⟩ = some (.pointer (some ⟨g, 0, none⟩))) (first | exact ⟨y0, y1⟩ | exact ⟨x0, x1⟩ | assumption) (first | (go_at_call 103; go_loud (refine (listSealI_r _ g F tb (o + 34) t (p ++ ([.int .i64 z3.1, .int .i64 z4.1] ++ bv (vH z4.2))) q (nH z4.2) (D6.here.eq (by simp)) (by rw [HO.out]; simp [bv_length, vH_length])).mono ?_; rintro e w6 h6; have y0 := h6.chg.cell x0 hw; have y1 := h6.chg.cell x1 hw; rcases h6.cases with ⟨k, he, C, L', hL1, hL2⟩ | ⟨z6, k6, he, nb6, N6, T6, B6⟩; (subst he; obtain rfl : r = none := HR.out.symm.trans (by (try simp only [Option.map_eq_none_iff] at k); simp [dCommit, k2, k3, k4, k]); exact ⟨rfl, rfl, (S0.chg.trans (D6.chg.trans C (fun _ h => .inl h)) (fun _ h => .inl h)), L', by (rw [hL1, ← HN.out]) <;> simp [bv_length, vH_length, hlens] <;> omega, hL2⟩); subst he)) | fail)
  have S6 := D6.trans T6
  have N6 : w.heap.size < nb6 := by have := D6.chg.size; omega
  clear x0 x1 T6 D6 y0 y1 h6
  obtain rfl : r = some (_, z6.2) := HR.out.symm.trans (by simp only [dCommit, k2, k3, k4, k6, Option.bind_some, Option.map_some]; rfl)
  go_wp2
  go_end0
  exact ⟨rfl, nb6, by omega, (S0.trans S6).eq (by simp [Cm.cells]), B6⟩
end Go.Proofs.Ytkpnajblaemoiaa

/- Package forms: headers, read: contracts. -/
namespace Go.Proofs.Ytkpnajblaemoiaa
open Go.RowKit
set_option linter.unusedVariables false
set_option linter.unusedSimpArgs false
set_option maxRecDepth 20000
theorem header_r_old {old : List Value} (h : old.length = 163) : ∃ (a0 : Value) (a1 : Value) (a2 : Value) (o3 : List Value) (o4 : List Value) (o5 : List Value) (o6 : List Value) (o7 : List Value), old = [a0] ++ [a1] ++ [a2] ++ o3 ++ o4 ++ o5 ++ o6 ++ o7 ∧ o3.length = 32 ∧ o4.length = 32 ∧ o5.length = 32 ∧ o6.length = 32 ∧ o7.length = 32 ∧ True := by
  refine ⟨(old[0]'(by omega)), (old[1]'(by omega)), (old[2]'(by omega)), ((old.drop 3).take 32), ((old.drop 35).take 32), ((old.drop 67).take 32), ((old.drop 99).take 32), ((old.drop 131).take 32), ?_, by simp; omega, by simp; omega, by simp; omega, by simp; omega, by simp; omega, trivial⟩
  apply List.ext_getElem?
  intro j
  have hone : ∀ (i : Nat) (hi : i < old.length), [old[i]] = (old.drop i).take 1 := by
    intro i hi
    apply List.ext_getElem?
    intro k
    rw [List.getElem?_take, List.getElem?_drop]
    by_cases hk : k < 1
    · obtain rfl : k = 0 := by omega
      simp [List.getElem?_eq_getElem hi]
    · rw [if_neg hk, List.getElem?_eq_none (by simp; omega)]
  simp only [hone]
  have hj : ∀ (a b c : Nat), a + b = c → (old.drop a).take b ++ old.drop c = old.drop a := by
    intro a b c e
    subst e
    rw [← List.drop_drop, List.take_append_drop]
  have he : old.drop 163 = [] := List.drop_of_length_le (by omega)
  have hall : (old.drop 0).take 1 ++ ((old.drop 1).take 1 ++ ((old.drop 2).take 1 ++ ((old.drop 3).take 32 ++ ((old.drop 35).take 32 ++ ((old.drop 67).take 32 ++ ((old.drop 99).take 32 ++ ((old.drop 131).take 32 ++ old.drop 163))))))) = old := by
    rw [hj 131 32 163 rfl, hj 99 32 131 rfl, hj 67 32 99 rfl, hj 35 32 67 rfl, hj 3 32 35 rfl, hj 2 1 3 rfl, hj 1 1 2 rfl, hj 0 1 1 rfl]
    rfl
  rw [he, List.append_nil] at hall
  conv => lhs; rw [← hall]
  try simp only [List.append_assoc]

set_option maxHeartbeats 1600000 in
theorem header_r (w : World) (g : Nat) (F : Nat → Prop) (tb o : Nat) (t : TypeId) (p q old : List Value) (st : St) (S : Rst w g F tb t (p ++ (old ++ q)) st w) (ho : o = p.length) (hold : old.length = 163) :
    Calls Try.prog 50 #[.agg #[.pointer none, .pointer (some ⟨g, 0, none⟩)], .pointer (some ⟨tb, o, none⟩)] w (RO w g F tb t (p ++ (old ++ q)).length ((dHeader st).map fun y => (p ++ (y.1.cells ++ q), y.2))) := by
  obtain ⟨a0, a1, a2, o3, o4, o5, o6, o7, rfl, l_o3, l_o4, l_o5, l_o6, l_o7, _⟩ := header_r_old hold
  generalize hn : (p ++ (_ ++ q)).length = n
  generalize hr : (dHeader st).map _ = r
  have HR := Lib.hid hr
  have HN := Lib.hid hn
  have HO := Lib.hid ho
  clear hr hn ho hold
  have S0 := S.non ((Chg.refl Non w).alloc (.cells #[.pointer none, .pointer (some ⟨g, 0, none⟩)] 136))
  have hw := S.nw (Nat.le_refl w.heap.size)
  have hx := Hb.new w 136 #[.pointer none, .pointer (some ⟨g, 0, none⟩)]
  have hx0 : (w.alloc (.cells #[.pointer none, .pointer (some ⟨g, 0, none⟩)] 136)).cell? ⟨w.heap.size, 0, none⟩ = some (.pointer none) := hx.cell 0
  have hx1 : (w.alloc (.cells #[.pointer none, .pointer (some ⟨g, 0, none⟩)] 136)).cell? ⟨w.heap.size, 1, none⟩ = some (.pointer (some ⟨g, 0, none⟩)) := hx.cell 1
  have S1 := S0.here
  obtain ⟨B, hB⟩ : ∃ B, B = w.alloc (.cells #[.pointer none, .pointer (some ⟨g, 0, none⟩)] 136) := ⟨_, rfl⟩
  clear hx S
  go_enter Try.func50, Try.ntmps50
  go_wp2_with fail
  rw [← hB] at S0 hx0 hx1 S1 ⊢
  clear hB
  have x0 := S1.chg.cell hx0 hw
  have x1 := S1.chg.cell hx1 hw
  go_wp2_with (first | (go_at_call 76; go_loud (refine (begin_r _ g F tb t _ st S1.here 2).mono ?_; rintro e w2 h2; rcases h2.cases with ⟨k, he, C, L', hL1, hL2⟩ | ⟨y, k, he, T2⟩; (subst he; obtain rfl : r = none := HR.out.symm.trans (by (simp only [Option.map_eq_none_iff] at k) <;> simp [dHeader, k]); exact ⟨rfl, rfl, (S0.chg.trans (S1.chg.trans C (fun _ h => .inl h)) (fun _ h => .inl h)), L', by (rw [hL1, ← HN.out]) <;> simp [bv_length, vH_length, l_o3, l_o4, l_o5, l_o6, l_o7], hL2⟩); subst he; obtain ⟨z2, k2, rfl⟩ := Option.map_eq_some_iff.1 k; clear k)) | fail)
  have S2 := S1.trans T2
  clear T2 x0 x1
  clear h2
  go_wp2_with fail
  have D3 := S2.non ((Chg.refl Non w2).drew)
  have x0 := D3.chg.cell hx0 hw
  have x1 := D3.chg.cell hx1 hw
  go_region_held (fun w' => w'.cell? ⟨w.heap.size, 0, none⟩ = some (.pointer none) ∧ w'.cell? ⟨w.heap.size, 1, none⟩ = some (.pointer (some ⟨g, 0, none⟩))) (first | exact ⟨y0, y1⟩ | exact ⟨x0, x1⟩ | assumption) (first | (go_at_call 78; go_loud (refine (name_r _ g F tb o t (p) (a1 :: a2 :: o3 ++ (o4 ++ (o5 ++ (o6 ++ (o7 ++ (q)))))) a0 z2 (D3.here.eq (by simp)) HO.out).mono ?_; rintro e w3 h3; have y0 := h3.chg.cell x0 hw; have y1 := h3.chg.cell x1 hw; rcases h3.cases with ⟨k, he, C, L', hL1, hL2⟩ | ⟨y, k, he, T3⟩; (subst he; obtain rfl : r = none := HR.out.symm.trans (by (simp only [Option.map_eq_none_iff] at k) <;> simp [dHeader, k2, k]); exact ⟨rfl, rfl, (S0.chg.trans (D3.chg.trans C (fun _ h => .inl h)) (fun _ h => .inl h)), L', by (rw [hL1, ← HN.out]) <;> simp [bv_length, vH_length, l_o3, l_o4, l_o5, l_o6, l_o7], hL2⟩); subst he; obtain ⟨z3, k3, rfl⟩ := Option.map_eq_some_iff.1 k; clear k)) | fail)
  have S3 := D3.trans T3
  clear D3 T3 x0 x1 y0 y1
  clear h3
  go_wp2_with fail
  have D4 := S3.non ((Chg.refl Non w3).drew)
  have x0 := D4.chg.cell hx0 hw
  have x1 := D4.chg.cell hx1 hw
  go_region_held (fun w' => w'.cell? ⟨w.heap.size, 0, none⟩ = some (.pointer none) ∧ w'.cell? ⟨w.heap.size, 1, none⟩ = some (.pointer (some ⟨g, 0, none⟩))) (first | exact ⟨y0, y1⟩ | exact ⟨x0, x1⟩ | assumption) (first | (go_at_call 80; go_loud (refine (height_r _ g F tb (o + 1) t (p ++ (.string z3.1 :: [])) (a2 :: o3 ++ (o4 ++ (o5 ++ (o6 ++ (o7 ++ (q)))))) a1 z3.2 (D4.here.eq (by simp)) (by rw [HO.out]; simp [bv_length, vH_length])).mono ?_; rintro e w4 h4; have y0 := h4.chg.cell x0 hw; have y1 := h4.chg.cell x1 hw; rcases h4.cases with ⟨k, he, C, L', hL1, hL2⟩ | ⟨y, k, he, T4⟩; (subst he; obtain rfl : r = none := HR.out.symm.trans (by (simp only [Option.map_eq_none_iff] at k) <;> simp [dHeader, k2, k3, k]); exact ⟨rfl, rfl, (S0.chg.trans (D4.chg.trans C (fun _ h => .inl h)) (fun _ h => .inl h)), L', by (rw [hL1, ← HN.out]) <;> simp [bv_length, vH_length, l_o3, l_o4, l_o5, l_o6, l_o7], hL2⟩); subst he; obtain ⟨z4, k4, rfl⟩ := Option.map_eq_some_iff.1 k; clear k)) | fail)
  have S4 := D4.trans T4
  clear D4 T4 x0 x1 y0 y1
  clear h4
  go_wp2_with fail
  have D5 := S4.non ((Chg.refl Non w4).drew)
  have x0 := D5.chg.cell hx0 hw
  have x1 := D5.chg.cell hx1 hw
  go_region_held (fun w' => w'.cell? ⟨w.heap.size, 0, none⟩ = some (.pointer none) ∧ w'.cell? ⟨w.heap.size, 1, none⟩ = some (.pointer (some ⟨g, 0, none⟩))) (first | exact ⟨y0, y1⟩ | exact ⟨x0, x1⟩ | assumption) (first | (go_at_call 77; go_loud (refine (number_r _ g F tb (o + 2) t (p ++ (.string z3.1 :: .int .i64 z4.1 :: [])) (o3 ++ (o4 ++ (o5 ++ (o6 ++ (o7 ++ (q)))))) a2 z4.2 (D5.here.eq (by simp)) (by rw [HO.out]; simp [bv_length, vH_length]) 0 1099511627776).mono ?_; rintro e w5 h5; have y0 := h5.chg.cell x0 hw; have y1 := h5.chg.cell x1 hw; rcases h5.cases with ⟨k, he, C, L', hL1, hL2⟩ | ⟨y, k, he, T5⟩; (subst he; obtain rfl : r = none := HR.out.symm.trans (by (simp only [Option.map_eq_none_iff] at k) <;> simp [dHeader, k2, k3, k4, k]); exact ⟨rfl, rfl, (S0.chg.trans (D5.chg.trans C (fun _ h => .inl h)) (fun _ h => .inl h)), L', by (rw [hL1, ← HN.out]) <;> simp [bv_length, vH_length, l_o3, l_o4, l_o5, l_o6, l_o7], hL2⟩); subst he; obtain ⟨z5, k5, rfl⟩ := Option.map_eq_some_iff.1 k; clear k)) | fail)
  have S5 := D5.trans T5
  clear D5 T5 x0 x1 y0 y1
  clear h5
  go_wp2_with fail
  have D6 := S5.non ((Chg.refl Non w5).drew)
  have x0 := D6.chg.cell hx0 hw
  have x1 := D6.chg.cell hx1 hw
  go_region_held (fun w' => w'.cell? ⟨w.heap.size, 0, none⟩ = some (.pointer none) ∧ w'.cell? ⟨w.heap.size, 1, none⟩ = some (.pointer (some ⟨g, 0, none⟩))) (first | exact ⟨y0, y1⟩ | exact ⟨x0, x1⟩ | assumption) (first | (go_at_call 90; go_loud (refine (hash_r _ g F tb (o + 3) t (p ++ (.string z3.1 :: .int .i64 z4.1 :: .int .i64 z5.1 :: [])) (o4 ++ (o5 ++ (o6 ++ (o7 ++ (q))))) o3 z5.2 (D6.here.eq (by simp)) (by rw [HO.out]; simp [bv_length, vH_length]) l_o3).mono ?_; rintro e w6 h6; have y0 := h6.chg.cell x0 hw; have y1 := h6.chg.cell x1 hw; obtain ⟨rfl, T6⟩ := h6)) | fail)
  have S6 := D6.trans T6
  clear D6 T6 x0 x1 y0 y1
  go_wp2_with fail
  have D7 := S6.non ((Chg.refl Non w6).drew)
  have x0 := D7.chg.cell hx0 hw
  have x1 := D7.chg.cell hx1 hw
  go_region_held (fun w' => w'.cell? ⟨w.heap.size, 0, none⟩ = some (.pointer none) ∧ w'.cell? ⟨w.heap.size, 1, none⟩ = some (.pointer (some ⟨g, 0, none⟩))) (first | exact ⟨y0, y1⟩ | exact ⟨x0, x1⟩ | assumption) (first | (go_at_call 90; go_loud (refine (hash_r _ g F tb (o + 35) t (p ++ (.string z3.1 :: .int .i64 z4.1 :: .int .i64 z5.1 :: bv (vH z5.2) ++ ([]))) (o5 ++ (o6 ++ (o7 ++ (q)))) o4 (nH z5.2) (D7.here.eq (by simp)) (by rw [HO.out]; simp [bv_length, vH_length]) l_o4).mono ?_; rintro e w7 h7; have y0 := h7.chg.cell x0 hw; have y1 := h7.chg.cell x1 hw; obtain ⟨rfl, T7⟩ := h7)) | fail)
  have S7 := D7.trans T7
  clear D7 T7 x0 x1 y0 y1
  go_wp2_with fail
  have D8 := S7.non ((Chg.refl Non w7).drew)
  have x0 := D8.chg.cell hx0 hw
  have x1 := D8.chg.cell hx1 hw
  go_region_held (fun w' => w'.cell? ⟨w.heap.size, 0, none⟩ = some (.pointer none) ∧ w'.cell? ⟨w.heap.size, 1, none⟩ = some (.pointer (some ⟨g, 0, none⟩))) (first | exact ⟨y0, y1⟩ | exact ⟨x0, x1⟩ | assumption) (first | (go_at_call 90; go_loud (refine (hash_r _ g F tb (o + 67) t (p ++ (.string z3.1 :: .int .i64 z4.1 :: .int .i64 z5.1 :: bv (vH z5.2) ++ (bv (vH (nH z5.2)) ++ ([])))) (o6 ++ (o7 ++ (q))) o5 (nH (nH z5.2)) (D8.here.eq (by simp)) (by rw [HO.out]; simp [bv_length, vH_length]) l_o5).mono ?_; rintro e w8 h8; have y0 := h8.chg.cell x0 hw; have y1 := h8.chg.cell x1 hw; obtain ⟨rfl, T8⟩ := h8)) | fail)
  have S8 := D8.trans T8
  clear D8 T8 x0 x1 y0 y1
  go_wp2_with fail
  have D9 := S8.non ((Chg.refl Non w8).drew)
  have x0 := D9.chg.cell hx0 hw
  have x1 := D9.chg.cell hx1 hw
  go_region_held (fun w' => w'.cell? ⟨w.heap.size, 0, none⟩ = some (.pointer none) ∧ w'.cell? ⟨w.heap.size, 1, none⟩ = some (.pointer (some ⟨g, 0, none⟩))) (first | exact ⟨y0, y1⟩ | exact ⟨x0, x1⟩ | assumption) (first | (go_at_call 90; go_loud (refine (hash_r _ g F tb (o + 99) t (p ++ (.string z3.1 :: .int .i64 z4.1 :: .int .i64 z5.1 :: bv (vH z5.2) ++ (bv (vH (nH z5.2)) ++ (bv (vH (nH (nH z5.2))) ++ ([]))))) (o7 ++ (q)) o6 (nH (nH (nH z5.2))) (D9.here.eq (by simp)) (by rw [HO.out]; simp [bv_length, vH_length]) l_o6).mono ?_; rintro e w9 h9; have y0 := h9.chg.cell x0 hw; have y1 := h9.chg.cell x1 hw; obtain ⟨rfl, T9⟩ := h9)) | fail)
  have S9 := D9.trans T9
  clear D9 T9 x0 x1 y0 y1
  go_wp2_with fail
  have D10 := S9.non ((Chg.refl Non w9).drew)
  have x0 := D10.chg.cell hx0 hw
  have x1 := D10.chg.cell hx1 hw
  go_region_held (fun w' => w'.cell? ⟨w.heap.size, 0, none⟩ = some (.pointer none) ∧ w'.cell? ⟨w.heap.size, 1, none⟩ = some (.pointer (some ⟨g, 0, none⟩))) (first | exact ⟨y0, y1⟩ | exact ⟨x0, x1⟩ | assumption) (first | (go_at_call 90; go_loud (refine (hash_r _ g F tb (o + 131) t (p ++ (.string z3.1 :: .int .i64 z4.1 :: .int .i64 z5.1 :: bv (vH z5.2) ++ (bv (vH (nH z5.2)) ++ (bv (vH (nH (nH z5.2))) ++ (bv (vH (nH (nH (nH z5.2)))) ++ ([])))))) (q) o7 (nH (nH (nH (nH z5.2)))) (D10.here.eq (by simp)) (by rw [HO.out]; simp [bv_length, vH_length]) l_o7).mono ?_; rintro e w10 h10; have y0 := h10.chg.cell x0 hw; have y1 := h10.chg.cell x1 hw; obtain ⟨rfl, T10⟩ := h10)) | fail)
  have S10 := D10.trans T10
  clear D10 T10 x0 x1 y0 y1
  obtain rfl : r = some (_, (nH (nH (nH (nH (nH z5.2)))))) := HR.out.symm.trans (by simp only [dHeader, k2, k3, k4, k5, Option.bind_some, Option.map_some]; rfl)
  go_wp2
  go_end0
  refine ⟨rfl, (S0.trans S10).eq ?_⟩
  simp [Hd.cells]

end Go.Proofs.Ytkpnajblaemoiaa

/- Package forms: light blocks, read. -/
namespace Go.Proofs.Ytkpnajblaemoiaa
open Go.RowKit
set_option linter.unusedVariables false
set_option linter.unusedSimpArgs false
set_option maxRecDepth 20000

/-- A slice of new memory. -/
abbrev sl (n k : Nat) : Value := .slice (some ⟨n, 0, none⟩) k k
theorem dHeader_len {st : St} {y : Hd × St} (h : dHeader st = some y) : y.1.cells.length = 163 := by
  unfold dHeader at h
  simp only [Option.bind_eq_some_iff, Option.some.injEq, Prod.exists] at h
  obtain ⟨s1, h1, c, s2, h2, ht, s3, h3, tm, s5, h5, rfl⟩ := h
  simp [Hd.cells, bv_length, vH_length]
theorem dCommit_len {st : St} {y : Cm × St} (h : dCommit st = some y) (a : Value) : (y.1.cells a).length = 35 := by
  unfold dCommit at h
  simp only [Option.bind_eq_some_iff, Option.some.injEq, Prod.exists] at h
  obtain ⟨s1, h1, ht, s2, h2, rd, s3, h3, l, s4, h4, rfl⟩ := h
  simp [Cm.cells, bv_length, vH_length]
/-- What the reading of a light block leaves. -/
def RTO (w : World) (g : Nat) (F : Nat → Prop) (tb : Nat) (t : TypeId) (n : Nat) (p q : List Value) (r : Option (Lt × St)) (e : Ending) (w' : World) : Prop :=
  match r with
  | some x => e = .returned (.tuple #[]) ∧ ∃ n1 n2 n3, w.heap.size ≤ n1 ∧ w.heap.size ≤ n2 ∧ w.heap.size ≤ n3 ∧ Rst w g F tb t (p ++ (x.1.cells (sl n1 x.1.commit.seals.length) (sl n2 x.1.set.length) (sl n3 x.1.next.length) ++ q)) x.2 w' ∧
      Hb w' n1 125 (x.1.commit.seals.flatMap Se.cells).toArray ∧ Hb w' n2 123 (x.1.set.flatMap Va.cells).toArray ∧ Hb w' n3 123 (x.1.next.flatMap Va.cells).toArray
  | none => e = .panicked bad ∧ Chg (Two g tb) w w' ∧ ∃ L' : List Value, L'.length = n ∧ Hb w' tb t L'.toArray
theorem RTO.cases {w w' : World} {g : Nat} {F : Nat → Prop} {tb : Nat} {t : TypeId} {n : Nat} {p q : List Value} {r : Option (Lt × St)} {e : Ending} (h : RTO w g F tb t n p q r e w') : (r = none ∧ e = .panicked bad ∧ Chg (Two g tb) w w' ∧ ∃ L' : List Value, L'.length = n ∧ Hb w' tb t L'.toArray) ∨
    (∃ x, r = some x ∧ e = .returned (.tuple #[]) ∧ ∃ n1 n2 n3, w.heap.size ≤ n1 ∧ w.heap.size ≤ n2 ∧ w.heap.size ≤ n3 ∧ Rst w g F tb t (p ++ (x.1.cells (sl n1 x.1.commit.seals.length) (sl n2 x.1.set.length) (sl n3 x.1.next.length) ++ q)) x.2 w' ∧
      Hb w' n1 125 (x.1.commit.seals.flatMap Se.cells).toArray ∧ Hb w' n2 123 (x.1.set.flatMap Va.cells).toArray ∧ Hb w' n3 123 (x.1.next.flatMap Va.cells).toArray) := by
  cases r with
  | some x => exact .inr ⟨x, rfl, h.1, h.2⟩
  | none => exact .inl ⟨rfl, h.1, h.2⟩
set_option maxHeartbeats 1600000 in
theorem light_r (w : World) (g : Nat) (F : Nat → Prop) (tb o : Nat) (t : TypeId) (p q : List Value) (oh : List Value) (hoh : oh.length = 163) (a0 a1 : Value) (o2 : List Value) (hlens : o2.length = 32) (st : St) (S : Rst w g F tb t (p ++ (oh ++ (a0 :: a1 :: (o2 ++ (.slice none 0 0 :: .slice none 0 0 :: .slice none 0 0 :: q))))) st w) (ho : o = p.length) :
    Calls Try.prog 67 #[.agg #[.pointer none, .pointer (some ⟨g, 0, none⟩)], .pointer (some ⟨tb, o, none⟩)] w (RTO w g F tb t (p ++ (oh ++ (a0 :: a1 :: (o2 ++ (.slice none 0 0 :: .slice none 0 0 :: .slice none 0 0 :: q))))).length p q (dLight st)) := by
  generalize hn : (p ++ (oh ++ (a0 :: a1 :: (o2 ++ (.slice none 0 0 :: .slice none 0 0 :: .slice none 0 0 :: q))))).length = n
  generalize hr : dLight st = r
  have HR := Lib.hid hr
  have HN := Lib.hid hn
  have HO := Lib.hid ho
  clear hr hn ho
  have S0 := S.non ((Chg.refl Non w).alloc (.cells #[.pointer none, .pointer (some ⟨g, 0, none⟩)] 136))
  have hw := S.nw (Nat.le_refl w.heap.size)
  have hx := Hb.new w 136 #[.pointer none, .pointer (some ⟨g, 0, none⟩)]
  have hgl := S.rdr.lt
  have htl := S.row.lt
  have hx0 : (w.alloc (.cells #[.pointer none, .pointer (some ⟨g, 0, none⟩)] 136)).cell? ⟨w.heap.size, 0, none⟩ = some (.pointer none) := hx.cell 0
  have hx1 : (w.alloc (.cells #[.pointer none, .pointer (some ⟨g, 0, none⟩)] 136)).cell? ⟨w.heap.size, 1, none⟩ = some (.pointer (some ⟨g, 0, none⟩)) := hx.cell 1
  have hBs : (w.alloc (.cells #[.pointer none, .pointer (some ⟨g, 0, none⟩)] 136)).heap.size = w.heap.size + 1 := by simp
  have S1 := S0.here
  clear hx S
  go_enter Try.func67, Try.ntmps67
  go_wp2_with fail
  generalize w.alloc (.cells #[.pointer none, .pointer (some ⟨g, 0, none⟩)] 136) = B at *
  have x0 := S1.chg.cell hx0 hw
  have x1 := S1.chg.cell hx1 hw
  refine (begin_r _ g F tb t _ st S1.here 5).mono ?_
  rintro e w2 h2
  rcases h2.cases with ⟨k, he, C, L', hL1, hL2⟩ | ⟨y, k, he, T2⟩
  · subst he; obtain rfl : r = none := HR.out.symm.trans (by (try simp only [Option.map_eq_none_iff] at k); simp [dLight, k]); go_wp2; exact ⟨rfl, rfl, (S0.chg.trans (S1.chg.trans C (fun _ h => .inl h)) (fun _ h => .inl h)), L', by (rw [hL1, ← HN.out]) <;> simp [bv_length, vH_length, hlens, hoh] <;> omega, hL2⟩
  subst he
  obtain ⟨z2, k2, rfl⟩ := Option.map_eq_some_iff.1 k
  clear k
  have S2 := S1.trans T2
  clear x0 x1 T2 h2
  go_wp2_with fail
  have D3 := S2.non ((Chg.refl Non w2).drew)
  have x0 := D3.chg.cell hx0 hw
  have x1 := D3.chg.cell hx1 hw
  go_region_held (fun w' => w'.cell? ⟨w.heap.size, 0, none⟩ = some (.pointer none) ∧ w'.cell? ⟨w.heap.size, 1, none⟩ = some (.pointer (some ⟨g, 0, none⟩))) (first | exact ⟨y0, y1⟩ | exact ⟨x0, x1⟩ | assumption) (first | (go_at_call 50; go_loud (refine (header_r _ g F tb o t p (a0 :: a1 :: (o2 ++ (.slice none 0 0 :: .slice none 0 0 :: .slice none 0 0 :: q))) oh z2 D3.here HO.out hoh).mono ?_; rintro e w3 h3; have y0 := h3.chg.cell x0 hw; have y1 := h3.chg.cell x1 hw; rcases h3.cases with ⟨k, he, C, L', hL1, hL2⟩ | ⟨y, k, he, T3⟩; (subst he; obtain rfl : r = none := HR.out.symm.trans (by (try simp only [Option.map_eq_none_iff] at k); simp [dLight, k2, k]); exact ⟨rfl, rfl, (S0.chg.trans (D3.chg.trans C (fun _ h => .inl h)) (fun _ h => .inl h)), L', by (rw [hL1, ← HN.out]) <;> simp [bv_length, vH_length, hlens, hoh] <;> omega, hL2⟩); subst he; obtain ⟨z3, k3, rfl⟩ := Option.map_eq_some_iff.1 k; clear k)) | fail)
  have S3 := D3.trans T3
  clear x0 x1 T3 D3 y0 y1 h3
  go_wp2_with fail
  have D4 := S3.non ((Chg.refl Non w3).drew)
  have x0 := D4.chg.cell hx0 hw
  have x1 := D4.chg.cell hx1 hw
  go_region_held (fun w' => w'.cell? ⟨w.heap.size, 0, none⟩ = some (.pointer none) ∧ w'.cell? ⟨w.heap.size, 1, none⟩ = some (.pointer (some ⟨g, 0, none⟩))) (first | exact ⟨y0, y1⟩ | exact ⟨x0, x1⟩ | assumption) (first | (go_at_call 63; go_loud (refine (commit_r _ g F tb (o + 163) t (p ++ z3.1.cells) (.slice none 0 0 :: .slice none 0 0 :: q) a0 a1 o2 hlens z3.2 (D4.here.eq (by simp)) (by rw [HO.out]; simp [dHeader_len k3])).mono ?_; rintro e w4 h4; have y0 := h4.chg.cell x0 hw; have y1 := h4.chg.cell x1 hw; rcases h4.cases with ⟨k, he, C, L', hL1, hL2⟩ | ⟨z4, k4, he, nb4, N4, T4, B4⟩; (subst he; obtain rfl : r = none := HR.out.symm.trans (by (try simp only [Option.map_eq_none_iff] at k); simp [dLight, k2, k3, k]); exact ⟨rfl, rfl, (S0.chg.trans (D4.chg.trans C (fun _ h => .inl h)) (fun _ h => .inl h)), L', by (rw [hL1, ← HN.out]) <;> simp [bv_length, vH_length, hlens, hoh, dHeader_len k3] <;> omega, hL2⟩); subst he)) | fail)
  have S4 := D4.trans T4
  have N4 : w.heap.size < nb4 := by have := D4.chg.size; omega
  clear x0 x1 T4 D4 y0 y1 h4
  go_wp2_with fail
  have D5 := S4.non ((Chg.refl Non w4).drew)
  have x0 := D5.chg.cell hx0 hw
  have x1 := D5.chg.cell hx1 hw
  go_region_held (fun w' => w'.cell? ⟨w.heap.size, 0, none⟩ = some (.pointer none) ∧ w'.cell? ⟨w.heap.size, 1, none⟩ = some (.pointer (some ⟨g, 0, none⟩))) (first | exact ⟨y0, y1⟩ | exact ⟨x0, x1⟩ | assumption) (first | (go_at_call 60; go_loud (refine (set_r _ g F tb (o + 198) t (p ++ (z3.1.cells ++ z4.1.cells (sl nb4 z4.1.seals.length))) (.slice none 0 0 :: q) z4.2 (D5.here.eq (by simp)) (by rw [HO.out]; simp [dHeader_len k3, dCommit_len k4])).mono ?_; rintro e w5 h5; have y0 := h5.chg.cell x0 hw; have y1 := h5.chg.cell x1 hw; rcases h5.cases with ⟨k, he, C, L', hL1, hL2⟩ | ⟨z5, k5, he, nb5, N5, T5, B5⟩; (subst he; obtain rfl : r = none := HR.out.symm.trans (by (try simp only [Option.map_eq_none_iff] at k); simp [dLight, k2, k3, k4, k]); exact ⟨rfl, rfl, (S0.chg.trans (D5.chg.trans C (fun _ h => .inl h)) (fun _ h => .inl h)), L', by (rw [hL1, ← HN.out]) <;> simp [bv_length, vH_length, hlens, hoh, dHeader_len k3, dCommit_len k4] <;> omega, hL2⟩); subst he)) | fail)
  have S5 := D5.trans T5
  have B4 := (B4.chg ((Chg.refl Non w4).drew) (fun f => f)).chg T5.chg (by rintro (h | h) <;> omega)
  have N5 : w.heap.size < nb5 := by have := D5.chg.size; omega
  clear x0 x1 T5 D5 y0 y1 h5
  go_wp2_with fail
  have D6 := S5.non ((Chg.refl Non w5).drew)
  have x0 := D6.chg.cell hx0 hw
  have x1 := D6.chg.cell hx1 hw
  go_region_held (fun w' => w'.cell? ⟨w.heap.size, 0, none⟩ = some (.pointer none) ∧ w'.cell? ⟨w.heap.size, 1, none⟩ = some (.pointer (some ⟨g, 0, none⟩))) (first | exact ⟨y0, y1⟩ | exact ⟨x0, x1⟩ | assumption) (first | (go_at_call 60; go_loud (refine (set_r _ g F tb (o + 199) t (p ++ (z3.1.cells ++ (z4.1.cells (sl nb4 z4.1.seals.length) ++ [sl nb5 z5.1.length]))) q z5.2 (D6.here.eq (by simp)) (by rw [HO.out]; simp [dHeader_len k3, dCommit_len k4])).mono ?_; rintro e w6 h6; have y0 := h6.chg.cell x0 hw; have y1 := h6.chg.cell x1 hw; rcases h6.cases with ⟨k, he, C, L', hL1, hL2⟩ | ⟨z6, k6, he, nb6, N6, T6, B6⟩; (subst he; obtain rfl : r = none := HR.out.symm.trans (by (try simp only [Option.map_eq_none_iff] at k); simp [dLight, k2, k3, k4, k5, k]); exact ⟨rfl, rfl, (S0.chg.trans (D6.chg.trans C (fun _ h => .inl h)) (fun _ h => .inl h)), L', by (rw [hL1, ← HN.out]) <;> simp [bv_length, vH_length, hlens, hoh, dHeader_len k3, dCommit_len k4] <;> omega, hL2⟩); subst he)) | fail)
  have S6 := D6.trans T6
  have B4 := (B4.chg ((Chg.refl Non w5).drew) (fun f => f)).chg T6.chg (by rintro (h | h) <;> omega)
  have B5 := (B5.chg ((Chg.refl Non w5).drew) (fun f => f)).chg T6.chg (by rintro (h | h) <;> omega)
  have N6 : w.heap.size < nb6 := by have := D6.chg.size; omega
  clear x0 x1 T6 D6 y0 y1 h6
  obtain rfl : r = some (_, z6.2) := HR.out.symm.trans (by simp only [dLight, k2, k3, k4, k5, k6, Option.bind_some, Option.map_some]; rfl)
  go_wp2
  go_end0
  exact ⟨rfl, nb4, nb5, nb6, by omega, by omega, by omega, (S0.trans S6).eq (by simp [Lt.cells]), B4, B5, B6⟩
end Go.Proofs.Ytkpnajblaemoiaa

/- Package forms: decoded[api.Light]. -/
namespace Go.Proofs.Ytkpnajblaemoiaa
open Go.RowKit
set_option linter.unusedVariables false
set_option linter.unusedSimpArgs false
set_option maxRecDepth 20000


def Lt.zero : Lt := ⟨Hd.zero, ⟨0, 0, noH, []⟩, [], []⟩
def ltz : List Value := Lt.zero.cells (.slice none 0 0) (.slice none 0 0) (.slice none 0 0)
theorem Lt.one (x : Lt) (n1 n2 n3 : Nat) : ∀ v ∈ x.cells (sl n1 x.commit.seals.length) (sl n2 x.set.length) (sl n3 x.next.length), v.oneCell' = true := by
  intro v hv
  simp only [Lt.cells, Cm.cells, List.mem_append, List.mem_cons, List.not_mem_nil, or_false] at hv
  rcases hv with h | ((rfl | rfl) | h | rfl) | rfl | rfl <;> first | rfl | exact bv_one _ _ h | exact x.header.one _ h
theorem ltz_one : ∀ v ∈ ltz, v.oneCell' = true := by
  intro v hv
  simp only [ltz, Lt.cells, Cm.cells, List.mem_append, List.mem_cons, List.not_mem_nil, or_false] at hv
  rcases hv with h | ((rfl | rfl) | h | rfl) | rfl | rfl <;> first | rfl | exact bv_one _ _ h | exact Hd.one _ _ h
theorem dLight_len {st : St} {y : Lt × St} (h : dLight st = some y) (a b c : Value) : (y.1.cells a b c).length = 200 := by
  unfold dLight at h
  simp only [Option.bind_eq_some_iff, Option.some.injEq, Prod.exists] at h
  obtain ⟨s1, h1, hd, s2, h2, cm, s3, h3, s, s4, h4, n, s5, h5, rfl⟩ := h
  have e1 := dHeader_len h2
  have e2 := dCommit_len h3 a
  simp only at e1 e2
  simp [Lt.cells, e1, e2]
theorem RTO.chg {w w' : World} {g : Nat} {F : Nat → Prop} {tb : Nat} {t : TypeId} {n : Nat} {p q : List Value} {r : Option (Lt × St)} {e : Ending} (h : RTO w g F tb t n p q r e w') : Chg (Two g tb) w w' := by
  cases r with
  | some x => obtain ⟨_, _, _, _, _, _, _, h1, _⟩ := h; exact h1.chg
  | none => exact h.2.1
/-- What decoding a light block leaves. -/
def DecL (w : World) (z : List Value) (r : Option Lt) (e : Ending) (w' : World) : Prop :=
  Chg Non w w' ∧ match r with
    | some x => ∃ n1 n2 n3, w.heap.size ≤ n1 ∧ w.heap.size ≤ n2 ∧ w.heap.size ≤ n3 ∧ e = .returned (.tuple #[.agg (x.cells (sl n1 x.commit.seals.length) (sl n2 x.set.length) (sl n3 x.next.length)).toArray, .int .i64 0]) ∧
        Hb w' n1 125 (x.commit.seals.flatMap Se.cells).toArray ∧ Hb w' n2 123 (x.set.flatMap Va.cells).toArray ∧ Hb w' n3 123 (x.next.flatMap Va.cells).toArray
    | none => e = .returned (.tuple #[.agg z.toArray, .int .i64 61])

theorem dLight.row : (Try.prog.info? 72).map (·.size) = some 200 := by kernel_rfl
theorem dLight.alloc0 (w : World) : (Instr.alloc 72 true (.tuple #[])).run Try.prog w = .ok (.pointer (some ⟨w.heap.size, 0, none⟩)) (w.alloc (.cells ltz.toArray 72)) := by kernel_rfl
theorem dLight.zlen : ltz.length = 200 := by rfl

theorem catchDP_Light (w : World) (p q : Nat) (L : List Value) (y : Value) (v : Value) (u : TypeId) (older : List PanicEntry) (hp : Hb w p 72 L.toArray) (hL : L.length = 200) (hq : Hb w q 34 #[y]) (hpq : q ≠ p) :
    CallsD Try.prog 105 #[.pointer (some ⟨p, 0, none⟩), .pointer (some ⟨q, 0, none⟩)] (.panicking ({ v := .iface u v, recovered := false } :: older)) w fun e u' w' =>
      e = .returned (.tuple #[]) ∧ u' = .panicking ({ v := .iface u v, recovered := true } :: older) ∧ w' = (((w.alloc (.cells ltz.toArray 72)).setCells p 0 ltz).setCell ⟨q, 0, none⟩ (.int .i64 61)) := by
  have hz := dLight.alloc0 w
  have hzl := dLight.zlen
  have hrow := dLight.row
  have hn := Hb.new w 72 ltz.toArray
  have hp1 := hp.alloc (.cells ltz.toArray 72)
  have hth := hp1.there0
  rw [hL] at hth
  have hq1 := (hq.alloc (.cells ltz.toArray 72)).farCells hpq ltz 0
  have c1 : _ = some y := hq1.cell 0
  have f1 : _ = false := hq1.frozen 0
  refine callsD_of_wpS Try.func105 rfl fun c₀ cs hu => ?_
  apply wpS_seq
  apply wpS_region
  simp [wpOpsS, go_sem, recoverD, hu, Try.ntmps105, Exit.thenS]
  refine wpS_cond (t := true) (by simp [Act.eval, Array.replicate]) ?_
  simp only [if_true]
  refine wpS_of_wp ?_
  have hone : ∀ v ∈ ltz, v.oneCell' = true := ltz_one
  generalize ltz = z at *
  go_wp2_with (first | (with_reducible refine wpList_alloc_row rfl _ rfl z hz ?_) | (with_reducible refine wpList_load_mid rfl 72 _ rfl w.heap.size 0 rfl z _ hn.range0 Try.underlying72 rfl (by rw [hrow, hzl]) ?_) | (with_reducible refine wpList_store_mid rfl 72 _ _ rfl p 0 z.toArray rfl rfl (by rw [List.size_toArray, hzl]; exact hth) (by rw [List.size_toArray, hrow, hzl]) (one_mem hone) ?_))
  exact ⟨rfl, _, rfl, .tuple #[], by simp [results, Try.results105], rfl, rfl, rfl⟩

theorem catchDI_Light (w : World) (p q : Addr) : CallsD Try.prog 105 #[.pointer (some p), .pointer (some q)] .returning w fun e u' w' => e = .returned (.tuple #[]) ∧ u' = .returning ∧ w' = w := by
  refine callsD_of_wpS Try.func105 rfl fun c₀ cs hu => ?_
  apply wpS_seq
  apply wpS_region
  simp [wpOpsS, go_sem, recoverD, hu, Try.ntmps105, Exit.thenS]
  refine wpS_cond (t := false) (by simp [Act.eval, Array.replicate]) ?_
  simp only [Bool.false_eq_true, if_false]
  refine wpS_of_wp (wp_skip ?_)
  cases c₀
  simp_all [bodyPostS, results, Try.results105]

/-- The error's way. -/
theorem decErr_Light (w w2 : World) (h : Chg Non w w2) (L : List Value) (y : Value) (hp : Hb w2 w.heap.size 72 L.toArray) (hL : L.length = 200) (hq : Hb w2 (w.heap.size + 1) 34 #[y]) (r : Option Lt) (hr : r = none) (tmps : Array Value)
    (h4 : tmps.getD 4 undef = .pointer (some ⟨w.heap.size, 0, none⟩)) (h5 : tmps.getD 5 undef = .pointer (some ⟨w.heap.size + 1, 0, none⟩)) :
    Leaves Try.prog Try.f66 tmps (DecL w ltz r) [{ target := .fn (.func 105) #[.pointer (some ⟨w.heap.size, 0, none⟩), .pointer (some ⟨w.heap.size + 1, 0, none⟩)], args := #[] }] (.panicking bad) w2 := by
  subst hr
  refine leaves_cons (f := 105) (args := #[.pointer (some ⟨w.heap.size, 0, none⟩), .pointer (some ⟨w.heap.size + 1, 0, none⟩)]) (by simp) (by simp [go_sem]) ?_
  refine (catchDP_Light w2 w.heap.size (w.heap.size + 1) L _ _ _ _ hp hL hq (by omega)).mono ?_
  rintro e u' w'' ⟨rfl, rfl, rfl⟩
  have hz : ltz.length = 200 := dLight.zlen
  have hb3 := ((hp.alloc (.cells ltz.toArray 72)).sets0 (L' := ltz) (by rw [hL, hz])).far (p := ⟨w.heap.size + 1, 0, none⟩) (by simp) (.int .i64 61)
  have he3 := ((hq.alloc (.cells ltz.toArray 72)).farCells (tb := w.heap.size) (by omega) ltz 0).set 0 (.int .i64 61)
  refine ⟨_, results_two rfl _ _ _ ⟨w.heap.size, 0, none⟩ ⟨w.heap.size + 1, 0, none⟩ _ _ h4 h5 (load_row hb3 Try.underlying72 rfl (by rw [dLight.row, hz])) (load_errno (he3.cell 0)), ?_, rfl⟩
  have K := (Chg.setCells (S := fun k => k = w.heap.size ∨ k = w.heap.size + 1) (.inl rfl) ltz _ 0 ((Chg.refl _ w2).alloc (.cells ltz.toArray 72))).setCell (p := ⟨w.heap.size + 1, 0, none⟩) (.inl (.inr rfl)) (.int .i64 61)
  exact h.trans K (fun j hj => .inr (by omega))

theorem decoded_Light (w : World) (A : Option Addr) (n c : Nat) (bs : List UInt8) (r : Option (Lt × St)) (hn : n = bs.length) (hr : Rd w A bs) (hsz : bs.length ≤ 1000000000) (hlen : ∀ x s, r = some (x, s) → ∀ a b c, (x.cells a b c).length = 200)
    (H : ∀ (w1 : World) (g : Nat) (F : Nat → Prop), Rst w1 g F w.heap.size 72 ltz (some bs) w1 → Calls Try.prog 67 #[.agg #[.pointer none, .pointer (some ⟨g, 0, none⟩)], .pointer (some ⟨w.heap.size, 0, none⟩)] w1 (RTO w1 g F w.heap.size 72 200 [] [] r)) :
    Calls Try.prog 66 #[.slice A n c, .func (.func 67) #[] #[]] w (DecL w ltz (whole r)) := by
  have hmf := mkf
  have hC0 := dw_chg w ltz 72
  have hb0 := dw_b w ltz 72
  have he0 := dw_e w ltz 72
  have hz := dLight.alloc0 w
  have hrow := dLight.row
  have HN := newReader_any (dw w ltz 72) A n c bs hn (hr.chg hC0 (fun _ _ f => f)) hsz
  generalize hR : whole r = R
  have HR := Lib.hid hR
  have HLE := Lib.hid hlen
  have HH := Lib.hid H
  have HNN := Lib.hid HN
  clear hR hlen H HN hn hr
  have hzz := dLight.zlen
  go_enter_defers Try.func66, Try.ntmps66
  go_wp2_with (first | (with_reducible refine wpList_alloc_row rfl _ rfl ltz hz ?_))
  have hdw : dw w ltz 72 = (w.alloc (.cells ltz.toArray 72)).alloc (.cells #[.int .i64 0] 34) := rfl
  rw [← hdw]
  have hds : (dw w ltz 72).heap.size = w.heap.size + 2 := by rw [hdw]; simp
  clear hdw
  generalize dw w ltz 72 = w0 at *
  refine HNN.out.mono ?_
  rintro e w1 ⟨g, F, rfl, hR1, hg, hF, hC1⟩
  have hb1 := hb0.chg hC1 (fun f => f)
  have he1 := he0.chg hC1 (fun f => f)
  have S1 : Rst w1 g F w.heap.size 72 ltz (some bs) w1 := ⟨hR1, hb1, Chg.refl _ _, by omega, fun h => by have := hF _ h; omega⟩
  have H1 := HH.out w1 g F S1
  have hne : ¬ Two g w.heap.size (w.heap.size + 1) := by rintro (h | h) <;> omega
  have hn01 : Chg Non w w1 := hC0.trans hC1 (fun _ f => f.elim)
  have hw1s := hC1.size
  clear HNN hb0 he0 hC0 hC1 HH S1
  go_wp2_with fail
  refine H1.mono ?_
  rintro e w2 h2
  have he2 := he1.chg h2.chg hne
  have hn02 : Chg Non w w2 := hn01.trans h2.chg (fun j hj => .inr (by rcases hj with rfl | rfl <;> omega))
  clear H1 he1 hb1
  rcases h2.cases with ⟨k, rfl, _, L', hL1, hL2⟩ | ⟨⟨x, s⟩, k, rfl, n1, n2, n3, g1, g2, g3, T, B1, B2, B3⟩
  · have hRn : R = none := HR.out.symm.trans (by rw [k]; rfl)
    go_wp2
    refine decErr_Light w w2 hn02 L' _ hL2 hL1 he2 _ rfl _ ?_ ?_ <;> rfl
  · have hLn := HLE.out x s k (sl n1 x.commit.seals.length) (sl n2 x.set.length) (sl n3 x.next.length)
    have hL1 := x.one n1 n2 n3
    have T := T.eq (L' := x.cells (sl n1 x.commit.seals.length) (sl n2 x.set.length) (sl n3 x.next.length)) (by simp)
    have hs1 : w.heap.size + 2 ≤ w1.heap.size := by omega
    have hRx : ∀ h : s = some [], R = some x := fun h => HR.out.symm.trans (by rw [k, h]; rfl)
    generalize hL : x.cells (sl n1 x.commit.seals.length) (sl n2 x.set.length) (sl n3 x.next.length) = L at *
    have HL := Lib.hid hL
    have HRX := Lib.hid hRx
    clear HLE h2 hL hRx
    go_wp2_with fail
    refine (endR_any _ g F s T.rdr).mono ?_
    rintro e w3 ⟨rfl, rfl⟩
    have hb2 : Hb _ w.heap.size 72 L.toArray := T.row
    by_cases hs : s = some []
    · have hRs : R = some x := HRX.out hs
      have hev : endv s = 0 := by unfold endv; rw [if_pos hs]
      have hth := hb2.there0
      rw [hLn] at hth
      have hLs : L.toArray.size = 200 := by rw [List.size_toArray, hLn]
      rw [hev]
      have hb3 := hb2.sets0 (L' := L) rfl
      have he3 := he2.farCells (tb := w.heap.size) (by omega) L 0
      have c3 : _ = some (Value.int .i64 0) := he3.cell 0
      have f3 : _ = false := he3.frozen 0
      have hrg := hb2.range0
      clear hev hs HR
      go_wp2_with (first | (go_at_call 75; refine (insist_yes _).mono ?_; rintro e w5 ⟨rfl, rfl⟩) | (with_reducible refine wpList_load_mid rfl 72 _ rfl w.heap.size 0 rfl L _ hrg Try.underlying72 rfl (by rw [hrow, hLn]) ?_; refine wpList_store_mid rfl 72 _ _ rfl w.heap.size 0 L.toArray rfl rfl (by rw [hLs]; exact hth) (by rw [hLs, hrow]) (one_mem hL1) ?_) | (with_reducible refine wpList_store_mid rfl 72 _ _ rfl w.heap.size 0 L.toArray rfl rfl (by rw [hLs]; exact hth) (by rw [hLs, hrow]) (one_mem hL1) ?_))
      refine leaves_cons (f := 105) (args := #[.pointer (some ⟨w.heap.size, 0, none⟩), .pointer (some ⟨w.heap.size + 1, 0, none⟩)]) (by simp) (by simp [go_sem]) ?_
      refine (catchDI_Light _ ⟨w.heap.size, 0, none⟩ ⟨w.heap.size + 1, 0, none⟩).mono ?_
      rintro e u' w'' ⟨rfl, rfl, rfl⟩
      have hb4 := hb3.far (p := ⟨w.heap.size + 1, 0, none⟩) (by simp) (.int .i64 0)
      have he4 := he3.set 0 (.int .i64 0)
      refine ⟨_, results_two rfl _ _ _ ⟨w.heap.size, 0, none⟩ ⟨w.heap.size + 1, 0, none⟩ _ _ rfl rfl (load_row hb4 Try.underlying72 rfl (by rw [hrow, hLn])) (load_errno (he4.cell 0)), ?_, ?_⟩
      · exact hn02.trans ((Chg.setCells (S := fun k => k = w.heap.size ∨ k = w.heap.size + 1) (.inl rfl) L _ 0 (Chg.refl _ _)).setCell (p := ⟨w.heap.size + 1, 0, none⟩) (.inl (.inr rfl)) (.int .i64 0)) (fun j hj => .inr (by omega))
      · rw [hRs]
        exact ⟨n1, n2, n3, by omega, by omega, by omega, by rw [HL.out]; rfl, (B1.farCells (by omega) L 0).far (p := ⟨w.heap.size + 1, 0, none⟩) (show n1 ≠ w.heap.size + 1 by omega) _, (B2.farCells (by omega) L 0).far (p := ⟨w.heap.size + 1, 0, none⟩) (show n2 ≠ w.heap.size + 1 by omega) _, (B3.farCells (by omega) L 0).far (p := ⟨w.heap.size + 1, 0, none⟩) (show n3 ≠ w.heap.size + 1 by omega) _⟩
    · have hRn : R = none := HR.out.symm.trans (by
        rw [k]
        match s, hs with
        | none, _ => rfl
        | some (_ :: _), _ => rfl)
      have hev : endv s = 21 := by unfold endv; rw [if_neg hs]
      rw [hev]
      clear hev hs HR
      go_wp2_with (go_at_call 75; refine (insist_no _).mono ?_; rintro e w5 ⟨rfl, rfl⟩)
      refine decErr_Light w _ hn02 L _ hb2 hLn he2 _ rfl _ ?_ ?_ <;> rfl
end Go.Proofs.Ytkpnajblaemoiaa

/- Package forms: list[nuncio/api.Seal], written. -/
namespace Go.Proofs.Ytkpnajblaemoiaa
open Go.RowKit
set_option linter.unusedVariables false
set_option linter.unusedSimpArgs false
set_option maxRecDepth 20000

set_option maxHeartbeats 1600000 in
theorem listSeal_w (g : Nat) (l : List UInt8) (w : World) (v : Value) (b o : Nat) (A : Option Addr) (n c most : Nat) (ok : Nat → Bool) (bs : Nat → List UInt8) (h : Wri w g v (some l)) (hc : w.cell? ⟨b, o, none⟩ = some (.slice A n c)) (hb : ¬ Wft g v b) (hbl : b < w.heap.size)
    (hn : n ≤ maxLen) (hmost : most ≤ 4096) (hl : l.length ≤ 100000000) (hbs : ∀ i, ok i = true → (bs i).length ≤ 20000)
    (H : ∀ i, i < n → ∃ eb eo, A = some ⟨eb, eo, none⟩ ∧ ∀ (l' : List UInt8) (w' : World) (v' : Value), Wst w g v l' w' v' → l'.length ≤ 300000000 → Calls Try.prog 104 #[.agg #[.pointer (some ⟨g, 0, none⟩), .pointer none], .pointer (some ⟨eb, eo + i * 3, none⟩)] w' (WO w' g v' (ok i) (l' ++ bs i))) :
    Calls Try.prog 103 #[.agg #[.pointer (some ⟨g, 0, none⟩), .pointer none], .pointer (some ⟨b, o, none⟩), .int .i64 (most : Int), .func (.func 104) #[] #[]] w (WO w g v (inR 0 most n && allB ok n) (l ++ (num n ++ jn bs n))) := by
  unfold maxLen at hn
  have S0 := (Wst.here h).non (((Chg.refl Non w).alloc (.cells #[.pointer (some ⟨g, 0, none⟩), .pointer none] 136)).alloc (.cells #[.int .i64 (n : Int)] 3))
  have c0 := (((Chg.refl Non w).alloc (.cells #[.pointer (some ⟨g, 0, none⟩), .pointer none] 136)).alloc (.cells #[.int .i64 (n : Int)] 3)).cell hc (fun f => f)
  have hw := h.nnew (Nat.le_refl w.heap.size)
  have hw1 := h.nnew (show w.heap.size ≤ w.heap.size + 1 by omega)
  have hx0 := ((Hb.new w 136 #[.pointer (some ⟨g, 0, none⟩), .pointer none]).alloc (.cells #[.int .i64 (n : Int)] 3)).cell 0
  have hx1 := ((Hb.new w 136 #[.pointer (some ⟨g, 0, none⟩), .pointer none]).alloc (.cells #[.int .i64 (n : Int)] 3)).cell 1
  have hxn : ((w.alloc (.cells #[.pointer (some ⟨g, 0, none⟩), .pointer none] 136)).alloc (.cells #[.int .i64 (n : Int)] 3)).cell? ⟨w.heap.size + 1, 0, none⟩ = some (.int .i64 (n : Int)) := by
    have := (Hb.new (w.alloc (.cells #[.pointer (some ⟨g, 0, none⟩), .pointer none] 136)) 3 #[.int .i64 (n : Int)]).cell 0
    rwa [show (w.alloc (.cells #[.pointer (some ⟨g, 0, none⟩), .pointer none] 136)).heap.size = w.heap.size + 1 by simp] at this
  have hBl : w.heap.size + 1 < ((w.alloc (.cells #[.pointer (some ⟨g, 0, none⟩), .pointer none] 136)).alloc (.cells #[.int .i64 (n : Int)] 3)).heap.size := by simp
  obtain ⟨B, hB⟩ : ∃ B, B = (w.alloc (.cells #[.pointer (some ⟨g, 0, none⟩), .pointer none] 136)).alloc (.cells #[.int .i64 (n : Int)] 3) := ⟨_, rfl⟩
  generalize hok : (inR 0 most n && allB ok n) = okt
  have HOK := Lib.hid hok
  have HH := Lib.hid H
  clear hok H
  go_enter Try.func103, Try.ntmps103
  go_wp2_with fail
  rw [← hB] at S0 c0 hx0 hx1 hxn hBl ⊢
  clear hB
  have S1 := Wst.here S0.wri
  have N := numberI_w g l B v (w.heap.size + 1) 0 n 0 most S1.wri hxn hw1 ⟨by omega, by omega⟩ (by omega)
  have NN := Lib.hid N
  clear N
  refine NN.out.mono ?_
  rintro e w2 h2
  clear NN
  rcases h2.cases with ⟨k2, he, C⟩ | ⟨k2, he, v2, T2⟩
  · subst he
    obtain rfl : okt = false := HOK.out.symm.trans (by rw [k2]; rfl)
    go_wp2
    exact ⟨rfl, rfl, S0.chg.trans C S0.wft⟩
  · subst he
    have hnm : n ≤ most := by have := (inR_iff.1 k2).2; omega
    have x0 := T2.cell hx0 hw
    have x1 := T2.cell hx1 hw
    have y0 := T2.cell c0 hb
    clear hxn h2
    go_wp2_with fail
    refine (writes_w _ g).mono ?_
    rintro e w3 ⟨rfl, hC3⟩
    have S3 := T2.non hC3
    have z0 := S3.cell hx0 hw
    have z1 := S3.cell hx1 hw
    have z2 := S3.cell c0 hb
    clear x0 x1 y0 T2 hC3
    go_wp2_with fail
    go_loopw [9, 28] (fun x i wr => ∃ (k : Nat) (v' : Value), k ≤ n ∧ i = .int .i64 (k : Int) ∧ allB ok k = true ∧ Wst B g v (l ++ num n ++ jn bs k) wr v') (fun _ i _ => n - (intOf i).toNat)
    case atStart => exact ⟨0, v2, by omega, rfl, rfl, by simpa [jn] using S3⟩
    case round =>
      obtain ⟨k, v', hk, rfl, hall, S⟩ := hrel
      have a0 := S.cell hx0 hw
      have a1 := S.cell hx1 hw
      have a2 := S.cell c0 hb
      have hjl := jn_len hbs k hall
      have hln : (l ++ num n ++ jn bs k).length ≤ 300000000 := by rw [List.length_append, List.length_append, num_length]; have : k * 20000 ≤ 4096 * 20000 := Nat.mul_le_mul_right _ (by omega); omega
      by_cases hlt : k < n
      · obtain ⟨eb, eo, rfl, HE⟩ := HH.out k hlt
        have hwn := S.nw hw (by omega)
        have hbn := S.nw hb (by have := S0.chg.size; omega)
        have D := S.non ((Chg.refl Non wr).drew)
        have HC := HE _ _ v' (S0.trans D) hln
        have HCC := Lib.hid HC
        have e0 := D.cell hx0 hw
        have e1 := D.cell hx1 hw
        have e2 := D.cell c0 hb
        have hki : (k : Int) < (n : Int) := by omega
        have hke : allB ok (k + 1) = ok k := by unfold allB; rw [hall, Bool.true_and]
        clear HE HC
        go_wp2_with fail
        go_region_held (fun w' => w'.cell? ⟨w.heap.size, 0, none⟩ = some (.pointer (some ⟨g, 0, none⟩)) ∧ w'.cell? ⟨w.heap.size, 1, none⟩ = some (.pointer none) ∧ w'.cell? ⟨b, o, none⟩ = some (.slice (some ⟨eb, eo, none⟩) n c)) (first | exact ⟨f0, f1, f2⟩ | exact ⟨e0, e1, e2⟩ | assumption) (first | (go_at_call 104; go_loud (refine HCC.out.mono ?_; rintro e w5 h5; have f0 := h5.chg.cell e0 hwn; have f1 := h5.chg.cell e1 hwn; have f2 := h5.chg.cell e2 hbn; rcases h5.cases with ⟨k5, he, C⟩ | ⟨k5, he, v5, T5⟩; (subst he; obtain rfl : okt = false := HOK.out.symm.trans (by rw [allB_no hlt k5, Bool.and_false]); exact ⟨rfl, rfl, S0.chg.trans (D.chg.trans C D.wft) S0.wft⟩); subst he)) | fail)
        have S5 := D.trans T5
        clear h5 HCC
        go_wp2_with fail
        go_roundw
        case rel => exact ⟨k + 1, v5, by omega, by go_num, by rw [hke, k5], by simpa [jn, List.append_assoc] using S5⟩
        case measure => simp [intOf]; omega
      · obtain rfl : k = n := by omega
        obtain rfl : okt = true := HOK.out.symm.trans (by rw [k2, hall]; rfl)
        go_wp2
        go_end0
        exact ⟨rfl, v', by simpa [List.append_assoc] using S0.trans S⟩
end Go.Proofs.Ytkpnajblaemoiaa
