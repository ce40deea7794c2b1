import Derived.Test.YteglpgakikigiaaChecked
import Derived.WalkKit
import Derived.WalkLawsBesides
import Derived.Lib.Hide
import Derived.Deep.RegionHeld3
import Derived.Deep.AppendLies
import Derived.Maps.AppendAt
import Derived.Test.YteglpgakikigiaaMFormLists5
import Derived.Test.YteglpgakikigiaaMFormLists6
import Derived.Test.YteglpgakikigiaaMFormLists7
/- Package forms: headers, read: contracts. -/
namespace Go.Proofs.Yteglpgakikigiaa
open Go.RowKit
set_option linter.unusedVariables false
set_option linter.unusedSimpArgs false
set_option maxRecDepth 20000
theorem header_r_old {old : List Value} (h : old.length = 163) : ∃ (a0 : Value) (a1 : Value) (a2 : Value) (o3 : List Value) (o4 : List Value) (o5 : List Value) (o6 : List Value) (o7 : List Value), old = [a0] ++ [a1] ++ [a2] ++ o3 ++ o4 ++ o5 ++ o6 ++ o7 ∧ o3.length = 32 ∧ o4.length = 32 ∧ o5.length = 32 ∧ o6.length = 32 ∧ o7.length = 32 ∧ True := by
  refine ⟨(old[0]'(by omega)), (old[1]'(by omega)), (old[2]'(by omega)), ((old.drop 3).take 32), ((old.drop 35).take 32), ((old.drop 67).take 32), ((old.drop 99).take 32), ((old.drop 131).take 32), ?_, by simp; omega, by simp; omega, by simp; omega, by simp; omega, by simp; omega, trivial⟩
  apply List.ext_getElem?
  intro j
  have hone : ∀ (i : Nat) (hi : i < old.length), [old[i]] = (old.drop i).take 1 := by
    intro i hi
    apply List.ext_getElem?
    intro k
    rw [List.getElem?_take, List.getElem?_drop]
    by_cases hk : k < 1
    · obtain rfl : k = 0 := by omega
      simp [List.getElem?_eq_getElem hi]
    · rw [if_neg hk, List.getElem?_eq_none (by simp; omega)]
  simp only [hone]
  have hj : ∀ (a b c : Nat), a + b = c → (old.drop a).take b ++ old.drop c = old.drop a := by
    intro a b c e
    subst e
    rw [← List.drop_drop, List.take_append_drop]
  have he : old.drop 163 = [] := List.drop_of_length_le (by omega)
  have hall : (old.drop 0).take 1 ++ ((old.drop 1).take 1 ++ ((old.drop 2).take 1 ++ ((old.drop 3).take 32 ++ ((old.drop 35).take 32 ++ ((old.drop 67).take 32 ++ ((old.drop 99).take 32 ++ ((old.drop 131).take 32 ++ old.drop 163))))))) = old := by
    rw [hj 131 32 163 rfl, hj 99 32 131 rfl, hj 67 32 99 rfl, hj 35 32 67 rfl, hj 3 32 35 rfl, hj 2 1 3 rfl, hj 1 1 2 rfl, hj 0 1 1 rfl]
    rfl
  rw [he, List.append_nil] at hall
  conv => lhs; rw [← hall]
  try simp only [List.append_assoc]

set_option maxHeartbeats 1600000 in
theorem header_r (w : World) (g : Nat) (F : Nat → Prop) (tb o : Nat) (t : TypeId) (p q old : List Value) (st : St) (S : Rst w g F tb t (p ++ (old ++ q)) st w) (ho : o = p.length) (hold : old.length = 163) :
    Calls Try.prog 55 #[.agg #[.pointer none, .pointer (some ⟨g, 0, none⟩)], .pointer (some ⟨tb, o, none⟩)] w (RO w g F tb t (p ++ (old ++ q)).length ((dHeader st).map fun y => (p ++ (y.1.cells ++ q), y.2))) := by
  obtain ⟨a0, a1, a2, o3, o4, o5, o6, o7, rfl, l_o3, l_o4, l_o5, l_o6, l_o7, _⟩ := header_r_old hold
  generalize hn : (p ++ (_ ++ q)).length = n
  generalize hr : (dHeader st).map _ = r
  have HR := Lib.hid hr
  have HN := Lib.hid hn
  have HO := Lib.hid ho
  clear hr hn ho hold
  have S0 := S.non ((Chg.refl Non w).alloc (.cells #[.pointer none, .pointer (some ⟨g, 0, none⟩)] 84))
  have hw := S.nw (Nat.le_refl w.heap.size)
  have hx := Hb.new w 84 #[.pointer none, .pointer (some ⟨g, 0, none⟩)]
  have hx0 : (w.alloc (.cells #[.pointer none, .pointer (some ⟨g, 0, none⟩)] 84)).cell? ⟨w.heap.size, 0, none⟩ = some (.pointer none) := hx.cell 0
  have hx1 : (w.alloc (.cells #[.pointer none, .pointer (some ⟨g, 0, none⟩)] 84)).cell? ⟨w.heap.size, 1, none⟩ = some (.pointer (some ⟨g, 0, none⟩)) := hx.cell 1
  have S1 := S0.here
  obtain ⟨B, hB⟩ : ∃ B, B = w.alloc (.cells #[.pointer none, .pointer (some ⟨g, 0, none⟩)] 84) := ⟨_, rfl⟩
  clear hx S
  go_enter Try.func55, Try.ntmps55
  go_wp2_with fail
  rw [← hB] at S0 hx0 hx1 S1 ⊢
  clear hB
  have x0 := S1.chg.cell hx0 hw
  have x1 := S1.chg.cell hx1 hw
  go_wp2_with (first | (go_at_call 37; go_loud (refine (begin_r _ g F tb t _ st S1.here 2).mono ?_; rintro e w2 h2; rcases h2.cases with ⟨k, he, C, L', hL1, hL2⟩ | ⟨y, k, he, T2⟩; (subst he; obtain rfl : r = none := HR.out.symm.trans (by (simp only [Option.map_eq_none_iff] at k) <;> simp [dHeader, k]); exact ⟨rfl, rfl, (S0.chg.trans (S1.chg.trans C (fun _ h => .inl h)) (fun _ h => .inl h)), L', by (rw [hL1, ← HN.out]) <;> simp [bv_length, vH_length, l_o3, l_o4, l_o5, l_o6, l_o7], hL2⟩); subst he; obtain ⟨z2, k2, rfl⟩ := Option.map_eq_some_iff.1 k; clear k)) | fail)
  have S2 := S1.trans T2
  clear T2 x0 x1
  clear h2
  go_wp2_with fail
  have D3 := S2.non ((Chg.refl Non w2).drew)
  have x0 := D3.chg.cell hx0 hw
  have x1 := D3.chg.cell hx1 hw
  go_region_held (fun w' => w'.cell? ⟨w.heap.size, 0, none⟩ = some (.pointer none) ∧ w'.cell? ⟨w.heap.size, 1, none⟩ = some (.pointer (some ⟨g, 0, none⟩))) (first | exact ⟨y0, y1⟩ | exact ⟨x0, x1⟩ | assumption) (first | (go_at_call 63; go_loud (refine (name_r _ g F tb o t (p) (a1 :: a2 :: o3 ++ (o4 ++ (o5 ++ (o6 ++ (o7 ++ (q)))))) a0 z2 (D3.here.eq (by simp)) HO.out).mono ?_; rintro e w3 h3; have y0 := h3.chg.cell x0 hw; have y1 := h3.chg.cell x1 hw; rcases h3.cases with ⟨k, he, C, L', hL1, hL2⟩ | ⟨y, k, he, T3⟩; (subst he; obtain rfl : r = none := HR.out.symm.trans (by (simp only [Option.map_eq_none_iff] at k) <;> simp [dHeader, k2, k]); exact ⟨rfl, rfl, (S0.chg.trans (D3.chg.trans C (fun _ h => .inl h)) (fun _ h => .inl h)), L', by (rw [hL1, ← HN.out]) <;> simp [bv_length, vH_length, l_o3, l_o4, l_o5, l_o6, l_o7], hL2⟩); subst he; obtain ⟨z3, k3, rfl⟩ := Option.map_eq_some_iff.1 k; clear k)) | fail)
  have S3 := D3.trans T3
  clear D3 T3 x0 x1 y0 y1
  clear h3
  go_wp2_with fail
  have D4 := S3.non ((Chg.refl Non w3).drew)
  have x0 := D4.chg.cell hx0 hw
  have x1 := D4.chg.cell hx1 hw
  go_region_held (fun w' => w'.cell? ⟨w.heap.size, 0, none⟩ = some (.pointer none) ∧ w'.cell? ⟨w.heap.size, 1, none⟩ = some (.pointer (some ⟨g, 0, none⟩))) (first | exact ⟨y0, y1⟩ | exact ⟨x0, x1⟩ | assumption) (first | (go_at_call 44; go_loud (refine (height_r _ g F tb (o + 1) t (p ++ (.string z3.1 :: [])) (a2 :: o3 ++ (o4 ++ (o5 ++ (o6 ++ (o7 ++ (q)))))) a1 z3.2 (D4.here.eq (by simp)) (by rw [HO.out]; simp [bv_length, vH_length])).mono ?_; rintro e w4 h4; have y0 := h4.chg.cell x0 hw; have y1 := h4.chg.cell x1 hw; rcases h4.cases with ⟨k, he, C, L', hL1, hL2⟩ | ⟨y, k, he, T4⟩; (subst he; obtain rfl : r = none := HR.out.symm.trans (by (simp only [Option.map_eq_none_iff] at k) <;> simp [dHeader, k2, k3, k]); exact ⟨rfl, rfl, (S0.chg.trans (D4.chg.trans C (fun _ h => .inl h)) (fun _ h => .inl h)), L', by (rw [hL1, ← HN.out]) <;> simp [bv_length, vH_length, l_o3, l_o4, l_o5, l_o6, l_o7], hL2⟩); subst he; obtain ⟨z4, k4, rfl⟩ := Option.map_eq_some_iff.1 k; clear k)) | fail)
  have S4 := D4.trans T4
  clear D4 T4 x0 x1 y0 y1
  clear h4
  go_wp2_with fail
  have D5 := S4.non ((Chg.refl Non w4).drew)
  have x0 := D5.chg.cell hx0 hw
  have x1 := D5.chg.cell hx1 hw
  go_region_held (fun w' => w'.cell? ⟨w.heap.size, 0, none⟩ = some (.pointer none) ∧ w'.cell? ⟨w.heap.size, 1, none⟩ = some (.pointer (some ⟨g, 0, none⟩))) (first | exact ⟨y0, y1⟩ | exact ⟨x0, x1⟩ | assumption) (first | (go_at_call 62; go_loud (refine (number_r _ g F tb (o + 2) t (p ++ (.string z3.1 :: .int .i64 z4.1 :: [])) (o3 ++ (o4 ++ (o5 ++ (o6 ++ (o7 ++ (q)))))) a2 z4.2 (D5.here.eq (by simp)) (by rw [HO.out]; simp [bv_length, vH_length]) 0 1099511627776).mono ?_; rintro e w5 h5; have y0 := h5.chg.cell x0 hw; have y1 := h5.chg.cell x1 hw; rcases h5.cases with ⟨k, he, C, L', hL1, hL2⟩ | ⟨y, k, he, T5⟩; (subst he; obtain rfl : r = none := HR.out.symm.trans (by (simp only [Option.map_eq_none_iff] at k) <;> simp [dHeader, k2, k3, k4, k]); exact ⟨rfl, rfl, (S0.chg.trans (D5.chg.trans C (fun _ h => .inl h)) (fun _ h => .inl h)), L', by (rw [hL1, ← HN.out]) <;> simp [bv_length, vH_length, l_o3, l_o4, l_o5, l_o6, l_o7], hL2⟩); subst he; obtain ⟨z5, k5, rfl⟩ := Option.map_eq_some_iff.1 k; clear k)) | fail)
  have S5 := D5.trans T5
  clear D5 T5 x0 x1 y0 y1
  clear h5
  go_wp2_with fail
  have D6 := S5.non ((Chg.refl Non w5).drew)
  have x0 := D6.chg.cell hx0 hw
  have x1 := D6.chg.cell hx1 hw
  go_region_held (fun w' => w'.cell? ⟨w.heap.size, 0, none⟩ = some (.pointer none) ∧ w'.cell? ⟨w.heap.size, 1, none⟩ = some (.pointer (some ⟨g, 0, none⟩))) (first | exact ⟨y0, y1⟩ | exact ⟨x0, x1⟩ | assumption) (first | (go_at_call 46; go_loud (refine (hash_r _ g F tb (o + 3) t (p ++ (.string z3.1 :: .int .i64 z4.1 :: .int .i64 z5.1 :: [])) (o4 ++ (o5 ++ (o6 ++ (o7 ++ (q))))) o3 z5.2 (D6.here.eq (by simp)) (by rw [HO.out]; simp [bv_length, vH_length]) l_o3).mono ?_; rintro e w6 h6; have y0 := h6.chg.cell x0 hw; have y1 := h6.chg.cell x1 hw; obtain ⟨rfl, T6⟩ := h6)) | fail)
  have S6 := D6.trans T6
  clear D6 T6 x0 x1 y0 y1
  go_wp2_with fail
  have D7 := S6.non ((Chg.refl Non w6).drew)
  have x0 := D7.chg.cell hx0 hw
  have x1 := D7.chg.cell hx1 hw
  go_region_held (fun w' => w'.cell? ⟨w.heap.size, 0, none⟩ = some (.pointer none) ∧ w'.cell? ⟨w.heap.size, 1, none⟩ = some (.pointer (some ⟨g, 0, none⟩))) (first | exact ⟨y0, y1⟩ | exact ⟨x0, x1⟩ | assumption) (first | (go_at_call 46; go_loud (refine (hash_r _ g F tb (o + 35) t (p ++ (.string z3.1 :: .int .i64 z4.1 :: .int .i64 z5.1 :: bv (vH z5.2) ++ ([]))) (o5 ++ (o6 ++ (o7 ++ (q)))) o4 (nH z5.2) (D7.here.eq (by simp)) (by rw [HO.out]; simp [bv_length, vH_length]) l_o4).mono ?_; rintro e w7 h7; have y0 := h7.chg.cell x0 hw; have y1 := h7.chg.cell x1 hw; obtain ⟨rfl, T7⟩ := h7)) | fail)
  have S7 := D7.trans T7
  clear D7 T7 x0 x1 y0 y1
  go_wp2_with fail
  have D8 := S7.non ((Chg.refl Non w7).drew)
  have x0 := D8.chg.cell hx0 hw
  have x1 := D8.chg.cell hx1 hw
  go_region_held (fun w' => w'.cell? ⟨w.heap.size, 0, none⟩ = some (.pointer none) ∧ w'.cell? ⟨w.heap.size, 1, none⟩ = some (.pointer (some ⟨g, 0, none⟩))) (first | exact ⟨y0, y1⟩ | exact ⟨x0, x1⟩ | assumption) (first | (go_at_call 46; go_loud (refine (hash_r _ g F tb (o + 67) t (p ++ (.string z3.1 :: .int .i64 z4.1 :: .int .i64 z5.1 :: bv (vH z5.2) ++ (bv (vH (nH z5.2)) ++ ([])))) (o6 ++ (o7 ++ (q))) o5 (nH (nH z5.2)) (D8.here.eq (by simp)) (by rw [HO.out]; simp [bv_length, vH_length]) l_o5).mono ?_; rintro e w8 h8; have y0 := h8.chg.cell x0 hw; have y1 := h8.chg.cell x1 hw; obtain ⟨rfl, T8⟩ := h8)) | fail)
  have S8 := D8.trans T8
  clear D8 T8 x0 x1 y0 y1
  go_wp2_with fail
  have D9 := S8.non ((Chg.refl Non w8).drew)
  have x0 := D9.chg.cell hx0 hw
  have x1 := D9.chg.cell hx1 hw
  go_region_held (fun w' => w'.cell? ⟨w.heap.size, 0, none⟩ = some (.pointer none) ∧ w'.cell? ⟨w.heap.size, 1, none⟩ = some (.pointer (some ⟨g, 0, none⟩))) (first | exact ⟨y0, y1⟩ | exact ⟨x0, x1⟩ | assumption) (first | (go_at_call 46; go_loud (refine (hash_r _ g F tb (o + 99) t (p ++ (.string z3.1 :: .int .i64 z4.1 :: .int .i64 z5.1 :: bv (vH z5.2) ++ (bv (vH (nH z5.2)) ++ (bv (vH (nH (nH z5.2))) ++ ([]))))) (o7 ++ (q)) o6 (nH (nH (nH z5.2))) (D9.here.eq (by simp)) (by rw [HO.out]; simp [bv_length, vH_length]) l_o6).mono ?_; rintro e w9 h9; have y0 := h9.chg.cell x0 hw; have y1 := h9.chg.cell x1 hw; obtain ⟨rfl, T9⟩ := h9)) | fail)
  have S9 := D9.trans T9
  clear D9 T9 x0 x1 y0 y1
  go_wp2_with fail
  have D10 := S9.non ((Chg.refl Non w9).drew)
  have x0 := D10.chg.cell hx0 hw
  have x1 := D10.chg.cell hx1 hw
  go_region_held (fun w' => w'.cell? ⟨w.heap.size, 0, none⟩ = some (.pointer none) ∧ w'.cell? ⟨w.heap.size, 1, none⟩ = some (.pointer (some ⟨g, 0, none⟩))) (first | exact ⟨y0, y1⟩ | exact ⟨x0, x1⟩ | assumption) (first | (go_at_call 46; go_loud (refine (hash_r _ g F tb (o + 131) t (p ++ (.string z3.1 :: .int .i64 z4.1 :: .int .i64 z5.1 :: bv (vH z5.2) ++ (bv (vH (nH z5.2)) ++ (bv (vH (nH (nH z5.2))) ++ (bv (vH (nH (nH (nH z5.2)))) ++ ([])))))) (q) o7 (nH (nH (nH (nH z5.2)))) (D10.here.eq (by simp)) (by rw [HO.out]; simp [bv_length, vH_length]) l_o7).mono ?_; rintro e w10 h10; have y0 := h10.chg.cell x0 hw; have y1 := h10.chg.cell x1 hw; obtain ⟨rfl, T10⟩ := h10)) | fail)
  have S10 := D10.trans T10
  clear D10 T10 x0 x1 y0 y1
  obtain rfl : r = some (_, (nH (nH (nH (nH (nH z5.2)))))) := HR.out.symm.trans (by simp only [dHeader, k2, k3, k4, k5, Option.bind_some, Option.map_some]; rfl)
  go_wp2
  go_end0
  refine ⟨rfl, (S0.trans S10).eq ?_⟩
  simp [Hd.cells]

end Go.Proofs.Yteglpgakikigiaa

/- Package forms: light blocks, read. -/
namespace Go.Proofs.Yteglpgakikigiaa
open Go.RowKit
set_option linter.unusedVariables false
set_option linter.unusedSimpArgs false
set_option maxRecDepth 20000

/-- A slice of new memory. -/
abbrev sl (n k : Nat) : Value := .slice (some ⟨n, 0, none⟩) k k
theorem dHeader_len {st : St} {y : Hd × St} (h : dHeader st = some y) : y.1.cells.length = 163 := by
  unfold dHeader at h
  simp only [Option.bind_eq_some_iff, Option.some.injEq, Prod.exists] at h
  obtain ⟨s1, h1, c, s2, h2, ht, s3, h3, tm, s5, h5, rfl⟩ := h
  simp [Hd.cells, bv_length, vH_length]
theorem dCommit_len {st : St} {y : Cm × St} (h : dCommit st = some y) (a : Value) : (y.1.cells a).length = 35 := by
  unfold dCommit at h
  simp only [Option.bind_eq_some_iff, Option.some.injEq, Prod.exists] at h
  obtain ⟨s1, h1, ht, s2, h2, rd, s3, h3, l, s4, h4, rfl⟩ := h
  simp [Cm.cells, bv_length, vH_length]
/-- What the reading of a light block leaves. -/
def RTO (w : World) (g : Nat) (F : Nat → Prop) (tb : Nat) (t : TypeId) (n : Nat) (p q : List Value) (r : Option (Lt × St)) (e : Ending) (w' : World) : Prop :=
  match r with
  | some x => e = .returned (.tuple #[]) ∧ ∃ n1 n2 n3, w.heap.size ≤ n1 ∧ w.heap.size ≤ n2 ∧ w.heap.size ≤ n3 ∧ Rst w g F tb t (p ++ (x.1.cells (sl n1 x.1.commit.seals.length) (sl n2 x.1.set.length) (sl n3 x.1.next.length) ++ q)) x.2 w' ∧
      Hb w' n1 75 (x.1.commit.seals.flatMap Se.cells).toArray ∧ Hb w' n2 71 (x.1.set.flatMap Va.cells).toArray ∧ Hb w' n3 71 (x.1.next.flatMap Va.cells).toArray
  | none => e = .panicked bad ∧ Chg (Two g tb) w w' ∧ ∃ L' : List Value, L'.length = n ∧ Hb w' tb t L'.toArray
theorem RTO.cases {w w' : World} {g : Nat} {F : Nat → Prop} {tb : Nat} {t : TypeId} {n : Nat} {p q : List Value} {r : Option (Lt × St)} {e : Ending} (h : RTO w g F tb t n p q r e w') : (r = none ∧ e = .panicked bad ∧ Chg (Two g tb) w w' ∧ ∃ L' : List Value, L'.length = n ∧ Hb w' tb t L'.toArray) ∨
    (∃ x, r = some x ∧ e = .returned (.tuple #[]) ∧ ∃ n1 n2 n3, w.heap.size ≤ n1 ∧ w.heap.size ≤ n2 ∧ w.heap.size ≤ n3 ∧ Rst w g F tb t (p ++ (x.1.cells (sl n1 x.1.commit.seals.length) (sl n2 x.1.set.length) (sl n3 x.1.next.length) ++ q)) x.2 w' ∧
      Hb w' n1 75 (x.1.commit.seals.flatMap Se.cells).toArray ∧ Hb w' n2 71 (x.1.set.flatMap Va.cells).toArray ∧ Hb w' n3 71 (x.1.next.flatMap Va.cells).toArray) := by
  cases r with
  | some x => exact .inr ⟨x, rfl, h.1, h.2⟩
  | none => exact .inl ⟨rfl, h.1, h.2⟩
set_option maxHeartbeats 1600000 in
theorem light_r (w : World) (g : Nat) (F : Nat → Prop) (tb o : Nat) (t : TypeId) (p q : List Value) (oh : List Value) (hoh : oh.length = 163) (a0 a1 : Value) (o2 : List Value) (hlens : o2.length = 32) (st : St) (S : Rst w g F tb t (p ++ (oh ++ (a0 :: a1 :: (o2 ++ (.slice none 0 0 :: .slice none 0 0 :: .slice none 0 0 :: q))))) st w) (ho : o = p.length) :
    Calls Try.prog 26 #[.agg #[.pointer none, .pointer (some ⟨g, 0, none⟩)], .pointer (some ⟨tb, o, none⟩)] w (RTO w g F tb t (p ++ (oh ++ (a0 :: a1 :: (o2 ++ (.slice none 0 0 :: .slice none 0 0 :: .slice none 0 0 :: q))))).length p q (dLight st)) := by
  generalize hn : (p ++ (oh ++ (a0 :: a1 :: (o2 ++ (.slice none 0 0 :: .slice none 0 0 :: .slice none 0 0 :: q))))).length = n
  generalize hr : dLight st = r
  have HR := Lib.hid hr
  have HN := Lib.hid hn
  have HO := Lib.hid ho
  clear hr hn ho
  have S0 := S.non ((Chg.refl Non w).alloc (.cells #[.pointer none, .pointer (some ⟨g, 0, none⟩)] 84))
  have hw := S.nw (Nat.le_refl w.heap.size)
  have hx := Hb.new w 84 #[.pointer none, .pointer (some ⟨g, 0, none⟩)]
  have hgl := S.rdr.lt
  have htl := S.row.lt
  have hx0 : (w.alloc (.cells #[.pointer none, .pointer (some ⟨g, 0, none⟩)] 84)).cell? ⟨w.heap.size, 0, none⟩ = some (.pointer none) := hx.cell 0
  have hx1 : (w.alloc (.cells #[.pointer none, .pointer (some ⟨g, 0, none⟩)] 84)).cell? ⟨w.heap.size, 1, none⟩ = some (.pointer (some ⟨g, 0, none⟩)) := hx.cell 1
  have hBs : (w.alloc (.cells #[.pointer none, .pointer (some ⟨g, 0, none⟩)] 84)).heap.size = w.heap.size + 1 := by simp
  have S1 := S0.here
  clear hx S
  go_enter Try.func26, Try.ntmps26
  go_wp2_with fail
  generalize w.alloc (.cells #[.pointer none, .pointer (some ⟨g, 0, none⟩)] 84) = B at *
  have x0 := S1.chg.cell hx0 hw
  have x1 := S1.chg.cell hx1 hw
  refine (begin_r _ g F tb t _ st S1.here 5).mono ?_
  rintro e w2 h2
  rcases h2.cases with ⟨k, he, C, L', hL1, hL2⟩ | ⟨y, k, he, T2⟩
  · subst he; obtain rfl : r = none := HR.out.symm.trans (by (try simp only [Option.map_eq_none_iff] at k); simp [dLight, k]); go_wp2; exact ⟨rfl, rfl, (S0.chg.trans (S1.chg.trans C (fun _ h => .inl h)) (fun _ h => .inl h)), L', by (rw [hL1, ← HN.out]) <;> simp [bv_length, vH_length, hlens, hoh] <;> omega, hL2⟩
  subst he
  obtain ⟨z2, k2, rfl⟩ := Option.map_eq_some_iff.1 k
  clear k
  have S2 := S1.trans T2
  clear x0 x1 T2 h2
  go_wp2_with fail
  have D3 := S2.non ((Chg.refl Non w2).drew)
  have x0 := D3.chg.cell hx0 hw
  have x1 := D3.chg.cell hx1 hw
  go_region_held (fun w' => w'.cell? ⟨w.heap.size, 0, none⟩ = some (.pointer none) ∧ w'.cell? ⟨w.heap.size, 1, none⟩ = some (.pointer (some ⟨g, 0, none⟩))) (first | exact ⟨y0, y1⟩ | exact ⟨x0, x1⟩ | assumption) (first | (go_at_call 55; go_loud (refine (header_r _ g F tb o t p (a0 :: a1 :: (o2 ++ (.slice none 0 0 :: .slice none 0 0 :: .slice none 0 0 :: q))) oh z2 D3.here HO.out hoh).mono ?_; rintro e w3 h3; have y0 := h3.chg.cell x0 hw; have y1 := h3.chg.cell x1 hw; rcases h3.cases with ⟨k, he, C, L', hL1, hL2⟩ | ⟨y, k, he, T3⟩; (subst he; obtain rfl : r = none := HR.out.symm.trans (by (try simp only [Option.map_eq_none_iff] at k); simp [dLight, k2, k]); exact ⟨rfl, rfl, (S0.chg.trans (D3.chg.trans C (fun _ h => .inl h)) (fun _ h => .inl h)), L', by (rw [hL1, ← HN.out]) <;> simp [bv_length, vH_length, hlens, hoh] <;> omega, hL2⟩); subst he; obtain ⟨z3, k3, rfl⟩ := Option.map_eq_some_iff.1 k; clear k)) | fail)
  have S3 := D3.trans T3
  clear x0 x1 T3 D3 y0 y1 h3
  go_wp2_with fail
  have D4 := S3.non ((Chg.refl Non w3).drew)
  have x0 := D4.chg.cell hx0 hw
  have x1 := D4.chg.cell hx1 hw
  go_region_held (fun w' => w'.cell? ⟨w.heap.size, 0, none⟩ = some (.pointer none) ∧ w'.cell? ⟨w.heap.size, 1, none⟩ = some (.pointer (some ⟨g, 0, none⟩))) (first | exact ⟨y0, y1⟩ | exact ⟨x0, x1⟩ | assumption) (first | (go_at_call 22; go_loud (refine (commit_r _ g F tb (o + 163) t (p ++ z3.1.cells) (.slice none 0 0 :: .slice none 0 0 :: q) a0 a1 o2 hlens z3.2 (D4.here.eq (by simp)) (by rw [HO.out]; simp [dHeader_len k3])).mono ?_; rintro e w4 h4; have y0 := h4.chg.cell x0 hw; have y1 := h4.chg.cell x1 hw; rcases h4.cases with ⟨k, he, C, L', hL1, hL2⟩ | ⟨z4, k4, he, nb4, N4, T4, B4⟩; (subst he; obtain rfl : r = none := HR.out.symm.trans (by (try simp only [Option.map_eq_none_iff] at k); simp [dLight, k2, k3, k]); exact ⟨rfl, rfl, (S0.chg.trans (D4.chg.trans C (fun _ h => .inl h)) (fun _ h => .inl h)), L', by (rw [hL1, ← HN.out]) <;> simp [bv_length, vH_length, hlens, hoh, dHeader_len k3] <;> omega, hL2⟩); subst he)) | fail)
  have S4 := D4.trans T4
  have N4 : w.heap.size < nb4 := by have := D4.chg.size; omega
  clear x0 x1 T4 D4 y0 y1 h4
  go_wp2_with fail
  have D5 := S4.non ((Chg.refl Non w4).drew)
  have x0 := D5.chg.cell hx0 hw
  have x1 := D5.chg.cell hx1 hw
  go_region_held (fun w' => w'.cell? ⟨w.heap.size, 0, none⟩ = some (.pointer none) ∧ w'.cell? ⟨w.heap.size, 1, none⟩ = some (.pointer (some ⟨g, 0, none⟩))) (first | exact ⟨y0, y1⟩ | exact ⟨x0, x1⟩ | assumption) (first | (go_at_call 18; go_loud (refine (set_r _ g F tb (o + 198) t (p ++ (z3.1.cells ++ z4.1.cells (sl nb4 z4.1.seals.length))) (.slice none 0 0 :: q) z4.2 (D5.here.eq (by simp)) (by rw [HO.out]; simp [dHeader_len k3, dCommit_len k4])).mono ?_; rintro e w5 h5; have y0 := h5.chg.cell x0 hw; have y1 := h5.chg.cell x1 hw; rcases h5.cases with ⟨k, he, C, L', hL1, hL2⟩ | ⟨z5, k5, he, nb5, N5, T5, B5⟩; (subst he; obtain rfl : r = none := HR.out.symm.trans (by (try simp only [Option.map_eq_none_iff] at k); simp [dLight, k2, k3, k4, k]); exact ⟨rfl, rfl, (S0.chg.trans (D5.chg.trans C (fun _ h => .inl h)) (fun _ h => .inl h)), L', by (rw [hL1, ← HN.out]) <;> simp [bv_length, vH_length, hlens, hoh, dHeader_len k3, dCommit_len k4] <;> omega, hL2⟩); subst he)) | fail)
  have S5 := D5.trans T5
  have B4 := (B4.chg ((Chg.refl Non w4).drew) (fun f => f)).chg T5.chg (by rintro (h | h) <;> omega)
  have N5 : w.heap.size < nb5 := by have := D5.chg.size; omega
  clear x0 x1 T5 D5 y0 y1 h5
  go_wp2_with fail
  have D6 := S5.non ((Chg.refl Non w5).drew)
  have x0 := D6.chg.cell hx0 hw
  have x1 := D6.chg.cell hx1 hw
  go_region_held (fun w' => w'.cell? ⟨w.heap.size, 0, none⟩ = some (.pointer none) ∧ w'.cell? ⟨w.heap.size, 1, none⟩ = some (.pointer (some ⟨g, 0, none⟩))) (first | exact ⟨y0, y1⟩ | exact ⟨x0, x1⟩ | assumption) (first | (go_at_call 18; go_loud (refine (set_r _ g F tb (o + 199) t (p ++ (z3.1.cells ++ (z4.1.cells (sl nb4 z4.1.seals.length) ++ [sl nb5 z5.1.length]))) q z5.2 (D6.here.eq (by simp)) (by rw [HO.out]; simp [dHeader_len k3, dCommit_len k4])).mono ?_; rintro e w6 h6; have y0 := h6.chg.cell x0 hw; have y1 := h6.chg.cell x1 hw; rcases h6.cases with ⟨k, he, C, L', hL1, hL2⟩ | ⟨z6, k6, he, nb6, N6, T6, B6⟩; (subst he; obtain rfl : r = none := HR.out.symm.trans (by (try simp only [Option.map_eq_none_iff] at k); simp [dLight, k2, k3, k4, k5, k]); exact ⟨rfl, rfl, (S0.chg.trans (D6.chg.trans C (fun _ h => .inl h)) (fun _ h => .inl h)), L', by (rw [hL1, ← HN.out]) <;> simp [bv_length, vH_length, hlens, hoh, dHeader_len k3, dCommit_len k4] <;> omega, hL2⟩); subst he)) | fail)
  have S6 := D6.trans T6
  have B4 := (B4.chg ((Chg.refl Non w5).drew) (fun f => f)).chg T6.chg (by rintro (h | h) <;> omega)
  have B5 := (B5.chg ((Chg.refl Non w5).drew) (fun f => f)).chg T6.chg (by rintro (h | h) <;> omega)
  have N6 : w.heap.size < nb6 := by have := D6.chg.size; omega
  clear x0 x1 T6 D6 y0 y1 h6
  obtain rfl : r = some (_, z6.2) := HR.out.symm.trans (by simp only [dLight, k2, k3, k4, k5, k6, Option.bind_some, Option.map_some]; rfl)
  go_wp2
  go_end0
  exact ⟨rfl, nb4, nb5, nb6, by omega, by omega, by omega, (S0.trans S6).eq (by simp [Lt.cells]), B4, B5, B6⟩
end Go.Proofs.Yteglpgakikigiaa

/- The document's answers for forms: ends; what is read is in order. -/
namespace Go.Proofs.Yteglpgakikigiaa
open Go.RowKit
set_option linter.unusedVariables false
set_option linter.unusedSimpArgs false
set_option maxRecDepth 20000

theorem ends_any (w : World) (g : Nat) (F : Nat → Prop) (st : St) (ok : Bool) (h : RdF w g F st) :
    Calls Try.prog 20 #[.pointer (some ⟨g, 0, none⟩), .bool ok] w fun e w' => e = .returned (.int .i64 (if st = some [] ∧ ok = true then 0 else 61)) ∧ w' = w := by
  have H := refREnd w g F st h
  unfold endv at H
  by_cases hs : st = some []
  · rw [if_pos hs] at H
    cases ok with
    | true =>
      rw [if_pos ⟨hs, rfl⟩]
      clear hs h
      go_enter Try.func20, Try.ntmps20
      go_wp2_with fail
      refine H.mono ?_
      rintro e w1 ⟨rfl, rfl⟩
      go_wp2_with fail
      go_ret
      exact ⟨rfl, rfl⟩
    | false =>
      rw [if_neg (by simp)]
      clear hs h
      go_enter Try.func20, Try.ntmps20
      go_wp2_with fail
      refine H.mono ?_
      rintro e w1 ⟨rfl, rfl⟩
      go_wp2_with fail
      go_ret
      exact ⟨rfl, rfl⟩
  · rw [if_neg hs] at H
    rw [if_neg (by simp [hs])]
    clear hs h
    go_enter Try.func20, Try.ntmps20
    go_wp2_with fail
    refine H.mono ?_
    rintro e w1 ⟨rfl, rfl⟩
    go_wp2_with fail
    go_ret
    exact ⟨rfl, rfl⟩
theorem vT_le (st : St) : (vT st).length ≤ 4096 := by
  unfold vT fText
  cases st with
  | none => simp
  | some l =>
    simp only [Option.bind_some]
    split
    · simp
    · split
      · simp
      · split
        · simp
        · simp only [Option.map_some, Option.getD_some]
          rw [List.length_take]
          omega
theorem vT_size (st : St) : (⟨(vT st).toArray⟩ : ByteArray).size ≤ 4096 := by
  show (vT st).toArray.size ≤ 4096
  rw [List.size_toArray]
  exact vT_le st
theorem vT_max (st : St) : (⟨(vT st).toArray⟩ : ByteArray).size ≤ maxLen := by have := vT_size st; unfold maxLen; omega
theorem vN_64 (st : St) : I64 (vN st) := ⟨(vN_bounds st).1, (vN_bounds st).2⟩
theorem rVote_ok (st : St) : (rVote st).1.Ok := ⟨vT_max _, vN_64 _, vN_64 _, vN_64 _, vH_length _, vW_lt _, vW_lt _, vW_lt _⟩
theorem rHeader_ok (st : St) : (rHeader st).1.Ok := ⟨vT_max _, vN_64 _, vN_64 _, vH_length _, vH_length _, vH_length _, vH_length _, vH_length _⟩
theorem rPacket_ok (st : St) : (rPacket st).1.Ok := ⟨vN_64 _, vT_max _, vT_max _, vN_64 _⟩
/-- A struct's zero value is built. -/
theorem wpList_build_zero {ops : Array Oper} {rest : List Oper} {o : Oper} {a : Act} {w : World} {Q : Exit → Act → World → Prop} (hgd : o.guard = none) (ty : TypeId) (ho : o.op = .build ty #[]) {cs : Array Value} (hb : Try.prog.built ty [] = some cs)
    (h : wpList Try.prog ops Q rest (a.put o.dst (.agg cs)) w) : wpList Try.prog ops Q (o :: rest) a w := by
  have e : ((#[] : Array (Nat × Operand)).map fun (i, x) => (i, a.eval x)).toList = [] := by simp
  refine wpList_build hgd ty #[] ho ?_ ?_
  · rw [e, hb]; rfl
  · rw [e, hb]; exact h
/-- The document's reader over bytes, in a new block behind a result's. -/
theorem rdF_new (w : World) (t : TypeId) (Z : List Value) (A : Option Addr) (c : Nat) (bs : List UInt8) (hr : Rd w A bs) (hc : bs.length ≤ c) (hcm : c ≤ maxLen) (hA : bs ≠ [] → ∀ j, abl A j → j < w.heap.size) :
    RdF ((w.alloc (.cells Z.toArray t)).alloc (.cells #[.slice A bs.length c, .bool false] 56)) (w.heap.size + 1) (fun j => j < w.heap.size) (some bs) ∧ Hb ((w.alloc (.cells Z.toArray t)).alloc (.cells #[.slice A bs.length c, .bool false] 56)) w.heap.size t Z.toArray ∧
    Chg Non w ((w.alloc (.cells Z.toArray t)).alloc (.cells #[.slice A bs.length c, .bool false] 56)) ∧ ((w.alloc (.cells Z.toArray t)).alloc (.cells #[.slice A bs.length c, .bool false] 56)).heap.size = w.heap.size + 2 := by
  have k := ((Chg.refl Non w).alloc (.cells Z.toArray t)).alloc (.cells #[.slice A bs.length c, .bool false] 56)
  have hs : (w.alloc (.cells Z.toArray t)).heap.size = w.heap.size + 1 := by simp
  have hb := Hb.new (w.alloc (.cells Z.toArray t)) 56 #[.slice A bs.length c, .bool false]
  rw [hs] at hb
  exact ⟨⟨by omega, A, c, hb, hr.chg k (fun _ _ f => f), hc, hcm, hA⟩, (Hb.new w t Z.toArray).alloc _, k, by simp⟩
end Go.Proofs.Yteglpgakikigiaa

/- Parts and proofs of package forms: their bytes, when they are right. Plain mathematics. -/
namespace Go.Proofs.Yteglpgakikigiaa
open Go.RowKit
set_option linter.unusedVariables false
set_option linter.unusedSimpArgs false
set_option maxRecDepth 20000

structure Pa where
  index : Int
  key : ByteArray
  value : ByteArray
  path : List (List UInt8)
structure Pa.Ok (x : Pa) : Prop where
  index : I64 x.index
  key : x.key.size ≤ maxLen
  value : x.value.size ≤ maxLen
  path : ∀ h ∈ x.path, h.length = 32
def Pa.right (x : Pa) : Bool := inR 0 4096 x.index && (decide (x.key.size ≤ 4096) && (decide (x.value.size ≤ 4096) && inR 0 16 x.path.length))
def Pa.enc (x : Pa) : List UInt8 := num x.index ++ (tx x.key.data.toList ++ (tx x.value.data.toList ++ encL id x.path))
/-- A part in memory: its path is a slice. -/
structure Pm where
  part : Pa
  A : Option Addr
  c : Nat
def Pm.cells (m : Pm) : List Value := [.int .i64 m.part.index, .string m.part.key, .string m.part.value, .slice m.A m.part.path.length m.c]
structure Pf where
  size : Int
  parts : List Pa
def Pf.right (x : Pf) : Bool := inR 0 4096 x.size && (inR 0 2 x.parts.length && x.parts.all Pa.right)
def Pf.enc (x : Pf) : List UInt8 := num 7 ++ (num x.size ++ encL Pa.enc x.parts)
theorem path_len {l : List (List UInt8)} (h : ∀ x ∈ l, x.length = 32) : (l.flatMap id).length = l.length * 32 := by
  induction l with
  | nil => rfl
  | cons x l ih =>
    rw [List.flatMap_cons, List.length_append, ih (fun y hy => h y (by simp [hy])), List.length_cons]
    have := h x (by simp)
    simp only [id]
    omega
theorem Pa.enc_len {x : Pa} (h : x.right = true) (ox : x.Ok) : x.enc.length ≤ 20000 := by
  unfold Pa.right at h
  simp only [Bool.and_eq_true, decide_eq_true_eq] at h
  obtain ⟨_, h1, h2, h3⟩ := h
  have h4 := (inR_iff.1 h3).2
  have hp := path_len ox.path
  unfold Pa.enc encL
  simp only [List.length_append, num_length, tx_length, hp]
  have e1 : x.key.data.size = x.key.size := rfl
  have e2 : x.value.data.size = x.value.size := rfl
  simp only [Array.length_toList]
  omega
end Go.Proofs.Yteglpgakikigiaa

/- Parts and proofs of package forms: what bytes are. Plain mathematics. -/
namespace Go.Proofs.Yteglpgakikigiaa
open Go.RowKit
set_option linter.unusedVariables false
set_option linter.unusedSimpArgs false
set_option maxRecDepth 20000

def dHs (st : St) : Option (List UInt8 × St) := some (vH st, nH st)
theorem dHs_inv (st : St) (x : List UInt8) (r : List UInt8) (h : dHs st = some (x, some r)) : st = some (id x ++ r) ∧ x.length = 32 := by
  unfold dHs at h
  simp only [Option.some.injEq, Prod.mk.injEq] at h
  obtain ⟨rfl, h1⟩ := h
  exact ⟨nH_inv h1, vH_length st⟩
theorem dHs_app (x : List UInt8) (r : List UInt8) (ox : x.length = 32) : dHs (some (id x ++ r)) = some (x, some r) := by
  unfold dHs
  rw [id, (vH_app x ox r).1, (vH_app x ox r).2]
def dPa (st : St) : Option (Pa × St) :=
  (dNum 0 4096 st).bind fun i => (dText 4096 i.2).bind fun k => (dText 4096 k.2).bind fun v => (dList dHs 16 v.2).bind fun l => some (⟨i.1, k.1, v.1, l.1⟩, l.2)
theorem dPa_inv (st : St) (x : Pa) (r : List UInt8) (h : dPa st = some (x, some r)) : st = some (x.enc ++ r) ∧ (x.right = true ∧ x.Ok) := by
  unfold dPa at h
  simp only [Option.bind_eq_some_iff, Option.some.injEq, Prod.mk.injEq, Prod.exists] at h
  obtain ⟨i, s1, h1, k, s2, h2, v, s3, h3, l, s4, h4, rfl, rfl⟩ := h
  obtain ⟨e4, o4, o5⟩ := dList_inv dHs_inv h4
  rw [e4] at h3
  obtain ⟨e3, o3⟩ := dText_inv h3
  rw [e3] at h2
  obtain ⟨e2, o2⟩ := dText_inv h2
  rw [e2] at h1
  obtain ⟨e1, o1⟩ := dNum_inv h1
  refine ⟨?_, by simp [Pa.right, o1, o2, o3, o5], i64_in o1 (by omega) (by omega), by show k.size ≤ maxLen; unfold maxLen; omega, by show v.size ≤ maxLen; unfold maxLen; omega, o4⟩
  rw [e1]
  simp only [Pa.enc, List.append_assoc]
theorem dPa_app (x : Pa) (r : List UInt8) (h : x.right = true ∧ x.Ok) : dPa (some (x.enc ++ r)) = some (x, some r) := by
  obtain ⟨h, ox⟩ := h
  unfold Pa.right at h
  simp only [Bool.and_eq_true, decide_eq_true_eq] at h
  obtain ⟨o1, o2, o3, o4⟩ := h
  have h64 := (inR_iff.1 o4).2
  unfold dPa Pa.enc
  simp only [List.append_assoc]
  rw [dNum_app ox.index.l ox.index.h o1, Option.bind_some]
  simp only
  rw [dText_app o2 (by omega), Option.bind_some]
  simp only
  rw [dText_app o3 (by omega), Option.bind_some]
  simp only
  rw [dList_app dHs_app o4 (by omega) ox.path, Option.bind_some]
def dProof (st : St) : Option (Pf × St) :=
  (dBegin 7 st).bind fun s => (dNum 0 4096 s).bind fun n => (dList dPa 2 n.2).bind fun l => some (⟨n.1, l.1⟩, l.2)
theorem dProof_inv {st : St} {x : Pf} {r : List UInt8} (h : dProof st = some (x, some r)) : st = some (x.enc ++ r) ∧ x.right = true ∧ I64 x.size ∧ ∀ y ∈ x.parts, y.right = true ∧ y.Ok := by
  unfold dProof at h
  simp only [Option.bind_eq_some_iff, Option.some.injEq, Prod.mk.injEq, Prod.exists] at h
  obtain ⟨s1, h1, n, s2, h2, l, s3, h3, rfl, rfl⟩ := h
  obtain ⟨e3, o3, o4⟩ := dList_inv dPa_inv h3
  rw [e3] at h2
  obtain ⟨e2, o2⟩ := dNum_inv h2
  rw [e2] at h1
  have e1 := dBegin_inv h1
  refine ⟨?_, ?_, i64_in o2 (by omega) (by omega), o3⟩
  · rw [e1]; simp only [Pf.enc, List.append_assoc]
  · unfold Pf.right
    simp only [Bool.and_eq_true, List.all_eq_true]
    exact ⟨o2, o4, fun y hy => (o3 y hy).1⟩
theorem dProof_app {x : Pf} (hs : I64 x.size) (h : x.right = true) (ol : ∀ y ∈ x.parts, y.Ok) (r : List UInt8) : dProof (some (x.enc ++ r)) = some (x, some r) := by
  unfold Pf.right at h
  simp only [Bool.and_eq_true, List.all_eq_true] at h
  obtain ⟨o1, o2, o3⟩ := h
  have h64 := (inR_iff.1 o2).2
  unfold dProof Pf.enc
  simp only [List.append_assoc]
  rw [dBegin_app (by omega) (by omega), Option.bind_some, dNum_app hs.l hs.h o1, Option.bind_some]
  simp only
  rw [dList_app dPa_app o2 (by omega) (fun y hy => ⟨o3 y hy, ol y hy⟩), Option.bind_some]
end Go.Proofs.Yteglpgakikigiaa

/- What the document's reader reads of proofs, right or not: plain mathematics. -/
namespace Go.Proofs.Yteglpgakikigiaa
open Go.RowKit
set_option linter.unusedVariables false
set_option linter.unusedSimpArgs false
set_option maxRecDepth 20000

theorem fNum_none (st : St) (h : st.bind fNumber = none) : vN st = 0 ∧ nW st = none := by
  refine ⟨by unfold vN; rw [h]; rfl, ?_⟩
  unfold nW
  cases st with
  | none => rfl
  | some l =>
    simp only [Option.bind_some] at h ⊢
    unfold fNumber at h
    cases hw : fWord l with
    | none => rfl
    | some x => rw [hw] at h; simp at h
theorem count_in {most : Int} {st : St} (hm : 0 ≤ most) (h : inR 0 most (vN st) = true) : vC most st = vN st ∧ nC most st = nW st := by
  have h' := inR_iff.1 h
  unfold vC nC vN nW at *
  cases st with
  | none => exact ⟨rfl, rfl⟩
  | some l =>
    simp only [Option.bind_some] at *
    unfold fCount fNumber at *
    cases hw : fWord l with
    | none => exact ⟨rfl, rfl⟩
    | some x =>
      rw [hw] at h'
      simp only [Option.map_some, Option.bind_some, Option.getD_some] at h' ⊢
      rw [if_pos h']
      exact ⟨rfl, rfl⟩
theorem count_out {most : Int} {st : St} (hm : 0 ≤ most) (h : ¬ inR 0 most (vN st) = true) : vC most st = 0 ∧ nC most st = none := by
  have h' : ¬ (0 ≤ vN st ∧ vN st ≤ most) := fun e => h (inR_iff.2 e)
  unfold vC nC vN at *
  cases st with
  | none => exact ⟨rfl, rfl⟩
  | some l =>
    simp only [Option.bind_some] at *
    unfold fCount fNumber at *
    cases hw : fWord l with
    | none => exact ⟨rfl, rfl⟩
    | some x =>
      rw [hw] at h'
      simp only [Option.map_some, Option.bind_some, Option.getD_some] at h' ⊢
      rw [if_neg h']
      exact ⟨rfl, rfl⟩
theorem vC_range (most : Int) (st : St) (hm : 0 ≤ most) : 0 ≤ vC most st ∧ vC most st ≤ most := by
  by_cases h : inR 0 most (vN st) = true
  · rw [(count_in hm h).1]; exact inR_iff.1 h
  · rw [(count_out hm h).1]; omega
theorem nC_none (most : Int) : nC most none = none := rfl
/-- So many hashes. -/
def rHs (st : St) : Nat → List (List UInt8) × St
  | 0 => ([], st)
  | k + 1 => ((rHs st k).1 ++ [vH (rHs st k).2], nH (rHs st k).2)
theorem rHs_len (st : St) : ∀ k, (rHs st k).1.length = k
  | 0 => rfl
  | k + 1 => by unfold rHs; rw [List.length_append, rHs_len st k]; rfl
theorem rHs_none : ∀ k, (rHs none k).2 = none
  | 0 => rfl
  | k + 1 => by unfold rHs; simp only; rw [rHs_none k]; rfl
theorem rHs_32 (st : St) : ∀ k, ∀ x ∈ (rHs st k).1, x.length = 32
  | 0, x, h => by simp [rHs] at h
  | k + 1, x, h => by
    unfold rHs at h
    rcases List.mem_append.1 h with h | h
    · exact rHs_32 st k x h
    · rw [List.mem_singleton.1 h]; exact vH_length _
theorem rHs_is (st : St) : ∀ k, dK dHs st k = some (rHs st k)
  | 0 => rfl
  | k + 1 => by
    unfold dK
    rw [rHs_is st k]
    rfl
/-- A part. -/
def rPa (st : St) : Pa × St :=
  (⟨vN st, ⟨(vT (nW st)).toArray⟩, ⟨(vT (nT (nW st))).toArray⟩, (rHs (nC 16 (nT (nT (nW st)))) (vC 16 (nT (nT (nW st)))).toNat).1⟩, (rHs (nC 16 (nT (nT (nW st)))) (vC 16 (nT (nT (nW st)))).toNat).2)
theorem rPa_path (st : St) : (rPa st).1.path.length ≤ 16 := by
  show (rHs _ _).1.length ≤ 16
  rw [rHs_len]
  have := vC_range 16 (nT (nT (nW st))) (by omega)
  omega
theorem rPa_ok (st : St) : (rPa st).1.Ok := ⟨vN_64 _, vT_max _, vT_max _, rHs_32 _ _⟩
theorem rPa_right (st : St) : (rPa st).1.right = inR 0 4096 (vN st) := by
  unfold Pa.right
  have h1 : inR 0 16 ((rPa st).1.path.length : Int) = true := inR_iff.2 ⟨by omega, by have := rPa_path st; omega⟩
  have h2 : decide ((rPa st).1.key.size ≤ 4096) = true := decide_eq_true (vT_size _)
  have h3 : decide ((rPa st).1.value.size ≤ 4096) = true := decide_eq_true (vT_size _)
  rw [h1, h2, h3]
  simp [rPa]
theorem rPa_none : (rPa none).2 = none := rHs_none _
theorem dPa_is (st : St) : (dPa st = some (rPa st) ∧ (rPa st).1.right = true) ∨ (dPa st = none ∧ ((rPa st).2 = none ∨ (rPa st).1.right = false)) := by
  rw [rPa_right]
  unfold dPa
  by_cases h1 : inR 0 4096 (vN st) = true
  · have e1 : dNum 0 4096 st = some (vN st, nW st) := by unfold dNum; rw [if_pos h1]
    have e2 : dText 4096 (nW st) = some (⟨(vT (nW st)).toArray⟩, nT (nW st)) := by unfold dText; rw [if_pos (vT_le _)]
    have e3 : dText 4096 (nT (nW st)) = some (⟨(vT (nT (nW st))).toArray⟩, nT (nT (nW st))) := by unfold dText; rw [if_pos (vT_le _)]
    rw [e1, Option.bind_some]
    simp only
    rw [e2, Option.bind_some]
    simp only
    rw [e3, Option.bind_some]
    simp only
    unfold dList
    by_cases h2 : inR 0 16 (vN (nT (nT (nW st)))) = true
    · left
      obtain ⟨c1, c2⟩ := count_in (most := 16) (by omega) h2
      have e4 : dNum 0 16 (nT (nT (nW st))) = some (vN (nT (nT (nW st))), nW (nT (nT (nW st)))) := by unfold dNum; rw [if_pos h2]
      rw [e4, Option.bind_some]
      simp only
      rw [rHs_is, Option.bind_some]
      refine ⟨?_, h1⟩
      unfold rPa
      rw [c1, c2]
    · right
      obtain ⟨c1, c2⟩ := count_out (most := 16) (by omega) h2
      have e4 : dNum 0 16 (nT (nT (nW st))) = none := by unfold dNum; rw [if_neg h2]
      rw [e4]
      refine ⟨rfl, .inl ?_⟩
      unfold rPa
      rw [c2]
      exact rHs_none _
  · right
    have e1 : dNum 0 4096 st = none := by unfold dNum; rw [if_neg h1]
    rw [e1]
    exact ⟨rfl, .inr (by simpa using h1)⟩
/-- So many parts. -/
def rPs (st : St) : Nat → List Pa × St
  | 0 => ([], st)
  | k + 1 => ((rPs st k).1 ++ [(rPa (rPs st k).2).1], (rPa (rPs st k).2).2)
theorem rPs_len (st : St) : ∀ k, (rPs st k).1.length = k
  | 0 => rfl
  | k + 1 => by unfold rPs; rw [List.length_append, rPs_len st k]; rfl
theorem rPs_ok (st : St) : ∀ k, ∀ x ∈ (rPs st k).1, x.Ok ∧ x.path.length ≤ 16
  | 0, x, h => by simp [rPs] at h
  | k + 1, x, h => by
    unfold rPs at h
    rcases List.mem_append.1 h with h | h
    · exact rPs_ok st k x h
    · rw [List.mem_singleton.1 h]; exact ⟨rPa_ok _, rPa_path _⟩
theorem rPs_none : ∀ k, (rPs none k).2 = none
  | 0 => rfl
  | k + 1 => by unfold rPs; simp only; rw [rPs_none k]; exact rPa_none
theorem rPs_is (st : St) : ∀ k, (dK dPa st k = some (rPs st k) ∧ (rPs st k).1.all Pa.right = true) ∨ (dK dPa st k = none ∧ ((rPs st k).2 = none ∨ (rPs st k).1.all Pa.right = false))
  | 0 => .inl ⟨rfl, rfl⟩
  | k + 1 => by
    unfold dK rPs
    simp only [List.all_append, List.all_cons, List.all_nil, Bool.and_true]
    rcases rPs_is st k with ⟨h1, h2⟩ | ⟨h1, h2⟩
    · rw [h1, Option.bind_some, h2]
      rcases dPa_is (rPs st k).2 with ⟨h3, h4⟩ | ⟨h3, h4⟩
      · rw [h3]; exact .inl ⟨rfl, by simpa using h4⟩
      · rw [h3]; exact .inr ⟨rfl, by simpa using h4⟩
    · rw [h1]
      refine .inr ⟨rfl, ?_⟩
      rcases h2 with h2 | h2
      · rw [h2]; exact .inl rPa_none
      · rw [h2]; exact .inr rfl
/-- A proof. -/
def rProof (st : St) : Pf × St :=
  (⟨vN (rBeg 7 st), (rPs (nC 2 (nW (rBeg 7 st))) (vC 2 (nW (rBeg 7 st))).toNat).1⟩, (rPs (nC 2 (nW (rBeg 7 st))) (vC 2 (nW (rBeg 7 st))).toNat).2)
theorem rProof_is (st : St) : whole (dProof st) = if (rProof st).2 = some [] ∧ (rProof st).1.right = true then some (rProof st).1 else none := by
  have dead : (rProof st).2 = none → (none : Option Pf) = if (rProof st).2 = some [] ∧ (rProof st).1.right = true then some (rProof st).1 else none := fun h => by rw [h]; simp
  have bad : (rProof st).1.right = false → (none : Option Pf) = if (rProof st).2 = some [] ∧ (rProof st).1.right = true then some (rProof st).1 else none := fun h => by rw [h]; simp
  unfold dProof dBegin
  by_cases h0 : vN st = 7
  · have eb : rBeg 7 st = nW st := by unfold rBeg; rw [if_pos h0]
    rw [if_pos h0, Option.bind_some]
    by_cases h1 : inR 0 4096 (vN (nW st)) = true
    · have e1 : dNum 0 4096 (nW st) = some (vN (nW st), nW (nW st)) := by unfold dNum; rw [if_pos h1]
      rw [e1, Option.bind_some]
      simp only
      unfold dList
      by_cases h2 : inR 0 2 (vN (nW (nW st))) = true
      · obtain ⟨c1, c2⟩ := count_in (most := 2) (by omega) h2
        have e2 : dNum 0 2 (nW (nW st)) = some (vN (nW (nW st)), nW (nW (nW st))) := by unfold dNum; rw [if_pos h2]
        rw [e2, Option.bind_some]
        simp only
        have er : rProof st = (⟨vN (nW st), (rPs (nW (nW (nW st))) (vN (nW (nW st))).toNat).1⟩, (rPs (nW (nW (nW st))) (vN (nW (nW st))).toNat).2) := by unfold rProof; rw [eb, c1, c2]
        have hright : (rProof st).1.right = (rPs (nW (nW (nW st))) (vN (nW (nW st))).toNat).1.all Pa.right := by
          rw [er]
          unfold Pf.right
          simp only
          have hl := rPs_len (nW (nW (nW st))) (vN (nW (nW st))).toNat
          have hv := inR_iff.1 h2
          rw [hl, h1, inR_iff.2 (show (0 : Int) ≤ ((vN (nW (nW st))).toNat : Int) ∧ ((vN (nW (nW st))).toNat : Int) ≤ 2 by omega)]
          rfl
        rcases rPs_is (nW (nW (nW st))) (vN (nW (nW st))).toNat with ⟨h3, h4⟩ | ⟨h3, h4⟩
        · rw [h3, Option.bind_some, hright, h4, er]
          simp only [and_true]
          match (rPs (nW (nW (nW st))) (vN (nW (nW st))).toNat).2 with
          | none => rfl
          | some [] => rfl
          | some (_ :: _) => simp [whole]
        · rw [h3]
          rcases h4 with h4 | h4
          · exact dead (by rw [er]; exact h4)
          · exact bad (by rw [hright]; exact h4)
      · obtain ⟨c1, c2⟩ := count_out (most := 2) (by omega) h2
        have e2 : dNum 0 2 (nW (nW st)) = none := by unfold dNum; rw [if_neg h2]
        rw [e2]
        exact dead (by unfold rProof; rw [eb, c2]; exact rPs_none _)
    · have e1 : dNum 0 4096 (nW st) = none := by unfold dNum; rw [if_neg h1]
      rw [e1]
      refine bad ?_
      unfold rProof Pf.right
      rw [eb]
      have h1' : inR 0 4096 (vN (nW st)) = false := by simpa using h1
      simp only
      rw [h1']
      rfl
  · rw [if_neg h0]
    refine dead ?_
    unfold rProof rBeg
    rw [if_neg h0]
    exact rPs_none _
end Go.Proofs.Yteglpgakikigiaa

/- Lists of the call's own, of elements of any one type: append of one element. -/
namespace Go.Proofs.Yteglpgakikigiaa
open Go.RowKit
set_option linter.unusedVariables false
set_option linter.unusedSimpArgs false
set_option maxRecDepth 20000

theorem fill_list : ∀ (l : List Value) (k : Nat) (a : List Value), k + l.length ≤ a.length → (l.zipIdx k).foldl (fun (cs : Array Value) (p : Value × Nat) => cs.setIfInBounds (0 + p.2) p.1) a.toArray = (a.take k ++ (l ++ a.drop (k + l.length))).toArray
  | [], k, a, h => by simp
  | x :: l, k, a, h => by
    rw [List.zipIdx_cons, List.foldl_cons]
    rw [List.length_cons] at h
    have e : a.toArray.setIfInBounds (0 + k) x = (a.set k x).toArray := by simp
    simp only
    rw [e, fill_list l (k + 1) (a.set k x) (by rw [List.length_set]; omega)]
    congr 1
    have hk : k < a.length := by omega
    rw [List.take_set, List.drop_set_of_lt (by omega), List.length_cons]
    have h1 : (a.take (k + 1)).set k x = a.take k ++ [x] := by
      rw [List.take_add_one, List.getElem?_eq_getElem hk]
      simp only [Option.toList_some]
      rw [List.set_append_right _ _ (by simp; omega)]
      simp [Nat.min_eq_left (Nat.le_of_lt hk)]
    rw [h1, List.append_assoc, List.cons_append, List.nil_append, show k + 1 + l.length = k + (l.length + 1) by omega]
    simp
theorem fill_whole (cs : List Value) (a : Array Value) (h : a.size = cs.length) : (cs.toArray.zipIdx.foldl (fun (b : Array Value) (p : Value × Nat) => b.setIfInBounds (0 + p.2) p.1) a) = cs.toArray := by
  have h1 := fill_list cs 0 a.toList (by simp [h])
  simp only [Array.toArray_toList, List.take_zero, List.nil_append, Nat.zero_add] at h1
  rw [List.drop_of_length_le (by simp [h]), List.append_nil] at h1
  have e : (cs.toArray.zipIdx.foldl (fun (b : Array Value) (p : Value × Nat) => b.setIfInBounds (0 + p.2) p.1) a) = cs.zipIdx.foldl (fun (b : Array Value) (p : Value × Nat) => b.setIfInBounds (0 + p.2) p.1) a := by simp
  rw [e]
  simpa using h1
theorem flat_getU {α : Type} {cells : α → List Value} {sz : Nat} : ∀ (l : List α) (hc : ∀ x ∈ l, (cells x).length = sz) (i : Nat) (x : α), l[i]? = some x → ∀ (j : Nat) (u : Value), (cells x)[j]? = some u → (l.flatMap cells)[i * sz + j]? = some u
  | [], _, i, x, h, _, _, _ => by simp at h
  | y :: l, hc, 0, x, h, j, u, hu => by
    simp only [List.getElem?_cons_zero, Option.some.injEq] at h
    subst h
    rw [Nat.zero_mul, Nat.zero_add, List.flatMap_cons, List.getElem?_append_left (List.getElem?_eq_some_iff.1 hu).1]
    exact hu
  | y :: l, hc, i + 1, x, h, j, u, hu => by
    have hy := hc y (by simp)
    rw [List.flatMap_cons, List.getElem?_append_right (by rw [hy, Nat.succ_mul]; omega), hy]
    have e : (i + 1) * sz + j - sz = i * sz + j := by rw [Nat.succ_mul]; omega
    rw [e]
    exact flat_getU l (fun x hx => hc x (by simp [hx])) i x (by simpa using h) j u hu
theorem run_build1 (w : World) {t e : TypeId} {i : TypeInfo} {z : Value} {sz : Nat} (ht : Try.prog.underlying t = some (.slice e)) (hi : Try.prog.info? e = some i) (hz : i.zero = some z) (hs : i.size = sz) (hpos : 0 < sz) (hsz : sz ≤ 1000) (cs : List Value) (hcs : cs.length = sz) :
    (Instr.buildSlice t 1 #[(0, .agg cs.toArray)]).run Try.prog w = .ok (.slice (some ⟨w.heap.size, 0, none⟩) 1 1) (w.alloc (.cells cs.toArray e)) := by
  subst hs
  have hsz0 : ¬ (1 * i.size = 0) := by omega
  have hbig : ¬ (1 * i.size > 2 ^ 24) := by omega
  have hf : Instr.fill (fun j => some (j * i.size, i.size)) ((Array.range (1 * i.size)).map (z.cells[· % z.cells.size]!)) [(0, .agg cs.toArray)] = some cs.toArray := by
    unfold Instr.fill
    have h1 : (Value.agg cs.toArray).cells = cs.toArray := rfl
    rw [h1]
    simp only [List.size_toArray, Nat.zero_mul, Nat.zero_add, Array.size_map, Array.size_range, hcs]
    rw [if_neg (by simp)]
    unfold Instr.fill
    congr 1
    have := fill_whole cs ((Array.range (1 * i.size)).map (z.cells[· % z.cells.size]!)) (by simp [hcs])
    simpa using this
  unfold Instr.buildSlice
  simp only [Sem.run_bind, run_underlying ht, sizeOf, typeInfo, hi, Result.andThen_ok, Sem.run_pure, if_neg hbig, if_neg hsz0, zeroValue, hz]
  rw [Nat.one_mul] at hf
  simp [hi, hz, newRow]
  rw [if_neg (by omega), if_neg (by omega), hf]
  simp
/-- A list of the call's own. -/
def OwnL {α : Type} (e : TypeId) (sz : Nat) (cells : α → List Value) (w : World) (v : Value) (l : List α) : Prop := w.ownsRow 0 e sz v l.length (l.flatMap cells)
theorem flat_size {α : Type} {cells : α → List Value} {sz : Nat} : ∀ {l : List α}, (∀ x ∈ l, (cells x).length = sz) → (l.flatMap cells).length = l.length * sz
  | [], _ => by simp
  | x :: l, h => by rw [List.flatMap_cons, List.length_append, flat_size (fun y hy => h y (by simp [hy])), h x (by simp), List.length_cons, Nat.succ_mul]; omega
section
variable {α : Type} {e : TypeId} {sz : Nat} {cells : α → List Value} {w w' : World} {v : Value} {l : List α}
theorem OwnL.nil (w : World) : OwnL e sz cells w (.slice none 0 0) ([] : List α) := World.ownsRow_nil w 0 e sz
theorem OwnL.chg {S : Nat → Prop} (h : OwnL e sz cells w v l) (k : Chg S w w') (hS : ∀ j, vbl v j → ¬ S j) : OwnL e sz cells w' v l := by
  refine ⟨h.1, ?_⟩
  rcases h.2 with h0 | ⟨g, cap, cur, rfl, hb, hg, r⟩
  · exact .inl h0
  · exact .inr ⟨g, cap, cur, rfl, hb, (k.block g (Array.getElem?_eq_some_iff.1 hg).1 (hS g rfl)).trans hg, r⟩
theorem OwnL.lt (h : OwnL e sz cells w v l) : ∀ j, vbl v j → j < w.heap.size := by
  intro j hj
  rcases h.2 with ⟨rfl, _⟩ | ⟨g, cap, cur, rfl, hb, hg, r⟩
  · cases hj
  · have : some g = some j := hj
    injection this with this
    subst this
    exact (Array.getElem?_eq_some_iff.1 hg).1
theorem OwnL.ne {k : Nat} {t : TypeId} {cs : Array Value} (h : OwnL e sz cells w v l) (hb : Hb w k t cs) (hne : e ≠ t) : ¬ vbl v k := by
  intro hj
  rcases h.2 with ⟨rfl, _⟩ | ⟨g, cap, cur, rfl, _, hg, _⟩
  · cases hj
  · have : some g = some k := hj
    injection this with this
    subst this
    have h2 : some (Obj.cells cur e (0, 0)) = some (Obj.cells cs t (0, 0)) := hg.symm.trans hb
    injection h2 with h2
    injection h2 with _ h3
    exact hne h3
/-- Where it lies. -/
theorem OwnL.slice (h : OwnL e sz cells w v l) (hc : ∀ x ∈ l, (cells x).length = sz) (hpos : 0 < sz) : ∃ A c, v = .slice A l.length c ∧ l.length ≤ c ∧ (∀ j, abl A j → vbl v j) ∧
    ∀ (i : Nat) (x : α), l[i]? = some x → ∃ eb eo, A = some ⟨eb, eo, none⟩ ∧ eb < w.heap.size ∧ w.rangeAt eb (eo + i * sz) (cells x) := by
  rcases h.2 with ⟨rfl, h0⟩ | ⟨g, cap, cur, rfl, hb, hg, hn, hm, hs, ht⟩
  · have : l = [] := List.eq_nil_of_length_eq_zero h0
    subst this
    exact ⟨none, 0, rfl, Nat.le_refl _, (by rintro j ⟨_, h, _⟩; cases h), by intro i x hx; simp at hx⟩
  · refine ⟨some ⟨g, 0, none⟩, cap, rfl, hn, (by rintro j ⟨_, h, rfl⟩; injection h with h; subst h; rfl), fun i x hx => ⟨g, 0, rfl, (Array.getElem?_eq_some_iff.1 hg).1, fun j u hu => ?_⟩⟩
    have hg' : Hb w g e cur := hg
    have hil := (List.getElem?_eq_some_iff.1 hx).1
    have hxm : x ∈ l := List.mem_of_getElem? hx
    have hj : j < sz := by rw [← hc x hxm]; exact (List.getElem?_eq_some_iff.1 hu).1
    have := flat_getU l hc i x hx j u hu
    have hb1 : i * sz + j < l.length * sz := by
      have : (i + 1) * sz ≤ l.length * sz := Nat.mul_le_mul_right _ hil
      rw [Nat.succ_mul] at this
      omega
    rw [← ht, List.getElem?_take, if_pos hb1] at this
    rw [Nat.zero_add, hg'.cell]
    simpa using this
/-- append of one element. -/
theorem run_app1 (w : World) (ty t : TypeId) {i : TypeInfo} {z : Value} {by' : Nat} (ht : Try.prog.underlying t = some (.slice e)) (hi : Try.prog.info? e = some i) (hz : i.zero = some z) (hs : i.size = sz) (hby : i.bytes = by') (hzs : z.cells.size = sz) (hpos : 0 < sz) (hbb : by' ≤ 1000)
    (hown : OwnL e sz cells w v l) (x : α) (hx : (cells x).length = sz) (h1 : ∀ u ∈ cells x, u.oneCell' = true) {nb c : Nat} (hb : Hb w nb e (cells x).toArray) (hlen : l.length ≤ 1000) :
    ∃ v' w', (Builtin.append_ #[t, t] ty #[v, .slice (some ⟨nb, 0, none⟩) 1 c]).run Try.prog w = .ok v' w' ∧ OwnL e sz cells w' v' (l ++ [x]) ∧ w.grownBy w' v.ownBlock ∧ (v'.ownBlock = v.ownBlock ∨ v'.ownBlock = some w.heap.size) := by
  obtain ⟨v', w', g1, g2, g3, _, g5⟩ := run_append_own_at (P := Try.prog) w 0 t ty e i z sz by' ht hi hz hs hby hzs hpos v l.length (l.flatMap cells) hown ⟨nb, 0, none⟩ 1 c (cells x) (by rw [hx, Nat.one_mul]) (fun j u hu => by
    rw [Addr.add_mid, Nat.zero_add, hb.cell]
    simpa using hu) h1 (by unfold maxLen; omega) (by
      have : (l.length + 1) * by' ≤ 1001 * 1000 := Nat.mul_le_mul (by omega) hbb
      omega) (Nat.zero_le _)
  refine ⟨v', w', g1, ?_, g3, g5⟩
  unfold OwnL
  rw [List.length_append, List.length_singleton, List.flatMap_append]
  simpa using g2
end
end Go.Proofs.Yteglpgakikigiaa
