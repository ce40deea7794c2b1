/- Package forms: votes, read: contracts. -/
import Derived.Test.YtjcfdclgddjaoaaChecked
import Derived.WalkKit
import Derived.WalkLawsBesides
import Derived.Lib.Hide
import Derived.Deep.RegionHeld3
import Derived.Test.YtjcfdclgddjaoaaFr
namespace Go.Proofs.Ytjcfdclgddjaoaa
open Go.RowKit
set_option linter.unusedVariables false
set_option linter.unusedSimpArgs false
set_option maxRecDepth 20000

theorem Rst.eq {W w : World} {g : Nat} {F : Nat → Prop} {tb : Nat} {t : TypeId} {L L' : List Value} {st : St} (S : Rst W g F tb t L st w) (h : L = L') : Rst W g F tb t L' st w := h ▸ S

theorem signature_r (w : World) (g : Nat) (F : Nat → Prop) (tb o : Nat) (t : TypeId) (p q : List Value) (x y : Value) (st : St) (S : Rst w g F tb t (p ++ x :: y :: q) st w) (ho : o = p.length) :
    Calls Try.prog 95 #[.agg #[.pointer none, .pointer (some ⟨g, 0, none⟩)], .pointer (some ⟨tb, o, none⟩)] w (RO w g F tb t (p ++ x :: y :: q).length (some (p ++ .int .u64 (vW st : Int) :: .int .u64 (vW (nW st) : Int) :: q, nW (nW st)))) := by
  have HO := Lib.hid ho
  clear ho
  have S0 := S.non ((Chg.refl Non w).alloc (.cells #[.pointer none, .pointer (some ⟨g, 0, none⟩)] 138))
  have hw := S.nw (Nat.le_refl w.heap.size)
  have hx := Hb.new w 138 #[.pointer none, .pointer (some ⟨g, 0, none⟩)]
  have hx0 : (w.alloc (.cells #[.pointer none, .pointer (some ⟨g, 0, none⟩)] 138)).cell? ⟨w.heap.size, 0, none⟩ = some (.pointer none) := hx.cell 0
  have hx1 : (w.alloc (.cells #[.pointer none, .pointer (some ⟨g, 0, none⟩)] 138)).cell? ⟨w.heap.size, 1, none⟩ = some (.pointer (some ⟨g, 0, none⟩)) := hx.cell 1
  have S1 := S0.here
  clear hx S
  go_enter Try.func95, Try.ntmps95
  go_wp2_with fail
  generalize w.alloc (.cells #[.pointer none, .pointer (some ⟨g, 0, none⟩)] 138) = B at *
  have D2 := S1.non ((Chg.refl Non B).drew)
  have x0 := D2.chg.cell hx0 hw
  have x1 := D2.chg.cell hx1 hw
  go_region_held (fun w' => w'.cell? ⟨w.heap.size, 0, none⟩ = some (.pointer none) ∧ w'.cell? ⟨w.heap.size, 1, none⟩ = some (.pointer (some ⟨g, 0, none⟩))) (first | exact ⟨y0, y1⟩ | exact ⟨x0, x1⟩ | assumption) (first | (go_at_call 94; go_loud (refine (word_r _ g F tb o t p (y :: q) x st D2.here HO.out).mono ?_; rintro e w2 h2; have y0 := h2.chg.cell x0 hw; have y1 := h2.chg.cell x1 hw; obtain ⟨rfl, T2⟩ := h2)) | fail)
  have S2 := D2.trans T2
  clear D2 T2 x0 x1 y0 y1
  go_wp2_with fail
  have D3 := S2.non ((Chg.refl Non w2).drew)
  have x0 := D3.chg.cell hx0 hw
  have x1 := D3.chg.cell hx1 hw
  go_region_held (fun w' => w'.cell? ⟨w.heap.size, 0, none⟩ = some (.pointer none) ∧ w'.cell? ⟨w.heap.size, 1, none⟩ = some (.pointer (some ⟨g, 0, none⟩))) (first | exact ⟨y0, y1⟩ | exact ⟨x0, x1⟩ | assumption) (first | (go_at_call 94; go_loud (refine (word_r _ g F tb (o + 1) t (p ++ [.int .u64 (vW st : Int)]) q y (nW st) (D3.here.eq (by simp)) (by rw [HO.out]; simp)).mono ?_; rintro e w3 h3; have y0 := h3.chg.cell x0 hw; have y1 := h3.chg.cell x1 hw; obtain ⟨rfl, T3⟩ := h3)) | fail)
  have S3 := D3.trans T3
  go_wp2
  go_end0
  exact ⟨rfl, (S0.trans S3).eq (by simp)⟩

theorem vote_r_old {old : List Value} (h : old.length = 39) : ∃ (a0 : Value) (a1 : Value) (a2 : Value) (a3 : Value) (o4 : List Value) (a5 : Value) (a6 : Value) (a7 : Value), old = [a0] ++ [a1] ++ [a2] ++ [a3] ++ o4 ++ [a5] ++ [a6] ++ [a7] ∧ o4.length = 32 ∧ True := by
  refine ⟨(old[0]'(by omega)), (old[1]'(by omega)), (old[2]'(by omega)), (old[3]'(by omega)), ((old.drop 4).take 32), (old[36]'(by omega)), (old[37]'(by omega)), (old[38]'(by omega)), ?_, by simp; omega, trivial⟩
  apply List.ext_getElem?
  intro j
  have hone : ∀ (i : Nat) (hi : i < old.length), [old[i]] = (old.drop i).take 1 := by
    intro i hi
    apply List.ext_getElem?
    intro k
    rw [List.getElem?_take, List.getElem?_drop]
    by_cases hk : k < 1
    · obtain rfl : k = 0 := by omega
      simp [List.getElem?_eq_getElem hi]
    · rw [if_neg hk, List.getElem?_eq_none (by simp; omega)]
  simp only [hone]
  have hj : ∀ (a b c : Nat), a + b = c → (old.drop a).take b ++ old.drop c = old.drop a := by
    intro a b c e
    subst e
    rw [← List.drop_drop, List.take_append_drop]
  have he : old.drop 39 = [] := List.drop_of_length_le (by omega)
  have hall : (old.drop 0).take 1 ++ ((old.drop 1).take 1 ++ ((old.drop 2).take 1 ++ ((old.drop 3).take 1 ++ ((old.drop 4).take 32 ++ ((old.drop 36).take 1 ++ ((old.drop 37).take 1 ++ ((old.drop 38).take 1 ++ old.drop 39))))))) = old := by
    rw [hj 38 1 39 rfl, hj 37 1 38 rfl, hj 36 1 37 rfl, hj 4 32 36 rfl, hj 3 1 4 rfl, hj 2 1 3 rfl, hj 1 1 2 rfl, hj 0 1 1 rfl]
    rfl
  rw [he, List.append_nil] at hall
  conv => lhs; rw [← hall]
  simp only [List.append_assoc]

set_option maxHeartbeats 1600000 in
theorem vote_r (w : World) (g : Nat) (F : Nat → Prop) (tb o : Nat) (t : TypeId) (p q old : List Value) (st : St) (S : Rst w g F tb t (p ++ (old ++ q)) st w) (ho : o = p.length) (hold : old.length = 39) :
    Calls Try.prog 48 #[.agg #[.pointer none, .pointer (some ⟨g, 0, none⟩)], .pointer (some ⟨tb, o, none⟩)] w (RO w g F tb t (p ++ (old ++ q)).length ((dVote st).map fun y => (p ++ (y.1.cells ++ q), y.2))) := by
  obtain ⟨a0, a1, a2, a3, o4, a5, a6, a7, rfl, l_o4, _⟩ := vote_r_old hold
  generalize hn : (p ++ (_ ++ q)).length = n
  generalize hr : (dVote st).map _ = r
  have HR := Lib.hid hr
  have HN := Lib.hid hn
  have HO := Lib.hid ho
  clear hr hn ho hold
  have S0 := S.non ((Chg.refl Non w).alloc (.cells #[.pointer none, .pointer (some ⟨g, 0, none⟩)] 138))
  have hw := S.nw (Nat.le_refl w.heap.size)
  have hx := Hb.new w 138 #[.pointer none, .pointer (some ⟨g, 0, none⟩)]
  have hx0 : (w.alloc (.cells #[.pointer none, .pointer (some ⟨g, 0, none⟩)] 138)).cell? ⟨w.heap.size, 0, none⟩ = some (.pointer none) := hx.cell 0
  have hx1 : (w.alloc (.cells #[.pointer none, .pointer (some ⟨g, 0, none⟩)] 138)).cell? ⟨w.heap.size, 1, none⟩ = some (.pointer (some ⟨g, 0, none⟩)) := hx.cell 1
  have S1 := S0.here
  obtain ⟨B, hB⟩ : ∃ B, B = w.alloc (.cells #[.pointer none, .pointer (some ⟨g, 0, none⟩)] 138) := ⟨_, rfl⟩
  clear hx S
  go_enter Try.func48, Try.ntmps48
  go_wp2_with fail
  rw [← hB] at S0 hx0 hx1 S1 ⊢
  clear hB
  have x0 := S1.chg.cell hx0 hw
  have x1 := S1.chg.cell hx1 hw
  go_wp2_with (first | (go_at_call 79; go_loud (refine (begin_r _ g F tb t _ st S1.here 1).mono ?_; rintro e w2 h2; rcases h2.cases with ⟨k, he, C, L', hL1, hL2⟩ | ⟨y, k, he, T2⟩; (subst he; obtain rfl : r = none := HR.out.symm.trans (by (simp only [Option.map_eq_none_iff] at k) <;> simp [dVote, k]); exact ⟨rfl, rfl, (S0.chg.trans (S1.chg.trans C (fun _ h => .inl h)) (fun _ h => .inl h)), L', by (rw [hL1, ← HN.out]) <;> simp [bv_length, vH_length, l_o4], hL2⟩); subst he; obtain ⟨z2, k2, rfl⟩ := Option.map_eq_some_iff.1 k; clear k)) | fail)
  have S2 := S1.trans T2
  clear T2 x0 x1
  clear h2
  go_wp2_with fail
  have D3 := S2.non ((Chg.refl Non w2).drew)
  have x0 := D3.chg.cell hx0 hw
  have x1 := D3.chg.cell hx1 hw
  go_region_held (fun w' => w'.cell? ⟨w.heap.size, 0, none⟩ = some (.pointer none) ∧ w'.cell? ⟨w.heap.size, 1, none⟩ = some (.pointer (some ⟨g, 0, none⟩))) (first | exact ⟨y0, y1⟩ | exact ⟨x0, x1⟩ | assumption) (first | (go_at_call 81; go_loud (refine (name_r _ g F tb o t (p) (a1 :: a2 :: a3 :: o4 ++ (a5 :: a6 :: a7 :: q)) a0 z2 (D3.here.eq (by simp)) HO.out).mono ?_; rintro e w3 h3; have y0 := h3.chg.cell x0 hw; have y1 := h3.chg.cell x1 hw; rcases h3.cases with ⟨k, he, C, L', hL1, hL2⟩ | ⟨y, k, he, T3⟩; (subst he; obtain rfl : r = none := HR.out.symm.trans (by (simp only [Option.map_eq_none_iff] at k) <;> simp [dVote, k2, k]); exact ⟨rfl, rfl, (S0.chg.trans (D3.chg.trans C (fun _ h => .inl h)) (fun _ h => .inl h)), L', by (rw [hL1, ← HN.out]) <;> simp [bv_length, vH_length, l_o4], hL2⟩); subst he; obtain ⟨z3, k3, rfl⟩ := Option.map_eq_some_iff.1 k; clear k)) | fail)
  have S3 := D3.trans T3
  clear D3 T3 x0 x1 y0 y1
  clear h3
  go_wp2_with fail
  have D4 := S3.non ((Chg.refl Non w3).drew)
  have x0 := D4.chg.cell hx0 hw
  have x1 := D4.chg.cell hx1 hw
  go_region_held (fun w' => w'.cell? ⟨w.heap.size, 0, none⟩ = some (.pointer none) ∧ w'.cell? ⟨w.heap.size, 1, none⟩ = some (.pointer (some ⟨g, 0, none⟩))) (first | exact ⟨y0, y1⟩ | exact ⟨x0, x1⟩ | assumption) (first | (go_at_call 83; go_loud (refine (height_r _ g F tb (o + 1) t (p ++ (.string z3.1 :: [])) (a2 :: a3 :: o4 ++ (a5 :: a6 :: a7 :: q)) a1 z3.2 (D4.here.eq (by simp)) (by rw [HO.out]; simp [bv_length, vH_length])).mono ?_; rintro e w4 h4; have y0 := h4.chg.cell x0 hw; have y1 := h4.chg.cell x1 hw; rcases h4.cases with ⟨k, he, C, L', hL1, hL2⟩ | ⟨y, k, he, T4⟩; (subst he; obtain rfl : r = none := HR.out.symm.trans (by (simp only [Option.map_eq_none_iff] at k) <;> simp [dVote, k2, k3, k]); exact ⟨rfl, rfl, (S0.chg.trans (D4.chg.trans C (fun _ h => .inl h)) (fun _ h => .inl h)), L', by (rw [hL1, ← HN.out]) <;> simp [bv_length, vH_length, l_o4], hL2⟩); subst he; obtain ⟨z4, k4, rfl⟩ := Option.map_eq_some_iff.1 k; clear k)) | fail)
  have S4 := D4.trans T4
  clear D4 T4 x0 x1 y0 y1
  clear h4
  go_wp2_with fail
  have D5 := S4.non ((Chg.refl Non w4).drew)
  have x0 := D5.chg.cell hx0 hw
  have x1 := D5.chg.cell hx1 hw
  go_region_held (fun w' => w'.cell? ⟨w.heap.size, 0, none⟩ = some (.pointer none) ∧ w'.cell? ⟨w.heap.size, 1, none⟩ = some (.pointer (some ⟨g, 0, none⟩))) (first | exact ⟨y0, y1⟩ | exact ⟨x0, x1⟩ | assumption) (first | (go_at_call 91; go_loud (refine (round_r _ g F tb (o + 2) t (p ++ (.string z3.1 :: .int .i64 z4.1 :: [])) (a3 :: o4 ++ (a5 :: a6 :: a7 :: q)) a2 z4.2 (D5.here.eq (by simp)) (by rw [HO.out]; simp [bv_length, vH_length])).mono ?_; rintro e w5 h5; have y0 := h5.chg.cell x0 hw; have y1 := h5.chg.cell x1 hw; rcases h5.cases with ⟨k, he, C, L', hL1, hL2⟩ | ⟨y, k, he, T5⟩; (subst he; obtain rfl : r = none := HR.out.symm.trans (by (simp only [Option.map_eq_none_iff] at k) <;> simp [dVote, k2, k3, k4, k]); exact ⟨rfl, rfl, (S0.chg.trans (D5.chg.trans C (fun _ h => .inl h)) (fun _ h => .inl h)), L', by (rw [hL1, ← HN.out]) <;> simp [bv_length, vH_length, l_o4], hL2⟩); subst he; obtain ⟨z5, k5, rfl⟩ := Option.map_eq_some_iff.1 k; clear k)) | fail)
  have S5 := D5.trans T5
  clear D5 T5 x0 x1 y0 y1
  clear h5
  go_wp2_with fail
  have D6 := S5.non ((Chg.refl Non w5).drew)
  have x0 := D6.chg.cell hx0 hw
  have x1 := D6.chg.cell hx1 hw
  go_region_held (fun w' => w'.cell? ⟨w.heap.size, 0, none⟩ = some (.pointer none) ∧ w'.cell? ⟨w.heap.size, 1, none⟩ = some (.pointer (some ⟨g, 0, none⟩))) (first | exact ⟨y0, y1⟩ | exact ⟨x0, x1⟩ | assumption) (first | (go_at_call 92; go_loud (refine (numberT_r _ g F tb (o + 3) t (p ++ (.string z3.1 :: .int .i64 z4.1 :: .int .i64 z5.1 :: [])) (o4 ++ (a5 :: a6 :: a7 :: q)) a3 z5.2 (D6.here.eq (by simp)) (by rw [HO.out]; simp [bv_length, vH_length]) 1 2).mono ?_; rintro e w6 h6; have y0 := h6.chg.cell x0 hw; have y1 := h6.chg.cell x1 hw; rcases h6.cases with ⟨k, he, C, L', hL1, hL2⟩ | ⟨y, k, he, T6⟩; (subst he; obtain rfl : r = none := HR.out.symm.trans (by (simp only [Option.map_eq_none_iff] at k) <;> simp [dVote, k2, k3, k4, k5, k]); exact ⟨rfl, rfl, (S0.chg.trans (D6.chg.trans C (fun _ h => .inl h)) (fun _ h => .inl h)), L', by (rw [hL1, ← HN.out]) <;> simp [bv_length, vH_length, l_o4], hL2⟩); subst he; obtain ⟨z6, k6, rfl⟩ := Option.map_eq_some_iff.1 k; clear k)) | fail)
  have S6 := D6.trans T6
  clear D6 T6 x0 x1 y0 y1
  clear h6
  go_wp2_with fail
  have D7 := S6.non ((Chg.refl Non w6).drew)
  have x0 := D7.chg.cell hx0 hw
  have x1 := D7.chg.cell hx1 hw
  go_region_held (fun w' => w'.cell? ⟨w.heap.size, 0, none⟩ = some (.pointer none) ∧ w'.cell? ⟨w.heap.size, 1, none⟩ = some (.pointer (some ⟨g, 0, none⟩))) (first | exact ⟨y0, y1⟩ | exact ⟨x0, x1⟩ | assumption) (first | (go_at_call 93; go_loud (refine (hash_r _ g F tb (o + 4) t (p ++ (.string z3.1 :: .int .i64 z4.1 :: .int .i64 z5.1 :: .int .i64 z6.1 :: [])) (a5 :: a6 :: a7 :: q) o4 z6.2 (D7.here.eq (by simp)) (by rw [HO.out]; simp [bv_length, vH_length]) l_o4).mono ?_; rintro e w7 h7; have y0 := h7.chg.cell x0 hw; have y1 := h7.chg.cell x1 hw; obtain ⟨rfl, T7⟩ := h7)) | fail)
  have S7 := D7.trans T7
  clear D7 T7 x0 x1 y0 y1
  go_wp2_with fail
  have D8 := S7.non ((Chg.refl Non w7).drew)
  have x0 := D8.chg.cell hx0 hw
  have x1 := D8.chg.cell hx1 hw
  go_region_held (fun w' => w'.cell? ⟨w.heap.size, 0, none⟩ = some (.pointer none) ∧ w'.cell? ⟨w.heap.size, 1, none⟩ = some (.pointer (some ⟨g, 0, none⟩))) (first | exact ⟨y0, y1⟩ | exact ⟨x0, x1⟩ | assumption) (first | (go_at_call 94; go_loud (refine (word_r _ g F tb (o + 36) t (p ++ (.string z3.1 :: .int .i64 z4.1 :: .int .i64 z5.1 :: .int .i64 z6.1 :: bv (vH z6.2) ++ ([]))) (a6 :: a7 :: q) a5 (nH z6.2) (D8.here.eq (by simp)) (by rw [HO.out]; simp [bv_length, vH_length])).mono ?_; rintro e w8 h8; have y0 := h8.chg.cell x0 hw; have y1 := h8.chg.cell x1 hw; obtain ⟨rfl, T8⟩ := h8)) | fail)
  have S8 := D8.trans T8
  clear D8 T8 x0 x1 y0 y1
  go_wp2_with fail
  have D9 := S8.non ((Chg.refl Non w8).drew)
  have x0 := D9.chg.cell hx0 hw
  have x1 := D9.chg.cell hx1 hw
  go_region_held (fun w' => w'.cell? ⟨w.heap.size, 0, none⟩ = some (.pointer none) ∧ w'.cell? ⟨w.heap.size, 1, none⟩ = some (.pointer (some ⟨g, 0, none⟩))) (first | exact ⟨y0, y1⟩ | exact ⟨x0, x1⟩ | assumption) (first | (go_at_call 95; go_loud (refine (signature_r _ g F tb (o + 37) t (p ++ (.string z3.1 :: .int .i64 z4.1 :: .int .i64 z5.1 :: .int .i64 z6.1 :: bv (vH z6.2) ++ (.int .u64 (vW (nH z6.2) : Int) :: []))) (q) a6 a7 (nW (nH z6.2)) (D9.here.eq (by simp)) (by rw [HO.out]; simp [bv_length, vH_length])).mono ?_; rintro e w9 h9; have y0 := h9.chg.cell x0 hw; have y1 := h9.chg.cell x1 hw; obtain ⟨rfl, T9⟩ := h9)) | fail)
  have S9 := D9.trans T9
  clear D9 T9 x0 x1 y0 y1
  obtain rfl : r = some (_, (nW (nW (nW (nH z6.2))))) := HR.out.symm.trans (by simp only [dVote, k2, k3, k4, k5, k6, Option.bind_some, Option.map_some]; rfl)
  go_wp2
  go_end0
  refine ⟨rfl, (S0.trans S9).eq ?_⟩
  simp [Vt.cells]

end Go.Proofs.Ytjcfdclgddjaoaa
