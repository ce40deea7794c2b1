/- Package forms: packets, read: contracts. -/
import Derived.Test.YtjcfdclgddjaoaaChecked
import Derived.WalkKit
import Derived.WalkLawsBesides
import Derived.Lib.Hide
import Derived.Deep.RegionHeld3
import Derived.Test.YtjcfdclgddjaoaaFr
import Derived.Test.YtjcfdclgddjaoaaFcv
namespace Go.Proofs.Ytjcfdclgddjaoaa
open Go.RowKit
set_option linter.unusedVariables false
set_option maxRecDepth 20000
theorem packet_r_old {old : List Value} (h : old.length = 4) : ∃ (a0 : Value) (a1 : Value) (a2 : Value) (a3 : Value), old = [a0] ++ [a1] ++ [a2] ++ [a3] ∧ True := by
  refine ⟨(old[0]'(by omega)), (old[1]'(by omega)), (old[2]'(by omega)), (old[3]'(by omega)), ?_, trivial⟩
  apply List.ext_getElem?
  intro j
  have hone : ∀ (i : Nat) (hi : i < old.length), [old[i]] = (old.drop i).take 1 := by
    intro i hi
    apply List.ext_getElem?
    intro k
    rw [List.getElem?_take, List.getElem?_drop]
    by_cases hk : k < 1
    · obtain rfl : k = 0 := by omega
      simp [List.getElem?_eq_getElem hi]
    · rw [if_neg hk, List.getElem?_eq_none (by simp; omega)]
  simp only [hone]
  have hj : ∀ (a b c : Nat), a + b = c → (old.drop a).take b ++ old.drop c = old.drop a := by
    intro a b c e
    subst e
    rw [← List.drop_drop, List.take_append_drop]
  have he : old.drop 4 = [] := List.drop_of_length_le (by omega)
  have hall : (old.drop 0).take 1 ++ ((old.drop 1).take 1 ++ ((old.drop 2).take 1 ++ ((old.drop 3).take 1 ++ old.drop 4))) = old := by
    rw [hj 3 1 4 rfl, hj 2 1 3 rfl, hj 1 1 2 rfl, hj 0 1 1 rfl]
    rfl
  rw [he, List.append_nil] at hall
  conv => lhs; rw [← hall]
  simp only [List.append_assoc]

set_option maxHeartbeats 1600000 in
theorem packet_r (w : World) (g : Nat) (F : Nat → Prop) (tb o : Nat) (t : TypeId) (p q old : List Value) (st : St) (S : Rst w g F tb t (p ++ (old ++ q)) st w) (ho : o = p.length) (hold : old.length = 4) :
    Calls Try.prog 39 #[.agg #[.pointer none, .pointer (some ⟨g, 0, none⟩)], .pointer (some ⟨tb, o, none⟩)] w (RO w g F tb t (p ++ (old ++ q)).length ((dPacket st).map fun y => (p ++ (y.1.cells ++ q), y.2))) := by
  obtain ⟨a0, a1, a2, a3, rfl, _⟩ := packet_r_old hold
  generalize hn : (p ++ (_ ++ q)).length = n
  generalize hr : (dPacket st).map _ = r
  have HR := Lib.hid hr
  have HN := Lib.hid hn
  have HO := Lib.hid ho
  clear hr hn ho hold
  have S0 := S.non ((Chg.refl Non w).alloc (.cells #[.pointer none, .pointer (some ⟨g, 0, none⟩)] 138))
  have hw := S.nw (Nat.le_refl w.heap.size)
  have hx := Hb.new w 138 #[.pointer none, .pointer (some ⟨g, 0, none⟩)]
  have hx0 : (w.alloc (.cells #[.pointer none, .pointer (some ⟨g, 0, none⟩)] 138)).cell? ⟨w.heap.size, 0, none⟩ = some (.pointer none) := hx.cell 0
  have hx1 : (w.alloc (.cells #[.pointer none, .pointer (some ⟨g, 0, none⟩)] 138)).cell? ⟨w.heap.size, 1, none⟩ = some (.pointer (some ⟨g, 0, none⟩)) := hx.cell 1
  have S1 := S0.here
  obtain ⟨B, hB⟩ : ∃ B, B = w.alloc (.cells #[.pointer none, .pointer (some ⟨g, 0, none⟩)] 138) := ⟨_, rfl⟩
  clear hx S
  go_enter Try.func39, Try.ntmps39
  go_wp2_with fail
  rw [← hB] at S0 hx0 hx1 S1 ⊢
  clear hB
  have x0 := S1.chg.cell hx0 hw
  have x1 := S1.chg.cell hx1 hw
  go_wp2_with (first | (go_at_call 79; go_loud (refine (begin_r _ g F tb t _ st S1.here 6).mono ?_; rintro e w2 h2; rcases h2.cases with ⟨k, he, C, L', hL1, hL2⟩ | ⟨y, k, he, T2⟩; (subst he; obtain rfl : r = none := HR.out.symm.trans (by (simp only [Option.map_eq_none_iff] at k) <;> simp [dPacket, k]); exact ⟨rfl, rfl, (S0.chg.trans (S1.chg.trans C (fun _ h => .inl h)) (fun _ h => .inl h)), L', by (rw [hL1, ← HN.out]) <;> simp [bv_length, vH_length], hL2⟩); subst he; obtain ⟨z2, k2, rfl⟩ := Option.map_eq_some_iff.1 k; clear k)) | fail)
  have S2 := S1.trans T2
  clear T2 x0 x1
  clear h2
  go_wp2_with fail
  have D3 := S2.non ((Chg.refl Non w2).drew)
  have x0 := D3.chg.cell hx0 hw
  have x1 := D3.chg.cell hx1 hw
  go_region_held (fun w' => w'.cell? ⟨w.heap.size, 0, none⟩ = some (.pointer none) ∧ w'.cell? ⟨w.heap.size, 1, none⟩ = some (.pointer (some ⟨g, 0, none⟩))) (first | exact ⟨y0, y1⟩ | exact ⟨x0, x1⟩ | assumption) (first | (go_at_call 80; go_loud (refine (number_r _ g F tb o t (p) (a1 :: a2 :: a3 :: q) a0 z2 (D3.here.eq (by simp)) HO.out 1 1099511627776).mono ?_; rintro e w3 h3; have y0 := h3.chg.cell x0 hw; have y1 := h3.chg.cell x1 hw; rcases h3.cases with ⟨k, he, C, L', hL1, hL2⟩ | ⟨y, k, he, T3⟩; (subst he; obtain rfl : r = none := HR.out.symm.trans (by (simp only [Option.map_eq_none_iff] at k) <;> simp [dPacket, k2, k]); exact ⟨rfl, rfl, (S0.chg.trans (D3.chg.trans C (fun _ h => .inl h)) (fun _ h => .inl h)), L', by (rw [hL1, ← HN.out]) <;> simp [bv_length, vH_length], hL2⟩); subst he; obtain ⟨z3, k3, rfl⟩ := Option.map_eq_some_iff.1 k; clear k)) | fail)
  have S3 := D3.trans T3
  clear D3 T3 x0 x1 y0 y1
  clear h3
  go_wp2_with fail
  have D4 := S3.non ((Chg.refl Non w3).drew)
  have x0 := D4.chg.cell hx0 hw
  have x1 := D4.chg.cell hx1 hw
  go_region_held (fun w' => w'.cell? ⟨w.heap.size, 0, none⟩ = some (.pointer none) ∧ w'.cell? ⟨w.heap.size, 1, none⟩ = some (.pointer (some ⟨g, 0, none⟩))) (first | exact ⟨y0, y1⟩ | exact ⟨x0, x1⟩ | assumption) (first | (go_at_call 81; go_loud (refine (name_r _ g F tb (o + 1) t (p ++ (.int .i64 z3.1 :: [])) (a2 :: a3 :: q) a1 z3.2 (D4.here.eq (by simp)) (by rw [HO.out]; simp [bv_length, vH_length])).mono ?_; rintro e w4 h4; have y0 := h4.chg.cell x0 hw; have y1 := h4.chg.cell x1 hw; rcases h4.cases with ⟨k, he, C, L', hL1, hL2⟩ | ⟨y, k, he, T4⟩; (subst he; obtain rfl : r = none := HR.out.symm.trans (by (simp only [Option.map_eq_none_iff] at k) <;> simp [dPacket, k2, k3, k]); exact ⟨rfl, rfl, (S0.chg.trans (D4.chg.trans C (fun _ h => .inl h)) (fun _ h => .inl h)), L', by (rw [hL1, ← HN.out]) <;> simp [bv_length, vH_length], hL2⟩); subst he; obtain ⟨z4, k4, rfl⟩ := Option.map_eq_some_iff.1 k; clear k)) | fail)
  have S4 := D4.trans T4
  clear D4 T4 x0 x1 y0 y1
  clear h4
  go_wp2_with fail
  have D5 := S4.non ((Chg.refl Non w4).drew)
  have x0 := D5.chg.cell hx0 hw
  have x1 := D5.chg.cell hx1 hw
  go_region_held (fun w' => w'.cell? ⟨w.heap.size, 0, none⟩ = some (.pointer none) ∧ w'.cell? ⟨w.heap.size, 1, none⟩ = some (.pointer (some ⟨g, 0, none⟩))) (first | exact ⟨y0, y1⟩ | exact ⟨x0, x1⟩ | assumption) (first | (go_at_call 82; go_loud (refine (text_r _ g F tb (o + 2) t (p ++ (.int .i64 z3.1 :: .string z4.1 :: [])) (a3 :: q) a2 z4.2 (D5.here.eq (by simp)) (by rw [HO.out]; simp [bv_length, vH_length]) 256 (by omega)).mono ?_; rintro e w5 h5; have y0 := h5.chg.cell x0 hw; have y1 := h5.chg.cell x1 hw; rcases h5.cases with ⟨k, he, C, L', hL1, hL2⟩ | ⟨y, k, he, T5⟩; (subst he; obtain rfl : r = none := HR.out.symm.trans (by (simp only [Option.map_eq_none_iff] at k) <;> simp [dPacket, k2, k3, k4, k]); exact ⟨rfl, rfl, (S0.chg.trans (D5.chg.trans C (fun _ h => .inl h)) (fun _ h => .inl h)), L', by (rw [hL1, ← HN.out]) <;> simp [bv_length, vH_length], hL2⟩); subst he; obtain ⟨z5, k5, rfl⟩ := Option.map_eq_some_iff.1 k; clear k)) | fail)
  have S5 := D5.trans T5
  clear D5 T5 x0 x1 y0 y1
  clear h5
  go_wp2_with fail
  have D6 := S5.non ((Chg.refl Non w5).drew)
  have x0 := D6.chg.cell hx0 hw
  have x1 := D6.chg.cell hx1 hw
  go_region_held (fun w' => w'.cell? ⟨w.heap.size, 0, none⟩ = some (.pointer none) ∧ w'.cell? ⟨w.heap.size, 1, none⟩ = some (.pointer (some ⟨g, 0, none⟩))) (first | exact ⟨y0, y1⟩ | exact ⟨x0, x1⟩ | assumption) (first | (go_at_call 83; go_loud (refine (height_r _ g F tb (o + 3) t (p ++ (.int .i64 z3.1 :: .string z4.1 :: .string z5.1 :: [])) (q) a3 z5.2 (D6.here.eq (by simp)) (by rw [HO.out]; simp [bv_length, vH_length])).mono ?_; rintro e w6 h6; have y0 := h6.chg.cell x0 hw; have y1 := h6.chg.cell x1 hw; rcases h6.cases with ⟨k, he, C, L', hL1, hL2⟩ | ⟨y, k, he, T6⟩; (subst he; obtain rfl : r = none := HR.out.symm.trans (by (simp only [Option.map_eq_none_iff] at k) <;> simp [dPacket, k2, k3, k4, k5, k]); exact ⟨rfl, rfl, (S0.chg.trans (D6.chg.trans C (fun _ h => .inl h)) (fun _ h => .inl h)), L', by (rw [hL1, ← HN.out]) <;> simp [bv_length, vH_length], hL2⟩); subst he; obtain ⟨z6, k6, rfl⟩ := Option.map_eq_some_iff.1 k; clear k)) | fail)
  have S6 := D6.trans T6
  clear D6 T6 x0 x1 y0 y1
  clear h6
  obtain rfl : r = some (_, z6.2) := HR.out.symm.trans (by simp only [dPacket, k2, k3, k4, k5, k6, Option.bind_some, Option.map_some]; rfl)
  go_wp2
  go_end0
  refine ⟨rfl, (S0.trans S6).eq ?_⟩
  simp [Pk.cells]

end Go.Proofs.Ytjcfdclgddjaoaa
