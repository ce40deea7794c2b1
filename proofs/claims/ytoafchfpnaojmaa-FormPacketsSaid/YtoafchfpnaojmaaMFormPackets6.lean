import Derived.Test.YtoafchfpnaojmaaChecked
import Derived.WalkKit
import Derived.WalkLawsBesides
import Derived.Lib.Hide
import Derived.Deep.RegionHeld3
import Derived.Recover
import Derived.Deep.RegionLaw
import Derived.Shelf.Abstract
import Derived.Test.YtoafchfpnaojmaaMFormPackets3
import Derived.Test.YtoafchfpnaojmaaMFormPackets4
import Derived.Test.YtoafchfpnaojmaaMFormPackets5
/- Package forms: packets, read: contracts. -/
namespace Go.Proofs.Ytoafchfpnaojmaa
open Go.RowKit
set_option linter.unusedVariables false
set_option linter.unusedSimpArgs false
set_option maxRecDepth 20000
theorem packet_r_old {old : List Value} (h : old.length = 4) : ∃ (a0 : Value) (a1 : Value) (a2 : Value) (a3 : Value), old = [a0] ++ [a1] ++ [a2] ++ [a3] ∧ True := by
  refine ⟨(old[0]'(by omega)), (old[1]'(by omega)), (old[2]'(by omega)), (old[3]'(by omega)), ?_, trivial⟩
  apply List.ext_getElem?
  intro j
  have hone : ∀ (i : Nat) (hi : i < old.length), [old[i]] = (old.drop i).take 1 := by
    intro i hi
    apply List.ext_getElem?
    intro k
    rw [List.getElem?_take, List.getElem?_drop]
    by_cases hk : k < 1
    · obtain rfl : k = 0 := by omega
      simp [List.getElem?_eq_getElem hi]
    · rw [if_neg hk, List.getElem?_eq_none (by simp; omega)]
  simp only [hone]
  have hj : ∀ (a b c : Nat), a + b = c → (old.drop a).take b ++ old.drop c = old.drop a := by
    intro a b c e
    subst e
    rw [← List.drop_drop, List.take_append_drop]
  have he : old.drop 4 = [] := List.drop_of_length_le (by omega)
  have hall : (old.drop 0).take 1 ++ ((old.drop 1).take 1 ++ ((old.drop 2).take 1 ++ ((old.drop 3).take 1 ++ old.drop 4))) = old := by
    rw [hj 3 1 4 rfl, hj 2 1 3 rfl, hj 1 1 2 rfl, hj 0 1 1 rfl]
    rfl
  rw [he, List.append_nil] at hall
  conv => lhs; rw [← hall]
  try simp only [List.append_assoc]

set_option maxHeartbeats 1600000 in
theorem packet_r (w : World) (g : Nat) (F : Nat → Prop) (tb o : Nat) (t : TypeId) (p q old : List Value) (st : St) (S : Rst w g F tb t (p ++ (old ++ q)) st w) (ho : o = p.length) (hold : old.length = 4) :
    Calls Try.prog 12 #[.agg #[.pointer none, .pointer (some ⟨g, 0, none⟩)], .pointer (some ⟨tb, o, none⟩)] w (RO w g F tb t (p ++ (old ++ q)).length ((dPacket st).map fun y => (p ++ (y.1.cells ++ q), y.2))) := by
  obtain ⟨a0, a1, a2, a3, rfl, _⟩ := packet_r_old hold
  generalize hn : (p ++ (_ ++ q)).length = n
  generalize hr : (dPacket st).map _ = r
  have HR := Lib.hid hr
  have HN := Lib.hid hn
  have HO := Lib.hid ho
  clear hr hn ho hold
  have S0 := S.non ((Chg.refl Non w).alloc (.cells #[.pointer none, .pointer (some ⟨g, 0, none⟩)] 64))
  have hw := S.nw (Nat.le_refl w.heap.size)
  have hx := Hb.new w 64 #[.pointer none, .pointer (some ⟨g, 0, none⟩)]
  have hx0 : (w.alloc (.cells #[.pointer none, .pointer (some ⟨g, 0, none⟩)] 64)).cell? ⟨w.heap.size, 0, none⟩ = some (.pointer none) := hx.cell 0
  have hx1 : (w.alloc (.cells #[.pointer none, .pointer (some ⟨g, 0, none⟩)] 64)).cell? ⟨w.heap.size, 1, none⟩ = some (.pointer (some ⟨g, 0, none⟩)) := hx.cell 1
  have S1 := S0.here
  obtain ⟨B, hB⟩ : ∃ B, B = w.alloc (.cells #[.pointer none, .pointer (some ⟨g, 0, none⟩)] 64) := ⟨_, rfl⟩
  clear hx S
  go_enter Try.func12, Try.ntmps12
  go_wp2_with fail
  rw [← hB] at S0 hx0 hx1 S1 ⊢
  clear hB
  have x0 := S1.chg.cell hx0 hw
  have x1 := S1.chg.cell hx1 hw
  go_wp2_with (first | (go_at_call 26; go_loud (refine (begin_r _ g F tb t _ st S1.here 6).mono ?_; rintro e w2 h2; rcases h2.cases with ⟨k, he, C, L', hL1, hL2⟩ | ⟨y, k, he, T2⟩; (subst he; obtain rfl : r = none := HR.out.symm.trans (by (simp only [Option.map_eq_none_iff] at k) <;> simp [dPacket, k]); exact ⟨rfl, rfl, (S0.chg.trans (S1.chg.trans C (fun _ h => .inl h)) (fun _ h => .inl h)), L', by (rw [hL1, ← HN.out]) <;> simp [bv_length, vH_length], hL2⟩); subst he; obtain ⟨z2, k2, rfl⟩ := Option.map_eq_some_iff.1 k; clear k)) | fail)
  have S2 := S1.trans T2
  clear T2 x0 x1
  clear h2
  go_wp2_with fail
  have D3 := S2.non ((Chg.refl Non w2).drew)
  have x0 := D3.chg.cell hx0 hw
  have x1 := D3.chg.cell hx1 hw
  go_region_held (fun w' => w'.cell? ⟨w.heap.size, 0, none⟩ = some (.pointer none) ∧ w'.cell? ⟨w.heap.size, 1, none⟩ = some (.pointer (some ⟨g, 0, none⟩))) (first | exact ⟨y0, y1⟩ | exact ⟨x0, x1⟩ | assumption) (first | (go_at_call 27; go_loud (refine (number_r _ g F tb o t (p) (a1 :: a2 :: a3 :: q) a0 z2 (D3.here.eq (by simp)) HO.out 1 1099511627776).mono ?_; rintro e w3 h3; have y0 := h3.chg.cell x0 hw; have y1 := h3.chg.cell x1 hw; rcases h3.cases with ⟨k, he, C, L', hL1, hL2⟩ | ⟨y, k, he, T3⟩; (subst he; obtain rfl : r = none := HR.out.symm.trans (by (simp only [Option.map_eq_none_iff] at k) <;> simp [dPacket, k2, k]); exact ⟨rfl, rfl, (S0.chg.trans (D3.chg.trans C (fun _ h => .inl h)) (fun _ h => .inl h)), L', by (rw [hL1, ← HN.out]) <;> simp [bv_length, vH_length], hL2⟩); subst he; obtain ⟨z3, k3, rfl⟩ := Option.map_eq_some_iff.1 k; clear k)) | fail)
  have S3 := D3.trans T3
  clear D3 T3 x0 x1 y0 y1
  clear h3
  go_wp2_with fail
  have D4 := S3.non ((Chg.refl Non w3).drew)
  have x0 := D4.chg.cell hx0 hw
  have x1 := D4.chg.cell hx1 hw
  go_region_held (fun w' => w'.cell? ⟨w.heap.size, 0, none⟩ = some (.pointer none) ∧ w'.cell? ⟨w.heap.size, 1, none⟩ = some (.pointer (some ⟨g, 0, none⟩))) (first | exact ⟨y0, y1⟩ | exact ⟨x0, x1⟩ | assumption) (first | (go_at_call 28; go_loud (refine (name_r _ g F tb (o + 1) t (p ++ (.int .i64 z3.1 :: [])) (a2 :: a3 :: q) a1 z3.2 (D4.here.eq (by simp)) (by rw [HO.out]; simp [bv_length, vH_length])).mono ?_; rintro e w4 h4; have y0 := h4.chg.cell x0 hw; have y1 := h4.chg.cell x1 hw; rcases h4.cases with ⟨k, he, C, L', hL1, hL2⟩ | ⟨y, k, he, T4⟩; (subst he; obtain rfl : r = none := HR.out.symm.trans (by (simp only [Option.map_eq_none_iff] at k) <;> simp [dPacket, k2, k3, k]); exact ⟨rfl, rfl, (S0.chg.trans (D4.chg.trans C (fun _ h => .inl h)) (fun _ h => .inl h)), L', by (rw [hL1, ← HN.out]) <;> simp [bv_length, vH_length], hL2⟩); subst he; obtain ⟨z4, k4, rfl⟩ := Option.map_eq_some_iff.1 k; clear k)) | fail)
  have S4 := D4.trans T4
  clear D4 T4 x0 x1 y0 y1
  clear h4
  go_wp2_with fail
  have D5 := S4.non ((Chg.refl Non w4).drew)
  have x0 := D5.chg.cell hx0 hw
  have x1 := D5.chg.cell hx1 hw
  go_region_held (fun w' => w'.cell? ⟨w.heap.size, 0, none⟩ = some (.pointer none) ∧ w'.cell? ⟨w.heap.size, 1, none⟩ = some (.pointer (some ⟨g, 0, none⟩))) (first | exact ⟨y0, y1⟩ | exact ⟨x0, x1⟩ | assumption) (first | (go_at_call 29; go_loud (refine (text_r _ g F tb (o + 2) t (p ++ (.int .i64 z3.1 :: .string z4.1 :: [])) (a3 :: q) a2 z4.2 (D5.here.eq (by simp)) (by rw [HO.out]; simp [bv_length, vH_length]) 256 (by omega)).mono ?_; rintro e w5 h5; have y0 := h5.chg.cell x0 hw; have y1 := h5.chg.cell x1 hw; rcases h5.cases with ⟨k, he, C, L', hL1, hL2⟩ | ⟨y, k, he, T5⟩; (subst he; obtain rfl : r = none := HR.out.symm.trans (by (simp only [Option.map_eq_none_iff] at k) <;> simp [dPacket, k2, k3, k4, k]); exact ⟨rfl, rfl, (S0.chg.trans (D5.chg.trans C (fun _ h => .inl h)) (fun _ h => .inl h)), L', by (rw [hL1, ← HN.out]) <;> simp [bv_length, vH_length], hL2⟩); subst he; obtain ⟨z5, k5, rfl⟩ := Option.map_eq_some_iff.1 k; clear k)) | fail)
  have S5 := D5.trans T5
  clear D5 T5 x0 x1 y0 y1
  clear h5
  go_wp2_with fail
  have D6 := S5.non ((Chg.refl Non w5).drew)
  have x0 := D6.chg.cell hx0 hw
  have x1 := D6.chg.cell hx1 hw
  go_region_held (fun w' => w'.cell? ⟨w.heap.size, 0, none⟩ = some (.pointer none) ∧ w'.cell? ⟨w.heap.size, 1, none⟩ = some (.pointer (some ⟨g, 0, none⟩))) (first | exact ⟨y0, y1⟩ | exact ⟨x0, x1⟩ | assumption) (first | (go_at_call 30; go_loud (refine (height_r _ g F tb (o + 3) t (p ++ (.int .i64 z3.1 :: .string z4.1 :: .string z5.1 :: [])) (q) a3 z5.2 (D6.here.eq (by simp)) (by rw [HO.out]; simp [bv_length, vH_length])).mono ?_; rintro e w6 h6; have y0 := h6.chg.cell x0 hw; have y1 := h6.chg.cell x1 hw; rcases h6.cases with ⟨k, he, C, L', hL1, hL2⟩ | ⟨y, k, he, T6⟩; (subst he; obtain rfl : r = none := HR.out.symm.trans (by (simp only [Option.map_eq_none_iff] at k) <;> simp [dPacket, k2, k3, k4, k5, k]); exact ⟨rfl, rfl, (S0.chg.trans (D6.chg.trans C (fun _ h => .inl h)) (fun _ h => .inl h)), L', by (rw [hL1, ← HN.out]) <;> simp [bv_length, vH_length], hL2⟩); subst he; obtain ⟨z6, k6, rfl⟩ := Option.map_eq_some_iff.1 k; clear k)) | fail)
  have S6 := D6.trans T6
  clear D6 T6 x0 x1 y0 y1
  clear h6
  obtain rfl : r = some (_, z6.2) := HR.out.symm.trans (by simp only [dPacket, k2, k3, k4, k5, k6, Option.bind_some, Option.map_some]; rfl)
  go_wp2
  go_end0
  refine ⟨rfl, (S0.trans S6).eq ?_⟩
  simp [Pk.cells]

end Go.Proofs.Ytoafchfpnaojmaa

/- Package forms: decoded[nuncio/api.Packet]. -/
namespace Go.Proofs.Ytoafchfpnaojmaa
open Go.RowKit
set_option linter.unusedVariables false
set_option linter.unusedSimpArgs false
set_option maxRecDepth 20000


theorem dPacket.row : (Try.prog.info? 23).map (·.size) = some 4 := by kernel_rfl
theorem dPacket.alloc0 (w : World) : (Instr.alloc 23 true (.tuple #[])).run Try.prog w = .ok (.pointer (some ⟨w.heap.size, 0, none⟩)) (w.alloc (.cells (Pk.zero.cells).toArray 23)) := by kernel_rfl
theorem dPacket.zlen : (Pk.zero.cells).length = 4 := by rfl

theorem catchDP_Packet (w : World) (p q : Nat) (L : List Value) (y : Value) (v : Value) (u : TypeId) (older : List PanicEntry) (hp : Hb w p 23 L.toArray) (hL : L.length = 4) (hq : Hb w q 34 #[y]) (hpq : q ≠ p) :
    CallsD Try.prog 35 #[.pointer (some ⟨p, 0, none⟩), .pointer (some ⟨q, 0, none⟩)] (.panicking ({ v := .iface u v, recovered := false } :: older)) w fun e u' w' =>
      e = .returned (.tuple #[]) ∧ u' = .panicking ({ v := .iface u v, recovered := true } :: older) ∧ w' = (((w.alloc (.cells (Pk.zero.cells).toArray 23)).setCells p 0 (Pk.zero.cells)).setCell ⟨q, 0, none⟩ (.int .i64 61)) := by
  have hz := dPacket.alloc0 w
  have hzl := dPacket.zlen
  have hrow := dPacket.row
  have hn := Hb.new w 23 (Pk.zero.cells).toArray
  have hp1 := hp.alloc (.cells (Pk.zero.cells).toArray 23)
  have hth := hp1.there0
  rw [hL] at hth
  have hq1 := (hq.alloc (.cells (Pk.zero.cells).toArray 23)).farCells hpq (Pk.zero.cells) 0
  have c1 : _ = some y := hq1.cell 0
  have f1 : _ = false := hq1.frozen 0
  refine callsD_of_wpS Try.func35 rfl fun c₀ cs hu => ?_
  apply wpS_seq
  apply wpS_region
  simp [wpOpsS, go_sem, recoverD, hu, Try.ntmps35, Exit.thenS]
  refine wpS_cond (t := true) (by simp [Act.eval, Array.replicate]) ?_
  simp only [if_true]
  refine wpS_of_wp ?_
  have hone : ∀ v ∈ (Pk.zero.cells), v.oneCell' = true := Pk.one _
  generalize Pk.zero.cells = z at *
  go_wp2_with (first | (with_reducible refine wpList_alloc_row rfl _ rfl z hz ?_) | (with_reducible refine wpList_load_mid rfl 23 _ rfl w.heap.size 0 rfl z _ hn.range0 Try.underlying23 rfl (by rw [hrow, hzl]) ?_) | (with_reducible refine wpList_store_mid rfl 23 _ _ rfl p 0 z.toArray rfl rfl (by rw [List.size_toArray, hzl]; exact hth) (by rw [List.size_toArray, hrow, hzl]) (one_mem hone) ?_))
  exact ⟨rfl, _, rfl, .tuple #[], by simp [results, Try.results35], rfl, rfl, rfl⟩

theorem catchDI_Packet (w : World) (p q : Addr) : CallsD Try.prog 35 #[.pointer (some p), .pointer (some q)] .returning w fun e u' w' => e = .returned (.tuple #[]) ∧ u' = .returning ∧ w' = w := by
  refine callsD_of_wpS Try.func35 rfl fun c₀ cs hu => ?_
  apply wpS_seq
  apply wpS_region
  simp [wpOpsS, go_sem, recoverD, hu, Try.ntmps35, Exit.thenS]
  refine wpS_cond (t := false) (by simp [Act.eval, Array.replicate]) ?_
  simp only [Bool.false_eq_true, if_false]
  refine wpS_of_wp (wp_skip ?_)
  cases c₀
  simp_all [bodyPostS, results, Try.results35]

/-- The error's way. -/
theorem decErr_Packet (w w2 : World) (h : Chg Non w w2) (L : List Value) (y : Value) (hp : Hb w2 w.heap.size 23 L.toArray) (hL : L.length = 4) (hq : Hb w2 (w.heap.size + 1) 34 #[y]) (r : Option (List Value)) (hr : r = none) (tmps : Array Value)
    (h4 : tmps.getD 4 undef = .pointer (some ⟨w.heap.size, 0, none⟩)) (h5 : tmps.getD 5 undef = .pointer (some ⟨w.heap.size + 1, 0, none⟩)) :
    Leaves Try.prog Try.f21 tmps (Dec w (Pk.zero.cells) r) [{ target := .fn (.func 35) #[.pointer (some ⟨w.heap.size, 0, none⟩), .pointer (some ⟨w.heap.size + 1, 0, none⟩)], args := #[] }] (.panicking bad) w2 := by
  subst hr
  refine leaves_cons (f := 35) (args := #[.pointer (some ⟨w.heap.size, 0, none⟩), .pointer (some ⟨w.heap.size + 1, 0, none⟩)]) (by simp) (by simp [go_sem]) ?_
  refine (catchDP_Packet w2 w.heap.size (w.heap.size + 1) L _ _ _ _ hp hL hq (by omega)).mono ?_
  rintro e u' w'' ⟨rfl, rfl, rfl⟩
  have hz : (Pk.zero.cells).length = 4 := dPacket.zlen
  have hb3 := ((hp.alloc (.cells (Pk.zero.cells).toArray 23)).sets0 (L' := Pk.zero.cells) (by rw [hL, hz])).far (p := ⟨w.heap.size + 1, 0, none⟩) (by simp) (.int .i64 61)
  have he3 := ((hq.alloc (.cells (Pk.zero.cells).toArray 23)).farCells (tb := w.heap.size) (by omega) (Pk.zero.cells) 0).set 0 (.int .i64 61)
  refine ⟨_, results_two rfl _ _ _ ⟨w.heap.size, 0, none⟩ ⟨w.heap.size + 1, 0, none⟩ _ _ h4 h5 (load_row hb3 Try.underlying23 rfl (by rw [dPacket.row, hz])) (load_errno (he3.cell 0)), ?_, rfl⟩
  have K := (Chg.setCells (S := fun k => k = w.heap.size ∨ k = w.heap.size + 1) (.inl rfl) (Pk.zero.cells) _ 0 ((Chg.refl _ w2).alloc (.cells (Pk.zero.cells).toArray 23))).setCell (p := ⟨w.heap.size + 1, 0, none⟩) (.inl (.inr rfl)) (.int .i64 61)
  exact h.trans K (fun j hj => .inr (by omega))

theorem decoded_Packet (w : World) (A : Option Addr) (n c : Nat) (bs : List UInt8) (r : Option (List Value × St)) (hn : n = bs.length) (hr : Rd w A bs) (hsz : bs.length ≤ 1000000000) (hlen : ∀ L s, r = some (L, s) → L.length = 4 ∧ ∀ v ∈ L, v.oneCell' = true)
    (H : ∀ (w1 : World) (g : Nat) (F : Nat → Prop), Rst w1 g F w.heap.size 23 (Pk.zero.cells) (some bs) w1 → Calls Try.prog 12 #[.agg #[.pointer none, .pointer (some ⟨g, 0, none⟩)], .pointer (some ⟨w.heap.size, 0, none⟩)] w1 (RO w1 g F w.heap.size 23 4 r)) :
    Calls Try.prog 21 #[.slice A n c, .func (.func 12) #[] #[]] w (Dec w (Pk.zero.cells) (whole r)) := by
  have hmf := mkf
  have hC0 := dw_chg w (Pk.zero.cells) 23
  have hb0 := dw_b w (Pk.zero.cells) 23
  have he0 := dw_e w (Pk.zero.cells) 23
  have hz := dPacket.alloc0 w
  have hrow := dPacket.row
  have HN := newReader_any (dw w (Pk.zero.cells) 23) A n c bs hn (hr.chg hC0 (fun _ _ f => f)) hsz
  generalize hR : whole r = R
  have HR := Lib.hid hR
  have HLE := Lib.hid hlen
  have HH := Lib.hid H
  have HNN := Lib.hid HN
  clear hR hlen H HN hn hr
  have hzz := dPacket.zlen
  go_enter_defers Try.func21, Try.ntmps21
  go_wp2_with (first | (with_reducible refine wpList_alloc_row rfl _ rfl (Pk.zero.cells) hz ?_))
  have hdw : dw w (Pk.zero.cells) 23 = (w.alloc (.cells (Pk.zero.cells).toArray 23)).alloc (.cells #[.int .i64 0] 34) := rfl
  rw [← hdw]
  have hds : (dw w (Pk.zero.cells) 23).heap.size = w.heap.size + 2 := by rw [hdw]; simp
  clear hdw
  generalize dw w (Pk.zero.cells) 23 = w0 at *
  refine HNN.out.mono ?_
  rintro e w1 ⟨g, F, rfl, hR1, hg, hF, hC1⟩
  have hb1 := hb0.chg hC1 (fun f => f)
  have he1 := he0.chg hC1 (fun f => f)
  have S1 : Rst w1 g F w.heap.size 23 (Pk.zero.cells) (some bs) w1 := ⟨hR1, hb1, Chg.refl _ _, by omega, fun h => by have := hF _ h; omega⟩
  have H1 := HH.out w1 g F S1
  have hne : ¬ Two g w.heap.size (w.heap.size + 1) := by rintro (h | h) <;> omega
  have hn01 : Chg Non w w1 := hC0.trans hC1 (fun _ f => f.elim)
  clear HNN hb0 he0 hC0 hC1 HH S1
  go_wp2_with fail
  refine H1.mono ?_
  rintro e w2 h2
  have he2 := he1.chg h2.chg hne
  have hn02 : Chg Non w w2 := hn01.trans h2.chg (fun j hj => .inr (by rcases hj with rfl | rfl <;> omega))
  clear H1 he1 hb1
  rcases h2.cases with ⟨k, rfl, _, L', hL1, hL2⟩ | ⟨⟨L, s⟩, k, rfl, T⟩
  · have hRn : R = none := HR.out.symm.trans (by rw [k]; rfl)
    go_wp2
    refine decErr_Packet w w2 hn02 L' _ hL2 hL1 he2 _ rfl _ ?_ ?_ <;> rfl
  · obtain ⟨hLn, hL1⟩ := HLE.out L s k
    clear HLE h2
    go_wp2_with fail
    refine (endR_any _ g F s T.rdr).mono ?_
    rintro e w3 ⟨rfl, rfl⟩
    have hb2 : Hb _ w.heap.size 23 L.toArray := T.row
    by_cases hs : s = some []
    · have hRs : R = some L := HR.out.symm.trans (by rw [k, hs]; rfl)
      have hev : endv s = 0 := by unfold endv; rw [if_pos hs]
      have hth := hb2.there0
      rw [hLn] at hth
      have hLs : L.toArray.size = 4 := by rw [List.size_toArray, hLn]
      rw [hev]
      have hb3 := hb2.sets0 (L' := L) rfl
      have he3 := he2.farCells (tb := w.heap.size) (by omega) L 0
      have c3 : _ = some (Value.int .i64 0) := he3.cell 0
      have f3 : _ = false := he3.frozen 0
      have hrg := hb2.range0
      clear hev hs HR
      go_wp2_with (first | (go_at_call 25; refine (insist_yes _).mono ?_; rintro e w5 ⟨rfl, rfl⟩) | (with_reducible refine wpList_load_mid rfl 23 _ rfl w.heap.size 0 rfl L _ hrg Try.underlying23 rfl (by rw [hrow, hLn]) ?_; refine wpList_store_mid rfl 23 _ _ rfl w.heap.size 0 L.toArray rfl rfl (by rw [hLs]; exact hth) (by rw [hLs, hrow]) (one_mem hL1) ?_) | (with_reducible refine wpList_store_mid rfl 23 _ _ rfl w.heap.size 0 L.toArray rfl rfl (by rw [hLs]; exact hth) (by rw [hLs, hrow]) (one_mem hL1) ?_))
      refine leaves_cons (f := 35) (args := #[.pointer (some ⟨w.heap.size, 0, none⟩), .pointer (some ⟨w.heap.size + 1, 0, none⟩)]) (by simp) (by simp [go_sem]) ?_
      refine (catchDI_Packet _ ⟨w.heap.size, 0, none⟩ ⟨w.heap.size + 1, 0, none⟩).mono ?_
      rintro e u' w'' ⟨rfl, rfl, rfl⟩
      have hb4 := hb3.far (p := ⟨w.heap.size + 1, 0, none⟩) (by simp) (.int .i64 0)
      have he4 := he3.set 0 (.int .i64 0)
      refine ⟨_, results_two rfl _ _ _ ⟨w.heap.size, 0, none⟩ ⟨w.heap.size + 1, 0, none⟩ _ _ rfl rfl (load_row hb4 Try.underlying23 rfl (by rw [hrow, hLn])) (load_errno (he4.cell 0)), ?_, by rw [hRs]; rfl⟩
      exact hn02.trans ((Chg.setCells (S := fun k => k = w.heap.size ∨ k = w.heap.size + 1) (.inl rfl) L _ 0 (Chg.refl _ _)).setCell (p := ⟨w.heap.size + 1, 0, none⟩) (.inl (.inr rfl)) (.int .i64 0)) (fun j hj => .inr (by omega))
    · have hRn : R = none := HR.out.symm.trans (by
        rw [k]
        match s, hs with
        | none, _ => rfl
        | some (_ :: _), _ => rfl)
      have hev : endv s = 21 := by unfold endv; rw [if_neg hs]
      rw [hev]
      clear hev hs HR
      go_wp2_with (go_at_call 25; refine (insist_no _).mono ?_; rintro e w5 ⟨rfl, rfl⟩)
      refine decErr_Packet w _ hn02 L _ hb2 hLn he2 _ rfl _ ?_ ?_ <;> rfl
end Go.Proofs.Ytoafchfpnaojmaa

/- Package forms: packets, written: contracts. -/
namespace Go.Proofs.Ytoafchfpnaojmaa
open Go.RowKit
set_option linter.unusedVariables false
set_option linter.unusedSimpArgs false
set_option maxRecDepth 20000
set_option maxHeartbeats 1600000 in
theorem packet_w (g : Nat) (l : List UInt8) (w : World) (v : Value) (b o : Nat) (x : Pk) (h : Wri w g v (some l)) (hc : w.rangeAt b o x.cells) (hb : ¬ Wft g v b) (hbl : b < w.heap.size) (ox : x.Ok) (hl : l.length ≤ 100000) :
    Calls Try.prog 12 #[.agg #[.pointer (some ⟨g, 0, none⟩), .pointer none], .pointer (some ⟨b, o, none⟩)] w (WO w g v x.right (l ++ x.enc)) := by
  have S0 := (Wst.here h).non ((Chg.refl Non w).alloc (.cells #[.pointer (some ⟨g, 0, none⟩), .pointer none] 64))
  have R0 := ((Chg.refl Non w).alloc (.cells #[.pointer (some ⟨g, 0, none⟩), .pointer none] 64)).range' hc (fun f => f)
  have hw := h.nnew (Nat.le_refl w.heap.size)
  have hx := Hb.new w 64 #[.pointer (some ⟨g, 0, none⟩), .pointer none]
  have hx0 : (w.alloc (.cells #[.pointer (some ⟨g, 0, none⟩), .pointer none] 64)).cell? ⟨w.heap.size, 0, none⟩ = some (.pointer (some ⟨g, 0, none⟩)) := hx.cell 0
  have hx1 : (w.alloc (.cells #[.pointer (some ⟨g, 0, none⟩), .pointer none] 64)).cell? ⟨w.heap.size, 1, none⟩ = some (.pointer none) := hx.cell 1
  have hBl : b < (w.alloc (.cells #[.pointer (some ⟨g, 0, none⟩), .pointer none] 64)).heap.size := by simp; omega
  have hBw : w.heap.size < (w.alloc (.cells #[.pointer (some ⟨g, 0, none⟩), .pointer none] 64)).heap.size := by simp
  have S1 := Wst.here (S0.wri)
  obtain ⟨B, hB⟩ : ∃ B, B = w.alloc (.cells #[.pointer (some ⟨g, 0, none⟩), .pointer none] 64) := ⟨_, rfl⟩
  obtain ⟨f0, f1, f2, f3⟩ := pk_facts R0
  rw [← hB] at f0 f1 f2 f3
  generalize hok : x.right = ok
  have HOK := Lib.hid hok
  clear hok hx hc
  go_enter Try.func12, Try.ntmps12
  go_wp2_with fail
  rw [← hB] at S0 R0 hx0 hx1 hBl hBw S1 ⊢
  clear hB
  have x0 := S1.cell hx0 hw
  have x1 := S1.cell hx1 hw
  have hwn := S1.nw hw hBw
  go_wp2_with (first | (go_at_call 26; refine (begin_w g l _ v 6 S1.wri ⟨by omega, by omega⟩ (by omega)).mono ?_; rintro e w2 h2; obtain ⟨rfl, v2, T2⟩ := h2) | fail)
  have S2 := S1.trans T2
  clear T2 x0 x1 hwn
  go_wp2_with fail
  have D3 := S2.non ((Chg.refl Non w2).drew)
  have x0 := D3.cell hx0 hw
  have x1 := D3.cell hx1 hw
  have hwn := D3.nw hw hBw
  go_region_held (fun w' => w'.cell? ⟨w.heap.size, 0, none⟩ = some (.pointer (some ⟨g, 0, none⟩)) ∧ w'.cell? ⟨w.heap.size, 1, none⟩ = some (.pointer none)) (first | exact ⟨y0, y1⟩ | exact ⟨x0, x1⟩ | assumption) (first | (go_at_call 27; go_loud (refine (numberI_w g _ _ v2 b o x.seq 1 1099511627776 D3.wri (D3.cell f0 hb) (D3.nw hb hBl) ox.seq (by simp [be_length, num_length, tx_length, bytes_len]; omega)).mono ?_; rintro e w3 h3; have y0 := h3.chg.cell x0 hwn; have y1 := h3.chg.cell x1 hwn; rcases h3.cases with ⟨k3, he, C⟩ | ⟨k3, he, v3, T3⟩; (subst he; obtain rfl : ok = false := HOK.out.symm.trans (by simp [Pk.right, k3]); exact ⟨rfl, rfl, S0.chg.trans (D3.chg.trans C D3.wft) S0.wft⟩); subst he)) | fail)
  have S3 := D3.trans T3
  clear D3 T3 x0 x1 hwn y0 y1
  clear h3
  go_wp2_with fail
  have D4 := S3.non ((Chg.refl Non w3).drew)
  have x0 := D4.cell hx0 hw
  have x1 := D4.cell hx1 hw
  have hwn := D4.nw hw hBw
  go_region_held (fun w' => w'.cell? ⟨w.heap.size, 0, none⟩ = some (.pointer (some ⟨g, 0, none⟩)) ∧ w'.cell? ⟨w.heap.size, 1, none⟩ = some (.pointer none)) (first | exact ⟨y0, y1⟩ | exact ⟨x0, x1⟩ | assumption) (first | (go_at_call 28; go_loud (refine (name_w g _ _ v3 b (o + 1) x.from D4.wri (D4.cell f1 hb) (D4.nw hb hBl) ox.from (by simp [be_length, num_length, tx_length, bytes_len]; omega)).mono ?_; rintro e w4 h4; have y0 := h4.chg.cell x0 hwn; have y1 := h4.chg.cell x1 hwn; rcases h4.cases with ⟨k4, he, C⟩ | ⟨k4, he, v4, T4⟩; (subst he; obtain rfl : ok = false := HOK.out.symm.trans (by simp [Pk.right, k3, k4]); exact ⟨rfl, rfl, S0.chg.trans (D4.chg.trans C D4.wft) S0.wft⟩); subst he)) | fail)
  have S4 := D4.trans T4
  clear D4 T4 x0 x1 hwn y0 y1
  clear h4
  go_wp2_with fail
  have D5 := S4.non ((Chg.refl Non w4).drew)
  have x0 := D5.cell hx0 hw
  have x1 := D5.cell hx1 hw
  have hwn := D5.nw hw hBw
  go_region_held (fun w' => w'.cell? ⟨w.heap.size, 0, none⟩ = some (.pointer (some ⟨g, 0, none⟩)) ∧ w'.cell? ⟨w.heap.size, 1, none⟩ = some (.pointer none)) (first | exact ⟨y0, y1⟩ | exact ⟨x0, x1⟩ | assumption) (first | (go_at_call 29; go_loud (refine (textI_w g _ _ v4 b (o + 2) x.data 256 D5.wri (D5.cell f2 hb) (D5.nw hb hBl) ox.data (by omega) (by simp [be_length, num_length, tx_length, bytes_len]; have := nameOk_size k4; omega)).mono ?_; rintro e w5 h5; have y0 := h5.chg.cell x0 hwn; have y1 := h5.chg.cell x1 hwn; rcases h5.cases with ⟨k5, he, C⟩ | ⟨k5, he, v5, T5⟩; (subst he; obtain rfl : ok = false := HOK.out.symm.trans (by simp [Pk.right, k3, k4, k5]); exact ⟨rfl, rfl, S0.chg.trans (D5.chg.trans C D5.wft) S0.wft⟩); subst he)) | fail)
  have S5 := D5.trans T5
  clear D5 T5 x0 x1 hwn y0 y1
  clear h5
  go_wp2_with fail
  have D6 := S5.non ((Chg.refl Non w5).drew)
  have x0 := D6.cell hx0 hw
  have x1 := D6.cell hx1 hw
  have hwn := D6.nw hw hBw
  go_region_held (fun w' => w'.cell? ⟨w.heap.size, 0, none⟩ = some (.pointer (some ⟨g, 0, none⟩)) ∧ w'.cell? ⟨w.heap.size, 1, none⟩ = some (.pointer none)) (first | exact ⟨y0, y1⟩ | exact ⟨x0, x1⟩ | assumption) (first | (go_at_call 30; go_loud (refine (height_w g _ _ v5 b (o + 3) x.timeout D6.wri (D6.cell f3 hb) (D6.nw hb hBl) ox.timeout (by simp [be_length, num_length, tx_length, bytes_len]; have := nameOk_size k4; have := of_decide_eq_true k5; omega)).mono ?_; rintro e w6 h6; have y0 := h6.chg.cell x0 hwn; have y1 := h6.chg.cell x1 hwn; rcases h6.cases with ⟨k6, he, C⟩ | ⟨k6, he, v6, T6⟩; (subst he; obtain rfl : ok = false := HOK.out.symm.trans (by simp [Pk.right, k3, k4, k5, k6]); exact ⟨rfl, rfl, S0.chg.trans (D6.chg.trans C D6.wft) S0.wft⟩); subst he)) | fail)
  have S6 := D6.trans T6
  clear D6 T6 x0 x1 hwn y0 y1
  clear h6
  obtain rfl : ok = true := HOK.out.symm.trans (by simp [Pk.right, k3, k4, k5, k6])
  go_wp2
  go_end0
  refine ⟨rfl, v6, ?_⟩
  have S := S0.trans S6
  simpa [Pk.enc, List.append_assoc] using S

end Go.Proofs.Ytoafchfpnaojmaa

/- Package forms: EncodePacket, DecodePacket; the live question. -/
namespace Go.Proofs.Ytoafchfpnaojmaa
open Go.RowKit
set_option linter.unusedVariables false
set_option linter.unusedSimpArgs false
set_option maxRecDepth 20000

theorem Pk.enc_len (x : Pk) (h : x.right = true) (ox : x.Ok) : x.enc.length ≤ 1000 := by
  unfold Pk.right at h
  simp only [Bool.and_eq_true, decide_eq_true_eq] at h
  obtain ⟨_, h2, h3, _⟩ := h
  have := nameOk_size h2
  unfold Pk.enc
  simp [num_length, tx_length]
  have e1 : x.from.data.size = x.from.size := rfl
  have e2 : x.data.data.size = x.data.size := rfl
  omega

theorem EncodePacket_any (w : World) (x : Pk) (ox : x.Ok) : Calls Try.prog 5 #[.agg x.cells.toArray] w (Enc w x.right x.enc) := by
  have hC := (Chg.refl Non w).alloc (.cells x.cells.toArray 23)
  have hb := Hb.new w 23 x.cells.toArray
  have hs : (w.alloc (.cells x.cells.toArray 23)).heap.size = w.heap.size + 1 := by simp
  have H := encoded_Packet (w.alloc (.cells x.cells.toArray 23)) ⟨w.heap.size, 0, none⟩ x.right x.enc (fun h => by have := x.enc_len h ox; omega) (fun w1 g k hg hw => by
    have hb1 := hb.chg k (fun f => f)
    exact packet_w g [] w1 _ w.heap.size 0 x hw hb1.range0 (by rintro (h | h); omega; cases h) (by have := hb1.lt; omega) ox (by simp))
  have HH := Lib.hid H
  have HC := Lib.hid hC
  clear H hC hb hs
  generalize x.cells = cs at *
  go_enter Try.func5, Try.ntmps5
  go_wp2_with fail
  refine HH.out.mono ?_
  rintro e w1 ⟨h1, h2⟩
  clear HH
  have h0 := HC.out.trans h1 (fun _ f => f.elim)
  generalize x.right = ok at *
  cases ok with
  | true =>
    obtain ⟨v, rfl, ho, hl⟩ := h2
    go_wp2
    go_ret2
    exact ⟨h0, v, rfl, ho, fun k hk => by have := hl k hk; have := HC.out.size; omega⟩
  | false =>
    obtain rfl := h2
    go_wp2
    go_ret2
    exact ⟨h0, rfl⟩

theorem dPacket.r (st : St) : ∀ (L : List Value) (s : St), (dPacket st).map (fun y => ([] ++ (y.1.cells ++ []), y.2)) = some (L, s) → L.length = 4 ∧ ∀ v ∈ L, v.oneCell' = true := by
  intro L s h
  obtain ⟨y, hy, h2⟩ := Option.map_eq_some_iff.1 h
  simp only [Prod.mk.injEq, List.nil_append, List.append_nil] at h2
  obtain ⟨rfl, _⟩ := h2
  exact ⟨rfl, y.1.one⟩
theorem DecodePacket_any (w : World) (A : Option Addr) (n c : Nat) (bs : List UInt8) (hn : n = bs.length) (hr : Rd w A bs) (hsz : bs.length ≤ 1000000000) : Calls Try.prog 10 #[.slice A n c] w (Dec w Pk.zero.cells ((whole (dPacket (some bs))).map Pk.cells)) := by
  have hz := dPacket.alloc0 w
  have hzl := dPacket.zlen
  have hrow := dPacket.row
  have hC := (Chg.refl Non w).alloc (.cells Pk.zero.cells.toArray 23)
  have hb := Hb.new w 23 Pk.zero.cells.toArray
  have H := decoded_Packet (w.alloc (.cells Pk.zero.cells.toArray 23)) A n c bs ((dPacket (some bs)).map (fun y => ([] ++ (y.1.cells ++ []), y.2))) hn (hr.chg hC (fun _ _ f => f)) hsz (dPacket.r _) (fun w1 g F S => by
    generalize (w.alloc (.cells Pk.zero.cells.toArray 23)).heap.size = tb at *
    generalize Pk.zero.cells = z at *
    have h := packet_r w1 g F tb 0 23 [] [] z (some bs) (S.eq (by rw [List.append_nil, List.nil_append])) rfl hzl
    rw [List.append_nil, List.nil_append, hzl] at h
    exact h)
  have hw : whole ((dPacket (some bs)).map (fun y => ([] ++ (y.1.cells ++ []), y.2))) = (whole (dPacket (some bs))).map Pk.cells := by
    cases dPacket (some bs) with
    | none => rfl
    | some y =>
      obtain ⟨y, st⟩ := y
      match st with
      | none => rfl
      | some [] => simp [whole]
      | some (_ :: _) => rfl
  have hone : ∀ L, (whole (dPacket (some bs))).map Pk.cells = some L → L.length = 4 ∧ ∀ v ∈ L, v.oneCell' = true := by
    intro L h
    obtain ⟨y, hy, rfl⟩ := Option.map_eq_some_iff.1 h
    exact ⟨rfl, y.one⟩
  rw [hw] at H
  generalize (whole (dPacket (some bs))).map Pk.cells = r at *
  have hzone : ∀ v ∈ Pk.zero.cells, v.oneCell' = true := Pk.zero.one
  have HH := Lib.hid H
  have HC := Lib.hid hC
  clear H hC hw hn hr
  generalize Pk.zero.cells = z at *
  go_enter Try.func10, Try.ntmps10
  go_wp2_with (with_reducible refine wpList_alloc_row rfl _ rfl z hz ?_)
  refine HH.out.mono ?_
  rintro e w1 ⟨h1, h2⟩
  clear HH
  have hb1 := hb.chg h1 (fun f => f)
  have h0 := HC.out.trans h1 (fun _ f => f.elim)
  obtain ⟨L, k, rfl, hL1, hL2, hk⟩ : ∃ (L : List Value) (k : Int), e = .returned (.tuple #[.agg L.toArray, .int .i64 k]) ∧ L.length = 4 ∧ (∀ v ∈ L, v.oneCell' = true) ∧ (match r with | some L => Ending.returned (.tuple #[.agg L.toArray, .int .i64 0]) | none => .returned (.tuple #[.agg z.toArray, .int .i64 61])) = .returned (.tuple #[.agg L.toArray, .int .i64 k]) := by
    cases r with
    | some L => exact ⟨L, 0, h2, (hone L rfl).1, (hone L rfl).2, rfl⟩
    | none => exact ⟨z, 61, h2, hzl, hzone, rfl⟩
  have hLs : L.toArray.size = 4 := by rw [List.size_toArray, hL1]
  have hth := hb1.there0
  rw [hzl] at hth
  have hb2 := hb1.sets0 (L' := L) (by rw [hzl, hL1])
  clear hone h2
  go_wp2_with (with_reducible refine wpList_store_mid rfl 23 _ _ rfl w.heap.size 0 L.toArray rfl rfl (by rw [hLs]; exact hth) (by rw [hLs, hrow]) (one_mem hL2) ?_)
  refine bodyPost_ret ((results_cell_tmp rfl _ _ _).trans ?_) rfl (R := Dec w z r) (v := .tuple #[.agg L.toArray, .int .i64 k]) ?_
  · simp only [asAddr, Sem.run_pure, Result.andThen_ok]
    have hl := load_row hb2 Try.underlying23 rfl (by rw [hrow, hL1])
    simp [hl]
  · refine ⟨Chg.trans h0 (Chg.setCells (S := fun j => j = w.heap.size) rfl L _ 0 (Chg.refl _ _)) (fun j hj => .inr (by omega)), ?_⟩
    rw [← hk]
    rfl

/-- The live question's packet. -/
def AP : Pk := ⟨1, ⟨#[97]⟩, ⟨#[]⟩, 9⟩
theorem AP.ok : AP.Ok := ⟨⟨by decide, by decide⟩, by decide, by decide, ⟨by decide, by decide⟩⟩
theorem AP.is : AP.right = true := by decide
theorem AP.len : AP.enc.length = 29 := by decide
theorem AP.six : AP.enc[7]? = some 6 := by decide
theorem AP.row : AP.cells.toArray = #[.int .i64 1, .string ⟨#[97]⟩, .string ⟨#[]⟩, .int .i64 9] := rfl
theorem AP.back : whole (dPacket (some AP.enc)) = some AP := by
  have h := dPacket_app AP.ok AP.is []
  rw [List.append_nil] at h
  rw [h]
  rfl
theorem alive_any (w : World) : Calls Try.prog 4 #[] w (Zero w (.bool true)) := by
  have H := EncodePacket_any w AP AP.ok
  rw [AP.is, AP.row] at H
  go_enter Try.func4, Try.ntmps4
  go_wp2_with fail
  refine H.mono ?_
  rintro e w1 ⟨h1, v, rfl, ho, hl⟩
  clear H
  obtain ⟨A, c, rfl, hc, hm, hr, _, _⟩ := ho.slice
  obtain ⟨ad, rfl, _⟩ := hr.blk_lt (by rw [AP.len]; omega)
  have H2 := DecodePacket_any w1 (some ad) AP.enc.length c AP.enc rfl hr (by rw [AP.len]; omega)
  rw [AP.back, AP.len] at H2
  have k7 : ∀ w2, Chg Non w1 w2 → w2.cell? (ad.add 7) = some (.int .u8 6) := by
    intro w2 k
    obtain ⟨ad', e, hc7⟩ := (hr.chg k (fun _ _ f => f)) 7 6 AP.six
    injection e with e
    subst e
    exact hc7
  have K7 := Lib.hid k7
  rw [AP.len] at hc ⊢
  clear k7 ho hr hl
  have e7 : ad.add 7 = ⟨ad.block, ad.off + 7, none⟩ := by unfold Addr.add; rw [if_neg (by omega)]
  go_wp2_with fail
  refine H2.mono ?_
  rintro e w2 ⟨h2, he⟩
  have he' : e = .returned (.tuple #[.agg #[.int .i64 1, .string ⟨#[97]⟩, .string ⟨#[]⟩, .int .i64 9], .int .i64 0]) := he
  subst he'
  have hA := (Chg.refl Non w2).alloc (.cells #[.int .i64 0, .string ⟨#[]⟩, .string ⟨#[]⟩, .int .i64 0] 23)
  have c7 := K7.out w2 h2
  rw [e7] at c7
  have hlt : ad.block < w2.heap.size := World.block_lt_of_cell? w2 ⟨ad.block, ad.off + 7, none⟩ c7
  have hne : ¬ ad.block = w2.heap.size := by omega
  clear he H2 K7 e7
  go_wp2
  go_ret
  exact ⟨rfl, (h1.trans h2 (fun _ f => f.elim)).alloc _⟩
end Go.Proofs.Ytoafchfpnaojmaa

/- The document's answers for forms: a number's bytes, a range, a name. -/
namespace Go.Proofs.Ytoafchfpnaojmaa
open Go.RowKit
set_option linter.unusedVariables false
set_option linter.unusedSimpArgs false
set_option maxRecDepth 20000

theorem in_any (w : World) (n lo hi : Int) : Calls Try.prog 16 #[.int .i64 n, .int .i64 lo, .int .i64 hi] w fun e w' => e = .returned (.bool (inR lo hi n)) ∧ w' = w := by
  by_cases h1 : lo ≤ n
  · have k1 : decide (n ≥ lo) = true := decide_eq_true h1
    by_cases h2 : n ≤ hi
    · have e : inR lo hi n = true := inR_iff.2 ⟨h1, h2⟩
      rw [e]
      clear e
      go_enter Try.func16, Try.ntmps16
      go_wp2
      go_ret
      exact ⟨rfl, rfl⟩
    · have e : inR lo hi n = false := by rw [Bool.eq_false_iff]; exact fun h => h2 (inR_iff.1 h).2
      rw [e]
      clear e
      go_enter Try.func16, Try.ntmps16
      go_wp2
      go_ret
      exact ⟨rfl, rfl⟩
  · have e : inR lo hi n = false := by rw [Bool.eq_false_iff]; exact fun h => h1 (inR_iff.1 h).1
    rw [e]
    clear e
    go_enter Try.func16, Try.ntmps16
    go_wp2
    go_ret
    exact ⟨rfl, rfl⟩

theorem refNumber_any (w : World) (n : Int) : Calls Try.prog 14 #[.int .i64 n] w (Newb w (num n)) := by
  have H := fun w' => refWordI_any w' (n % 18446744073709551616) (by omega) (by omega)
  have hw : IntKind.u64.wrap n = n % 18446744073709551616 := by simp [IntKind.wrap, IntKind.bits, IntKind.signed]
  go_enter Try.func14, Try.ntmps14
  go_wp2_with fail
  refine (H w).mono ?_
  rintro e w1 ⟨v, rfl, o, h, k⟩
  go_wp2_with fail
  go_ret
  exact ⟨v, rfl, o, h, k⟩

set_option maxHeartbeats 1600000 in
theorem refName_any (w : World) (s : ByteArray) (hm : s.size ≤ maxLen) : Calls Try.prog 13 #[.string s] w fun e w' => e = .returned (.bool (nameOk s)) ∧ ∃ n, w' = w.drewN n := by
  have hsl : s.data.toList.length = s.size := by rw [Array.length_toList]; rfl
  have HSL := Lib.hid hsl
  unfold maxLen at hm
  generalize hok : nameOk s = ok
  have HOK := Lib.hid hok
  clear hok hsl
  go_enter Try.func13, Try.ntmps13
  go_wp2_with fail
  go_loopw [3] (fun i wr => ∃ k : Nat, k ≤ s.size ∧ i = .int .i64 (k : Int) ∧ Hid ((s.data.toList.take k).all lower = true) ∧ ∃ n, wr = w.drewN n) (fun i _ => s.size - (intOf i).toNat)
  case atStart => exact ⟨0, by omega, rfl, Lib.hid rfl, 0, rfl⟩
  case round =>
    obtain ⟨k, hk, rfl, hall, q, rfl⟩ := hrel
    by_cases hlt : k < s.size
    · have hki : (k : Int) < (s.size : Int) := by omega
      have hg : Hid (s.data.toList[k]? = some s[k]) := Lib.hid (by
        have hkl : k < s.data.toList.length := by rw [HSL.out]; exact hlt
        rw [List.getElem?_eq_getElem hkl]
        rfl)
      by_cases hb : lower s[k] = true
      · have hb2 : Hid (97 ≤ (s[k]).toNat ∧ (s[k]).toNat ≤ 122) := Lib.hid (of_decide_eq_true hb)
        have HN : Hid ((s.data.toList.take (k + 1)).all lower = true) := Lib.hid (by
          obtain ⟨hkl, e⟩ := List.getElem?_eq_some_iff.1 hg.out
          rw [List.take_succ_eq_append_getElem hkl, List.all_append, hall.out, e]
          simp [hb])
        have k1 : ¬ (((s[k]).toNat : Int) < 97) := by have := hb2.out; omega
        have k2 : ¬ ((122 : Int) < ((s[k]).toNat : Int)) := by have := hb2.out; omega
        clear hb
        go_wp2_with fail
        go_roundw
        case rel => exact ⟨k + 1, by omega, by go_num, HN, q, rfl⟩
        case measure => simp [intOf]; omega
      · have HF : Hid (ok = false) := Lib.hid (by
          rw [← HOK.out, Bool.eq_false_iff]
          intro h
          unfold nameOk at h
          simp only [Bool.and_eq_true] at h
          exact hb (List.all_eq_true.1 h.2.2 _ (List.mem_of_getElem? hg.out)))
        have hb2 : Hid (¬ (97 ≤ (s[k]).toNat ∧ (s[k]).toNat ≤ 122)) := Lib.hid fun h => hb (decide_eq_true h)
        clear hb
        by_cases h97 : ((s[k]).toNat : Int) < 97
        · go_wp2_with fail
          go_ret
          exact ⟨by rw [HF.out]; rfl, q, rfl⟩
        · have h122 : (122 : Int) < ((s[k]).toNat : Int) := by have := hb2.out; omega
          go_wp2_with fail
          go_ret
          exact ⟨by rw [HF.out]; rfl, q, rfl⟩
    · obtain rfl : k = s.size := by omega
      have ha : Hid (s.data.toList.all lower = true) := Lib.hid (by have := hall.out; rwa [← HSL.out, List.take_length] at this)
      have HE : Hid (ok = (decide (1 ≤ s.size) && decide (s.size ≤ 16))) := Lib.hid (by
        rw [← HOK.out]
        unfold nameOk
        rw [ha.out, Bool.and_true, Bool.and_comm]
        rfl)
      by_cases h1 : (1 : Int) ≤ (s.size : Int)
      · by_cases h2 : (s.size : Int) ≤ 16
        · go_wp2_with fail
          go_ret
          exact ⟨by rw [HE.out, decide_eq_true (by omega), decide_eq_true (by omega)]; rfl, q, rfl⟩
        · go_wp2_with fail
          go_ret
          exact ⟨by rw [HE.out, decide_eq_true (by omega), decide_eq_false (by omega)]; rfl, q, rfl⟩
      · go_wp2_with fail
        go_ret
        exact ⟨by rw [HE.out, decide_eq_false (by omega)]; rfl, q, rfl⟩
end Go.Proofs.Ytoafchfpnaojmaa

/- Bytes appended, part by part: words for the document's answers of forms. -/
namespace Go.Proofs.Ytoafchfpnaojmaa
open Go.RowKit
set_option linter.unusedVariables false
set_option linter.unusedSimpArgs false
set_option maxRecDepth 20000

/-- append of bytes at a step of a region that draws its order. -/
theorem step_app (w : World) {ops : Array Oper} {o : Oper} {a : Act} {K : Act → World → Prop} {Q : Exit → Act → World → Prop} {E : Prop} (hgd : o.guard = none) (sl x : Operand)
    (ho : o.op = .call { callee := .builtin .append, args := #[sl, x], argTypes := #[33, 33] })
    {v : Value} {l l2 : List UInt8} (hs : a.eval sl = v) (hown : Own 5 w v l) {A : Option Addr} {n c : Nat} (hx : a.eval x = .slice A n c) (hn : n = l2.length) (hr : Rd w A l2) (hsz : l.length + l2.length ≤ 140737488355328)
    (h : ∀ v' w', Own 5 w' v' (l ++ l2) → w.grownBy w' v.ownBlock → (v'.ownBlock = v.ownBlock ∨ v'.ownBlock = some w.heap.size) → K (a.put o.dst v') w') :
    if Region.wanted o (yielded ops a.tmps) = true then Oper.wp Try.prog o a w K Q else E := by
  have hw : Region.wanted o (yielded ops a.tmps) = true := by simp [Region.wanted, hgd]
  rw [if_pos hw]
  obtain ⟨v', w', hrun, h2, h3, h4⟩ := run_app byt w o.type hown hn c hr hsz
  unfold Oper.wp execOp
  simp only [ho, resolve, invoke, builtin, Sem.run_bind, Sem.run_pure, Result.andThen_ok, List.map_toArray, List.map_cons, List.map_nil, hs, hx, hrun]
  exact h v' w' h2 h3 h4

/-- append of bytes at an operation that is wanted. -/
theorem wp_appB (w : World) {o : Oper} {a : Act} {K : Act → World → Prop} {Q : Exit → Act → World → Prop} (sl x : Operand)
    (ho : o.op = .call { callee := .builtin .append, args := #[sl, x], argTypes := #[33, 33] })
    {v : Value} {l l2 : List UInt8} (hs : a.eval sl = v) (hown : Own 5 w v l) {A : Option Addr} {n c : Nat} (hx : a.eval x = .slice A n c) (hn : n = l2.length) (hr : Rd w A l2) (hsz : l.length + l2.length ≤ 140737488355328)
    (h : ∀ v' w', Own 5 w' v' (l ++ l2) → w.grownBy w' v.ownBlock → (v'.ownBlock = v.ownBlock ∨ v'.ownBlock = some w.heap.size) → K (a.put o.dst v') w') : Oper.wp Try.prog o a w K Q := by
  obtain ⟨v', w', hrun, h2, h3, h4⟩ := run_app byt w o.type hown hn c hr hsz
  unfold Oper.wp execOp
  simp only [ho, resolve, invoke, builtin, Sem.run_bind, Sem.run_pure, Result.andThen_ok, List.map_toArray, List.map_cons, List.map_nil, hs, hx, hrun]
  exact h v' w' h2 h3 h4

/-- What a part of the bytes leaves: a slice of the call's own, new since W. -/
structure Bts (W w : World) (v : Value) (l : List UInt8) : Prop where
  own : Own 5 w v l
  new : ∀ k, vbl v k → W.heap.size ≤ k
  chg : Chg Non W w
theorem Bts.app {W w w' : World} {v v' : Value} {l l2 : List UInt8} (h : Bts W w v l) (ho : Own 5 w' v' (l ++ l2)) (hg : w.grownBy w' v.ownBlock) (hl : v'.ownBlock = v.ownBlock ∨ v'.ownBlock = some w.heap.size) : Bts W w' v' (l ++ l2) := by
  refine ⟨ho, fun k hk => ?_, h.chg.grown hg (fun k hk => .inr (h.new k hk))⟩
  rcases hl with h2 | h2
  · exact h.new k (by unfold vbl at hk ⊢; rw [← h2]; exact hk)
  · unfold vbl at hk
    rw [h2] at hk
    injection hk with hk
    have := h.chg.size
    omega
theorem Bts.later {W w w' : World} {v : Value} {l : List UInt8} (h : Bts W w v l) (k : Chg Non w w') : Bts W w' v l := ⟨h.own.chg k (fun _ _ f => f), h.new, h.chg.trans k (fun _ f => f.elim)⟩
/-- Bytes that lie somewhere. -/
theorem Own.rd {w : World} {v : Value} {l : List UInt8} (h : Own 5 w v l) : ∃ A c, v = .slice A l.length c ∧ Rd w A l := by
  obtain ⟨A, c, e, _, _, hr, _⟩ := h.slice
  exact ⟨A, c, e, hr⟩
theorem Rd.later {w w' : World} {A : Option Addr} {l : List UInt8} (h : Rd w A l) (k : Chg Non w w') : Rd w' A l := h.chg k (fun _ _ f => f)

end Go.Proofs.Ytoafchfpnaojmaa

/- A call of a Go function at a step of a region that draws its order. -/
namespace Go.Proofs.Ytoafchfpnaojmaa
open Go.RowKit
set_option linter.unusedVariables false
set_option linter.unusedSimpArgs false
set_option maxRecDepth 20000

theorem step_call (w : World) {ops : Array Oper} {o : Oper} {a : Act} {K : Act → World → Prop} {Q : Exit → Act → World → Prop} {E : Prop} (hgd : o.guard = none) (f : FuncId) (xs : Array Operand) (ts : Array TypeId)
    (ho : o.op = .call { callee := .value (.func f), args := xs, argTypes := ts }) {vl : List Value} (hx : xs.toList.map a.eval = vl) (he : ∀ args w, (callFunc f args).run Try.prog w = .ok (.enter f args) w)
    {post : Ending → World → Prop} (H : Calls Try.prog f vl.toArray w post) (h : ∀ e w', post e w' → ∃ r, e = .returned r ∧ K (a.put o.dst r) w') :
    if Region.wanted o (yielded ops a.tmps) = true then Oper.wp Try.prog o a w K Q else E := by
  have hw : Region.wanted o (yielded ops a.tmps) = true := by simp [Region.wanted, hgd]
  rw [if_pos hw]
  have hx : xs.map a.eval = vl.toArray := Array.ext' (by rw [Array.toList_map]; exact hx)
  unfold Oper.wp execOp
  simp only [ho, resolve, invoke, Sem.run_bind, Sem.run_pure, Result.andThen_ok, hx]
  have hf : a.eval (Operand.func f) = .func (.func f) #[] #[] := rfl
  simp only [hf, Deferred.ofValue, Sem.run_pure, Result.andThen_ok, Array.append_empty, he]
  simp [Oper.upon, he]
  refine H.mono fun e w' hp => ?_
  obtain ⟨r, rfl, hk⟩ := h e w' hp
  exact hk
theorem step_callW (w : World) {ops : Array Oper} {o : Oper} {a : Act} {K : Act → World → Prop} {Q : Exit → Act → World → Prop} {E : Prop} (hw : Region.wanted o (yielded ops a.tmps) = true) (f : FuncId) (xs : Array Operand) (ts : Array TypeId)
    (ho : o.op = .call { callee := .value (.func f), args := xs, argTypes := ts }) {vl : List Value} (hx : xs.toList.map a.eval = vl) (he : ∀ args w, (callFunc f args).run Try.prog w = .ok (.enter f args) w)
    {post : Ending → World → Prop} (H : Calls Try.prog f vl.toArray w post) (h : ∀ e w', post e w' → ∃ r, e = .returned r ∧ K (a.put o.dst r) w') :
    if Region.wanted o (yielded ops a.tmps) = true then Oper.wp Try.prog o a w K Q else E := by
  rw [if_pos hw]
  have hx : xs.map a.eval = vl.toArray := Array.ext' (by rw [Array.toList_map]; exact hx)
  unfold Oper.wp execOp
  simp only [ho, resolve, invoke, Sem.run_bind, Sem.run_pure, Result.andThen_ok, hx]
  have hf : a.eval (Operand.func f) = .func (.func f) #[] #[] := rfl
  simp only [hf, Deferred.ofValue, Sem.run_pure, Result.andThen_ok, Array.append_empty, he]
  simp [Oper.upon, he]
  refine H.mono fun e w' hp => ?_
  obtain ⟨r, rfl, hk⟩ := h e w' hp
  exact hk
theorem ent_in (args : Array Value) (w : World) : (callFunc 16 args).run Try.prog w = .ok (.enter 16 args) w := enters_of Try.func16 (by kernel_rfl) rfl args w
theorem ent_num (args : Array Value) (w : World) : (callFunc 14 args).run Try.prog w = .ok (.enter 14 args) w := enters_of Try.func14 (by kernel_rfl) rfl args w
end Go.Proofs.Ytoafchfpnaojmaa

/- Package forms: words for lists. -/
namespace Go.Proofs.Ytoafchfpnaojmaa
open Go.RowKit
set_option linter.unusedVariables false
set_option linter.unusedSimpArgs false
set_option maxRecDepth 20000

/-- The first k, one behind the other. -/
def jn (bs : Nat → List UInt8) : Nat → List UInt8
  | 0 => []
  | k + 1 => jn bs k ++ bs k
/-- All of the first k are right. -/
def allB (ok : Nat → Bool) : Nat → Bool
  | 0 => true
  | k + 1 => allB ok k && ok k
theorem allB_no {ok : Nat → Bool} {n k : Nat} (h : k < n) (hk : ok k = false) : allB ok n = false := by
  induction n with
  | zero => omega
  | succ n ih =>
    unfold allB
    by_cases e : k = n
    · subst e; rw [hk, Bool.and_false]
    · rw [ih (by omega), Bool.false_and]
theorem allB_yes {ok : Nat → Bool} {n k : Nat} (h : allB ok n = true) (hk : k < n) : ok k = true := by
  cases e : ok k with
  | true => rfl
  | false => rw [allB_no hk e] at h; cases h
theorem jn_len {bs : Nat → List UInt8} {ok : Nat → Bool} {m : Nat} (hb : ∀ i, ok i = true → (bs i).length ≤ m) : ∀ k, allB ok k = true → (jn bs k).length ≤ k * m
  | 0, _ => by simp [jn]
  | k + 1, h => by
    unfold allB at h
    rw [Bool.and_eq_true] at h
    have h1 := jn_len hb k h.1
    have h2 := hb k h.2
    unfold jn
    rw [List.length_append, Nat.succ_mul]
    omega
end Go.Proofs.Ytoafchfpnaojmaa
