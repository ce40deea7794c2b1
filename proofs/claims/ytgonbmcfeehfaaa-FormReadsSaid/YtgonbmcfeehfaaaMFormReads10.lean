import Derived.Test.YtgonbmcfeehfaaaChecked
import Derived.WalkKit
import Derived.WalkLawsBesides
import Derived.Lib.Hide
import Derived.Deep.RegionHeld3
import Derived.Recover
import Derived.Test.YtgonbmcfeehfaaaMFormReads3
import Derived.Test.YtgonbmcfeehfaaaMFormReads4
import Derived.Test.YtgonbmcfeehfaaaMFormReads5
import Derived.Test.YtgonbmcfeehfaaaMFormReads6
import Derived.Test.YtgonbmcfeehfaaaMFormReads7
import Derived.Test.YtgonbmcfeehfaaaMFormReads8
import Derived.Test.YtgonbmcfeehfaaaMFormReads9
/- Package forms: packets, read: contracts. -/
namespace Go.Proofs.Ytgonbmcfeehfaaa
open Go.RowKit
set_option linter.unusedVariables false
set_option linter.unusedSimpArgs false
set_option maxRecDepth 20000
theorem packet_r_old {old : List Value} (h : old.length = 4) : ∃ (a0 : Value) (a1 : Value) (a2 : Value) (a3 : Value), old = [a0] ++ [a1] ++ [a2] ++ [a3] ∧ True := by
  refine ⟨(old[0]'(by omega)), (old[1]'(by omega)), (old[2]'(by omega)), (old[3]'(by omega)), ?_, trivial⟩
  apply List.ext_getElem?
  intro j
  have hone : ∀ (i : Nat) (hi : i < old.length), [old[i]] = (old.drop i).take 1 := by
    intro i hi
    apply List.ext_getElem?
    intro k
    rw [List.getElem?_take, List.getElem?_drop]
    by_cases hk : k < 1
    · obtain rfl : k = 0 := by omega
      simp [List.getElem?_eq_getElem hi]
    · rw [if_neg hk, List.getElem?_eq_none (by simp; omega)]
  simp only [hone]
  have hj : ∀ (a b c : Nat), a + b = c → (old.drop a).take b ++ old.drop c = old.drop a := by
    intro a b c e
    subst e
    rw [← List.drop_drop, List.take_append_drop]
  have he : old.drop 4 = [] := List.drop_of_length_le (by omega)
  have hall : (old.drop 0).take 1 ++ ((old.drop 1).take 1 ++ ((old.drop 2).take 1 ++ ((old.drop 3).take 1 ++ old.drop 4))) = old := by
    rw [hj 3 1 4 rfl, hj 2 1 3 rfl, hj 1 1 2 rfl, hj 0 1 1 rfl]
    rfl
  rw [he, List.append_nil] at hall
  conv => lhs; rw [← hall]
  try simp only [List.append_assoc]

set_option maxHeartbeats 1600000 in
theorem packet_r (w : World) (g : Nat) (F : Nat → Prop) (tb o : Nat) (t : TypeId) (p q old : List Value) (st : St) (S : Rst w g F tb t (p ++ (old ++ q)) st w) (ho : o = p.length) (hold : old.length = 4) :
    Calls Try.prog 25 #[.agg #[.pointer none, .pointer (some ⟨g, 0, none⟩)], .pointer (some ⟨tb, o, none⟩)] w (RO w g F tb t (p ++ (old ++ q)).length ((dPacket st).map fun y => (p ++ (y.1.cells ++ q), y.2))) := by
  obtain ⟨a0, a1, a2, a3, rfl, _⟩ := packet_r_old hold
  generalize hn : (p ++ (_ ++ q)).length = n
  generalize hr : (dPacket st).map _ = r
  have HR := Lib.hid hr
  have HN := Lib.hid hn
  have HO := Lib.hid ho
  clear hr hn ho hold
  have S0 := S.non ((Chg.refl Non w).alloc (.cells #[.pointer none, .pointer (some ⟨g, 0, none⟩)] 86))
  have hw := S.nw (Nat.le_refl w.heap.size)
  have hx := Hb.new w 86 #[.pointer none, .pointer (some ⟨g, 0, none⟩)]
  have hx0 : (w.alloc (.cells #[.pointer none, .pointer (some ⟨g, 0, none⟩)] 86)).cell? ⟨w.heap.size, 0, none⟩ = some (.pointer none) := hx.cell 0
  have hx1 : (w.alloc (.cells #[.pointer none, .pointer (some ⟨g, 0, none⟩)] 86)).cell? ⟨w.heap.size, 1, none⟩ = some (.pointer (some ⟨g, 0, none⟩)) := hx.cell 1
  have S1 := S0.here
  obtain ⟨B, hB⟩ : ∃ B, B = w.alloc (.cells #[.pointer none, .pointer (some ⟨g, 0, none⟩)] 86) := ⟨_, rfl⟩
  clear hx S
  go_enter Try.func25, Try.ntmps25
  go_wp2_with fail
  rw [← hB] at S0 hx0 hx1 S1 ⊢
  clear hB
  have x0 := S1.chg.cell hx0 hw
  have x1 := S1.chg.cell hx1 hw
  go_wp2_with (first | (go_at_call 39; go_loud (refine (begin_r _ g F tb t _ st S1.here 6).mono ?_; rintro e w2 h2; rcases h2.cases with ⟨k, he, C, L', hL1, hL2⟩ | ⟨y, k, he, T2⟩; (subst he; obtain rfl : r = none := HR.out.symm.trans (by (simp only [Option.map_eq_none_iff] at k) <;> simp [dPacket, k]); exact ⟨rfl, rfl, (S0.chg.trans (S1.chg.trans C (fun _ h => .inl h)) (fun _ h => .inl h)), L', by (rw [hL1, ← HN.out]) <;> simp [bv_length, vH_length], hL2⟩); subst he; obtain ⟨z2, k2, rfl⟩ := Option.map_eq_some_iff.1 k; clear k)) | fail)
  have S2 := S1.trans T2
  clear T2 x0 x1
  clear h2
  go_wp2_with fail
  have D3 := S2.non ((Chg.refl Non w2).drew)
  have x0 := D3.chg.cell hx0 hw
  have x1 := D3.chg.cell hx1 hw
  go_region_held (fun w' => w'.cell? ⟨w.heap.size, 0, none⟩ = some (.pointer none) ∧ w'.cell? ⟨w.heap.size, 1, none⟩ = some (.pointer (some ⟨g, 0, none⟩))) (first | exact ⟨y0, y1⟩ | exact ⟨x0, x1⟩ | assumption) (first | (go_at_call 56; go_loud (refine (number_r _ g F tb o t (p) (a1 :: a2 :: a3 :: q) a0 z2 (D3.here.eq (by simp)) HO.out 1 1099511627776).mono ?_; rintro e w3 h3; have y0 := h3.chg.cell x0 hw; have y1 := h3.chg.cell x1 hw; rcases h3.cases with ⟨k, he, C, L', hL1, hL2⟩ | ⟨y, k, he, T3⟩; (subst he; obtain rfl : r = none := HR.out.symm.trans (by (simp only [Option.map_eq_none_iff] at k) <;> simp [dPacket, k2, k]); exact ⟨rfl, rfl, (S0.chg.trans (D3.chg.trans C (fun _ h => .inl h)) (fun _ h => .inl h)), L', by (rw [hL1, ← HN.out]) <;> simp [bv_length, vH_length], hL2⟩); subst he; obtain ⟨z3, k3, rfl⟩ := Option.map_eq_some_iff.1 k; clear k)) | fail)
  have S3 := D3.trans T3
  clear D3 T3 x0 x1 y0 y1
  clear h3
  go_wp2_with fail
  have D4 := S3.non ((Chg.refl Non w3).drew)
  have x0 := D4.chg.cell hx0 hw
  have x1 := D4.chg.cell hx1 hw
  go_region_held (fun w' => w'.cell? ⟨w.heap.size, 0, none⟩ = some (.pointer none) ∧ w'.cell? ⟨w.heap.size, 1, none⟩ = some (.pointer (some ⟨g, 0, none⟩))) (first | exact ⟨y0, y1⟩ | exact ⟨x0, x1⟩ | assumption) (first | (go_at_call 40; go_loud (refine (name_r _ g F tb (o + 1) t (p ++ (.int .i64 z3.1 :: [])) (a2 :: a3 :: q) a1 z3.2 (D4.here.eq (by simp)) (by rw [HO.out]; simp [bv_length, vH_length])).mono ?_; rintro e w4 h4; have y0 := h4.chg.cell x0 hw; have y1 := h4.chg.cell x1 hw; rcases h4.cases with ⟨k, he, C, L', hL1, hL2⟩ | ⟨y, k, he, T4⟩; (subst he; obtain rfl : r = none := HR.out.symm.trans (by (simp only [Option.map_eq_none_iff] at k) <;> simp [dPacket, k2, k3, k]); exact ⟨rfl, rfl, (S0.chg.trans (D4.chg.trans C (fun _ h => .inl h)) (fun _ h => .inl h)), L', by (rw [hL1, ← HN.out]) <;> simp [bv_length, vH_length], hL2⟩); subst he; obtain ⟨z4, k4, rfl⟩ := Option.map_eq_some_iff.1 k; clear k)) | fail)
  have S4 := D4.trans T4
  clear D4 T4 x0 x1 y0 y1
  clear h4
  go_wp2_with fail
  have D5 := S4.non ((Chg.refl Non w4).drew)
  have x0 := D5.chg.cell hx0 hw
  have x1 := D5.chg.cell hx1 hw
  go_region_held (fun w' => w'.cell? ⟨w.heap.size, 0, none⟩ = some (.pointer none) ∧ w'.cell? ⟨w.heap.size, 1, none⟩ = some (.pointer (some ⟨g, 0, none⟩))) (first | exact ⟨y0, y1⟩ | exact ⟨x0, x1⟩ | assumption) (first | (go_at_call 58; go_loud (refine (text_r _ g F tb (o + 2) t (p ++ (.int .i64 z3.1 :: .string z4.1 :: [])) (a3 :: q) a2 z4.2 (D5.here.eq (by simp)) (by rw [HO.out]; simp [bv_length, vH_length]) 256 (by omega)).mono ?_; rintro e w5 h5; have y0 := h5.chg.cell x0 hw; have y1 := h5.chg.cell x1 hw; rcases h5.cases with ⟨k, he, C, L', hL1, hL2⟩ | ⟨y, k, he, T5⟩; (subst he; obtain rfl : r = none := HR.out.symm.trans (by (simp only [Option.map_eq_none_iff] at k) <;> simp [dPacket, k2, k3, k4, k]); exact ⟨rfl, rfl, (S0.chg.trans (D5.chg.trans C (fun _ h => .inl h)) (fun _ h => .inl h)), L', by (rw [hL1, ← HN.out]) <;> simp [bv_length, vH_length], hL2⟩); subst he; obtain ⟨z5, k5, rfl⟩ := Option.map_eq_some_iff.1 k; clear k)) | fail)
  have S5 := D5.trans T5
  clear D5 T5 x0 x1 y0 y1
  clear h5
  go_wp2_with fail
  have D6 := S5.non ((Chg.refl Non w5).drew)
  have x0 := D6.chg.cell hx0 hw
  have x1 := D6.chg.cell hx1 hw
  go_region_held (fun w' => w'.cell? ⟨w.heap.size, 0, none⟩ = some (.pointer none) ∧ w'.cell? ⟨w.heap.size, 1, none⟩ = some (.pointer (some ⟨g, 0, none⟩))) (first | exact ⟨y0, y1⟩ | exact ⟨x0, x1⟩ | assumption) (first | (go_at_call 41; go_loud (refine (height_r _ g F tb (o + 3) t (p ++ (.int .i64 z3.1 :: .string z4.1 :: .string z5.1 :: [])) (q) a3 z5.2 (D6.here.eq (by simp)) (by rw [HO.out]; simp [bv_length, vH_length])).mono ?_; rintro e w6 h6; have y0 := h6.chg.cell x0 hw; have y1 := h6.chg.cell x1 hw; rcases h6.cases with ⟨k, he, C, L', hL1, hL2⟩ | ⟨y, k, he, T6⟩; (subst he; obtain rfl : r = none := HR.out.symm.trans (by (simp only [Option.map_eq_none_iff] at k) <;> simp [dPacket, k2, k3, k4, k5, k]); exact ⟨rfl, rfl, (S0.chg.trans (D6.chg.trans C (fun _ h => .inl h)) (fun _ h => .inl h)), L', by (rw [hL1, ← HN.out]) <;> simp [bv_length, vH_length], hL2⟩); subst he; obtain ⟨z6, k6, rfl⟩ := Option.map_eq_some_iff.1 k; clear k)) | fail)
  have S6 := D6.trans T6
  clear D6 T6 x0 x1 y0 y1
  clear h6
  obtain rfl : r = some (_, z6.2) := HR.out.symm.trans (by simp only [dPacket, k2, k3, k4, k5, k6, Option.bind_some, Option.map_some]; rfl)
  go_wp2
  go_end0
  refine ⟨rfl, (S0.trans S6).eq ?_⟩
  simp [Pk.cells]

end Go.Proofs.Ytgonbmcfeehfaaa

/- Package forms: decoded[nuncio/api.Packet]. -/
namespace Go.Proofs.Ytgonbmcfeehfaaa
open Go.RowKit
set_option linter.unusedVariables false
set_option linter.unusedSimpArgs false
set_option maxRecDepth 20000


theorem dPacket.row : (Try.prog.info? 40).map (·.size) = some 4 := by kernel_rfl
theorem dPacket.alloc0 (w : World) : (Instr.alloc 40 true (.tuple #[])).run Try.prog w = .ok (.pointer (some ⟨w.heap.size, 0, none⟩)) (w.alloc (.cells (Pk.zero.cells).toArray 40)) := by kernel_rfl
theorem dPacket.zlen : (Pk.zero.cells).length = 4 := by rfl

theorem catchDP_Packet (w : World) (p q : Nat) (L : List Value) (y : Value) (v : Value) (u : TypeId) (older : List PanicEntry) (hp : Hb w p 40 L.toArray) (hL : L.length = 4) (hq : Hb w q 32 #[y]) (hpq : q ≠ p) :
    CallsD Try.prog 57 #[.pointer (some ⟨p, 0, none⟩), .pointer (some ⟨q, 0, none⟩)] (.panicking ({ v := .iface u v, recovered := false } :: older)) w fun e u' w' =>
      e = .returned (.tuple #[]) ∧ u' = .panicking ({ v := .iface u v, recovered := true } :: older) ∧ w' = (((w.alloc (.cells (Pk.zero.cells).toArray 40)).setCells p 0 (Pk.zero.cells)).setCell ⟨q, 0, none⟩ (.int .i64 61)) := by
  have hz := dPacket.alloc0 w
  have hzl := dPacket.zlen
  have hrow := dPacket.row
  have hn := Hb.new w 40 (Pk.zero.cells).toArray
  have hp1 := hp.alloc (.cells (Pk.zero.cells).toArray 40)
  have hth := hp1.there0
  rw [hL] at hth
  have hq1 := (hq.alloc (.cells (Pk.zero.cells).toArray 40)).farCells hpq (Pk.zero.cells) 0
  have c1 : _ = some y := hq1.cell 0
  have f1 : _ = false := hq1.frozen 0
  refine callsD_of_wpS Try.func57 rfl fun c₀ cs hu => ?_
  apply wpS_seq
  apply wpS_region
  simp [wpOpsS, go_sem, recoverD, hu, Try.ntmps57, Exit.thenS]
  refine wpS_cond (t := true) (by simp [Act.eval, Array.replicate]) ?_
  simp only [if_true]
  refine wpS_of_wp ?_
  have hone : ∀ v ∈ (Pk.zero.cells), v.oneCell' = true := Pk.one _
  generalize Pk.zero.cells = z at *
  go_wp2_with (first | (with_reducible refine wpList_alloc_row rfl _ rfl z hz ?_) | (with_reducible refine wpList_load_mid rfl 40 _ rfl w.heap.size 0 rfl z _ hn.range0 Try.underlying40 rfl (by rw [hrow, hzl]) ?_) | (with_reducible refine wpList_store_mid rfl 40 _ _ rfl p 0 z.toArray rfl rfl (by rw [List.size_toArray, hzl]; exact hth) (by rw [List.size_toArray, hrow, hzl]) (one_mem hone) ?_))
  exact ⟨rfl, _, rfl, .tuple #[], by simp [results, Try.results57], rfl, rfl, rfl⟩

theorem catchDI_Packet (w : World) (p q : Addr) : CallsD Try.prog 57 #[.pointer (some p), .pointer (some q)] .returning w fun e u' w' => e = .returned (.tuple #[]) ∧ u' = .returning ∧ w' = w := by
  refine callsD_of_wpS Try.func57 rfl fun c₀ cs hu => ?_
  apply wpS_seq
  apply wpS_region
  simp [wpOpsS, go_sem, recoverD, hu, Try.ntmps57, Exit.thenS]
  refine wpS_cond (t := false) (by simp [Act.eval, Array.replicate]) ?_
  simp only [Bool.false_eq_true, if_false]
  refine wpS_of_wp (wp_skip ?_)
  cases c₀
  simp_all [bodyPostS, results, Try.results57]

/-- The error's way. -/
theorem decErr_Packet (w w2 : World) (h : Chg Non w w2) (L : List Value) (y : Value) (hp : Hb w2 w.heap.size 40 L.toArray) (hL : L.length = 4) (hq : Hb w2 (w.heap.size + 1) 32 #[y]) (r : Option (List Value)) (hr : r = none) (tmps : Array Value)
    (h4 : tmps.getD 4 undef = .pointer (some ⟨w.heap.size, 0, none⟩)) (h5 : tmps.getD 5 undef = .pointer (some ⟨w.heap.size + 1, 0, none⟩)) :
    Leaves Try.prog Try.f24 tmps (Dec w (Pk.zero.cells) r) [{ target := .fn (.func 57) #[.pointer (some ⟨w.heap.size, 0, none⟩), .pointer (some ⟨w.heap.size + 1, 0, none⟩)], args := #[] }] (.panicking bad) w2 := by
  subst hr
  refine leaves_cons (f := 57) (args := #[.pointer (some ⟨w.heap.size, 0, none⟩), .pointer (some ⟨w.heap.size + 1, 0, none⟩)]) (by simp) (by simp [go_sem]) ?_
  refine (catchDP_Packet w2 w.heap.size (w.heap.size + 1) L _ _ _ _ hp hL hq (by omega)).mono ?_
  rintro e u' w'' ⟨rfl, rfl, rfl⟩
  have hz : (Pk.zero.cells).length = 4 := dPacket.zlen
  have hb3 := ((hp.alloc (.cells (Pk.zero.cells).toArray 40)).sets0 (L' := Pk.zero.cells) (by rw [hL, hz])).far (p := ⟨w.heap.size + 1, 0, none⟩) (by simp) (.int .i64 61)
  have he3 := ((hq.alloc (.cells (Pk.zero.cells).toArray 40)).farCells (tb := w.heap.size) (by omega) (Pk.zero.cells) 0).set 0 (.int .i64 61)
  refine ⟨_, results_two rfl _ _ _ ⟨w.heap.size, 0, none⟩ ⟨w.heap.size + 1, 0, none⟩ _ _ h4 h5 (load_row hb3 Try.underlying40 rfl (by rw [dPacket.row, hz])) (load_errno (he3.cell 0)), ?_, rfl⟩
  have K := (Chg.setCells (S := fun k => k = w.heap.size ∨ k = w.heap.size + 1) (.inl rfl) (Pk.zero.cells) _ 0 ((Chg.refl _ w2).alloc (.cells (Pk.zero.cells).toArray 40))).setCell (p := ⟨w.heap.size + 1, 0, none⟩) (.inl (.inr rfl)) (.int .i64 61)
  exact h.trans K (fun j hj => .inr (by omega))

theorem decoded_Packet (w : World) (A : Option Addr) (n c : Nat) (bs : List UInt8) (r : Option (List Value × St)) (hn : n = bs.length) (hr : Rd w A bs) (hsz : bs.length ≤ 1000000000) (hlen : ∀ L s, r = some (L, s) → L.length = 4 ∧ ∀ v ∈ L, v.oneCell' = true)
    (H : ∀ (w1 : World) (g : Nat) (F : Nat → Prop), Rst w1 g F w.heap.size 40 (Pk.zero.cells) (some bs) w1 → Calls Try.prog 25 #[.agg #[.pointer none, .pointer (some ⟨g, 0, none⟩)], .pointer (some ⟨w.heap.size, 0, none⟩)] w1 (RO w1 g F w.heap.size 40 4 r)) :
    Calls Try.prog 24 #[.slice A n c, .func (.func 25) #[] #[]] w (Dec w (Pk.zero.cells) (whole r)) := by
  have hmf := mkf
  have hC0 := dw_chg w (Pk.zero.cells) 40
  have hb0 := dw_b w (Pk.zero.cells) 40
  have he0 := dw_e w (Pk.zero.cells) 40
  have hz := dPacket.alloc0 w
  have hrow := dPacket.row
  have HN := newReader_any (dw w (Pk.zero.cells) 40) A n c bs hn (hr.chg hC0 (fun _ _ f => f)) hsz
  generalize hR : whole r = R
  have HR := Lib.hid hR
  have HLE := Lib.hid hlen
  have HH := Lib.hid H
  have HNN := Lib.hid HN
  clear hR hlen H HN hn hr
  have hzz := dPacket.zlen
  go_enter_defers Try.func24, Try.ntmps24
  go_wp2_with (first | (with_reducible refine wpList_alloc_row rfl _ rfl (Pk.zero.cells) hz ?_))
  have hdw : dw w (Pk.zero.cells) 40 = (w.alloc (.cells (Pk.zero.cells).toArray 40)).alloc (.cells #[.int .i64 0] 32) := rfl
  rw [← hdw]
  have hds : (dw w (Pk.zero.cells) 40).heap.size = w.heap.size + 2 := by rw [hdw]; simp
  clear hdw
  generalize dw w (Pk.zero.cells) 40 = w0 at *
  refine HNN.out.mono ?_
  rintro e w1 ⟨g, F, rfl, hR1, hg, hF, hC1⟩
  have hb1 := hb0.chg hC1 (fun f => f)
  have he1 := he0.chg hC1 (fun f => f)
  have S1 : Rst w1 g F w.heap.size 40 (Pk.zero.cells) (some bs) w1 := ⟨hR1, hb1, Chg.refl _ _, by omega, fun h => by have := hF _ h; omega⟩
  have H1 := HH.out w1 g F S1
  have hne : ¬ Two g w.heap.size (w.heap.size + 1) := by rintro (h | h) <;> omega
  have hn01 : Chg Non w w1 := hC0.trans hC1 (fun _ f => f.elim)
  clear HNN hb0 he0 hC0 hC1 HH S1
  go_wp2_with fail
  refine H1.mono ?_
  rintro e w2 h2
  have he2 := he1.chg h2.chg hne
  have hn02 : Chg Non w w2 := hn01.trans h2.chg (fun j hj => .inr (by rcases hj with rfl | rfl <;> omega))
  clear H1 he1 hb1
  rcases h2.cases with ⟨k, rfl, _, L', hL1, hL2⟩ | ⟨⟨L, s⟩, k, rfl, T⟩
  · have hRn : R = none := HR.out.symm.trans (by rw [k]; rfl)
    go_wp2
    refine decErr_Packet w w2 hn02 L' _ hL2 hL1 he2 _ rfl _ ?_ ?_ <;> rfl
  · obtain ⟨hLn, hL1⟩ := HLE.out L s k
    clear HLE h2
    go_wp2_with fail
    refine (endR_any _ g F s T.rdr).mono ?_
    rintro e w3 ⟨rfl, rfl⟩
    have hb2 : Hb _ w.heap.size 40 L.toArray := T.row
    by_cases hs : s = some []
    · have hRs : R = some L := HR.out.symm.trans (by rw [k, hs]; rfl)
      have hev : endv s = 0 := by unfold endv; rw [if_pos hs]
      have hth := hb2.there0
      rw [hLn] at hth
      have hLs : L.toArray.size = 4 := by rw [List.size_toArray, hLn]
      rw [hev]
      have hb3 := hb2.sets0 (L' := L) rfl
      have he3 := he2.farCells (tb := w.heap.size) (by omega) L 0
      have c3 : _ = some (Value.int .i64 0) := he3.cell 0
      have f3 : _ = false := he3.frozen 0
      have hrg := hb2.range0
      clear hev hs HR
      go_wp2_with (first | (go_at_call 37; refine (insist_yes _).mono ?_; rintro e w5 ⟨rfl, rfl⟩) | (with_reducible refine wpList_load_mid rfl 40 _ rfl w.heap.size 0 rfl L _ hrg Try.underlying40 rfl (by rw [hrow, hLn]) ?_; refine wpList_store_mid rfl 40 _ _ rfl w.heap.size 0 L.toArray rfl rfl (by rw [hLs]; exact hth) (by rw [hLs, hrow]) (one_mem hL1) ?_) | (with_reducible refine wpList_store_mid rfl 40 _ _ rfl w.heap.size 0 L.toArray rfl rfl (by rw [hLs]; exact hth) (by rw [hLs, hrow]) (one_mem hL1) ?_))
      refine leaves_cons (f := 57) (args := #[.pointer (some ⟨w.heap.size, 0, none⟩), .pointer (some ⟨w.heap.size + 1, 0, none⟩)]) (by simp) (by simp [go_sem]) ?_
      refine (catchDI_Packet _ ⟨w.heap.size, 0, none⟩ ⟨w.heap.size + 1, 0, none⟩).mono ?_
      rintro e u' w'' ⟨rfl, rfl, rfl⟩
      have hb4 := hb3.far (p := ⟨w.heap.size + 1, 0, none⟩) (by simp) (.int .i64 0)
      have he4 := he3.set 0 (.int .i64 0)
      refine ⟨_, results_two rfl _ _ _ ⟨w.heap.size, 0, none⟩ ⟨w.heap.size + 1, 0, none⟩ _ _ rfl rfl (load_row hb4 Try.underlying40 rfl (by rw [hrow, hLn])) (load_errno (he4.cell 0)), ?_, by rw [hRs]; rfl⟩
      exact hn02.trans ((Chg.setCells (S := fun k => k = w.heap.size ∨ k = w.heap.size + 1) (.inl rfl) L _ 0 (Chg.refl _ _)).setCell (p := ⟨w.heap.size + 1, 0, none⟩) (.inl (.inr rfl)) (.int .i64 0)) (fun j hj => .inr (by omega))
    · have hRn : R = none := HR.out.symm.trans (by
        rw [k]
        match s, hs with
        | none, _ => rfl
        | some (_ :: _), _ => rfl)
      have hev : endv s = 21 := by unfold endv; rw [if_neg hs]
      rw [hev]
      clear hev hs HR
      go_wp2_with (go_at_call 37; refine (insist_no _).mono ?_; rintro e w5 ⟨rfl, rfl⟩)
      refine decErr_Packet w _ hn02 L _ hb2 hLn he2 _ rfl _ ?_ ?_ <;> rfl
end Go.Proofs.Ytgonbmcfeehfaaa

/- Package forms: packets, written: contracts. -/
namespace Go.Proofs.Ytgonbmcfeehfaaa
open Go.RowKit
set_option linter.unusedVariables false
set_option linter.unusedSimpArgs false
set_option maxRecDepth 20000
set_option maxHeartbeats 1600000 in
theorem packet_w (g : Nat) (l : List UInt8) (w : World) (v : Value) (b o : Nat) (x : Pk) (h : Wri w g v (some l)) (hc : w.rangeAt b o x.cells) (hb : ¬ Wft g v b) (hbl : b < w.heap.size) (ox : x.Ok) (hl : l.length ≤ 100000) :
    Calls Try.prog 25 #[.agg #[.pointer (some ⟨g, 0, none⟩), .pointer none], .pointer (some ⟨b, o, none⟩)] w (WO w g v x.right (l ++ x.enc)) := by
  have S0 := (Wst.here h).non ((Chg.refl Non w).alloc (.cells #[.pointer (some ⟨g, 0, none⟩), .pointer none] 86))
  have R0 := ((Chg.refl Non w).alloc (.cells #[.pointer (some ⟨g, 0, none⟩), .pointer none] 86)).range' hc (fun f => f)
  have hw := h.nnew (Nat.le_refl w.heap.size)
  have hx := Hb.new w 86 #[.pointer (some ⟨g, 0, none⟩), .pointer none]
  have hx0 : (w.alloc (.cells #[.pointer (some ⟨g, 0, none⟩), .pointer none] 86)).cell? ⟨w.heap.size, 0, none⟩ = some (.pointer (some ⟨g, 0, none⟩)) := hx.cell 0
  have hx1 : (w.alloc (.cells #[.pointer (some ⟨g, 0, none⟩), .pointer none] 86)).cell? ⟨w.heap.size, 1, none⟩ = some (.pointer none) := hx.cell 1
  have hBl : b < (w.alloc (.cells #[.pointer (some ⟨g, 0, none⟩), .pointer none] 86)).heap.size := by simp; omega
  have hBw : w.heap.size < (w.alloc (.cells #[.pointer (some ⟨g, 0, none⟩), .pointer none] 86)).heap.size := by simp
  have S1 := Wst.here (S0.wri)
  obtain ⟨B, hB⟩ : ∃ B, B = w.alloc (.cells #[.pointer (some ⟨g, 0, none⟩), .pointer none] 86) := ⟨_, rfl⟩
  obtain ⟨f0, f1, f2, f3⟩ := pk_facts R0
  rw [← hB] at f0 f1 f2 f3
  generalize hok : x.right = ok
  have HOK := Lib.hid hok
  clear hok hx hc
  go_enter Try.func25, Try.ntmps25
  go_wp2_with fail
  rw [← hB] at S0 R0 hx0 hx1 hBl hBw S1 ⊢
  clear hB
  have x0 := S1.cell hx0 hw
  have x1 := S1.cell hx1 hw
  have hwn := S1.nw hw hBw
  go_wp2_with (first | (go_at_call 39; refine (begin_w g l _ v 6 S1.wri ⟨by omega, by omega⟩ (by omega)).mono ?_; rintro e w2 h2; obtain ⟨rfl, v2, T2⟩ := h2) | fail)
  have S2 := S1.trans T2
  clear T2 x0 x1 hwn
  go_wp2_with fail
  have D3 := S2.non ((Chg.refl Non w2).drew)
  have x0 := D3.cell hx0 hw
  have x1 := D3.cell hx1 hw
  have hwn := D3.nw hw hBw
  go_region_held (fun w' => w'.cell? ⟨w.heap.size, 0, none⟩ = some (.pointer (some ⟨g, 0, none⟩)) ∧ w'.cell? ⟨w.heap.size, 1, none⟩ = some (.pointer none)) (first | exact ⟨y0, y1⟩ | exact ⟨x0, x1⟩ | assumption) (first | (go_at_call 56; go_loud (refine (numberI_w g _ _ v2 b o x.seq 1 1099511627776 D3.wri (D3.cell f0 hb) (D3.nw hb hBl) ox.seq (by simp [be_length, num_length, tx_length, bytes_len]; omega)).mono ?_; rintro e w3 h3; have y0 := h3.chg.cell x0 hwn; have y1 := h3.chg.cell x1 hwn; rcases h3.cases with ⟨k3, he, C⟩ | ⟨k3, he, v3, T3⟩; (subst he; obtain rfl : ok = false := HOK.out.symm.trans (by simp [Pk.right, k3]); exact ⟨rfl, rfl, S0.chg.trans (D3.chg.trans C D3.wft) S0.wft⟩); subst he)) | fail)
  have S3 := D3.trans T3
  clear D3 T3 x0 x1 hwn y0 y1
  clear h3
  go_wp2_with fail
  have D4 := S3.non ((Chg.refl Non w3).drew)
  have x0 := D4.cell hx0 hw
  have x1 := D4.cell hx1 hw
  have hwn := D4.nw hw hBw
  go_region_held (fun w' => w'.cell? ⟨w.heap.size, 0, none⟩ = some (.pointer (some ⟨g, 0, none⟩)) ∧ w'.cell? ⟨w.heap.size, 1, none⟩ = some (.pointer none)) (first | exact ⟨y0, y1⟩ | exact ⟨x0, x1⟩ | assumption) (first | (go_at_call 40; go_loud (refine (name_w g _ _ v3 b (o + 1) x.from D4.wri (D4.cell f1 hb) (D4.nw hb hBl) ox.from (by simp [be_length, num_length, tx_length, bytes_len]; omega)).mono ?_; rintro e w4 h4; have y0 := h4.chg.cell x0 hwn; have y1 := h4.chg.cell x1 hwn; rcases h4.cases with ⟨k4, he, C⟩ | ⟨k4, he, v4, T4⟩; (subst he; obtain rfl : ok = false := HOK.out.symm.trans (by simp [Pk.right, k3, k4]); exact ⟨rfl, rfl, S0.chg.trans (D4.chg.trans C D4.wft) S0.wft⟩); subst he)) | fail)
  have S4 := D4.trans T4
  clear D4 T4 x0 x1 hwn y0 y1
  clear h4
  go_wp2_with fail
  have D5 := S4.non ((Chg.refl Non w4).drew)
  have x0 := D5.cell hx0 hw
  have x1 := D5.cell hx1 hw
  have hwn := D5.nw hw hBw
  go_region_held (fun w' => w'.cell? ⟨w.heap.size, 0, none⟩ = some (.pointer (some ⟨g, 0, none⟩)) ∧ w'.cell? ⟨w.heap.size, 1, none⟩ = some (.pointer none)) (first | exact ⟨y0, y1⟩ | exact ⟨x0, x1⟩ | assumption) (first | (go_at_call 58; go_loud (refine (textI_w g _ _ v4 b (o + 2) x.data 256 D5.wri (D5.cell f2 hb) (D5.nw hb hBl) ox.data (by omega) (by simp [be_length, num_length, tx_length, bytes_len]; have := nameOk_size k4; omega)).mono ?_; rintro e w5 h5; have y0 := h5.chg.cell x0 hwn; have y1 := h5.chg.cell x1 hwn; rcases h5.cases with ⟨k5, he, C⟩ | ⟨k5, he, v5, T5⟩; (subst he; obtain rfl : ok = false := HOK.out.symm.trans (by simp [Pk.right, k3, k4, k5]); exact ⟨rfl, rfl, S0.chg.trans (D5.chg.trans C D5.wft) S0.wft⟩); subst he)) | fail)
  have S5 := D5.trans T5
  clear D5 T5 x0 x1 hwn y0 y1
  clear h5
  go_wp2_with fail
  have D6 := S5.non ((Chg.refl Non w5).drew)
  have x0 := D6.cell hx0 hw
  have x1 := D6.cell hx1 hw
  have hwn := D6.nw hw hBw
  go_region_held (fun w' => w'.cell? ⟨w.heap.size, 0, none⟩ = some (.pointer (some ⟨g, 0, none⟩)) ∧ w'.cell? ⟨w.heap.size, 1, none⟩ = some (.pointer none)) (first | exact ⟨y0, y1⟩ | exact ⟨x0, x1⟩ | assumption) (first | (go_at_call 41; go_loud (refine (height_w g _ _ v5 b (o + 3) x.timeout D6.wri (D6.cell f3 hb) (D6.nw hb hBl) ox.timeout (by simp [be_length, num_length, tx_length, bytes_len]; have := nameOk_size k4; have := of_decide_eq_true k5; omega)).mono ?_; rintro e w6 h6; have y0 := h6.chg.cell x0 hwn; have y1 := h6.chg.cell x1 hwn; rcases h6.cases with ⟨k6, he, C⟩ | ⟨k6, he, v6, T6⟩; (subst he; obtain rfl : ok = false := HOK.out.symm.trans (by simp [Pk.right, k3, k4, k5, k6]); exact ⟨rfl, rfl, S0.chg.trans (D6.chg.trans C D6.wft) S0.wft⟩); subst he)) | fail)
  have S6 := D6.trans T6
  clear D6 T6 x0 x1 hwn y0 y1
  clear h6
  obtain rfl : ok = true := HOK.out.symm.trans (by simp [Pk.right, k3, k4, k5, k6])
  go_wp2
  go_end0
  refine ⟨rfl, v6, ?_⟩
  have S := S0.trans S6
  simpa [Pk.enc, List.append_assoc] using S

end Go.Proofs.Ytgonbmcfeehfaaa

/- Package forms: EncodePacket, DecodePacket; the live question. -/
namespace Go.Proofs.Ytgonbmcfeehfaaa
open Go.RowKit
set_option linter.unusedVariables false
set_option linter.unusedSimpArgs false
set_option maxRecDepth 20000

theorem Pk.enc_len (x : Pk) (h : x.right = true) (ox : x.Ok) : x.enc.length ≤ 1000 := by
  unfold Pk.right at h
  simp only [Bool.and_eq_true, decide_eq_true_eq] at h
  obtain ⟨_, h2, h3, _⟩ := h
  have := nameOk_size h2
  unfold Pk.enc
  simp [num_length, tx_length]
  have e1 : x.from.data.size = x.from.size := rfl
  have e2 : x.data.data.size = x.data.size := rfl
  omega

theorem EncodePacket_any (w : World) (x : Pk) (ox : x.Ok) : Calls Try.prog 14 #[.agg x.cells.toArray] w (Enc w x.right x.enc) := by
  have hC := (Chg.refl Non w).alloc (.cells x.cells.toArray 40)
  have hb := Hb.new w 40 x.cells.toArray
  have hs : (w.alloc (.cells x.cells.toArray 40)).heap.size = w.heap.size + 1 := by simp
  have H := encoded_Packet (w.alloc (.cells x.cells.toArray 40)) ⟨w.heap.size, 0, none⟩ x.right x.enc (fun h => by have := x.enc_len h ox; omega) (fun w1 g k hg hw => by
    have hb1 := hb.chg k (fun f => f)
    exact packet_w g [] w1 _ w.heap.size 0 x hw hb1.range0 (by rintro (h | h); omega; cases h) (by have := hb1.lt; omega) ox (by simp))
  have HH := Lib.hid H
  have HC := Lib.hid hC
  clear H hC hb hs
  generalize x.cells = cs at *
  go_enter Try.func14, Try.ntmps14
  go_wp2_with fail
  refine HH.out.mono ?_
  rintro e w1 ⟨h1, h2⟩
  clear HH
  have h0 := HC.out.trans h1 (fun _ f => f.elim)
  generalize x.right = ok at *
  cases ok with
  | true =>
    obtain ⟨v, rfl, ho, hl⟩ := h2
    go_wp2
    go_ret2
    exact ⟨h0, v, rfl, ho, fun k hk => by have := hl k hk; have := HC.out.size; omega⟩
  | false =>
    obtain rfl := h2
    go_wp2
    go_ret2
    exact ⟨h0, rfl⟩

theorem dPacket.r (st : St) : ∀ (L : List Value) (s : St), (dPacket st).map (fun y => ([] ++ (y.1.cells ++ []), y.2)) = some (L, s) → L.length = 4 ∧ ∀ v ∈ L, v.oneCell' = true := by
  intro L s h
  obtain ⟨y, hy, h2⟩ := Option.map_eq_some_iff.1 h
  simp only [Prod.mk.injEq, List.nil_append, List.append_nil] at h2
  obtain ⟨rfl, _⟩ := h2
  exact ⟨rfl, y.1.one⟩
theorem DecodePacket_any (w : World) (A : Option Addr) (n c : Nat) (bs : List UInt8) (hn : n = bs.length) (hr : Rd w A bs) (hsz : bs.length ≤ 1000000000) : Calls Try.prog 9 #[.slice A n c] w (Dec w Pk.zero.cells ((whole (dPacket (some bs))).map Pk.cells)) := by
  have hz := dPacket.alloc0 w
  have hzl := dPacket.zlen
  have hrow := dPacket.row
  have hC := (Chg.refl Non w).alloc (.cells Pk.zero.cells.toArray 40)
  have hb := Hb.new w 40 Pk.zero.cells.toArray
  have H := decoded_Packet (w.alloc (.cells Pk.zero.cells.toArray 40)) A n c bs ((dPacket (some bs)).map (fun y => ([] ++ (y.1.cells ++ []), y.2))) hn (hr.chg hC (fun _ _ f => f)) hsz (dPacket.r _) (fun w1 g F S => by
    generalize (w.alloc (.cells Pk.zero.cells.toArray 40)).heap.size = tb at *
    generalize Pk.zero.cells = z at *
    have h := packet_r w1 g F tb 0 40 [] [] z (some bs) (S.eq (by rw [List.append_nil, List.nil_append])) rfl hzl
    rw [List.append_nil, List.nil_append, hzl] at h
    exact h)
  have hw : whole ((dPacket (some bs)).map (fun y => ([] ++ (y.1.cells ++ []), y.2))) = (whole (dPacket (some bs))).map Pk.cells := by
    cases dPacket (some bs) with
    | none => rfl
    | some y =>
      obtain ⟨y, st⟩ := y
      match st with
      | none => rfl
      | some [] => simp [whole]
      | some (_ :: _) => rfl
  have hone : ∀ L, (whole (dPacket (some bs))).map Pk.cells = some L → L.length = 4 ∧ ∀ v ∈ L, v.oneCell' = true := by
    intro L h
    obtain ⟨y, hy, rfl⟩ := Option.map_eq_some_iff.1 h
    exact ⟨rfl, y.one⟩
  rw [hw] at H
  generalize (whole (dPacket (some bs))).map Pk.cells = r at *
  have hzone : ∀ v ∈ Pk.zero.cells, v.oneCell' = true := Pk.zero.one
  have HH := Lib.hid H
  have HC := Lib.hid hC
  clear H hC hw hn hr
  generalize Pk.zero.cells = z at *
  go_enter Try.func9, Try.ntmps9
  go_wp2_with (with_reducible refine wpList_alloc_row rfl _ rfl z hz ?_)
  refine HH.out.mono ?_
  rintro e w1 ⟨h1, h2⟩
  clear HH
  have hb1 := hb.chg h1 (fun f => f)
  have h0 := HC.out.trans h1 (fun _ f => f.elim)
  obtain ⟨L, k, rfl, hL1, hL2, hk⟩ : ∃ (L : List Value) (k : Int), e = .returned (.tuple #[.agg L.toArray, .int .i64 k]) ∧ L.length = 4 ∧ (∀ v ∈ L, v.oneCell' = true) ∧ (match r with | some L => Ending.returned (.tuple #[.agg L.toArray, .int .i64 0]) | none => .returned (.tuple #[.agg z.toArray, .int .i64 61])) = .returned (.tuple #[.agg L.toArray, .int .i64 k]) := by
    cases r with
    | some L => exact ⟨L, 0, h2, (hone L rfl).1, (hone L rfl).2, rfl⟩
    | none => exact ⟨z, 61, h2, hzl, hzone, rfl⟩
  have hLs : L.toArray.size = 4 := by rw [List.size_toArray, hL1]
  have hth := hb1.there0
  rw [hzl] at hth
  have hb2 := hb1.sets0 (L' := L) (by rw [hzl, hL1])
  clear hone h2
  go_wp2_with (with_reducible refine wpList_store_mid rfl 40 _ _ rfl w.heap.size 0 L.toArray rfl rfl (by rw [hLs]; exact hth) (by rw [hLs, hrow]) (one_mem hL2) ?_)
  refine bodyPost_ret ((results_cell_tmp rfl _ _ _).trans ?_) rfl (R := Dec w z r) (v := .tuple #[.agg L.toArray, .int .i64 k]) ?_
  · simp only [asAddr, Sem.run_pure, Result.andThen_ok]
    have hl := load_row hb2 Try.underlying40 rfl (by rw [hrow, hL1])
    simp [hl]
  · refine ⟨Chg.trans h0 (Chg.setCells (S := fun j => j = w.heap.size) rfl L _ 0 (Chg.refl _ _)) (fun j hj => .inr (by omega)), ?_⟩
    rw [← hk]
    rfl

/-- The live question's packet. -/
def AP : Pk := ⟨1, ⟨#[97]⟩, ⟨#[]⟩, 9⟩
theorem AP.ok : AP.Ok := ⟨⟨by decide, by decide⟩, by decide, by decide, ⟨by decide, by decide⟩⟩
theorem AP.is : AP.right = true := by decide
theorem AP.len : AP.enc.length = 29 := by decide
theorem AP.six : AP.enc[7]? = some 6 := by decide
theorem AP.row : AP.cells.toArray = #[.int .i64 1, .string ⟨#[97]⟩, .string ⟨#[]⟩, .int .i64 9] := rfl
theorem AP.back : whole (dPacket (some AP.enc)) = some AP := by
  have h := dPacket_app AP.ok AP.is []
  rw [List.append_nil] at h
  rw [h]
  rfl
theorem alive_any (w : World) : Calls Try.prog 4 #[] w (Zero w (.bool true)) := by
  have H := EncodePacket_any w AP AP.ok
  rw [AP.is, AP.row] at H
  go_enter Try.func4, Try.ntmps4
  go_wp2_with fail
  refine H.mono ?_
  rintro e w1 ⟨h1, v, rfl, ho, hl⟩
  clear H
  obtain ⟨A, c, rfl, hc, hm, hr, _, _⟩ := ho.slice
  obtain ⟨ad, rfl, _⟩ := hr.blk_lt (by rw [AP.len]; omega)
  have H2 := DecodePacket_any w1 (some ad) AP.enc.length c AP.enc rfl hr (by rw [AP.len]; omega)
  rw [AP.back, AP.len] at H2
  have k7 : ∀ w2, Chg Non w1 w2 → w2.cell? (ad.add 7) = some (.int .u8 6) := by
    intro w2 k
    obtain ⟨ad', e, hc7⟩ := (hr.chg k (fun _ _ f => f)) 7 6 AP.six
    injection e with e
    subst e
    exact hc7
  have K7 := Lib.hid k7
  rw [AP.len] at hc ⊢
  clear k7 ho hr hl
  have e7 : ad.add 7 = ⟨ad.block, ad.off + 7, none⟩ := by unfold Addr.add; rw [if_neg (by omega)]
  go_wp2_with fail
  refine H2.mono ?_
  rintro e w2 ⟨h2, he⟩
  have he' : e = .returned (.tuple #[.agg #[.int .i64 1, .string ⟨#[97]⟩, .string ⟨#[]⟩, .int .i64 9], .int .i64 0]) := he
  subst he'
  have hA := (Chg.refl Non w2).alloc (.cells #[.int .i64 0, .string ⟨#[]⟩, .string ⟨#[]⟩, .int .i64 0] 40)
  have c7 := K7.out w2 h2
  rw [e7] at c7
  have hlt : ad.block < w2.heap.size := World.block_lt_of_cell? w2 ⟨ad.block, ad.off + 7, none⟩ c7
  have hne : ¬ ad.block = w2.heap.size := by omega
  clear he H2 K7 e7
  go_wp2
  go_ret
  exact ⟨rfl, (h1.trans h2 (fun _ f => f.elim)).alloc _⟩
end Go.Proofs.Ytgonbmcfeehfaaa

/- Package forms: EncodeVote, DecodeVote, SignBytes. -/
namespace Go.Proofs.Ytgonbmcfeehfaaa
open Go.RowKit
set_option linter.unusedVariables false
set_option linter.unusedSimpArgs false
set_option maxRecDepth 20000

theorem Vt.enc_len (x : Vt) (h : x.right = true) (ox : x.Ok) : x.enc.length ≤ 1000 := by
  unfold Vt.right at h
  simp only [Bool.and_eq_true, decide_eq_true_eq] at h
  have := nameOk_size h.1
  unfold Vt.enc
  simp [num_length, tx_length, be_length, ox.block]
  have e1 : x.chain.data.size = x.chain.size := rfl
  omega
theorem Vt.cells_len (x : Vt) (ox : x.Ok) : x.cells.length = 39 := by
  unfold Vt.cells
  simp [bv_length, ox.block]

theorem dVote_len {st : St} {y : Vt × St} (h : dVote st = some y) : y.1.cells.length = 39 := by
  unfold dVote at h
  simp only [Option.bind_eq_some_iff, Option.some.injEq, Prod.exists] at h
  obtain ⟨s1, h1, c, s2, h2, ht, s3, h3, rd, s4, h4, ty, s5, h5, rfl⟩ := h
  simp [Vt.cells, bv_length, vH_length]
theorem whole_some {α : Type} {r : Option (α × St)} {y : α} (h : whole r = some y) : r = some (y, some []) := by
  match r, h with
  | some (x, some []), h => simp only [whole, Option.some.injEq] at h; rw [h]

theorem dVote.r (st : St) : ∀ (L : List Value) (s : St), (dVote st).map (fun y => ([] ++ (y.1.cells ++ []), y.2)) = some (L, s) → L.length = 39 ∧ ∀ v ∈ L, v.oneCell' = true := by
  intro L s h
  obtain ⟨y, hy, h2⟩ := Option.map_eq_some_iff.1 h
  simp only [Prod.mk.injEq, List.nil_append, List.append_nil] at h2
  obtain ⟨rfl, _⟩ := h2
  exact ⟨dVote_len hy, y.1.one⟩
theorem DecodeVote_any (w : World) (A : Option Addr) (n c : Nat) (bs : List UInt8) (hn : n = bs.length) (hr : Rd w A bs) (hsz : bs.length ≤ 1000000000) : Calls Try.prog 5 #[.slice A n c] w (Dec w Vt.zero.cells ((whole (dVote (some bs))).map Vt.cells)) := by
  have hz := dVote.alloc0 w
  have hzl := dVote.zlen
  have hrow := dVote.row
  have hC := (Chg.refl Non w).alloc (.cells Vt.zero.cells.toArray 31)
  have hb := Hb.new w 31 Vt.zero.cells.toArray
  have H := decoded_Vote (w.alloc (.cells Vt.zero.cells.toArray 31)) A n c bs ((dVote (some bs)).map (fun y => ([] ++ (y.1.cells ++ []), y.2))) hn (hr.chg hC (fun _ _ f => f)) hsz (dVote.r _) (fun w1 g F S => by
    generalize (w.alloc (.cells Vt.zero.cells.toArray 31)).heap.size = tb at *
    generalize Vt.zero.cells = z at *
    have h := vote_r w1 g F tb 0 31 [] [] z (some bs) (S.eq (by rw [List.append_nil, List.nil_append])) rfl hzl
    rw [List.append_nil, List.nil_append, hzl] at h
    exact h)
  have hw : whole ((dVote (some bs)).map (fun y => ([] ++ (y.1.cells ++ []), y.2))) = (whole (dVote (some bs))).map Vt.cells := by
    cases dVote (some bs) with
    | none => rfl
    | some y =>
      obtain ⟨y, st⟩ := y
      match st with
      | none => rfl
      | some [] => simp [whole]
      | some (_ :: _) => rfl
  have hone : ∀ L, (whole (dVote (some bs))).map Vt.cells = some L → L.length = 39 ∧ ∀ v ∈ L, v.oneCell' = true := by
    intro L h
    obtain ⟨y, hy, rfl⟩ := Option.map_eq_some_iff.1 h
    exact ⟨dVote_len (whole_some hy), y.one⟩
  rw [hw] at H
  generalize (whole (dVote (some bs))).map Vt.cells = r at *
  have hzone : ∀ v ∈ Vt.zero.cells, v.oneCell' = true := Vt.zero.one
  have HH := Lib.hid H
  have HC := Lib.hid hC
  clear H hC hw hn hr
  generalize Vt.zero.cells = z at *
  go_enter Try.func5, Try.ntmps5
  go_wp2_with (with_reducible refine wpList_alloc_row rfl _ rfl z hz ?_)
  refine HH.out.mono ?_
  rintro e w1 ⟨h1, h2⟩
  clear HH
  have hb1 := hb.chg h1 (fun f => f)
  have h0 := HC.out.trans h1 (fun _ f => f.elim)
  obtain ⟨L, k, rfl, hL1, hL2, hk⟩ : ∃ (L : List Value) (k : Int), e = .returned (.tuple #[.agg L.toArray, .int .i64 k]) ∧ L.length = 39 ∧ (∀ v ∈ L, v.oneCell' = true) ∧ (match r with | some L => Ending.returned (.tuple #[.agg L.toArray, .int .i64 0]) | none => .returned (.tuple #[.agg z.toArray, .int .i64 61])) = .returned (.tuple #[.agg L.toArray, .int .i64 k]) := by
    cases r with
    | some L => exact ⟨L, 0, h2, (hone L rfl).1, (hone L rfl).2, rfl⟩
    | none => exact ⟨z, 61, h2, hzl, hzone, rfl⟩
  have hLs : L.toArray.size = 39 := by rw [List.size_toArray, hL1]
  have hth := hb1.there0
  rw [hzl] at hth
  have hb2 := hb1.sets0 (L' := L) (by rw [hzl, hL1])
  clear hone h2
  go_wp2_with (with_reducible refine wpList_store_mid rfl 31 _ _ rfl w.heap.size 0 L.toArray rfl rfl (by rw [hLs]; exact hth) (by rw [hLs, hrow]) (one_mem hL2) ?_)
  refine bodyPost_ret ((results_cell_tmp rfl _ _ _).trans ?_) rfl (R := Dec w z r) (v := .tuple #[.agg L.toArray, .int .i64 k]) ?_
  · simp only [asAddr, Sem.run_pure, Result.andThen_ok]
    have hl := load_row hb2 Try.underlying31 rfl (by rw [hrow, hL1])
    simp [hl]
  · refine ⟨Chg.trans h0 (Chg.setCells (S := fun j => j = w.heap.size) rfl L _ 0 (Chg.refl _ _)) (fun j hj => .inr (by omega)), ?_⟩
    rw [← hk]
    rfl

/-- Without who signs. -/
def Vt.bare (x : Vt) : Vt := { x with key := 0, r := 0, s := 0 }
theorem Vt.bare_ok {x : Vt} (ox : x.Ok) : x.bare.Ok := ⟨ox.chain, ox.height, ox.round, ox.type, ox.block, by show 0 < _; omega, by show 0 < _; omega, by show 0 < _; omega⟩
theorem Vt.bare_row (x : Vt) : x.bare.cells = [.string x.chain, .int .i64 x.height, .int .i64 x.round, .int .i64 x.type] ++ (bv x.block ++ [.int .u64 0, .int .u64 0, .int .u64 0]) := rfl
/-- A row of a vote. -/
def vrow (x : Vt) (a b c : Value) : List Value := ([.string x.chain, .int .i64 x.height, .int .i64 x.round, .int .i64 x.type] ++ bv x.block) ++ [a, b, c]
theorem vrow_cells (x : Vt) : x.cells = vrow x (.int .u64 (x.key : Int)) (.int .u64 (x.r : Int)) (.int .u64 (x.s : Int)) := by unfold Vt.cells vrow; rw [List.append_assoc]
theorem vrow_key {w : World} {n : Nat} {t : TypeId} {x : Vt} (ox : x.Ok) {a b c : Value} (h : Hb w n t (vrow x a b c).toArray) (u : Value) : w.cell? ⟨n, 36, none⟩ = some a ∧ w.frozen? ⟨n, 36, none⟩ = false ∧ Hb (w.setCell ⟨n, 36, none⟩ u) n t (vrow x u b c).toArray := by
  have hl : ([Value.string x.chain, .int .i64 x.height, .int .i64 x.round, .int .i64 x.type] ++ bv x.block).length = 36 := by simp [bv_length, ox.block]
  unfold vrow at h ⊢
  refine ⟨?_, h.frozen _, ?_⟩
  · rw [h.cell, List.getElem?_toArray, ← hl, List.getElem?_append_right (by omega), Nat.sub_self]; rfl
  · have h2 := h.set 36 u
    rw [← hl, row_set, hl] at h2
    exact h2
theorem vrow_sig {w : World} {n : Nat} {t : TypeId} {x : Vt} (ox : x.Ok) {a b c : Value} (h : Hb w n t (vrow x a b c).toArray) (u v : Value) : w.there n 37 2 ∧ w.rangeAt n 37 [b, c] ∧ Hb (w.setCells n 37 [u, v]) n t (vrow x a u v).toArray := by
  have hl : (([Value.string x.chain, .int .i64 x.height, .int .i64 x.round, .int .i64 x.type] ++ bv x.block) ++ [a]).length = 37 := by simp [bv_length, ox.block]
  have e : ∀ y z, vrow x a y z = (([Value.string x.chain, .int .i64 x.height, .int .i64 x.round, .int .i64 x.type] ++ bv x.block) ++ [a]) ++ ([y, z] ++ []) := fun y z => by unfold vrow; simp
  rw [e] at h ⊢
  refine ⟨?_, ?_, ?_⟩
  · intro j hj
    refine ⟨?_, h.frozen _⟩
    rw [h.cell, List.getElem?_toArray, ← hl, List.getElem?_append_right (by omega), Nat.add_sub_cancel_left, List.append_nil, List.getElem?_eq_getElem (by simpa using hj)]
    rfl
  · intro j y hj
    rw [h.cell, List.getElem?_toArray, ← hl, List.getElem?_append_right (by omega), Nat.add_sub_cancel_left, List.append_nil]
    exact hj
  · have h2 := Hb.setCells [u, v] [b, c] _ [] w rfl h
    rw [hl] at h2
    exact h2

end Go.Proofs.Ytgonbmcfeehfaaa

/- What bytes are what thing: one kind at most, with nothing more and nothing less. Plain mathematics. -/
namespace Go.Proofs.Ytgonbmcfeehfaaa
open Go.RowKit
set_option linter.unusedVariables false
set_option linter.unusedSimpArgs false
set_option maxRecDepth 20000

theorem dNum_ok {lo hi : Int} {st s : St} {n : Int} (h : dNum lo hi st = some (n, s)) : inR lo hi n = true := by
  unfold dNum at h
  split at h
  · rename_i h1; simp only [Option.some.injEq, Prod.mk.injEq] at h; rw [← h.1]; exact h1
  · cases h
theorem dName_ok {st s : St} {n : ByteArray} (h : dName st = some (n, s)) : n.size ≤ maxLen := by
  unfold dName at h
  split at h
  · rename_i h1; simp only [Option.some.injEq, Prod.mk.injEq] at h; rw [← h.1]; have := nameOk_size h1; unfold maxLen; omega
  · cases h
theorem dText_ok {most : Nat} {st s : St} {n : ByteArray} (hm : most ≤ 4096) (h : dText most st = some (n, s)) : n.size ≤ maxLen := by
  unfold dText at h
  split at h
  · rename_i h1; simp only [Option.some.injEq, Prod.mk.injEq] at h; rw [← h.1]
    show (vT st).toArray.size ≤ maxLen
    rw [List.size_toArray]; unfold maxLen; omega
  · cases h
theorem dBegin_kind {k : Int} {st s : St} (h : dBegin k st = some s) : vN st = k := by
  unfold dBegin at h
  split at h
  · assumption
  · cases h
theorem dVote_ok {st s : St} {x : Vt} (h : dVote st = some (x, s)) : x.Ok ∧ vN st = 1 := by
  unfold dVote at h
  simp only [Option.bind_eq_some_iff, Option.some.injEq, Prod.mk.injEq, Prod.exists] at h
  obtain ⟨s1, h1, c, s2, h2, ht, s3, h3, rd, s4, h4, ty, s5, h5, rfl, h6⟩ := h
  exact ⟨⟨dName_ok h2, i64_in (dNum_ok h3) (by omega) (by omega), i64_in (dNum_ok h4) (by omega) (by omega), i64_in (dNum_ok h5) (by omega) (by omega), vH_length _, vW_lt _, vW_lt _, vW_lt _⟩, dBegin_kind h1⟩
theorem dHeader_ok {st s : St} {x : Hd} (h : dHeader st = some (x, s)) : x.Ok ∧ vN st = 2 := by
  unfold dHeader at h
  simp only [Option.bind_eq_some_iff, Option.some.injEq, Prod.mk.injEq, Prod.exists] at h
  obtain ⟨s1, h1, c, s2, h2, ht, s3, h3, tm, s5, h5, rfl, h6⟩ := h
  exact ⟨⟨dName_ok h2, i64_in (dNum_ok h3) (by omega) (by omega), i64_in (dNum_ok h5) (by omega) (by omega), vH_length _, vH_length _, vH_length _, vH_length _, vH_length _⟩, dBegin_kind h1⟩
theorem dPacket_ok {st s : St} {x : Pk} (h : dPacket st = some (x, s)) : x.Ok ∧ vN st = 6 := by
  unfold dPacket at h
  simp only [Option.bind_eq_some_iff, Option.some.injEq, Prod.mk.injEq, Prod.exists] at h
  obtain ⟨s1, h1, n, s2, h2, f, s3, h3, d, s4, h4, ti, s5, h5, rfl, h6⟩ := h
  exact ⟨⟨i64_in (dNum_ok h2) (by omega) (by omega), dName_ok h3, dText_ok (by omega) h4, i64_in (dNum_ok h5) (by omega) (by omega)⟩, dBegin_kind h1⟩
theorem dLight_inv {st : St} {x : Lt} {r : List UInt8} (h : dLight st = some (x, some r)) : st = some (x.enc ++ r) ∧ x.right = true ∧ x.Ok ∧ vN st = 5 := by
  unfold dLight at h
  simp only [Option.bind_eq_some_iff, Option.some.injEq, Prod.mk.injEq, Prod.exists] at h
  obtain ⟨s1, h1, hd, s2, h2, cm, s3, h3, s, s4, h4, n, s5, h5, rfl, rfl⟩ := h
  have hk := dBegin_kind h1
  obtain ⟨e5, o5, p5⟩ := dSet_inv h5
  rw [e5] at h4
  obtain ⟨e4, o4, p4⟩ := dSet_inv h4
  rw [e4] at h3
  obtain ⟨e3, o3, p3⟩ := dCommit_inv h3
  rw [e3] at h2
  obtain ⟨e2, o2⟩ := dHeader_inv h2
  have p2 := (dHeader_ok h2).1
  rw [e2] at h1
  have e1 := dBegin_inv h1
  refine ⟨?_, ?_, ⟨p2, p3, p4, p5⟩, hk⟩
  · rw [e1]; simp only [Lt.enc, List.append_assoc]
  · unfold Lt.right
    simp only [Bool.and_eq_true]
    exact ⟨o2, o3, o4, o5⟩
theorem whole_more {α : Type} {r : Option (α × St)} {x : α} {m : UInt8} (h : r = some (x, some [m])) : whole r = none := by rw [h]; rfl
theorem bytes_is {bs enc : List UInt8} (h : some bs = some (enc ++ [])) : enc = bs := by
  rw [List.append_nil, Option.some.injEq] at h
  exact h.symm
theorem is_vote {bs : List UInt8} {x : Vt} (h : whole (dVote (some bs)) = some x) : vN (some bs) = 1 ∧ x.enc = bs ∧ x.right = true ∧ x.Ok ∧ ∀ m, whole (dVote (some (bs ++ [m]))) = none := by
  have h1 := whole_some h
  obtain ⟨e, hr⟩ := dVote_inv h1
  obtain ⟨ok, hk⟩ := dVote_ok h1
  have e := bytes_is e
  exact ⟨hk, e, hr, ok, fun m => by rw [← e]; exact whole_more (dVote_app ok hr [m])⟩
theorem is_header {bs : List UInt8} {x : Hd} (h : whole (dHeader (some bs)) = some x) : vN (some bs) = 2 ∧ x.enc = bs ∧ x.right = true ∧ x.Ok := by
  have h1 := whole_some h
  obtain ⟨e, hr⟩ := dHeader_inv h1
  obtain ⟨ok, hk⟩ := dHeader_ok h1
  exact ⟨hk, bytes_is e, hr, ok⟩
theorem is_packet {bs : List UInt8} {x : Pk} (h : whole (dPacket (some bs)) = some x) : vN (some bs) = 6 ∧ x.enc = bs ∧ x.right = true ∧ x.Ok ∧ ∀ m, whole (dPacket (some (bs ++ [m]))) = none := by
  have h1 := whole_some h
  obtain ⟨e, hr⟩ := dPacket_inv h1
  obtain ⟨ok, hk⟩ := dPacket_ok h1
  have e := bytes_is e
  exact ⟨hk, e, hr, ok, fun m => by rw [← e]; exact whole_more (dPacket_app ok hr [m])⟩
theorem is_light {bs : List UInt8} {x : Lt} (h : whole (dLight (some bs)) = some x) : vN (some bs) = 5 ∧ x.enc = bs ∧ x.right = true ∧ x.Ok ∧ (∀ m, whole (dLight (some (bs ++ [m]))) = none) ∧ 1 ≤ bs.length ∧ whole (dLight (some (bs.take (bs.length - 1)))) = none := by
  have h1 := whole_some h
  obtain ⟨e, hr, ok, hk⟩ := dLight_inv h1
  have e := bytes_is e
  have hl : 1 ≤ bs.length := by rw [← e]; unfold Lt.enc; rw [List.length_append, num_length]; omega
  refine ⟨hk, e, hr, ok, fun m => by rw [← e]; exact whole_more (dLight_app ok hr [m]), hl, ?_⟩
  cases hy : whole (dLight (some (bs.take (bs.length - 1)))) with
  | none => rfl
  | some y =>
    exfalso
    obtain ⟨e2, hr2, ok2, _⟩ := dLight_inv (whole_some hy)
    have e2 := bytes_is e2
    have hb : bs = y.enc ++ [bs[bs.length - 1]] := by
      rw [e2]
      have h3 := List.take_append_drop (bs.length - 1) bs
      rw [List.drop_eq_getElem_cons (by omega), List.drop_of_length_le (by omega)] at h3
      exact h3.symm
    have h4 := dLight_app ok2 hr2 [bs[bs.length - 1]]
    rw [← hb, h1] at h4
    simp at h4
theorem is_proof {bs : List UInt8} {x : Pf} (h : whole (dProof (some bs)) = some x) : vN (some bs) = 7 ∧ x.enc = bs ∧ x.right = true ∧ I64 x.size ∧ (∀ y ∈ x.parts, y.Ok) ∧ ∀ m, whole (dProof (some (bs ++ [m]))) = none := by
  have h1 := whole_some h
  obtain ⟨e, hr, hs, ho⟩ := dProof_inv h1
  have e := bytes_is e
  have hk : vN (some bs) = 7 := by
    unfold dProof at h1
    simp only [Option.bind_eq_some_iff, Option.some.injEq, Prod.mk.injEq, Prod.exists] at h1
    obtain ⟨s1, h1, _⟩ := h1
    exact dBegin_kind h1
  have hok : ∀ y ∈ x.parts, y.Ok := fun y hy => (ho y hy).2
  exact ⟨hk, e, hr, hs, hok, fun m => by rw [← e]; exact whole_more (dProof_app hs hr hok [m])⟩
theorem none_of {α : Type} {r : Option α} {bs : List UInt8} {k k' : Int} (hk : vN (some bs) = k) (hne : k ≠ k') (h : ∀ x, r = some x → vN (some bs) = k') : r = none := by
  cases r with
  | none => rfl
  | some x => exact absurd (hk.symm.trans (h x rfl)) hne
end Go.Proofs.Ytgonbmcfeehfaaa
