import Derived.Test.YtkpnajblaemoiaaChecked
import Derived.WalkKit
import Derived.WalkLawsBesides
import Derived.Lib.Hide
import Derived.Deep.RegionHeld3
import Derived.Test.YtkpnajblaemoiaaMFormPackets3
import Derived.Test.YtkpnajblaemoiaaMFormPackets6
import Derived.Test.YtkpnajblaemoiaaMFormPackets7
import Derived.Test.YtkpnajblaemoiaaMFormPackets11
/- The document's answers for forms: a proof's bytes. -/
namespace Go.Proofs.Ytkpnajblaemoiaa
open Go.RowKit
set_option linter.unusedVariables false
set_option linter.unusedSimpArgs false
set_option maxRecDepth 20000

/-- Bytes appended part by part, beside a block that stays. -/
structure Btx (W w : World) (v : Value) (l : List UInt8) (xb : Nat) (t : TypeId) (L : List Value) : Prop where
  b : Bts W w v l
  x : Hb w xb t L.toArray
  ap : ∀ k, vbl v k → k ≠ xb
theorem Btx.later {W w w' : World} {v : Value} {l : List UInt8} {xb : Nat} {t : TypeId} {L : List Value} (h : Btx W w v l xb t L) (k : Chg Non w w') : Btx W w' v l xb t L := ⟨h.b.later k, h.x.chg k (fun f => f), h.ap⟩
theorem Btx.app {W w w' : World} {v v' : Value} {l l2 : List UInt8} {xb : Nat} {t : TypeId} {L : List Value} (h : Btx W w v l xb t L) (ho : Own 5 w' v' (l ++ l2)) (hg : w.grownBy w' v.ownBlock) (hl : v'.ownBlock = v.ownBlock ∨ v'.ownBlock = some w.heap.size) : Btx W w' v' (l ++ l2) xb t L := by
  refine ⟨h.b.app ho hg hl, h.x.chg (S := fun k => vbl v k) ((Chg.refl _ w).grown hg (fun k hk => .inl hk)) (fun hk => h.ap _ hk rfl), fun k hk => ?_⟩
  rcases hl with h2 | h2
  · exact h.ap k (by unfold vbl at hk ⊢; rw [← h2]; exact hk)
  · unfold vbl at hk
    rw [h2] at hk
    injection hk with hk
    have := h.x.lt
    omega
theorem own_lt {w : World} {v : Value} {l : List UInt8} (h : Own 5 w v l) : ∀ k, vbl v k → k < w.heap.size := by
  obtain ⟨A, c, _, _, _, _, h1, h2⟩ := h.slice
  exact fun k hk => h2 k ((h1 k).2 hk)
theorem part_row : (Try.prog.info? 32).map (·.size) = some 4 := by kernel_rfl
def partZ : List Value := [.int .i64 0, .string ⟨#[]⟩, .string ⟨#[]⟩, .slice none 0 0]
theorem part_alloc0 (w : World) : (Instr.alloc 32 true (.tuple #[])).run Try.prog w = .ok (.pointer (some ⟨w.heap.size, 0, none⟩)) (w.alloc (.cells partZ.toArray 32)) := by kernel_rfl
/-- A part in a block of its own. -/
def partIn (w : World) (L : List Value) : World := (w.alloc (.cells partZ.toArray 32)).setCells w.heap.size 0 L
theorem partIn_is (w : World) {L : List Value} (h : L.length = 4) : Hb (partIn w L) w.heap.size 32 L.toArray ∧ Chg Non w (partIn w L) := by
  have hb := Hb.new w 32 partZ.toArray
  refine ⟨hb.sets0 (L' := L) (by rw [h]; rfl), ?_⟩
  exact (Chg.refl Non w).trans (Chg.setCells (S := fun k => k = w.heap.size) rfl L _ 0 ((Chg.refl _ w).alloc (.cells partZ.toArray 32))) (fun j hj => .inr (by omega))
theorem part_there (w : World) : (w.alloc (.cells partZ.toArray 32)).there w.heap.size 0 4 := by
  have := (Hb.new w 32 partZ.toArray).there0
  exact this

set_option maxHeartbeats 6400000 in
theorem refProof_any (w : World) (A : Option Addr) (c : Nat) (sz : Int) (ms : List Pm) (hsz : I64 sz) (hlm : ms.length ≤ maxLen) (M : LstM w A ms Pm.cells 4) (hm : ∀ m ∈ ms, m.In w) :
    Calls Try.prog 11 #[.agg #[.int .i64 sz, .slice A ms.length c]] w fun e w' => Chg Non w w' ∧ ∃ v, e = .returned (.tuple #[v, .bool (Pf.right ⟨sz, ms.map Pm.part⟩)]) ∧ (Pf.right ⟨sz, ms.map Pm.part⟩ = true → Own 5 w' v (Pf.enc ⟨sz, ms.map Pm.part⟩)) := by
  have HM := Lib.hid M
  have HI := Lib.hid hm
  have hi2 : inR 0 2 ms.length = decide (ms.length ≤ 2) := by unfold inR; simp; omega
  have HR : Hid (Pf.right ⟨sz, ms.map Pm.part⟩ = (inR 0 4096 sz && (decide (ms.length ≤ 2) && ms.all fun m => m.part.right))) := Lib.hid (by rw [← hi2]; simp [Pf.right, List.length_map, List.all_map, Function.comp_def])
  have HE : Hid (Pf.enc ⟨sz, ms.map Pm.part⟩ = num 7 ++ (num sz ++ (num ms.length ++ ms.flatMap fun m => m.part.enc))) := Lib.hid (by unfold Pf.enc; rw [encL_map]; rfl)
  obtain ⟨pfx, HP⟩ : ∃ pfx : Nat → List UInt8, Hid (∀ k, pfx k = num 7 ++ (num sz ++ (num ms.length ++ (ms.take k).flatMap fun m => m.part.enc))) := ⟨fun k => num 7 ++ (num sz ++ (num ms.length ++ (ms.take k).flatMap fun m => m.part.enc)), Lib.hid fun k => rfl⟩
  have hC0 := (Chg.refl Non w).alloc (.cells #[.int .i64 sz, .slice A ms.length c] 26)
  have hb0 := Hb.new w 26 #[.int .i64 sz, .slice A ms.length c]
  generalize Pf.right ⟨sz, ms.map Pm.part⟩ = ok at *
  generalize Pf.enc ⟨sz, ms.map Pm.part⟩ = enc at *
  generalize hn : ms.length = n at *
  have HN := Lib.hid hn
  unfold maxLen at hlm
  clear M hm hn hi2
  have HIN : Hid (∀ w', Calls Try.prog 40 #[.int .i64 sz, .int .i64 0, .int .i64 4096] w' fun e w'' => e = .returned (.bool (inR 0 4096 sz)) ∧ w'' = w') := Lib.hid fun w' => in_any w' _ _ _
  generalize inR 0 4096 sz = p at *
  have c0 := hb0.cell 0
  have c1 := hb0.cell 1
  simp only [List.getElem?_toArray] at c0 c1
  go_enter Try.func11, Try.ntmps11
  go_wp2_with fail
  generalize w.alloc (.cells #[.int .i64 sz, .slice A n c] 26) = w1 at *
  have HC := Lib.hid hC0
  have H1 := Lib.hid c1
  clear hC0 hb0
  refine (HIN.out _).mono ?_
  rintro e wq ⟨rfl, hq⟩
  obtain rfl : w1 = wq := hq.symm
  clear hq
  by_cases h2n : n ≤ 2
  · have h2i : (n : Int) ≤ 2 := by omega
    cases p
    · have HF : Hid (ok = false) := Lib.hid (by rw [HR.out]; rfl)
      go_wp2_with fail
      go_region_held3 (fun w' => w'.cell? ⟨w.heap.size, 0, none⟩ = some (.int .i64 sz) ∧ w'.cell? ⟨w.heap.size, 1, none⟩ = some (.slice A n c)) (first | exact ⟨c0, c1⟩ | exact S8 | exact S7 | exact S6 | assumption)
        (first
          | (go_at_call_of 38 (Value.int IntKind.i64 7); refine (refNumber_any _ 7).mono ?_; rintro e w6 ⟨v6, rfl, o6, n6, j6⟩; have K6 : Chg Non w1 w6 := (by first | exact ((Chg.refl Non w1).drew).trans j6 (fun _ f => f.elim) | exact K7.trans j6 (fun _ f => f.elim)); have B6 : Bts w1 w6 v6 (num 7) := ⟨o6, fun k hk => Nat.le_trans (by first | exact Nat.le_refl _ | exact K7.size) (n6 k hk), K6⟩; have S6 := And.intro (K6.cell c0 (fun f => f)) (K6.cell c1 (fun f => f)))
          | (go_at_call_of 38 (Value.int IntKind.i64 sz); refine (refNumber_any _ sz).mono ?_; rintro e w7 ⟨v7, rfl, o7, n7, j7⟩; obtain ⟨A7, c7, rfl, R7⟩ := o7.rd; have K7 : Chg Non w1 w7 := (by first | exact ((Chg.refl Non w1).drew).trans j7 (fun _ f => f.elim) | exact K6.trans j7 (fun _ f => f.elim)); have S7 := And.intro (K7.cell c0 (fun f => f)) (K7.cell c1 (fun f => f)))
          | (refine step_app _ (by rfl) _ _ (by rfl) (l := num 7) (l2 := num sz) (by rfl) (by first | exact (B6.later j7).own | exact B6.own) (A := A7) (c := c7) (by rfl) (by rfl) (by first | exact R7 | exact R7.later j6) (by simp [num_length]) ?_; intro v8 w8 o8 g8 b8; have B8 : Bts w1 w8 v8 (num 7 ++ num sz) := (by first | exact (B6.later j7).app o8 g8 b8 | exact B6.app o8 g8 b8); have S8 := And.intro (B8.chg.cell c0 (fun f => f)) (B8.chg.cell c1 (fun f => f)))
          | fail)
      all_goals
        obtain ⟨d0, d1⟩ := S8
        have B8' := Lib.hid B8
        clear S6 S7 R7 o6 o7 o8 g8 b8 B6 B8 K6 K7 j6 j7 n6 n7
        go_wp2_with fail
        refine (refNumber_any _ (n : Int)).mono ?_
        rintro e wa ⟨va, rfl, oa, na, ja⟩
        obtain ⟨Aa, ca, rfl, Ra⟩ := oa.rd
        have Ba := B8'.out.later ja
        clear d0 d1
        go_wp2_with (at_builtin; refine wpList_app byt _ rfl _ _ rfl rfl Ba.own (A := Aa) (c := ca) rfl rfl Ra (by simp only [List.length_append, num_length]; omega) ?_; intro v9 w9 o9 g9 b9; have B9 := Ba.app o9 g9 b9; have d1 := B9.chg.cell H1.out (fun f => f))
        clear Ba oa Ra na ja o9 g9 b9 B8'
        go_loopw [4, 5, 6, 7, 8] (fun o b i x k wr => i = .int .i64 0 ∧ o = .bool false ∧ b = v9 ∧ wr = w9) (fun _ _ _ _ _ _ => 0)
        case atStart => exact ⟨rfl, rfl, rfl, rfl⟩
        case round =>
          obtain ⟨rfl, rfl, rfl, rfl⟩ := hrel
          by_cases h0 : (0 : Int) < (n : Int)
          · go_wp2_with fail
            go_ret2
            exact ⟨HC.out.trans B9.chg (fun _ f => f.elim), _, by rw [HF.out]; rfl, fun h => by rw [HF.out] at h; cases h⟩
          · go_wp2_with fail
            go_ret2
            exact ⟨HC.out.trans B9.chg (fun _ f => f.elim), _, by rw [HF.out]; rfl, fun h => by rw [HF.out] at h; cases h⟩
    · go_wp2_with fail
      go_region_held3 (fun w' => w'.cell? ⟨w.heap.size, 0, none⟩ = some (.int .i64 sz) ∧ w'.cell? ⟨w.heap.size, 1, none⟩ = some (.slice A n c)) (first | exact ⟨c0, c1⟩ | exact S8 | exact S7 | exact S6 | assumption)
        (first
          | (go_at_call_of 38 (Value.int IntKind.i64 7); refine (refNumber_any _ 7).mono ?_; rintro e w6 ⟨v6, rfl, o6, n6, j6⟩; have K6 : Chg Non w1 w6 := (by first | exact ((Chg.refl Non w1).drew).trans j6 (fun _ f => f.elim) | exact K7.trans j6 (fun _ f => f.elim)); have B6 : Bts w1 w6 v6 (num 7) := ⟨o6, fun k hk => Nat.le_trans (by first | exact Nat.le_refl _ | exact K7.size) (n6 k hk), K6⟩; have S6 := And.intro (K6.cell c0 (fun f => f)) (K6.cell c1 (fun f => f)))
          | (go_at_call_of 38 (Value.int IntKind.i64 sz); refine (refNumber_any _ sz).mono ?_; rintro e w7 ⟨v7, rfl, o7, n7, j7⟩; obtain ⟨A7, c7, rfl, R7⟩ := o7.rd; have K7 : Chg Non w1 w7 := (by first | exact ((Chg.refl Non w1).drew).trans j7 (fun _ f => f.elim) | exact K6.trans j7 (fun _ f => f.elim)); have S7 := And.intro (K7.cell c0 (fun f => f)) (K7.cell c1 (fun f => f)))
          | (refine step_app _ (by rfl) _ _ (by rfl) (l := num 7) (l2 := num sz) (by rfl) (by first | exact (B6.later j7).own | exact B6.own) (A := A7) (c := c7) (by rfl) (by rfl) (by first | exact R7 | exact R7.later j6) (by simp [num_length]) ?_; intro v8 w8 o8 g8 b8; have B8 : Bts w1 w8 v8 (num 7 ++ num sz) := (by first | exact (B6.later j7).app o8 g8 b8 | exact B6.app o8 g8 b8); have S8 := And.intro (B8.chg.cell c0 (fun f => f)) (B8.chg.cell c1 (fun f => f)))
          | fail)
      all_goals
        obtain ⟨d0, d1⟩ := S8
        have B8' := Lib.hid B8
        clear S6 S7 R7 o6 o7 o8 g8 b8 B6 B8 K6 K7 j6 j7 n6 n7
        go_wp2_with fail
        refine (refNumber_any _ (n : Int)).mono ?_
        rintro e wa ⟨va, rfl, oa, na, ja⟩
        obtain ⟨Aa, ca, rfl, Ra⟩ := oa.rd
        have Ba := B8'.out.later ja
        clear d0 d1
        go_wp2_with (at_builtin; refine wpList_app byt _ rfl _ _ rfl rfl Ba.own (A := Aa) (c := ca) rfl rfl Ra (by simp only [List.length_append, num_length]; omega) ?_; intro v9 w9 o9 g9 b9; have B9 := Ba.app o9 g9 b9; have d1 := B9.chg.cell H1.out (fun f => f))
        clear Ba oa Ra na ja o9 g9 b9 B8'
        have BH := Lib.hid (show Bts w1 w9 v9 (pfx 0) by simpa only [HP.out, List.take_zero, List.flatMap_nil, List.append_nil, List.append_assoc] using B9)
        clear B9 d1
        go_loopw [4, 5, 6, 7, 8] (fun o b i x k wr => ∃ K : Nat, K ≤ n ∧ i = .int .i64 (K : Int) ∧ o = .bool true ∧ Hid (∀ m ∈ ms.take K, m.part.right = true) ∧ Hid ((pfx K).length ≤ 24 + K * 20000) ∧ Hid (Bts w1 wr b (pfx K))) (fun _ _ i _ _ _ => n - (intOf i).toNat)
        case atStart => exact ⟨0, by omega, rfl, rfl, Lib.hid (by simp), Lib.hid (by rw [HP.out]; simp [num_length]), BH⟩
        case round =>
          obtain ⟨K, hK, rfl, rfl, hall, hlen, hB⟩ := hrel
          have d1 := hB.out.chg.cell H1.out (fun f => f)
          by_cases hlt : K < n
          · have hkl : K < ms.length := by rw [HN.out]; exact hlt
            have hx := List.getElem?_eq_getElem hkl
            have HX := Lib.hid hx
            have hC1 : Chg Non w wr := HC.out.trans hB.out.chg (fun _ f => f.elim)
            obtain ⟨a, ao, rfl, _, r1⟩ := (HM.out.chg hC1) K _ hx
            have hin := HI.out ms[K] (List.getElem_mem hkl)
            generalize ms[K] = m at *
            obtain ⟨⟨ix, ky, vu, pa⟩, PA, pc⟩ := m
            obtain ⟨ox, hpl, hpm⟩ := hin
            have hix := ox.index
            have hpa := Lib.hid ox.path
            have hpm := Lib.hid hpm
            have HL20 := Lib.hid (fun h : Pa.right ⟨ix, ky, vu, pa⟩ = true => Pa.enc_len h ox)
            clear ox
            simp only at hpl
            unfold maxLen at hpl
            have HRR : Hid (Pa.right ⟨ix, ky, vu, pa⟩ = (inR 0 4096 ix && (decide (ky.size ≤ 4096) && (decide (vu.size ≤ 4096) && inR 0 16 pa.length)))) := Lib.hid rfl
            have HEE : Hid (Pa.enc ⟨ix, ky, vu, pa⟩ = num ix ++ (tx ky.data.toList ++ (tx vu.data.toList ++ (num pa.length ++ pa.flatMap id)))) := Lib.hid rfl
            have HPN : Hid (pfx (K + 1) = pfx K ++ Pa.enc ⟨ix, ky, vu, pa⟩) := Lib.hid (by
              rw [HP.out, HP.out, List.take_add_one, HX.out]
              simp [List.flatMap_append, List.append_assoc])
            have HNO : Hid (Pa.right ⟨ix, ky, vu, pa⟩ = false → ok = false) := Lib.hid (fun h => by
              rw [HR.out, Bool.eq_false_iff]
              intro h2
              simp only [Bool.and_eq_true, List.all_eq_true] at h2
              have := h2.2.2 _ (List.mem_of_getElem? HX.out)
              simp only at this
              rw [this] at h; cases h)
            have HYE : Hid (Pa.right ⟨ix, ky, vu, pa⟩ = true → ∀ m ∈ ms.take (K + 1), m.part.right = true) := Lib.hid (fun h m hm => by
              rw [List.take_add_one, HX.out] at hm
              rcases List.mem_append.1 hm with hm | hm
              · exact hall.out m hm
              · simp at hm; subst hm; exact h)
            generalize Pa.right ⟨ix, ky, vu, pa⟩ = mr at *
            generalize Pa.enc ⟨ix, ky, vu, pa⟩ = me at *
            have hki : (K : Int) < (n : Int) := by omega
            have hin : Hid (∀ w', Calls Try.prog 40 #[.int .i64 ix, .int .i64 0, .int .i64 4096] w' fun e w'' => e = .returned (.bool (inR 0 4096 ix)) ∧ w'' = w') := Lib.hid fun w' => in_any w' _ _ _
            generalize inR 0 4096 ix = q at *
            have hi16 : inR 0 16 pa.length = decide (pa.length ≤ 16) := by unfold inR; simp; omega
            rw [hi16] at HRR
            have hrow : Pm.cells ⟨⟨ix, ky, vu, pa⟩, PA, pc⟩ = [.int .i64 ix, .string ky, .string vu, .slice PA pa.length pc] := rfl
            rw [hrow] at r1
            clear hi16 hrow hx hkl hall
            have hpn0 : pa.length = pa.length := rfl
            generalize hpn : pa.length = pn at *
            have HPL := Lib.hid hpn
            clear hpn0 hpn
            have HI2 := partIn_is wr (L := [.int .i64 ix, .string ky, .string vu, .slice PA pn pc]) rfl
            have hpx : (wr.alloc (.cells partZ.toArray 32)).setCells wr.heap.size 0 ([.int .i64 ix, .string ky, .string vu, .slice PA pn pc] : List Value).toArray.toList = partIn wr [.int .i64 ix, .string ky, .string vu, .slice PA pn pc] := rfl
            have hal := part_alloc0 wr
            have hth := part_there wr
            have hpr : (Try.prog.info? 32).map (·.size) = some ([.int .i64 ix, .string ky, .string vu, .slice PA pn pc] : List Value).length := part_row
            have hsz4 : ([.int .i64 ix, .string ky, .string vu, .slice PA pn pc] : List Value).toArray.size = 4 := rfl
            have hone : ([.int .i64 ix, .string ky, .string vu, .slice PA pn pc] : List Value).toArray.all (·.oneCell') = true := one_mem (by intro v hv; simp at hv; rcases hv with rfl | rfl | rfl | rfl <;> rfl)
            generalize u5 = bo at *
            have BX : Btx w1 (partIn wr [.int .i64 ix, .string ky, .string vu, .slice PA pn pc]) bo (pfx K) wr.heap.size 32 [.int .i64 ix, .string ky, .string vu, .slice PA pn pc] := ⟨hB.out.later HI2.2, HI2.1, fun k hk => by have := own_lt hB.out.own k hk; omega⟩
            have HBX := Lib.hid BX
            have HPM := Lib.hid (hpm.out)
            clear HI2 BX hpm hC1 hB
            go_wp2_with (first | (with_reducible refine wpList_load_mid rfl 32 _ rfl a (ao + K * 4) rfl [.int .i64 ix, .string ky, .string vu, .slice PA pn pc] _ r1 Try.underlying32 rfl hpr ?_) | (with_reducible refine wpList_alloc_row rfl _ rfl partZ hal ?_) | ((with_reducible refine wpList_store_mid rfl 32 _ _ rfl wr.heap.size 0 ([.int .i64 ix, .string ky, .string vu, .slice PA pn pc] : List Value).toArray rfl rfl (by rw [hsz4]; exact hth) (by rw [part_row, hsz4]) hone ?_); rw [hpx]; generalize partIn wr [.int .i64 ix, .string ky, .string vu, .slice PA pn pc] = wx at *; have x0 : wx.cell? ⟨wr.heap.size, 0, none⟩ = some (.int .i64 ix) := HBX.out.x.cell 0; have x1 : wx.cell? ⟨wr.heap.size, 1, none⟩ = some (.string ky) := HBX.out.x.cell 1; have x2 : wx.cell? ⟨wr.heap.size, 2, none⟩ = some (.string vu) := HBX.out.x.cell 2; have x3 : wx.cell? ⟨wr.heap.size, 3, none⟩ = some (.slice PA pn pc) := HBX.out.x.cell 3))
            refine (hin.out _).mono ?_
            rintro e wq ⟨rfl, hq⟩
            obtain rfl : wx = wq := hq.symm
            generalize hxb : wr.heap.size = xb at *
            clear hpx hpr hal hth hsz4 hone r1 d1 hq
            cases q
            · go_wp2_with fail
              go_ret2
              exact ⟨HC.out.trans HBX.out.b.chg (fun _ f => f.elim), _, by rw [HNO.out (by rw [HRR.out]; rfl)]; rfl, fun h => by rw [HNO.out (by rw [HRR.out]; rfl)] at h; cases h⟩
            by_cases hk1 : (4096 : Int) < (ky.size : Int)
            · have hd1 : decide ((ky.size : Int) ≤ 4096) = false := decide_eq_false (by omega)
              have hd1' : Hid (decide (ky.size ≤ 4096) = false) := Lib.hid (decide_eq_false (by omega))
              go_wp2_with fail
              go_ret2
              exact ⟨HC.out.trans HBX.out.b.chg (fun _ f => f.elim), _, by rw [HNO.out (by rw [HRR.out, hd1'.out]; simp)]; rfl, fun h => by rw [HNO.out (by rw [HRR.out, hd1'.out]; simp)] at h; cases h⟩
            have hk1 : (ky.size : Int) ≤ 4096 := by omega
            by_cases hk2 : (4096 : Int) < (vu.size : Int)
            · have hd2 : decide ((vu.size : Int) ≤ 4096) = false := decide_eq_false (by omega)
              have hd2' : Hid (decide (vu.size ≤ 4096) = false) := Lib.hid (decide_eq_false (by omega))
              go_wp2_with fail
              go_ret2
              exact ⟨HC.out.trans HBX.out.b.chg (fun _ f => f.elim), _, by rw [HNO.out (by rw [HRR.out, hd2'.out]; simp)]; rfl, fun h => by rw [HNO.out (by rw [HRR.out, hd2'.out]; simp)] at h; cases h⟩
            have hk2 : (vu.size : Int) ≤ 4096 := by omega
            by_cases hk3 : (16 : Int) < (pn : Int)
            · have hd3 : decide ((pn : Int) ≤ 16) = false := decide_eq_false (by omega)
              have hd3' : Hid (decide (pn ≤ 16) = false) := Lib.hid (decide_eq_false (by omega))
              go_wp2_with fail
              go_ret2
              exact ⟨HC.out.trans HBX.out.b.chg (fun _ f => f.elim), _, by rw [HNO.out (by rw [HRR.out, hd3'.out]; simp)]; rfl, fun h => by rw [HNO.out (by rw [HRR.out, hd3'.out]; simp)] at h; cases h⟩
            have hk3 : (pn : Int) ≤ 16 := by omega
            have hmr : mr = true := by rw [HRR.out, decide_eq_true (show ky.size ≤ 4096 by omega), decide_eq_true (show vu.size ≤ 4096 by omega), decide_eq_true (show pn ≤ 16 by omega)]; rfl
            have HMR := Lib.hid hmr
            have hsk : ky.data.toList.length = ky.size := by rw [Array.length_toList]; rfl
            have hsv : vu.data.toList.length = vu.size := by rw [Array.length_toList]; rfl
            have HSK := Lib.hid hsk
            have HSV := Lib.hid hsv
            clear hmr hsk hsv HNO HRR
            go_wp2_with fail
            refine (refNumber_any _ ix).mono ?_
            rintro e wa ⟨va, rfl, oa, na, ja⟩
            obtain ⟨Aa, ca, rfl, Ra⟩ := oa.rd
            have Ba := HBX.out.later ja
            clear x0 x1 x2 x3
            go_wp2_with (at_builtin; refine wpList_app byt _ rfl _ _ rfl rfl Ba.b.own (A := Aa) (c := ca) rfl rfl Ra (by have := hlen.out; rw [num_length]; omega) ?_; intro v10 w10 o10 g10 b10; have B10 := Ba.app o10 g10 b10; have x1 : w10.cell? ⟨xb, 1, none⟩ = some (.string ky) := B10.x.cell 1)
            refine (refText_any _ ky (by omega)).mono ?_
            rintro e wb ⟨vb, rfl, ob, nb, jb⟩
            obtain ⟨Ab, cb, rfl, Rb⟩ := ob.rd
            have Bb := B10.later jb
            clear x1 Ba oa Ra na ja o10 g10 b10 B10
            go_wp2_with (at_builtin; refine wpList_app byt _ rfl _ _ rfl rfl Bb.b.own (A := Ab) (c := cb) rfl rfl Rb (by have := hlen.out; simp only [List.length_append, num_length, tx_length, HSK.out]; omega) ?_; intro v11 w11 o11 g11 b11; have B11 := Bb.app o11 g11 b11; have x2 : w11.cell? ⟨xb, 2, none⟩ = some (.string vu) := B11.x.cell 2)
            refine (refText_any _ vu (by omega)).mono ?_
            rintro e wc ⟨vc, rfl, oc, nc, jc⟩
            obtain ⟨Ac, cc, rfl, Rc⟩ := oc.rd
            have Bc := B11.later jc
            clear x2 Bb ob Rb nb jb o11 g11 b11 B11
            go_wp2_with (at_builtin; refine wpList_app byt _ rfl _ _ rfl rfl Bc.b.own (A := Ac) (c := cc) rfl rfl Rc (by have := hlen.out; simp only [List.length_append, num_length, tx_length, HSK.out, HSV.out]; omega) ?_; intro v12 w12 o12 g12 b12; have B12 := Bc.app o12 g12 b12; have x3 : w12.cell? ⟨xb, 3, none⟩ = some (.slice PA pn pc) := B12.x.cell 3)
            refine (refNumber_any _ (pn : Int)).mono ?_
            rintro e wd ⟨vd, rfl, od, nd, jd⟩
            obtain ⟨Ad, cd, rfl, Rd'⟩ := od.rd
            have Bd := B12.later jd
            clear x3 Bc oc Rc nc jc o12 g12 b12 B12
            go_wp2_with (at_builtin; refine wpList_app byt _ rfl _ _ rfl rfl Bd.b.own (A := Ad) (c := cd) rfl rfl Rd' (by have := hlen.out; simp only [List.length_append, num_length, tx_length, HSK.out, HSV.out]; omega) ?_; intro v13 w13 o13 g13 b13; have B13 := Lib.hid (Bd.app o13 g13 b13); have x3 : w13.cell? ⟨xb, 3, none⟩ = some (.slice PA pn pc) := B13.out.x.cell 3)
            have hpbl : (pfx K ++ num ix ++ tx ky.data.toList ++ tx vu.data.toList ++ num (pn : Int)).length ≤ 60000 := by have := hlen.out; simp only [List.length_append, num_length, tx_length, HSK.out, HSV.out]; omega
            have HPB : Hid (pfx K ++ num ix ++ tx ky.data.toList ++ tx vu.data.toList ++ num (pn : Int) ++ pa.flatMap id = pfx (K + 1)) := Lib.hid (by rw [HPN.out, HEE.out]; simp [List.append_assoc])
            generalize pfx K ++ num ix ++ tx ky.data.toList ++ tx vu.data.toList ++ num (pn : Int) = pb at *
            have HPBL := Lib.hid hpbl
            have HX0 : Hid (Btx w1 w13 v13 (pb ++ (pa.take 0).flatMap id) xb 32 [.int .i64 ix, .string ky, .string vu, .slice PA pn pc]) := Lib.hid (by simpa using B13.out)
            clear x3 Bd od Rd' nd jd o13 g13 b13 B13 hpbl HBX
            go_loopw [5, 8] (fun b k wi => ∃ J : Nat, J ≤ pn ∧ k = .int .i64 (J : Int) ∧ Hid (Btx w1 wi b (pb ++ (pa.take J).flatMap id) xb 32 [.int .i64 ix, .string ky, .string vu, .slice PA pn pc])) (fun _ k _ => pn - (intOf k).toNat)
            case atStart => exact ⟨0, by omega, rfl, HX0⟩
            case round =>
              obtain ⟨J, hJ, rfl, hBJ⟩ := hrel
              have y3 : wr.cell? ⟨xb, 3, none⟩ = some (.slice PA pn pc) := hBJ.out.x.cell 3
              by_cases hlj : J < pn
              · have hjl : J < pa.length := by rw [HPL.out]; exact hlj
                have hj := List.getElem?_eq_getElem hjl
                have HJ := Lib.hid hj
                have h32 := hpa.out pa[J] (List.getElem_mem hjl)
                obtain ⟨eb, eo, rfl, _, rJ⟩ := (HPM.out.chg (HC.out.trans hBJ.out.b.chg (fun _ f => f.elim))) J _ hj
                generalize pa[J] = hh at *
                have hih : (Try.prog.info? 45).map (·.size) = some (bv hh).length := by rw [bv_length, h32]; exact hash_row
                have hJi : (J : Int) < (pn : Int) := by omega
                have HLJ : Hid ((pb ++ (pa.take J).flatMap id).length ≤ 61000) := Lib.hid (by
                  have h1 := path_len (l := pa.take J) (fun x hx => hpa.out x (List.mem_of_mem_take hx))
                  have h2 := HPBL.out
                  rw [List.length_append, h1, List.length_take]
                  omega)
                have HNX : Hid (pb ++ (pa.take J).flatMap id ++ hh = pb ++ (pa.take (J + 1)).flatMap id) := Lib.hid (by rw [List.take_add_one, HJ.out]; simp [List.flatMap_append, List.append_assoc])
                generalize u5 = bj at *
                generalize pb ++ (pa.take J).flatMap id = pj at *
                have HS32 := Lib.hid h32
                clear hj hjl
                go_wp2_with (first | (with_reducible refine wpList_load_mid rfl 45 _ rfl eb (eo + J * 32) rfl (bv hh) _ rJ Try.underlying45 rfl hih ?_) | fail)
                refine (refHash_any _ hh h32).mono ?_
                rintro e we ⟨ve, rfl, oe, ne, je⟩
                obtain ⟨Ae, ce, rfl, Re⟩ := oe.rd
                have Be := hBJ.out.later je
                clear h32 hih
                go_wp2_with (at_builtin; refine wpList_app byt _ rfl _ _ rfl rfl Be.b.own (A := Ae) (c := ce) rfl rfl Re (by have := HLJ.out; rw [HS32.out]; omega) ?_; intro v14 w14 o14 g14 b14; have B14 := Be.app o14 g14 b14)
                go_roundw
                case rel => exact ⟨J + 1, by omega, by go_num, Lib.hid (by rw [← HNX.out]; exact B14)⟩
                case measure => simp [intOf]; omega
              · obtain rfl : J = pn := by omega
                generalize u5 = bj at *
                have hBK : Hid (Bts w1 wr bj (pfx (K + 1))) := Lib.hid (by
                  have h := hBJ.out.b
                  rw [List.take_of_length_le (by have := HPL.out; omega), HPB.out] at h
                  exact h)
                have hLK : Hid ((pfx (K + 1)).length ≤ 24 + (K + 1) * 20000) := Lib.hid (by
                  have h1 := HL20.out HMR.out
                  have h2 := hlen.out
                  rw [HPN.out, List.length_append]
                  omega)
                clear hBJ
                go_wp2_with fail
                go_roundw
                case rel => exact ⟨K + 1, by omega, by go_num, rfl, Lib.hid (HYE.out HMR.out), hLK, hBK⟩
                case measure => simp [intOf]; omega
          · obtain rfl : K = n := by omega
            have ht : ms.take K = ms := List.take_of_length_le (by have := HN.out; omega)
            have hT := hall.out
            rw [ht] at hT
            have hok : Hid (ok = true) := Lib.hid (by
              rw [HR.out, Bool.true_and, decide_eq_true h2n, Bool.true_and, List.all_eq_true]
              exact hT)
            generalize u5 = bo at *
            have hEnd : Hid (Own 5 wr bo enc) := Lib.hid (by
              have h := hB.out.own
              rw [HP.out, ht, ← HE.out] at h
              exact h)
            clear hT ht
            go_wp2_with fail
            go_ret2
            exact ⟨HC.out.trans hB.out.chg (fun _ f => f.elim), _, by rw [hok.out]; rfl, fun _ => hEnd.out⟩
  · have h2i : ¬ (n : Int) ≤ 2 := by omega
    have hd0 : decide ((n : Int) ≤ 2) = false := decide_eq_false h2i
    have HF : Hid (ok = false) := Lib.hid (by rw [HR.out, decide_eq_false h2n]; simp)
    cases p
    · go_wp2_with fail
      go_region_held3 (fun w' => w'.cell? ⟨w.heap.size, 0, none⟩ = some (.int .i64 sz) ∧ w'.cell? ⟨w.heap.size, 1, none⟩ = some (.slice A n c)) (first | exact ⟨c0, c1⟩ | exact S8 | exact S7 | exact S6 | assumption)
        (first
          | (go_at_call_of 38 (Value.int IntKind.i64 7); refine (refNumber_any _ 7).mono ?_; rintro e w6 ⟨v6, rfl, o6, n6, j6⟩; have K6 : Chg Non w1 w6 := (by first | exact ((Chg.refl Non w1).drew).trans j6 (fun _ f => f.elim) | exact K7.trans j6 (fun _ f => f.elim)); have B6 : Bts w1 w6 v6 (num 7) := ⟨o6, fun k hk => Nat.le_trans (by first | exact Nat.le_refl _ | exact K7.size) (n6 k hk), K6⟩; have S6 := And.intro (K6.cell c0 (fun f => f)) (K6.cell c1 (fun f => f)))
          | (go_at_call_of 38 (Value.int IntKind.i64 sz); refine (refNumber_any _ sz).mono ?_; rintro e w7 ⟨v7, rfl, o7, n7, j7⟩; obtain ⟨A7, c7, rfl, R7⟩ := o7.rd; have K7 : Chg Non w1 w7 := (by first | exact ((Chg.refl Non w1).drew).trans j7 (fun _ f => f.elim) | exact K6.trans j7 (fun _ f => f.elim)); have S7 := And.intro (K7.cell c0 (fun f => f)) (K7.cell c1 (fun f => f)))
          | (refine step_app _ (by rfl) _ _ (by rfl) (l := num 7) (l2 := num sz) (by rfl) (by first | exact (B6.later j7).own | exact B6.own) (A := A7) (c := c7) (by rfl) (by rfl) (by first | exact R7 | exact R7.later j6) (by simp [num_length]) ?_; intro v8 w8 o8 g8 b8; have B8 : Bts w1 w8 v8 (num 7 ++ num sz) := (by first | exact (B6.later j7).app o8 g8 b8 | exact B6.app o8 g8 b8); have S8 := And.intro (B8.chg.cell c0 (fun f => f)) (B8.chg.cell c1 (fun f => f)))
          | fail)
      all_goals
        obtain ⟨d0, d1⟩ := S8
        have B8' := Lib.hid B8
        clear S6 S7 R7 o6 o7 o8 g8 b8 B6 B8 K6 K7 j6 j7 n6 n7
        go_wp2_with fail
        refine (refNumber_any _ (n : Int)).mono ?_
        rintro e wa ⟨va, rfl, oa, na, ja⟩
        obtain ⟨Aa, ca, rfl, Ra⟩ := oa.rd
        have Ba := B8'.out.later ja
        clear d0 d1
        go_wp2_with (at_builtin; refine wpList_app byt _ rfl _ _ rfl rfl Ba.own (A := Aa) (c := ca) rfl rfl Ra (by simp only [List.length_append, num_length]; omega) ?_; intro v9 w9 o9 g9 b9; have B9 := Ba.app o9 g9 b9; have d1 := B9.chg.cell H1.out (fun f => f))
        clear Ba oa Ra na ja o9 g9 b9 B8'
        go_loopw [4, 5, 6, 7, 8] (fun o b i x k wr => i = .int .i64 0 ∧ o = .bool false ∧ b = v9 ∧ wr = w9) (fun _ _ _ _ _ _ => 0)
        case atStart => exact ⟨rfl, rfl, rfl, rfl⟩
        case round =>
          obtain ⟨rfl, rfl, rfl, rfl⟩ := hrel
          have h0 : (0 : Int) < (n : Int) := by omega
          go_wp2_with fail
          go_ret2
          exact ⟨HC.out.trans B9.chg (fun _ f => f.elim), _, by rw [HF.out]; rfl, fun h => by rw [HF.out] at h; cases h⟩
    · go_wp2_with fail
      go_region_held3 (fun w' => w'.cell? ⟨w.heap.size, 0, none⟩ = some (.int .i64 sz) ∧ w'.cell? ⟨w.heap.size, 1, none⟩ = some (.slice A n c)) (first | exact ⟨c0, c1⟩ | exact S8 | exact S7 | exact S6 | assumption)
        (first
          | (go_at_call_of 38 (Value.int IntKind.i64 7); refine (refNumber_any _ 7).mono ?_; rintro e w6 ⟨v6, rfl, o6, n6, j6⟩; have K6 : Chg Non w1 w6 := (by first | exact ((Chg.refl Non w1).drew).trans j6 (fun _ f => f.elim) | exact K7.trans j6 (fun _ f => f.elim)); have B6 : Bts w1 w6 v6 (num 7) := ⟨o6, fun k hk => Nat.le_trans (by first | exact Nat.le_refl _ | exact K7.size) (n6 k hk), K6⟩; have S6 := And.intro (K6.cell c0 (fun f => f)) (K6.cell c1 (fun f => f)))
          | (go_at_call_of 38 (Value.int IntKind.i64 sz); refine (refNumber_any _ sz).mono ?_; rintro e w7 ⟨v7, rfl, o7, n7, j7⟩; obtain ⟨A7, c7, rfl, R7⟩ := o7.rd; have K7 : Chg Non w1 w7 := (by first | exact ((Chg.refl Non w1).drew).trans j7 (fun _ f => f.elim) | exact K6.trans j7 (fun _ f => f.elim)); have S7 := And.intro (K7.cell c0 (fun f => f)) (K7.cell c1 (fun f => f)))
          | (refine step_app _ (by rfl) _ _ (by rfl) (l := num 7) (l2 := num sz) (by rfl) (by first | exact (B6.later j7).own | exact B6.own) (A := A7) (c := c7) (by rfl) (by rfl) (by first | exact R7 | exact R7.later j6) (by simp [num_length]) ?_; intro v8 w8 o8 g8 b8; have B8 : Bts w1 w8 v8 (num 7 ++ num sz) := (by first | exact (B6.later j7).app o8 g8 b8 | exact B6.app o8 g8 b8); have S8 := And.intro (B8.chg.cell c0 (fun f => f)) (B8.chg.cell c1 (fun f => f)))
          | fail)
      all_goals
        obtain ⟨d0, d1⟩ := S8
        have B8' := Lib.hid B8
        clear S6 S7 R7 o6 o7 o8 g8 b8 B6 B8 K6 K7 j6 j7 n6 n7
        go_wp2_with fail
        refine (refNumber_any _ (n : Int)).mono ?_
        rintro e wa ⟨va, rfl, oa, na, ja⟩
        obtain ⟨Aa, ca, rfl, Ra⟩ := oa.rd
        have Ba := B8'.out.later ja
        clear d0 d1
        go_wp2_with (at_builtin; refine wpList_app byt _ rfl _ _ rfl rfl Ba.own (A := Aa) (c := ca) rfl rfl Ra (by simp only [List.length_append, num_length]; omega) ?_; intro v9 w9 o9 g9 b9; have B9 := Ba.app o9 g9 b9; have d1 := B9.chg.cell H1.out (fun f => f))
        clear Ba oa Ra na ja o9 g9 b9 B8'
        go_loopw [4, 5, 6, 7, 8] (fun o b i x k wr => i = .int .i64 0 ∧ o = .bool false ∧ b = v9 ∧ wr = w9) (fun _ _ _ _ _ _ => 0)
        case atStart => exact ⟨rfl, rfl, rfl, rfl⟩
        case round =>
          obtain ⟨rfl, rfl, rfl, rfl⟩ := hrel
          have h0 : (0 : Int) < (n : Int) := by omega
          go_wp2_with fail
          go_ret2
          exact ⟨HC.out.trans B9.chg (fun _ f => f.elim), _, by rw [HF.out]; rfl, fun h => by rw [HF.out] at h; cases h⟩
end Go.Proofs.Ytkpnajblaemoiaa

/- The document's answers for forms: a packet's bytes. -/
namespace Go.Proofs.Ytkpnajblaemoiaa
open Go.RowKit
set_option linter.unusedVariables false
set_option linter.unusedSimpArgs false
set_option maxRecDepth 20000

set_option maxHeartbeats 6400000 in
theorem refPacket_any (w : World) (x : Pk) (ox : x.Ok) : Calls Try.prog 9 #[.agg x.cells.toArray] w fun e w' => Chg Non w w' ∧ ∃ v, e = .returned (.tuple #[v, .bool x.right]) ∧ (x.right = true → Own 5 w' v x.enc) := by
  have HNm : Hid (∀ w', Calls Try.prog 37 #[.string x.from] w' fun e w'' => e = .returned (.bool (nameOk x.from)) ∧ ∃ n, w'' = w'.drewN n) := Lib.hid fun w' => refName_any w' x.from ox.from
  have HT : Hid (∀ (s : ByteArray), s.size ≤ 4096 → ∀ w', Calls Try.prog 39 #[.string s] w' (Newb w' (tx s.data.toList))) := Lib.hid fun s h w' => refText_any w' s h
  have HR : Hid (x.right = (inR 1 1099511627776 x.seq && (nameOk x.from && (decide (x.data.size ≤ 256) && inR 1 1099511627776 x.timeout)))) := Lib.hid rfl
  have HE : Hid (x.enc = num 6 ++ (num x.seq ++ (tx x.from.data.toList ++ (tx x.data.data.toList ++ num x.timeout)))) := Lib.hid rfl
  have k0 : Chg Non w (w.alloc (.cells x.cells.toArray 23)) := (Chg.refl _ _).alloc _
  have b0 := Hb.new w 23 x.cells.toArray
  generalize x.right = ok at *
  generalize x.enc = enc at *
  unfold Pk.cells at *
  have HL : Hid (nameOk x.from = true → x.from.size ≤ 16) := Lib.hid nameOk_size
  have ofs := ox.from
  have ods := ox.data
  generalize x.seq = sq at *
  generalize x.from = fr at *
  generalize x.data = da at *
  generalize x.timeout = ti at *
  unfold maxLen at ofs ods
  clear ox
  generalize hnm : nameOk fr = nm at *
  clear hnm
  go_enter Try.func9, Try.ntmps9
  go_wp2_with fail
  refine (HNm.out _).mono ?_
  rintro e w1 ⟨rfl, q, hq⟩
  have k1 : Chg Non w w1 := by rw [hq]; exact k0.drewN q
  have b1 : Hb w1 w.heap.size 23 #[.int .i64 sq, .string fr, .string da, .int .i64 ti] := by rw [hq]; exact b0
  have c0 := b1.cell 0
  have c1 := b1.cell 1
  have c2 := b1.cell 2
  have c3 := b1.cell 3
  simp only [List.getElem?_toArray] at c0 c1 c2 c3
  clear hq k0 b0
  by_cases hd : (256 : Int) < (da.size : Int)
  · go_wp2_with fail
    go_ret2
    refine ⟨k1, .slice none 0 0, by rw [HR.out, decide_eq_false (show ¬ da.size ≤ 256 by omega)]; simp, fun h => ?_⟩
    rw [HR.out, decide_eq_false (show ¬ da.size ≤ 256 by omega)] at h
    simp at h
  cases nm
  · go_wp2_with fail
    go_ret2
    refine ⟨k1, .slice none 0 0, by rw [HR.out]; simp, fun h => ?_⟩
    rw [HR.out] at h
    simp at h
  have hfs : fr.size ≤ 16 := HL.out rfl
  have HB := Lib.hid b1
  have H1 := Lib.hid c1
  have H2 := Lib.hid c2
  have H0 := Lib.hid c0
  have H3 := Lib.hid c3
  clear b1 HL HNm
  go_wp2_with fail
  go_region_held3 (fun w' => w'.cell? ⟨w.heap.size, 0, none⟩ = some (.int .i64 sq) ∧ w'.cell? ⟨w.heap.size, 1, none⟩ = some (.string fr) ∧ w'.cell? ⟨w.heap.size, 2, none⟩ = some (.string da) ∧ w'.cell? ⟨w.heap.size, 3, none⟩ = some (.int .i64 ti)) (first | exact ⟨c0, c1, c2, c3⟩ | exact S8 | exact S7 | exact S6 | assumption)
    (first
      | (go_at_call_of 38 (Value.int IntKind.i64 6); refine (refNumber_any _ 6).mono ?_; rintro e w6 ⟨v6, rfl, o6, n6, j6⟩; have K6 : Chg Non w1 w6 := (by first | exact ((Chg.refl Non w1).drew).trans j6 (fun _ f => f.elim) | exact K7.trans j6 (fun _ f => f.elim)); have B6 : Bts w1 w6 v6 (num 6) := ⟨o6, fun k hk => Nat.le_trans (by first | exact Nat.le_refl _ | exact K7.size) (n6 k hk), K6⟩; have S6 := And.intro (K6.cell c0 (fun f => f)) (And.intro (K6.cell c1 (fun f => f)) (And.intro (K6.cell c2 (fun f => f)) (K6.cell c3 (fun f => f)))))
      | (go_at_call_of 38 (Value.int IntKind.i64 sq); refine (refNumber_any _ sq).mono ?_; rintro e w7 ⟨v7, rfl, o7, n7, j7⟩; obtain ⟨A7, c7, rfl, R7⟩ := o7.rd; have K7 : Chg Non w1 w7 := (by first | exact ((Chg.refl Non w1).drew).trans j7 (fun _ f => f.elim) | exact K6.trans j7 (fun _ f => f.elim)); have S7 := And.intro (K7.cell c0 (fun f => f)) (And.intro (K7.cell c1 (fun f => f)) (And.intro (K7.cell c2 (fun f => f)) (K7.cell c3 (fun f => f)))))
      | (refine step_app _ (by rfl) _ _ (by rfl) (l := num 6) (l2 := num sq) (by rfl) (by first | exact (B6.later j7).own | exact B6.own) (A := A7) (c := c7) (by rfl) (by rfl) (by first | exact R7 | exact R7.later j6) (by simp [num_length]) ?_; intro v8 w8 o8 g8 b8; have B8 : Bts w1 w8 v8 (num 6 ++ num sq) := (by first | exact (B6.later j7).app o8 g8 b8 | exact B6.app o8 g8 b8); have S8 := And.intro (B8.chg.cell c0 (fun f => f)) (And.intro (B8.chg.cell c1 (fun f => f)) (And.intro (B8.chg.cell c2 (fun f => f)) (B8.chg.cell c3 (fun f => f)))))
      | fail)
  all_goals
    clear c0 c1 c2 c3
    obtain ⟨c0, c1, c2, c3⟩ := S8
    have B8' := Lib.hid B8
    clear S6 S7 R7 o6 o7 o8 g8 b8 B6 B8 K6 K7 j6 j7 n6 n7
    go_wp2_with fail
    refine (HT.out fr (by omega) _).mono ?_
    rintro e wa ⟨va, rfl, oa, na, ja⟩
    obtain ⟨Aa, ca, rfl, Ra⟩ := oa.rd
    have Ba := B8'.out.later ja
    have hfl : fr.data.toList.length = fr.size := by rw [Array.length_toList]; rfl
    have hdl : da.data.toList.length = da.size := by rw [Array.length_toList]; rfl
    clear c0 c1 c2 c3
    go_wp2_with (at_builtin; refine wpList_app byt _ rfl _ _ rfl rfl Ba.own (A := Aa) (c := ca) rfl rfl Ra (by simp only [List.length_append, num_length, tx_length, hfl]; omega) ?_; intro v9 w9 o9 g9 b9; have B9 := Ba.app o9 g9 b9; have d2 := B9.chg.cell H2.out (fun f => f))
    refine (HT.out da (by omega) _).mono ?_
    rintro e wb ⟨vb, rfl, ob, nb, jb⟩
    obtain ⟨Ab, cb, rfl, Rb⟩ := ob.rd
    have Bb := B9.later jb
    clear d2 Ba oa Ra na ja o9 g9 b9
    go_wp2_with (at_builtin; refine wpList_app byt _ rfl _ _ rfl rfl Bb.own (A := Ab) (c := cb) rfl rfl Rb (by simp only [List.length_append, num_length, tx_length, hfl, hdl]; omega) ?_; intro v10 w10 o10 g10 b10; have B10 := Bb.app o10 g10 b10; have d0 := B10.chg.cell H0.out (fun f => f); have d3 := B10.chg.cell H3.out (fun f => f))
    clear Bb ob Rb nb jb o10 g10 b10 B9
    have I1 : Hid (∀ w', Calls Try.prog 40 #[.int .i64 sq, .int .i64 1, .int .i64 1099511627776] w' fun e w'' => e = .returned (.bool (inR 1 1099511627776 sq)) ∧ w'' = w') := Lib.hid fun w' => in_any w' _ _ _
    have I2 : Hid (∀ w', Calls Try.prog 40 #[.int .i64 ti, .int .i64 1, .int .i64 1099511627776] w' fun e w'' => e = .returned (.bool (inR 1 1099511627776 ti)) ∧ w'' = w') := Lib.hid fun w' => in_any w' _ _ _
    generalize inR 1 1099511627776 sq = p at *
    generalize inR 1 1099511627776 ti = t at *
    have hln : ((((num 6 ++ num sq) ++ tx fr.data.toList) ++ tx da.data.toList)).length ≤ 10000 := by simp only [List.length_append, num_length, tx_length, hfl, hdl]; omega
    have HLN := Lib.hid hln
    clear hln hfl hdl
    cases p
    · first | (go_region_law
        (first
          | (refine step_call _ (by rfl) 40 _ _ (by rfl) (by rfl) ent_in (I1.out _) ?_; rintro e wx ⟨rfl, rfl⟩; refine ⟨_, rfl, ?_⟩)
          | (refine step_call _ (by rfl) 38 _ _ (by rfl) (by rfl) ent_num (refNumber_any _ ti) ?_; rintro e w11 ⟨v11, rfl, o11, n11, j11⟩; obtain ⟨A11, c11, rfl, R11⟩ := o11.rd; have B11 := B10.later (((Chg.refl Non w10).drew).trans j11 (fun _ f => f.elim)); have S11 := B11.chg.cell H0.out (fun f => f); have T11 := B11.chg.cell H3.out (fun f => f); refine ⟨_, rfl, ?_⟩)
          | (refine step_app _ (by rfl) _ _ (by rfl) (l2 := num ti) (by rfl) B11.own (A := A11) (c := c11) (by rfl) (by rfl) R11 (by have := HLN.out; rw [num_length]; omega) ?_; intro v12 w12 o12 g12 b12; have B12 := B11.app o12 g12 b12; have S12 := B12.chg.cell H0.out (fun f => f); have T12 := B12.chg.cell H3.out (fun f => f))
          | fail)) | fail
      all_goals
        go_wp2_with fail
        go_ret2
        exact ⟨k1.trans B12.chg (fun _ f => f.elim), v12, by rw [HR.out]; rfl, fun h => by rw [HR.out] at h; cases h⟩
    · first | (go_region_law
        (first
          | (refine step_call _ (by rfl) 40 _ _ (by rfl) (by rfl) ent_in (I1.out _) ?_; rintro e wx ⟨rfl, rfl⟩; refine ⟨_, rfl, ?_⟩)
          | (refine step_callW _ (by rfl) 40 _ _ (by rfl) (by rfl) ent_in (I2.out _) ?_; rintro e wx ⟨rfl, rfl⟩; refine ⟨_, rfl, ?_⟩)
          | (refine step_call _ (by rfl) 38 _ _ (by rfl) (by rfl) ent_num (refNumber_any _ ti) ?_; rintro e w11 ⟨v11, rfl, o11, n11, j11⟩; obtain ⟨A11, c11, rfl, R11⟩ := o11.rd; have B11 := B10.later (((Chg.refl Non w10).drew).trans j11 (fun _ f => f.elim)); have S11 := B11.chg.cell H0.out (fun f => f); have T11 := B11.chg.cell H3.out (fun f => f); refine ⟨_, rfl, ?_⟩)
          | (refine step_app _ (by rfl) _ _ (by rfl) (l2 := num ti) (by rfl) B11.own (A := A11) (c := c11) (by rfl) (by rfl) R11 (by have := HLN.out; rw [num_length]; omega) ?_; intro v12 w12 o12 g12 b12; have B12 := B11.app o12 g12 b12; have S12 := B12.chg.cell H0.out (fun f => f); have T12 := B12.chg.cell H3.out (fun f => f))
          | fail)) | fail
      all_goals
        go_wp2_with fail
        go_ret2
        have hok : ok = t := by rw [HR.out, decide_eq_true (show da.size ≤ 256 by omega)]; simp
        exact ⟨k1.trans B12.chg (fun _ f => f.elim), v12, by rw [hok]; rfl, fun h => by rw [HE.out]; simpa only [List.append_assoc] using B12.own⟩
end Go.Proofs.Ytkpnajblaemoiaa

/- Package forms: EncodeProof. -/
namespace Go.Proofs.Ytkpnajblaemoiaa
open Go.RowKit
set_option linter.unusedVariables false
set_option linter.unusedSimpArgs false
set_option maxRecDepth 20000

theorem Pf.enc_len {sz : Int} {ms : List Pm} (h : Pf.right ⟨sz, ms.map Pm.part⟩ = true) (om : ∀ m ∈ ms, m.part.Ok) : (Pf.enc ⟨sz, ms.map Pm.part⟩).length ≤ 1000000 := by
  unfold Pf.right at h
  simp only [Bool.and_eq_true, List.length_map] at h
  obtain ⟨_, h1, h2⟩ := h
  have h3 := (inR_iff.1 h1).2
  have h4 : ∀ x ∈ ms.map Pm.part, x.enc.length ≤ 20000 := by
    intro x hx
    have hr := List.all_eq_true.1 h2 x hx
    obtain ⟨m, hm, rfl⟩ := List.mem_map.1 hx
    exact Pa.enc_len hr (om m hm)
  have h5 : ∀ l : List Pa, (∀ x ∈ l, x.enc.length ≤ 20000) → (l.flatMap Pa.enc).length ≤ l.length * 20000 := by
    intro l
    induction l with
    | nil => intro _; simp
    | cons x l ih =>
      intro h
      have a := h x (by simp)
      have b := ih (fun y hy => h y (by simp [hy]))
      rw [List.flatMap_cons, List.length_append, List.length_cons]
      omega
  have h6 := h5 _ h4
  rw [List.length_map] at h6
  unfold Pf.enc encL
  simp only [List.length_append, num_length, List.length_map]
  omega

theorem EncodeProof_any (w : World) (A : Option Addr) (c : Nat) (sz : Int) (ms : List Pm) (hsz : I64 sz) (hlm : ms.length ≤ maxLen) (M : LstM w A ms Pm.cells 4) (hm : ∀ m ∈ ms, m.In w) :
    Calls Try.prog 10 #[.agg #[.int .i64 sz, .slice A ms.length c]] w (Enc w (Pf.right ⟨sz, ms.map Pm.part⟩) (Pf.enc ⟨sz, ms.map Pm.part⟩)) := by
  have hC := (Chg.refl Non w).alloc (.cells #[.int .i64 sz, .slice A ms.length c] 26)
  have hb := Hb.new w 26 #[.int .i64 sz, .slice A ms.length c]
  have hs : (w.alloc (.cells #[.int .i64 sz, .slice A ms.length c] 26)).heap.size = w.heap.size + 1 := by simp
  have H := encoded_Proof (w.alloc (.cells #[.int .i64 sz, .slice A ms.length c] 26)) ⟨w.heap.size, 0, none⟩ (Pf.right ⟨sz, ms.map Pm.part⟩) (Pf.enc ⟨sz, ms.map Pm.part⟩) (fun h => by have := Pf.enc_len h (fun m h => (hm m h).1); omega) (fun w1 g k hg hw => by
    have hb1 := hb.chg k (fun f => f)
    have kw := hC.trans k (fun _ f => f.elim)
    have hgw : w.heap.size ≤ g := by omega
    have R : w1.rangeAt w.heap.size 0 [.int .i64 sz, .slice A ms.length c] := (show Hb w1 w.heap.size 26 [Value.int .i64 sz, .slice A ms.length c].toArray from hb1).range0
    exact proof_w g [] w1 _ w.heap.size 0 A c sz ms hw R hsz hlm ⟨M.not kw hgw, fun m h => (hm m h).2.2.not kw hgw⟩ (fun m h => ⟨(hm m h).1, (hm m h).2.1⟩) (by simp) (by rintro (h | h); omega; cases h) (by have := hb1.lt; omega))
  have HH := Lib.hid H
  have HC := Lib.hid hC
  clear H hC hb hs M hm
  generalize Pf.right ⟨sz, ms.map Pm.part⟩ = ok at *
  generalize Pf.enc ⟨sz, ms.map Pm.part⟩ = bs at *
  generalize ms.length = n at *
  go_enter Try.func10, Try.ntmps10
  go_wp2_with fail
  refine HH.out.mono ?_
  rintro e w1 ⟨h1, h2⟩
  clear HH
  have h0 := HC.out.trans h1 (fun _ f => f.elim)
  cases ok with
  | true =>
    obtain ⟨v, rfl, ho, hl⟩ := h2
    go_wp2
    go_ret2
    exact ⟨h0, v, rfl, ho, fun k hk => by have := hl k hk; have := HC.out.size; omega⟩
  | false =>
    obtain rfl := h2
    go_wp2
    go_ret2
    exact ⟨h0, rfl⟩
end Go.Proofs.Ytkpnajblaemoiaa

/- nunciolaw06.wanted: are bytes what the document says, or is there the error? -/
namespace Go.Proofs.Ytkpnajblaemoiaa
open Go.RowKit
set_option linter.unusedVariables false
set_option linter.unusedSimpArgs false
set_option maxRecDepth 20000

/-- What encoding leaves, in one form. -/
structure Was (w : World) (va : Value) (k : Int) (ok : Bool) (bs : List UInt8) : Prop where
  yes : ok = true → k = 0 ∧ Own 5 w va bs
  no : ok = false → k = 61 ∧ va = .slice none 0 0
theorem Was.chg {w w' : World} {va : Value} {k : Int} {ok : Bool} {bs : List UInt8} (h : Was w va k ok bs) (c : Chg Non w w') : Was w' va k ok bs := ⟨fun h2 => ⟨(h.yes h2).1, (h.yes h2).2.chg c (fun _ _ f => f)⟩, h.no⟩
theorem Enc.was {w w' : World} {ok : Bool} {bs : List UInt8} {e : Ending} (h : Enc w ok bs e w') : Chg Non w w' ∧ ∃ va k, e = .returned (.tuple #[va, .int .i64 k]) ∧ Was w' va k ok bs := by
  obtain ⟨h1, h2⟩ := h
  refine ⟨h1, ?_⟩
  cases ok with
  | true =>
    obtain ⟨v, rfl, ho, _⟩ := h2
    exact ⟨v, 0, rfl, ⟨fun _ => ⟨rfl, ho⟩, fun h => nomatch h⟩⟩
  | false =>
    obtain rfl := h2
    exact ⟨_, _, rfl, ⟨fun h => (nomatch h), fun _ => ⟨rfl, rfl⟩⟩⟩
theorem wanted_any (w : World) (va vb : Value) (k : Int) (ok : Bool) (bs : List UInt8) (ha : Was w va k ok bs) (hb : ok = true → Own 5 w vb bs) :
    Calls Try.prog 12 #[va, .int .i64 k, vb, .bool ok] w fun e w' => e = .returned (.bool true) ∧ w' = w := by
  cases ok with
  | false =>
    obtain ⟨rfl, rfl⟩ := ha.no rfl
    clear ha hb
    go_enter Try.func12, Try.ntmps12
    go_wp2_with fail
    go_ret
    exact ⟨rfl, rfl⟩
  | true =>
    obtain ⟨rfl, ho⟩ := ha.yes rfl
    obtain ⟨A, a, rfl, hA⟩ := ho.rd
    obtain ⟨B, b, rfl, hB⟩ := (hb rfl).rd
    have H := same_any w A B bs.length bs.length a b bs bs rfl rfl hA hB
    rw [decide_eq_true (rfl : bs = bs)] at H
    have HH := Lib.hid H
    generalize bs.length = n at *
    clear ha hb ho hA hB H
    go_enter Try.func12, Try.ntmps12
    go_wp2_with fail
    refine HH.out.mono ?_
    rintro e w1 ⟨rfl, rfl⟩
    go_wp2_with fail
    go_ret
    exact ⟨rfl, rfl⟩
theorem In.chg {w w' : World} {ms : List Pm} (h : ∀ m ∈ ms, m.In w) (k : Chg Non w w') : ∀ m ∈ ms, m.In w' := fun m hm => ⟨(h m hm).1, (h m hm).2.1, (h m hm).2.2.chg k⟩
end Go.Proofs.Ytkpnajblaemoiaa
