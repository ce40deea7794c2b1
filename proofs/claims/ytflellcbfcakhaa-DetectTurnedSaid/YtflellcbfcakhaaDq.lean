/- blamed: the keys that evidence names. -/
import Derived.Test.YtflellcbfcakhaaChecked
import Derived.WalkKit
import Derived.WalkLawsBesides
import Derived.Lib.Hide
import Derived.Deep.MidRow
import Derived.Test.YtflellcbfcakhaaDp
namespace Go.Proofs.Ytflellcbfcakhaa
open Go.RowKit
set_option linter.unusedVariables false
set_option linter.unusedSimpArgs false
set_option maxRecDepth 20000

theorem skeys_len (x : Li) : (skeys x.se).length = x.se.length := by simp [skeys]
/-- The map of a block's signers. -/
theorem signed_any (w : World) (g c : Nat) (x : Li) (ox : x.Ok) (hl : x.se.length ≤ 100000) (hb : Hb w g 43 (rowK (skeys x.se))) :
    Calls Try.prog 17 #[.slice (some ⟨g, 0, none⟩) x.se.length c] w fun e w' => Chg Non w w' ∧ ∃ b, w.heap.size ≤ b ∧ e = .returned (.map (some b)) ∧ Hid (MapI .u64 43 w' b x.se.length (cntM (skeys x.se))) := by
  have := once_any w g c (skeys x.se) (by rw [skeys_len]; exact hl) (skeys_ok ox) hb
  rw [skeys_len] at this
  exact this
set_option maxHeartbeats 3200000 in
theorem blamed_lun (N : Nat) (hN : N ≤ 100000) (hS : SortOK N) (w : World) (x y z : Li) (ox : x.Ok) (oy : y.Ok) (oz : z.Ok) (nx : x.In w) (ny : y.In w) (nz : z.In w) (hy : y.se.length ≤ N) (hz : z.se.length ≤ N) (hk : kd y z = sLun) :
    Calls Try.prog 13 #[.string sLun, .agg x.cells.toArray, .agg y.cells.toArray, .agg z.cells.toArray] w (BlK (Keys x y z) w) := by
  have HK := Lib.hid hk
  have HS := Lib.hid hS
  have HF : Hid (∀ w1 w2 w3, Chg Non w w1 → Chg Non w1 w2 → Chg Non w2 w3 → Hid (Hb w1 w.heap.size 31 x.cells.toArray) → Hid (Hb w2 w1.heap.size 31 y.cells.toArray) → Hid (Hb w3 w2.heap.size 31 z.cells.toArray) →
      Hid (Hb w3 w.heap.size 31 x.cells.toArray) ∧ Hid (Hb w3 w1.heap.size 31 y.cells.toArray) ∧ Hid (Hb w3 w2.heap.size 31 z.cells.toArray) ∧ Hid (Chg Non w w3) ∧ w3.rangeAt w1.heap.size 0 y.cells) := Lib.hid fun w1 w2 w3 k1 k2 k3 h1 h2 h3 => by
    have a1 := (h1.out.chg k2 (fun f => f)).chg k3 (fun f => f)
    have a2 := h2.out.chg k3 (fun f => f)
    exact ⟨Lib.hid a1, Lib.hid a2, h3, Lib.hid ((k1.trans k2 (fun _ f => f.elim)).trans k3 (fun _ f => f.elim)), a2.range0⟩
  have ry := light_row y oy
  have rz := light_row z oz
  have HSG : Hid (∀ w', Chg Non w w' → Calls Try.prog 18 #[.agg y.cells.toArray] w' fun e w'' => Chg Non w' w'' ∧ ∃ g, w'.heap.size ≤ g ∧ e = .returned (.slice (some ⟨g, 0, none⟩) y.se.length y.se.length) ∧ Hid (Hb w'' g 43 (rowK (skeys y.se)))) := Lib.hid fun w' k => signers_any w' y oy (ny.chg k) (by omega)
  have HON : Hid (∀ w' g, Hid (Hb w' g 43 (rowK (skeys y.se))) → Calls Try.prog 17 #[.slice (some ⟨g, 0, none⟩) y.se.length y.se.length] w' fun e w'' => Chg Non w' w'' ∧ ∃ b, w'.heap.size ≤ b ∧ e = .returned (.map (some b)) ∧ Hid (MapI .u64 43 w'' b y.se.length (cntM (skeys y.se)))) := Lib.hid fun w' g h => signed_any w' g _ y oy (by omega) h.out
  have HOX := Lib.hid (And.intro ox nx)
  have HOY := Lib.hid (And.intro oy ny)
  have HOZ := Lib.hid (And.intro oz nz)
  have HLY : Hid (y.se.length ≤ N ∧ z.se.length ≤ N ∧ N ≤ 100000) := Lib.hid ⟨hy, hz, hN⟩
  clear ox oy oz nx ny nz hy hz hN hk hS
  unfold sLun
  go_enter Try.func13, Try.ntmps13
  go_wp2_with (first | (with_reducible refine wpList_box_h rfl _ _ rfl x.cells rfl ?_; intro w1 k1 h1) | (with_reducible refine wpList_box_h rfl _ _ rfl y.cells rfl ?_; intro w2 k2 h2) | (with_reducible refine wpList_box_h rfl _ _ rfl z.cells rfl ?_; intro w3 k3 h3; obtain ⟨HX, HY, HZ, HC, p2⟩ := HF.out w1 w2 w3 k1 k2 k3 h1 h2 h3) | (with_reducible refine wpList_load_mid rfl 31 _ rfl w1.heap.size 0 rfl y.cells _ p2 Try.underlying31 rfl ry ?_))
  refine (HSG.out w3 HC.out).mono ?_
  rintro e w4 ⟨k4, g4, _, rfl, hk4⟩
  have HC4 := Lib.hid (HC.out.trans k4 (fun _ f => f.elim))
  have HX4 := Lib.hid (HX.out.chg k4 (fun f => f))
  have HY4 := Lib.hid (HY.out.chg k4 (fun f => f))
  have HZ4 := Lib.hid (HZ.out.chg k4 (fun f => f))
  clear k4 HX HY HZ HC p2 h1 h2 h3 k1 k2 k3 HF
  go_wp2_with fail
  refine (HON.out w4 g4 hk4).mono ?_
  rintro e w5 ⟨k5, b5, _, rfl, hm5⟩
  have HC5 := Lib.hid (HC4.out.trans k5 (fun _ f => f.elim))
  have HX5 := Lib.hid (HX4.out.chg k5 (fun f => f))
  have HY5 := Lib.hid (HY4.out.chg k5 (fun f => f))
  have HZ5 := Lib.hid (HZ4.out.chg k5 (fun f => f))
  clear k5 HX4 HY4 HZ4 HC4 hk4
  have z5 := HZ5.out.range0
  go_wp2_with fail
  refine (rising_any N HLY.out.2.2 HS.out w5 b5 (cntM (skeys y.se)) (hm5.out.mono HLY.out.1) 20 ent_b1 #[.pointer (some ⟨w.heap.size, 0, none⟩)] (fun k => decide (pw x.nx k ≠ 0)) (fun w' k kc hk => so1_any w' w.heap.size k x HOX.out.1 (HOX.out.2.chg (HC5.out.trans kc (fun _ f => f.elim))) (HX5.out.chg kc (fun f => f)))).mono ?_
  rintro e w9 ⟨k9, v9, rs9, rfl, o9, r9, q9⟩
  have HB : Hid (BlK (Keys x y z) w (.returned v9) w9) := Lib.hid (ris_blk HC5.out ⟨k9, v9, rs9, rfl, o9, r9, q9⟩ (fun k => by
    unfold Nam
    rw [cntM_some, HK.out]
    constructor
    · rintro ⟨_, h1, h2⟩
      exact ⟨h1, .inl ⟨rfl, by simpa using h2⟩⟩
    · rintro ⟨h1, h2⟩
      refine ⟨skeys_ok HOY.out.1 k h1, h1, ?_⟩
      rcases h2 with ⟨_, h2⟩ | ⟨h2, _⟩
      · simpa using h2
      · exact absurd h2 (by decide)))
  clear o9 r9 q9 k9
  go_wp2_with fail
  go_ret
  exact HB.out
set_option maxHeartbeats 3200000 in
theorem blamed_equ (N : Nat) (hN : N ≤ 100000) (hS : SortOK N) (w : World) (x y z : Li) (ox : x.Ok) (oy : y.Ok) (oz : z.Ok) (nx : x.In w) (ny : y.In w) (nz : z.In w) (hy : y.se.length ≤ N) (hz : z.se.length ≤ N) (hk : kd y z = sEqu) :
    Calls Try.prog 13 #[.string sEqu, .agg x.cells.toArray, .agg y.cells.toArray, .agg z.cells.toArray] w (BlK (Keys x y z) w) := by
  have HK := Lib.hid hk
  have HS := Lib.hid hS
  have HF : Hid (∀ w1 w2 w3, Chg Non w w1 → Chg Non w1 w2 → Chg Non w2 w3 → Hid (Hb w1 w.heap.size 31 x.cells.toArray) → Hid (Hb w2 w1.heap.size 31 y.cells.toArray) → Hid (Hb w3 w2.heap.size 31 z.cells.toArray) →
      Hid (Hb w3 w.heap.size 31 x.cells.toArray) ∧ Hid (Hb w3 w1.heap.size 31 y.cells.toArray) ∧ Hid (Hb w3 w2.heap.size 31 z.cells.toArray) ∧ Hid (Chg Non w w3) ∧ w3.rangeAt w1.heap.size 0 y.cells) := Lib.hid fun w1 w2 w3 k1 k2 k3 h1 h2 h3 => by
    have a1 := (h1.out.chg k2 (fun f => f)).chg k3 (fun f => f)
    have a2 := h2.out.chg k3 (fun f => f)
    exact ⟨Lib.hid a1, Lib.hid a2, h3, Lib.hid ((k1.trans k2 (fun _ f => f.elim)).trans k3 (fun _ f => f.elim)), a2.range0⟩
  have ry := light_row y oy
  have rz := light_row z oz
  have HSG : Hid (∀ w', Chg Non w w' → Calls Try.prog 18 #[.agg y.cells.toArray] w' fun e w'' => Chg Non w' w'' ∧ ∃ g, w'.heap.size ≤ g ∧ e = .returned (.slice (some ⟨g, 0, none⟩) y.se.length y.se.length) ∧ Hid (Hb w'' g 43 (rowK (skeys y.se)))) := Lib.hid fun w' k => signers_any w' y oy (ny.chg k) (by omega)
  have HON : Hid (∀ w' g, Hid (Hb w' g 43 (rowK (skeys y.se))) → Calls Try.prog 17 #[.slice (some ⟨g, 0, none⟩) y.se.length y.se.length] w' fun e w'' => Chg Non w' w'' ∧ ∃ b, w'.heap.size ≤ b ∧ e = .returned (.map (some b)) ∧ Hid (MapI .u64 43 w'' b y.se.length (cntM (skeys y.se)))) := Lib.hid fun w' g h => signed_any w' g _ y oy (by omega) h.out
  have HOX := Lib.hid (And.intro ox nx)
  have HOY := Lib.hid (And.intro oy ny)
  have HOZ := Lib.hid (And.intro oz nz)
  have HLY : Hid (y.se.length ≤ N ∧ z.se.length ≤ N ∧ N ≤ 100000) := Lib.hid ⟨hy, hz, hN⟩
  have HSG2 : Hid (∀ w', Chg Non w w' → Calls Try.prog 18 #[.agg z.cells.toArray] w' fun e w'' => Chg Non w' w'' ∧ ∃ g, w'.heap.size ≤ g ∧ e = .returned (.slice (some ⟨g, 0, none⟩) z.se.length z.se.length) ∧ Hid (Hb w'' g 43 (rowK (skeys z.se)))) := Lib.hid fun w' k => signers_any w' z oz (nz.chg k) (by omega)
  have HON2 : Hid (∀ w' g, Hid (Hb w' g 43 (rowK (skeys z.se))) → Calls Try.prog 17 #[.slice (some ⟨g, 0, none⟩) z.se.length z.se.length] w' fun e w'' => Chg Non w' w'' ∧ ∃ b, w'.heap.size ≤ b ∧ e = .returned (.map (some b)) ∧ Hid (MapI .u64 43 w'' b z.se.length (cntM (skeys z.se)))) := Lib.hid fun w' g h => signed_any w' g _ z oz (by omega) h.out
  clear ox oy oz nx ny nz hy hz hN hk hS
  unfold sEqu
  go_enter Try.func13, Try.ntmps13
  go_wp2_with (first | (with_reducible refine wpList_box_h rfl _ _ rfl x.cells rfl ?_; intro w1 k1 h1) | (with_reducible refine wpList_box_h rfl _ _ rfl y.cells rfl ?_; intro w2 k2 h2) | (with_reducible refine wpList_box_h rfl _ _ rfl z.cells rfl ?_; intro w3 k3 h3; obtain ⟨HX, HY, HZ, HC, p2⟩ := HF.out w1 w2 w3 k1 k2 k3 h1 h2 h3) | (with_reducible refine wpList_load_mid rfl 31 _ rfl w1.heap.size 0 rfl y.cells _ p2 Try.underlying31 rfl ry ?_))
  refine (HSG.out w3 HC.out).mono ?_
  rintro e w4 ⟨k4, g4, _, rfl, hk4⟩
  have HC4 := Lib.hid (HC.out.trans k4 (fun _ f => f.elim))
  have HX4 := Lib.hid (HX.out.chg k4 (fun f => f))
  have HY4 := Lib.hid (HY.out.chg k4 (fun f => f))
  have HZ4 := Lib.hid (HZ.out.chg k4 (fun f => f))
  clear k4 HX HY HZ HC p2 h1 h2 h3 k1 k2 k3 HF
  go_wp2_with fail
  refine (HON.out w4 g4 hk4).mono ?_
  rintro e w5 ⟨k5, b5, _, rfl, hm5⟩
  have HC5 := Lib.hid (HC4.out.trans k5 (fun _ f => f.elim))
  have HX5 := Lib.hid (HX4.out.chg k5 (fun f => f))
  have HY5 := Lib.hid (HY4.out.chg k5 (fun f => f))
  have HZ5 := Lib.hid (HZ4.out.chg k5 (fun f => f))
  clear k5 HX4 HY4 HZ4 HC4 hk4
  have z5 := HZ5.out.range0
  go_wp2_with (first | (with_reducible refine wpList_load_mid rfl 31 _ rfl w2.heap.size 0 rfl z.cells _ z5 Try.underlying31 rfl rz ?_))
  refine (HSG2.out w5 HC5.out).mono ?_
  rintro e w6 ⟨k6, g6, _, rfl, hk6⟩
  have HC6 := Lib.hid (HC5.out.trans k6 (fun _ f => f.elim))
  have HM6 := Lib.hid (hm5.out.chg k6 (fun f => f))
  have HY6 := Lib.hid (HY5.out.chg k6 (fun f => f))
  clear k6 HX5 HY5 HZ5 HC5 hm5 z5
  go_wp2_with fail
  refine (HON2.out w6 g6 hk6).mono ?_
  rintro e w7 ⟨k7, b7, _, rfl, hm7⟩
  have HC7 := Lib.hid (HC6.out.trans k7 (fun _ f => f.elim))
  have HM7 := Lib.hid (HM6.out.chg k7 (fun f => f))
  have HY7 := Lib.hid (HY6.out.chg k7 (fun f => f))
  clear k7 HM6 HY6 HC6 hk6
  have k8 := (Chg.refl Non w7).alloc (.cells #[.map (some b7)] 63)
  have HM8 := Lib.hid (HM7.out.chg k8 (fun f => f))
  have HN8 := Lib.hid (hm7.out.chg k8 (fun f => f))
  have HY8 := Lib.hid (HY7.out.chg k8 (fun f => f))
  have HC8 := Lib.hid (HC7.out.trans k8 (fun _ f => f.elim))
  have HX8 := Lib.hid ((Hb.new w7 63 #[.map (some b7)]).cell 0)
  clear HM7 HY7 HC7 hm7 k8
  go_wp2_with fail
  generalize w7.alloc (.cells #[.map (some b7)] 63) = w8 at *
  generalize w7.heap.size = g8 at *
  refine (rising_any N HLY.out.2.2 HS.out w8 b5 (cntM (skeys y.se)) (HM8.out.mono HLY.out.1) 22 ent_b2 #[.pointer (some ⟨g8, 0, none⟩), .pointer (some ⟨w1.heap.size, 0, none⟩)] (fun k => decide (k ∈ skeys z.se) && decide (pw y.sv k ≠ 0)) (fun w' k kc hk => so2_any w' w1.heap.size g8 b7 k _ y HOY.out.1 (HOY.out.2.chg (HC8.out.trans kc (fun _ f => f.elim))) (HY8.out.chg kc (fun f => f)) (skeys z.se) (kc.cell HX8.out (fun f => f)) (HN8.out.chg kc (fun f => f)) hk)).mono ?_
  rintro e w9 ⟨k9, v9, rs9, rfl, o9, r9, q9⟩
  have HB : Hid (BlK (Keys x y z) w (.returned v9) w9) := Lib.hid (ris_blk HC8.out ⟨k9, v9, rs9, rfl, o9, r9, q9⟩ (fun k => by
    unfold Nam
    rw [cntM_some, HK.out]
    constructor
    · rintro ⟨_, h1, h2⟩
      rw [Bool.and_eq_true] at h2
      exact ⟨h1, .inr ⟨rfl, by simpa using h2.1, by simpa using h2.2⟩⟩
    · rintro ⟨h1, h2⟩
      refine ⟨skeys_ok HOY.out.1 k h1, h1, ?_⟩
      rcases h2 with ⟨h2, _⟩ | ⟨_, h2, h3⟩
      · exact absurd h2 (by decide)
      · rw [Bool.and_eq_true]
        exact ⟨by simpa using h2, by simpa using h3⟩))
  clear o9 r9 q9 k9
  go_wp2_with fail
  go_ret
  exact HB.out
set_option maxHeartbeats 3200000 in
theorem blamed_amn (N : Nat) (hN : N ≤ 100000) (hS : SortOK N) (w : World) (x y z : Li) (ox : x.Ok) (oy : y.Ok) (oz : z.Ok) (nx : x.In w) (ny : y.In w) (nz : z.In w) (hy : y.se.length ≤ N) (hz : z.se.length ≤ N) (hk : kd y z = sAmn) :
    Calls Try.prog 13 #[.string sAmn, .agg x.cells.toArray, .agg y.cells.toArray, .agg z.cells.toArray] w (BlK (Keys x y z) w) := by
  have HK := Lib.hid hk
  have HS := Lib.hid hS
  have HF : Hid (∀ w1 w2 w3, Chg Non w w1 → Chg Non w1 w2 → Chg Non w2 w3 → Hid (Hb w1 w.heap.size 31 x.cells.toArray) → Hid (Hb w2 w1.heap.size 31 y.cells.toArray) → Hid (Hb w3 w2.heap.size 31 z.cells.toArray) →
      Hid (Hb w3 w.heap.size 31 x.cells.toArray) ∧ Hid (Hb w3 w1.heap.size 31 y.cells.toArray) ∧ Hid (Hb w3 w2.heap.size 31 z.cells.toArray) ∧ Hid (Chg Non w w3) ∧ w3.rangeAt w1.heap.size 0 y.cells) := Lib.hid fun w1 w2 w3 k1 k2 k3 h1 h2 h3 => by
    have a1 := (h1.out.chg k2 (fun f => f)).chg k3 (fun f => f)
    have a2 := h2.out.chg k3 (fun f => f)
    exact ⟨Lib.hid a1, Lib.hid a2, h3, Lib.hid ((k1.trans k2 (fun _ f => f.elim)).trans k3 (fun _ f => f.elim)), a2.range0⟩
  have ry := light_row y oy
  have rz := light_row z oz
  have HSG : Hid (∀ w', Chg Non w w' → Calls Try.prog 18 #[.agg y.cells.toArray] w' fun e w'' => Chg Non w' w'' ∧ ∃ g, w'.heap.size ≤ g ∧ e = .returned (.slice (some ⟨g, 0, none⟩) y.se.length y.se.length) ∧ Hid (Hb w'' g 43 (rowK (skeys y.se)))) := Lib.hid fun w' k => signers_any w' y oy (ny.chg k) (by omega)
  have HON : Hid (∀ w' g, Hid (Hb w' g 43 (rowK (skeys y.se))) → Calls Try.prog 17 #[.slice (some ⟨g, 0, none⟩) y.se.length y.se.length] w' fun e w'' => Chg Non w' w'' ∧ ∃ b, w'.heap.size ≤ b ∧ e = .returned (.map (some b)) ∧ Hid (MapI .u64 43 w'' b y.se.length (cntM (skeys y.se)))) := Lib.hid fun w' g h => signed_any w' g _ y oy (by omega) h.out
  have HOX := Lib.hid (And.intro ox nx)
  have HOY := Lib.hid (And.intro oy ny)
  have HOZ := Lib.hid (And.intro oz nz)
  have HLY : Hid (y.se.length ≤ N ∧ z.se.length ≤ N ∧ N ≤ 100000) := Lib.hid ⟨hy, hz, hN⟩
  clear ox oy oz nx ny nz hy hz hN hk hS
  unfold sAmn
  go_enter Try.func13, Try.ntmps13
  go_wp2_with (first | (with_reducible refine wpList_box_h rfl _ _ rfl x.cells rfl ?_; intro w1 k1 h1) | (with_reducible refine wpList_box_h rfl _ _ rfl y.cells rfl ?_; intro w2 k2 h2) | (with_reducible refine wpList_box_h rfl _ _ rfl z.cells rfl ?_; intro w3 k3 h3; obtain ⟨HX, HY, HZ, HC, p2⟩ := HF.out w1 w2 w3 k1 k2 k3 h1 h2 h3) | (with_reducible refine wpList_load_mid rfl 31 _ rfl w1.heap.size 0 rfl y.cells _ p2 Try.underlying31 rfl ry ?_))
  refine (HSG.out w3 HC.out).mono ?_
  rintro e w4 ⟨k4, g4, _, rfl, hk4⟩
  have HC4 := Lib.hid (HC.out.trans k4 (fun _ f => f.elim))
  have HX4 := Lib.hid (HX.out.chg k4 (fun f => f))
  have HY4 := Lib.hid (HY.out.chg k4 (fun f => f))
  have HZ4 := Lib.hid (HZ.out.chg k4 (fun f => f))
  clear k4 HX HY HZ HC p2 h1 h2 h3 k1 k2 k3 HF
  go_wp2_with fail
  refine (HON.out w4 g4 hk4).mono ?_
  rintro e w5 ⟨k5, b5, _, rfl, hm5⟩
  have HC5 := Lib.hid (HC4.out.trans k5 (fun _ f => f.elim))
  have HX5 := Lib.hid (HX4.out.chg k5 (fun f => f))
  have HY5 := Lib.hid (HY4.out.chg k5 (fun f => f))
  have HZ5 := Lib.hid (HZ4.out.chg k5 (fun f => f))
  clear k5 HX4 HY4 HZ4 HC4 hk4
  have z5 := HZ5.out.range0
  have HB : Hid (BlK (Keys x y z) w (.returned (.slice none 0 0)) w5) := Lib.hid (nil_blk HC5.out (fun k h => by
    unfold Nam at h
    rw [HK.out] at h
    rcases h.2 with ⟨h2, _⟩ | ⟨h2, _⟩
    · exact absurd h2 (by decide)
    · exact absurd h2 (by decide)))
  go_wp2_with fail
  go_ret
  exact HB.out
theorem blamed_any (N : Nat) (hN : N ≤ 100000) (hS : SortOK N) (w : World) (x y z : Li) (ox : x.Ok) (oy : y.Ok) (oz : z.Ok) (nx : x.In w) (ny : y.In w) (nz : z.In w) (hy : y.se.length ≤ N) (hz : z.se.length ≤ N) :
    Calls Try.prog 13 #[.string (kd y z), .agg x.cells.toArray, .agg y.cells.toArray, .agg z.cells.toArray] w (BlK (Keys x y z) w) := by
  rcases kd_cases y z with h | h | h
  · rw [h]; exact blamed_lun N hN hS w x y z ox oy oz nx ny nz hy hz h
  · rw [h]; exact blamed_equ N hN hS w x y z ox oy oz nx ny nz hy hz h
  · rw [h]; exact blamed_amn N hN hS w x y z ox oy oz nx ny nz hy hz h
/-- Classify, whatever the blocks. -/
theorem Classify_all (N : Nat) (hN : N ≤ 100000) (hS : SortOK N) (w : World) (x y z : Li) (ox : x.Ok) (oy : y.Ok) (oz : z.Ok) (nx : x.In w) (ny : y.In w) (nz : z.In w) (h1 : y.se.length ≤ N) (h2 : y.sv.length ≤ 100000) (h3 : y.nx.length ≤ 100000) (h4 : z.se.length ≤ N) :
    Calls Try.prog 6 #[.agg x.cells.toArray, .agg y.cells.toArray, .agg z.cells.toArray] w (Clf (Keys x y z) x y z w) :=
  Classify_any (Keys x y z) w x y z ox oy oz ny (by omega) h2 h3 (fun w' k => blamed_any N hN hS w' x y z ox oy oz (nx.chg k) (ny.chg k) (nz.chg k) h1 h4)
end Go.Proofs.Ytflellcbfcakhaa
