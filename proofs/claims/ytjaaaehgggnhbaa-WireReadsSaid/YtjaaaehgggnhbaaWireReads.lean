/- Of the program at this commit: the law WireReads answers true for all bytes and every list of fields (any bytes, read by any fields, answer as the document says, field by field, and at the end; they stay); no condition. -/
import Derived.Test.YtjaaaehgggnhbaaRows
import Derived.WalkKit
import Derived.ProofKit
import Derived.Deep.RegionHeld3
import Derived.Test.YtjaaaehgggnhbaaRt
namespace Go.Proofs.Ytjaaaehgggnhbaa.wireReads
open Go.ChangeShapes Go.WideShapes Go.ChangeAt Go.RowKit
set_option linter.unusedVariables false

/-- A round's head: both readers stand at the same place; the slice that was handed in is as it was. -/
structure Rel (W : World) (b : List UInt8) (A : Option Addr) (g1 g2 : Nat) (F1 : Nat → Prop) (w : World) (st : Option (List UInt8)) : Prop where
  r1 : Rdr w g1 F1 st
  r2 : RdF w g2 (fun j => j < W.heap.size) st
  own : Rd w A (b ++ [77])
  apart : ∀ j, abl A j → j ≠ g1 ∧ j ≠ g2
  ne : g1 ≠ g2
  f1 : ¬ F1 g2
  b1 : W.heap.size ≤ g1
  b2 : W.heap.size ≤ g2
  below : Below W.heap.size W w

theorem Rel.one {W : World} {b : List UInt8} {A : Option Addr} {g1 g2 : Nat} {F1 : Nat → Prop} {w w1 : World} {st : Option (List UInt8)} (h : Rel W b A g1 g2 F1 w st) (hC1 : Chg (Eqg g1) w w1) : RdF w1 g2 (fun j => j < W.heap.size) st :=
  h.r2.chg hC1 (fun e => h.ne (by unfold Eqg at e; exact e.symm)) (fun j hj e => by unfold Eqg at e; have := h.b1; omega)
theorem Rel.lt1 {W : World} {b : List UInt8} {A : Option Addr} {g1 g2 : Nat} {F1 : Nat → Prop} {w w1 : World} {st : Option (List UInt8)} (h : Rel W b A g1 g2 F1 w st) (hC1 : Chg (Eqg g1) w w1) : ∀ j, j < W.heap.size → j < w1.heap.size :=
  fun j hj => Nat.lt_of_lt_of_le (Nat.lt_of_lt_of_le hj h.below.size) hC1.size
theorem Rel.step {W : World} {b : List UInt8} {A : Option Addr} {g1 g2 : Nat} {F1 : Nat → Prop} {w w1 w2 : World} {st s2 : Option (List UInt8)} (h : Rel W b A g1 g2 F1 w st)
    (h1 : Rdr w1 g1 F1 s2) (hC1 : Chg (Eqg g1) w w1) (h2 : RdF w2 g2 (fun j => j < W.heap.size) s2) (hC2 : Chg (Eqg g2) w1 w2) : Rel W b A g1 g2 F1 w2 s2 := by
  have hB := h.below.size
  have hB1 := hC1.size
  refine ⟨h1.chg hC2 h.ne (fun j hj e => h.f1 (by unfold Eqg at e; rw [← e]; exact hj)), h2, (h.own.chg hC1 (fun j hj e => (h.apart j hj).1 e)).chg hC2 (fun j hj e => (h.apart j hj).2 e), h.apart, h.ne, h.f1, h.b1, h.b2, ?_⟩
  exact (h.below.trans (hC1.below hB (fun j hj => by unfold Eqg at hj; subst hj; exact h.b1))).trans (hC2.below (Nat.le_trans hB hB1) (fun j hj => by unfold Eqg at hj; subst hj; exact h.b2))

set_option maxRecDepth 100000 in
set_option maxHeartbeats 4000000 in
theorem walk (W : World) (v0 v1 : Value) (h0 : Okv Try.prog W 26 v0) (h1 : Okv Try.prog W 22 v1) :
    Calls Try.prog 4 #[v0, v1] W fun e W' => e = .returned (.bool true) ∧ Below W.heap.size W W' := by
  obtain ⟨A0, c0, b, rfl, hbc, hb63, hrb, hbl⟩ := bytes_arg h0
  obtain ⟨A, n, c, L, rfl, hnc, hcm, hL⟩ := fields_of h1
  have hn63 : n ≤ 9223372036854775807 := by unfold maxLen at hcm; omega
  have hb63' : b.length ≤ 9223372036854775807 := by unfold maxLen at hb63; omega
  have HBL := Lib.hid hbl
  clear h0 h1 hbl
  by_cases hbig : 20000 < b.length
  · go_enter Try.func4, Try.ntmps4
    go_wp2_with fail
    refine (alive_any _).mono ?_
    rintro e w1 ⟨rfl, hc1⟩
    go_wp2
    go_ret
    exact ⟨rfl, hc1.below (Nat.le_refl _) (fun _ f => f.elim)⟩
  · go_enter Try.func4, Try.ntmps4
    go_wp2_with (first
      | (at_builtin; refine wpList_app byt _ rfl _ _ rfl (v := .slice (some ⟨W.heap.size, 0, none⟩) 0 0) rfl (own_zero W) rfl rfl (hrb.chg ((Chg.refl Non W).alloc _) (fun _ _ f => f)) (by simp; omega) ?_; intro v5 w5 ho5 hgr5 hloc5)
      | (at_builtin; refine wpList_app byt _ rfl _ _ rfl (v := v5) rfl (ho5.chg ((Chg.refl Non w5).alloc _) (fun _ _ f => f)) rfl (l2 := [77]) rfl (rd_byte w5 77) (by simp; omega) ?_; intro v6 w6 ho6 hgr6 hloc6; rw [List.nil_append] at ho6; obtain ⟨A6, c6, rfl, hc6, hm6, hr6, hab6, hlt6⟩ := ho6.slice; rw [List.length_append, List.length_singleton] at hc6))
    have G0 : Grow W (W.alloc (.cells #[] 5)) (.slice (some ⟨W.heap.size, 0, none⟩) 0 0) [] := ⟨own_zero W, fun k hk => by have hk' : some W.heap.size = some k := hk; injection hk' with e; omega, (Chg.refl Non W).alloc _⟩
    have G6 := (G0.more (Chg.refl _ _) ho5 hgr5 hloc5).more ((Chg.refl Non w5).alloc _) ho6 hgr6 hloc6
    have hnew6 := G6.new
    have hC6 := G6.chg
    clear G0 G6 ho5 hgr5 hloc5 ho6 hgr6 hloc6
    obtain ⟨ad6, rfl, _⟩ := hr6.blk_lt (by simp)
    have hap : W.heap.size ≤ ad6.block ∧ ad6.block < w6.heap.size := ⟨hnew6 _ ((hab6 _).1 ⟨ad6, rfl, rfl⟩), hlt6 _ ⟨ad6, rfl, rfl⟩⟩
    clear hnew6 hab6 hlt6
    have hrb6 : Rd w6 (some ad6) b := by have := hr6.take b.length; rwa [List.take_left] at this
    refine (newReader_any _ (some ad6) b.length c6 b rfl hrb6 (by omega)).mono ?_
    rintro e w7 ⟨g1, F1, rfl, hR1, hg1, hF1, hC7⟩
    clear hrb6
    go_wp2_with fail
    refine (alive_any _).mono ?_
    rintro e w8 ⟨rfl, hC8⟩
    have R0 : Rel W b (some ad6) g1 w7.heap.size F1 w8 (some b) := by
      have hb2 := (Hb.new w7 48 #[.slice A0 b.length c0, .bool false]).chg hC8 (fun f => f)
      have ha := (Chg.refl Non w7).alloc (.cells #[.slice A0 b.length c0, .bool false] 48)
      have h78 := ha.trans hC8 (fun _ h => .inl h)
      have h68 := hC7.trans h78 (fun _ h => .inl h)
      have h08 := hC6.trans h68 (fun _ h => .inl h)
      have e1 := hC6.size
      have e2 := hC7.size
      have e3 := hR1.lt
      refine ⟨hR1.chg h78 (fun f => f) (fun _ _ f => f), ⟨by omega, A0, c0, hb2, hrb.chg h08 (fun _ _ f => f), hbc, hb63, fun h j hj => HBL.out j h hj⟩, hr6.chg h68 (fun _ _ f => f), ?_, by omega, fun h => by have := hR1.Flt _ h; omega, by omega, by omega, h08.below (Nat.le_refl _) (fun _ f => f.elim)⟩
      rintro j ⟨ad', e, rfl⟩
      injection e with e
      subst e
      omega
    clear hR1 hC6 hC7 hC8 hr6 hg1 hF1
    go_wp2_with fail
    go_loopw [8] (fun i wr => ∃ (k : Nat) (st : Option (List UInt8)), i = .int .i64 (k : Int) ∧ k ≤ 40 ∧ Rel W b (some ad6) g1 w7.heap.size F1 wr st) (fun i _ => 40 - (intOf i).toNat)
    case atStart => exact ⟨0, some b, rfl, by omega, R0⟩
    case round =>
      obtain ⟨k, st, rfl, hk40, R⟩ := hrel
      clear R0
      by_cases hkn : k < n
      · by_cases hk : k < 40
        · have hk' : decide ((k : Int) < 40) = true := by simp; omega
          obtain ⟨ok, a, hA, hat⟩ := hL k hkn
          subst hA
          have hlt := hat.lt
          have hat' := hat.below R.below hlt
          have n1 : ¬ Eqg g1 (a.add (k * 36)).block := by unfold Eqg; have := R.b1; omega
          have n2 : ¬ Eqg w7.heap.size (a.add (k * 36)).block := by unfold Eqg; have := R.b2; omega
          generalize L k = f at *
          have hfk := hat'.k
          have hfn := hat'.n
          clear hat'
          by_cases h1 : f.k = 1
          · rw [h1] at hfk
            go_wp2_with fail
            refine (numberR_v _ g1 F1 st R.r1).mono ?_
            rintro e x1 ⟨rfl, z1, z2⟩
            go_wp2_with fail
            refine (refRNumber _ w7.heap.size _ st (R.one z2) (R.lt1 z2)).mono ?_
            rintro e x2 ⟨rfl, z3, z4⟩
            have R2 := R.step z1 z2 z3 z4
            clear z1 z2 z3 z4
            generalize vN st = xv at *
            go_wp2_with fail
            refine (endR_any _ g1 F1 _ R2.r1).mono ?_
            rintro e y1 ⟨rfl, rfl⟩
            go_wp2_with fail
            refine (refREnd _ w7.heap.size _ _ R2.r2).mono ?_
            rintro e y2 ⟨rfl, rfl⟩
            generalize endv _ = ev
            go_wp2_with fail
            go_roundw
            case rel => exact ⟨k + 1, nW st, by go_num, by omega, R2⟩
            case measure => simp [intOf]; omega
          have k1 : (f.k == 1) = false := by simpa using h1
          by_cases h2 : f.k = 2
          · rw [h2] at hfk
            go_wp2_with fail
            refine (wordR_v _ g1 F1 st R.r1).mono ?_
            rintro e x1 ⟨rfl, z1, z2⟩
            go_wp2_with fail
            refine (refRWord _ w7.heap.size _ st (R.one z2) (R.lt1 z2)).mono ?_
            rintro e x2 ⟨rfl, z3, z4⟩
            have R2 := R.step z1 z2 z3 z4
            clear z1 z2 z3 z4
            generalize vW st = xv at *
            go_wp2_with fail
            refine (endR_any _ g1 F1 _ R2.r1).mono ?_
            rintro e y1 ⟨rfl, rfl⟩
            go_wp2_with fail
            refine (refREnd _ w7.heap.size _ _ R2.r2).mono ?_
            rintro e y2 ⟨rfl, rfl⟩
            generalize endv _ = ev
            go_wp2_with fail
            go_roundw
            case rel => exact ⟨k + 1, nW st, by go_num, by omega, R2⟩
            case measure => simp [intOf]; omega
          have k2 : (f.k == 2) = false := by simpa using h2
          by_cases h3 : f.k = 3
          · rw [h3] at hfk
            have hvl := vH_length st
            go_wp2_with fail
            refine (hashR_v _ g1 F1 st R.r1).mono ?_
            rintro e x1 ⟨rfl, z1, z2⟩
            go_wp2_with fail
            refine (refRHash _ w7.heap.size _ st (R.one z2) (R.lt1 z2)).mono ?_
            rintro e x2 ⟨rfl, z3, z4⟩
            have R2 := R.step z1 z2 z3 z4
            clear z1 z2 z3 z4
            have HE : (Op.equalIn 10000 29 (.agg (bv (vH st)).toArray) (.agg (bv (vH st)).toArray)).run Try.prog x2 = .ok true x2 := by rw [run_eq_hash x2 hvl hvl]; simp
            clear hvl
            generalize vH st = xv at *
            go_wp2_with fail
            refine (endR_any _ g1 F1 _ R2.r1).mono ?_
            rintro e y1 ⟨rfl, rfl⟩
            go_wp2_with fail
            refine (refREnd _ w7.heap.size _ _ R2.r2).mono ?_
            rintro e y2 ⟨rfl, rfl⟩
            generalize endv _ = ev
            go_wp2_with fail
            go_roundw
            case rel => exact ⟨k + 1, nH st, by go_num, by omega, R2⟩
            case measure => simp [intOf]; omega
          have k3 : (f.k == 3) = false := by simpa using h3
          by_cases h4 : f.k = 4
          · rw [h4] at hfk
            go_wp2_with fail
            refine (textR_v _ g1 F1 st R.r1).mono ?_
            rintro e x1 ⟨rfl, z1, z2⟩
            go_wp2_with fail
            refine (refRText _ w7.heap.size _ st (R.one z2) (R.lt1 z2)).mono ?_
            rintro e x2 ⟨rfl, z3, z4⟩
            have R2 := R.step z1 z2 z3 z4
            clear z1 z2 z3 z4
            generalize vT st = xv at *
            go_wp2_with fail
            refine (endR_any _ g1 F1 _ R2.r1).mono ?_
            rintro e y1 ⟨rfl, rfl⟩
            go_wp2_with fail
            refine (refREnd _ w7.heap.size _ _ R2.r2).mono ?_
            rintro e y2 ⟨rfl, rfl⟩
            generalize endv _ = ev
            go_wp2_with fail
            go_roundw
            case rel => exact ⟨k + 1, nT st, by go_num, by omega, R2⟩
            case measure => simp [intOf]; omega
          have k4 : (f.k == 4) = false := by simpa using h4
          by_cases h5 : f.k = 5
          · rw [h5] at hfk
            have D1 := R.r1.chg ((Chg.refl Non wr).drew) (fun f => f) (fun _ _ f => f)
            have DC : ∀ x1 : World, Chg (Eqg g1) wr.drew x1 → Chg (Eqg g1) wr x1 := fun x1 h => ((Chg.refl (Eqg g1) wr).drew).trans h (fun _ h => .inl h)
            go_wp2_with fail
            go_region_held3 (fun w' => w'.cell? ⟨(a.add (k * 36)).block, (a.add (k * 36)).off + 1, none⟩ = some (.int .i64 f.n)) (first | exact hfn | assumption) (first | (go_at_call 29; refine (countR_v _ g1 F1 st f.n D1).mono ?_; rintro e x1 ⟨rfl, z1, z2⟩; have s1 := z2.cell hfn n1) | (go_at_call 30; refine (refRCount _ w7.heap.size _ st f.n (R.one (DC _ z2)) (R.lt1 (DC _ z2))).mono ?_; rintro e x2 ⟨rfl, z3, z4⟩; have s2 := z4.cell s1 n2) | fail)
            have R2 := R.step z1 (DC _ z2) z3 z4
            clear z1 z2 z3 z4 s1 s2 D1 DC
            generalize vC f.n st = xv at *
            go_wp2_with fail
            refine (endR_any _ g1 F1 _ R2.r1).mono ?_
            rintro e y1 ⟨rfl, rfl⟩
            go_wp2_with fail
            refine (refREnd _ w7.heap.size _ _ R2.r2).mono ?_
            rintro e y2 ⟨rfl, rfl⟩
            generalize endv _ = ev
            go_wp2_with fail
            go_roundw
            case rel => exact ⟨k + 1, nC f.n st, by go_num, by omega, R2⟩
            case measure => simp [intOf]; omega
          have k5 : (f.k == 5) = false := by simpa using h5
          · have R2 := R
            go_wp2_with fail
            refine (endR_any _ g1 F1 _ R2.r1).mono ?_
            rintro e y1 ⟨rfl, rfl⟩
            go_wp2_with fail
            refine (refREnd _ w7.heap.size _ _ R2.r2).mono ?_
            rintro e y2 ⟨rfl, rfl⟩
            generalize endv _ = ev
            go_wp2_with fail
            go_roundw
            case rel => exact ⟨k + 1, st, by go_num, by omega, R2⟩
            case measure => simp [intOf]; omega
        · have hk' : decide ((k : Int) < 40) = false := by simp; omega
          have hcell : wr.cell? (ad6.add b.length) = some (.int .u8 77) := by have := R.own.at_ (j := b.length) (by simp); simpa using this
          have hrb1 : Rd wr (some ad6) b := by have := R.own.take b.length; rwa [List.take_left] at this
          have hrb2 : Rd wr A0 b := hrb.chg' (S := fun j => W.heap.size ≤ j) ⟨R.below.os, R.below.tape, R.below.output, R.below.size, fun i hi _ => R.below.block i hi⟩ (fun hne j hj h => by have := HBL.out j hne hj; omega)
          have bel := R.below
          go_wp2_with fail
          refine (same_any _ (some ad6) A0 _ _ c6 c0 b b rfl rfl hrb1 hrb2).mono ?_
          rintro e y0 ⟨rfl, rfl⟩
          clear hrb1 hrb2
          go_wp2_with fail
          refine (endR_any _ g1 F1 _ R.r1).mono ?_
          rintro e y1 ⟨rfl, rfl⟩
          go_wp2_with fail
          refine (refREnd _ w7.heap.size _ _ R.r2).mono ?_
          rintro e y2 ⟨rfl, rfl⟩
          generalize endv _ = ev
          go_wp2
          go_ret
          exact ⟨rfl, bel⟩
      · skip
        have hcell : wr.cell? (ad6.add b.length) = some (.int .u8 77) := by have := R.own.at_ (j := b.length) (by simp); simpa using this
        have hrb1 : Rd wr (some ad6) b := by have := R.own.take b.length; rwa [List.take_left] at this
        have hrb2 : Rd wr A0 b := hrb.chg' (S := fun j => W.heap.size ≤ j) ⟨R.below.os, R.below.tape, R.below.output, R.below.size, fun i hi _ => R.below.block i hi⟩ (fun hne j hj h => by have := HBL.out j hne hj; omega)
        have bel := R.below
        go_wp2_with fail
        refine (same_any _ (some ad6) A0 _ _ c6 c0 b b rfl rfl hrb1 hrb2).mono ?_
        rintro e y0 ⟨rfl, rfl⟩
        clear hrb1 hrb2
        go_wp2_with fail
        refine (endR_any _ g1 F1 _ R.r1).mono ?_
        rintro e y1 ⟨rfl, rfl⟩
        go_wp2_with fail
        refine (refREnd _ w7.heap.size _ _ R.r2).mono ?_
        rintro e y2 ⟨rfl, rfl⟩
        generalize endv _ = ev
        go_wp2
        go_ret
        exact ⟨rfl, bel⟩

/-! ### The row's frame -/
theorem own : ownKnob Try.prog.godebug = none := by kernel_rfl
theorem walkA (W : World) (args : Array Value) (hsz : args.size = Try.f4.params.size) (hok : ∀ (j : Nat) (t : TypeId) (v : Value), Try.f4.params[j]? = some t → args[j]? = some v → Okv Try.prog W t v) :
    Calls Try.prog 4 args W fun e W' => e = .returned (.bool true) ∧ Below W.heap.size W W' := by
  rw [Try.params4] at hsz hok
  obtain ⟨v0, v1, rfl⟩ : ∃ v0 v1 : Value, args = #[v0, v1] := by
    obtain ⟨l⟩ := args
    match l, hsz with
    | [v0, v1], _ => exact ⟨v0, v1, rfl⟩
  exact walk W v0 v1 (hok 0 26 v0 rfl rfl) (hok 1 22 v1 rfl rfl)
set_option maxRecDepth 100000 in
theorem lifted (os : Os) (started : os.Started) (H : Type) (enc : TypeId × Value → H) :
    ReturnsInHanded {} Try.checked os 4 .any (Rows.wireReadsSpec.pre6 enc Try.prog Try.f4 Rows.wireReadsRow.domain false) (Rows.wireReadsSpec.post enc Try.prog Try.f4 false true false false) :=
  lifted_of_walk (C := Try.checked) (s := Rows.wireReadsSpec) (conds := Rows.wireReadsRow.domain) (apart := false) (fresh := true) (T := 4) own started (by kernel_rfl) Try.func4
    (ChangeSpec.witness6 (enc := enc) (C := Try.checked) false ⟨#[], #[.slice none 0 0, .slice none 0 0], []⟩ 8 (by kernel_rfl) (by kernel_rfl) (by kernel_rfl) (by kernel_rfl))
    rfl (fun ds hd => by
      rw [Try.params4] at hd
      match ds, hd with
      | [d0, d1], _ => exact ⟨rfl, rfl, rfl⟩)
    (by kernel_rfl) Try.underlying4 (by kernel_rfl) (by rw [Try.params4]; intro t ht; simp only [List.mem_cons, List.not_mem_nil, or_false] at ht; rcases ht with rfl | rfl <;> exact ⟨by kernel_rfl, of_decide_eq_true (by kernel_rfl)⟩) walkA

theorem holds : Rows.wireReadsRow.holds Try.pinned (OpenSpec.ofChange Rows.wireReadsSpec) :=
  OpenClaim.holds_of_wide 4 Try.f4 rfl rfl rfl rfl rfl rfl rfl ⟨rfl, rfl, rfl, rfl, rfl⟩ rfl rfl rfl rfl rfl (by kernel_rfl) Try.func4 (by kernel_rfl)
    (of_decide_eq_true (by kernel_rfl)) (by unfold Func.isWrapper; first | (rw [if_pos (by decide +kernel)]; kernel_rfl) | (rw [if_neg (by decide +kernel)]; exact ⟨rfl, rfl⟩))
    (fun os started H enc _ => lifted os started H enc)
end Go.Proofs.Ytjaaaehgggnhbaa.wireReads
namespace Go.Proofs.Ytjaaaehgggnhbaa
/-- The statement. -/
theorem wireReads_holds : Rows.WireReadsSaid := wireReads.holds
end Go.Proofs.Ytjaaaehgggnhbaa
