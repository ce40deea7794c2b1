/- Entries of a bank. -/
import Derived.Test.YtahlfncijbkcoaaDoorKv
namespace Go.Proofs.YtahlfncijbkcoaaDoor
open Go.RowKit
set_option linter.unusedVariables false
set_option linter.unusedSimpArgs false
set_option maxRecDepth 20000

theorem grown_of {w w' : World} (k : Chg Non w w') : w.grownBy w' none := ⟨k.os, k.tape, k.output, k.size, fun i hi _ => k.block i hi (fun f => f)⟩
theorem chg_of_grown {w w' : World} {r : Nat} (h : w.grownBy w' (some r)) : Chg (· = r) w w' := (Chg.refl (· = r) w).grown h (fun j e => .inl (by injection e with e; exact e.symm))
theorem chg_of_grown0 {w w' : World} (h : w.grownBy w' none) : Chg Non w w' := (Chg.refl Non w).grown h (fun j e => by cases e)
theorem rng_ne {P : Program} {k t : TypeId} {R : Value → Option (DataW Unit × List MemPlace)} {w : World} {b r n j cnt : Nat} {D : DataW Unit} {left : Lit → Bool} {cs : Array Value} (h : w.ranges P k R b r n D left cnt) (hb : Hb w j t cs) : j ≠ b ∧ j ≠ r := by
  obtain ⟨es, clock, since, seen, c0, h1, _, _, _, h2, _⟩ := h
  unfold Hb at hb
  refine ⟨fun e => ?_, fun e => ?_⟩
  · subst e; rw [h1] at hb; cases hb
  · subst e; rw [h2] at hb; cases hb
theorem rng_own {P : Program} {k : TypeId} {R : Value → Option (DataW Unit × List MemPlace)} {w : World} {b r n cnt : Nat} {D : DataW Unit} {left : Lit → Bool} {v : Value} {es : List En} (h : w.ranges P k R b r n D left cnt) (O : OwnE w v es) : ¬ vbl v b ∧ ¬ vbl v r := by
  refine ⟨fun e => ?_, fun e => ?_⟩
  · obtain ⟨cs, hb⟩ := O.1.blk e
    exact (rng_ne h hb).1 rfl
  · obtain ⟨cs, hb⟩ := O.1.blk e
    exact (rng_ne h hb).2 rfl
theorem rng_chg {S : Nat → Prop} {P : Program} {k : TypeId} {R : Value → Option (DataW Unit × List MemPlace)} {w w' : World} {b r n cnt : Nat} {D : DataW Unit} {left : Lit → Bool} (h : w.ranges P k R b r n D left cnt) (c : Chg S w w') (hb : ¬ S b) (hr : ¬ S r) : w'.ranges P k R b r n D left cnt := by
  have h1 := h.lt
  have h0 := h.owns.lt
  obtain ⟨es, clock, since, seen, c0, g1, g2, g3, g4, g5, g6⟩ := h
  exact ⟨es, clock, since, seen, c0, (c.block b h0 hb).trans g1, g2, g3, g4, (c.block r h1 hr).trans g5, g6⟩
/-- What Entries leaves: the entries, by rising keys. -/
def EntP (w : World) (F : Key → Nat) (n : Nat) (e : Ending) (w' : World) : Prop :=
  Chg Non w w' ∧ ∃ A c es, e = .returned (.slice A es.length c) ∧ Hid (LstM w' A es En.cells 2) ∧ Hid (EntsOf F es) ∧ es.length ≤ n
theorem built_entry (a b : ByteArray) : Tryd.prog.built 54 [(0, .string a), (1, .string b)] = some #[.string a, .string b] := by kernel_rfl

set_option maxHeartbeats 6400000 in
theorem Entries_any (w : World) (g b1 b2 n : Nat) (F : Key → Nat) (S : ByteArray → Nat) (h : BkP w g b1 b2 n F S) (hn : n ≤ 1000) (hF : Fine F) (hT : Tab w) :
    Calls Tryd.prog 11 #[.pointer (some ⟨g, 0, none⟩)] w (EntP w F n) := by
  have HM := Lib.hid h.am
  have HFI := Lib.hid hF
  have HT := Lib.hid hT
  have p1 := h.c1
  have hlt := h.lts
  have HC1 : Hid (∀ w', Chg Non w w' → w'.cell? ⟨g, 0, none⟩ = some (.map (some b1)) ∧ Hid (MapK holT w' b1 n F)) := Lib.hid fun w' k => ⟨(h.non k).c1, Lib.hid (h.non k).am⟩
  have ent : ∀ args w, (callFunc 25 args).run Tryd.prog w = .ok (.enter 25 args) w := enters_of Tryd.func25 (by kernel_rfl) rfl
  clear h hF hT
  go_enter Tryd.func11, Tryd.ntmps11
  go_wp2_with (first | (with_reducible refine wpList_lenH rfl _ rfl rfl HM.out ?_; intro c hc) | (refine wpList_makeE rfl _ rfl rfl (by omega) ?_; intro v0 w0 hO0 k0 hv0; obtain ⟨q1, HM0⟩ := HC1.out w0 k0; obtain ⟨D, hown, hs⟩ := HM0.out; have HSY := Lib.hid hs; have HSZ := Lib.hid (World.ownsMap.size_le hown); clear hs) | (at_range; refine wpList_range_own _ rfl _ 43 rfl 51 30 holT.keyed map_hol _ b1 n _ rfl hown ?_; intro wq hrgq hgq hsq) | go_in)
  go_frame
  have HGQ := Lib.hid (chg_of_grown0 hgq)
  have HO : Hid (OwnE wq v0 (([] : List (Key × Nat)).map entOf)) := Lib.hid (hO0.out.chg HGQ.out (fun _ _ f => f))
  have HMS : Hid (MetK F (Maps.has D) []) := Lib.hid (MetK.start fun k hk => (HSY.out k hk).1)
  have HCQ : Hid (Chg Non w wq) := Lib.hid (k0.trans HGQ.out (fun _ f => f.elim))
  have HLO : Hid (w.heap.size ≤ w0.heap.size) := Lib.hid k0.size
  clear hO0 k0 hgq hsq
  go_loopw [3, 4, 5] (fun s3 s4 s5 wr => ∃ (left : Lit → Bool) (cnt : Nat) (l : List (Key × Nat)), wr.ranges Tryd.prog 51 (plainElem Tryd.prog 30) b1 w0.heap.size n D left cnt ∧ Hid (OwnE wr s3 (l.map entOf)) ∧ Hid (∀ j, vbl s3 j → w.heap.size ≤ j) ∧ Hid (MetK F left l) ∧ l.length + cnt ≤ n ∧ Hid (Chg Non w wr)) (fun _ _ _ wr => wr.rangeLeft b1 w0.heap.size)
  case atStart => exact ⟨_, _, [], hrgq, HO, hv0, HMS, by have := HSZ.out; simp; omega, HCQ⟩
  case round =>
    obtain ⟨left, cnt, l, hrg, hO, hV, hMt, hcn, hC⟩ := hrel
    go_wp2_with (first | (at_next; refine wpList_nextH rfl _ rfl rfl hrg HSY.out ?_ ?_) | go_in)
    · intro _ hl0
      have HL := Lib.hid (hMt.out.all HFI.out hl0)
      have hln : l.length ≤ n := by omega
      clear hcn hl0
      go_wp2_with fail
      refine (sort_any wr u3 (l.map entOf) hO.out (by simp; omega)).mono ?_
      rintro e w9 ⟨rfl, k9, gs, cap, ss, hv, hperm, hsort, hL⟩
      have hsl : ss.length = (l.map entOf).length := hperm.length_eq
      have HFIN : Hid (EntP w F n (.returned u3) w9) := Lib.hid ⟨hC.out.trans k9 (fun j hj => .inr (hV.out j hj)), some ⟨gs, 0, none⟩, cap, ss, by rw [hv, hsl], Lib.hid hL, Lib.hid ⟨l, HL.out, hperm, hsort⟩, by rw [hsl]; simpa using hln⟩
      clear hv hperm hsort hL k9 hsl
      go_wp2_with fail
      go_ret
      exact HFIN.out
    · intro s d c1 w1 cnt1 hsz hdz hFc hc0 hc64 hlx hrg1 hlt1 hg1 hs1 hen
      have hfine := HFI.out (s, d) (by omega)
      have has := accOk_size hfine.1
      have hds := denOk_size hfine.2
      dsimp only at has hds
      have z5 : (⟨#[98, 97, 110, 107, 47]⟩ : ByteArray).size = 5 := rfl
      have z6 : (⟨#[47]⟩ : ByteArray).size = 1 := rfl
      have HZ1 : Hid ((⟨#[98, 97, 110, 107, 47]⟩ : ByteArray).size + d.size ≤ 100000) := Lib.hid (by omega)
      have HZ2 : Hid (((⟨#[98, 97, 110, 107, 47]⟩ : ByteArray) ++ d).size + (⟨#[47]⟩ : ByteArray).size ≤ 100000) := Lib.hid (by rw [ba_app_size]; omega)
      have HZ3 : Hid ((((⟨#[98, 97, 110, 107, 47]⟩ : ByteArray) ++ d) ++ ⟨#[47]⟩).size + s.size ≤ 100000) := Lib.hid (by rw [ba_app_size, ba_app_size]; omega)
      clear z5 z6
      have kg := chg_of_grown hg1
      have HO1 := Lib.hid (hO.out.chg kg (fun j hj e => (rng_own hrg hO.out).2 (by rw [← e]; exact hj)))
      have HK1 : Hid (Chg Non w w1) := Lib.hid (hC.out.trans kg (fun j hj => .inr (by rw [hj]; exact HLO.out)))
      have HMT := Lib.hid (hMt.out.more (x := (s, d)) ⟨hsz, hdz⟩ hFc hc0 hlx)
      have kb : Chg Non w1 (w1.alloc (.cells #[.string s, .string d] 51)) := (Chg.refl _ _).alloc _
      have hb2 := Hb.new w1 51 #[.string s, .string d]
      have HO2 := Lib.hid (HO1.out.chg kb (fun _ _ f => f))
      have HK2 := Lib.hid (HK1.out.trans kb (fun _ f => f.elim))
      have HR2 := Lib.hid (rng_chg hrg1 kb (fun f => f) (fun f => f))
      have HB2 := Lib.hid hb2
      have hlc : l.length + 1 + cnt1 ≤ n := by omega
      have HNU := Lib.hid (And.intro hlc (And.intro hlt1 hc64))
      have HR0 := Lib.hid hrg
      clear kg kb hb2 hs1 hg1 hrg1 hlx hFc hc0 hlc hcn hlt1 hfine hsz hdz hc64 hrg
      go_wp2_with fail
      generalize w1.alloc (.cells #[.string s, .string d] 51) = w2 at *
      generalize w1.heap.size = hb at *
      clear HO1 HK1 hen
      have kd := (Chg.refl Non w2).drew
      have HB : Hid (∀ w', Chg (vbl u3) w2.drew w' → w'.cell? ⟨hb, 0, none⟩ = some (.string s) ∧ w'.cell? ⟨hb, 1, none⟩ = some (.string d)) := Lib.hid fun w' k => by
        have hne : ¬ vbl u3 hb := HO2.out.1.ne HB2.out (by decide)
        have q := (HB2.out.chg kd (fun f => f)).chg k hne
        exact ⟨by rw [q.cell]; rfl, by rw [q.cell]; rfl⟩
      have HO3 := Lib.hid (HO2.out.chg kd (fun _ _ f => f))
      have HK3 := Lib.hid (HK2.out.trans kd (fun _ f => f.elim))
      have HR3 := Lib.hid (rng_chg HR2.out kd (fun f => f) (fun f => f))
      clear kd HO2 HK2 HR2 HB2
      refine wp_region_heads [0, 1, 2, 3, 4, 5, 6, 7, 8] 5 #[true, true, true, true, true, true, true, true, true, false, false, false, false, false] (by kernel_rfl) (by kernel_rfl) (by kernel_rfl) (by kernel_rfl) (by kernel_rfl) (fun w' => Chg (vbl u3) w2.drew w') (Chg.refl _ _) ?_
      refine headI_run rfl rfl (fun w' kk => by (skip); go_simp; rfl) ?_
      simp only [Act.put, List.setIfInBounds_toArray, List.set_cons_zero, List.set_cons_succ]
      refine headI_run rfl rfl (fun w' kk => by (skip); go_simp; rfl) ?_
      simp only [Act.put, List.setIfInBounds_toArray, List.set_cons_zero, List.set_cons_succ]
      refine headI_run rfl rfl (fun w' kk => by (have x0 := (HB.out w' kk).2; skip); go_simp; rfl) ?_
      simp only [Act.put, List.setIfInBounds_toArray, List.set_cons_zero, List.set_cons_succ]
      refine headI_add rfl rfl _ _ _ _ rfl (p := ⟨#[98, 97, 110, 107, 47]⟩) (q := d) rfl rfl HZ1.out ?_
      simp only [Act.put, List.setIfInBounds_toArray, List.set_cons_zero, List.set_cons_succ]
      refine headI_add rfl rfl _ _ _ _ rfl (p := ⟨#[98, 97, 110, 107, 47]⟩ ++ d) (q := ⟨#[47]⟩) rfl rfl HZ2.out ?_
      simp only [Act.put, List.setIfInBounds_toArray, List.set_cons_zero, List.set_cons_succ]
      refine headI_run rfl rfl (fun w' kk => by (skip); go_simp; rfl) ?_
      simp only [Act.put, List.setIfInBounds_toArray, List.set_cons_zero, List.set_cons_succ]
      refine headI_run rfl rfl (fun w' kk => by (have x0 := (HB.out w' kk).1; skip); go_simp; rfl) ?_
      simp only [Act.put, List.setIfInBounds_toArray, List.set_cons_zero, List.set_cons_succ]
      refine headI_add rfl rfl _ _ _ _ rfl (p := (⟨#[98, 97, 110, 107, 47]⟩ ++ d) ++ ⟨#[47]⟩) (q := s) rfl rfl HZ3.out ?_
      simp only [Act.put, List.setIfInBounds_toArray, List.set_cons_zero, List.set_cons_succ]
      refine headI_run rfl rfl (fun w' kk => by (skip); go_simp; rfl) ?_
      simp only [Act.put, List.setIfInBounds_toArray, List.set_cons_zero, List.set_cons_succ]
      refine headI_nil ?_
      generalize w2.drew = w3 at *
      have HTB := Lib.hid (HT.out.chg HK3.out (fun f => f))
      refine held_w (n := 9) (fuel := 4) (L' := #[true, true, true, true, true, true, true, true, true, true, false, false, false, false]) rfl (by kernel_rfl) rfl (by kernel_rfl) ?_
      refine wp_call (vl := [.int .u64 (c1 : Int), .int .i64 10]) 25 _ _ rfl rfl ent (FormatUint_any w3 c1 HNU.out.2.2 HTB.out) ?_
      rintro e w4 ⟨rfl, k4⟩
      refine ⟨_, rfl, k4.mono (fun _ f => f.elim), ?_⟩
      simp only [Act.put, List.setIfInBounds_toArray, List.set_cons_zero, List.set_cons_succ]
      refine held_w (n := 10) (fuel := 3) (L' := #[true, true, true, true, true, true, true, true, true, true, true, false, false, false]) rfl (by kernel_rfl) rfl (by kernel_rfl) ?_
      refine wp_built _ _ rfl [(0, .string (eKey (s, d))), (1, .string (dec c1))] rfl (built_entry _ _) ?_
      simp only [Act.put, List.setIfInBounds_toArray, List.set_cons_zero, List.set_cons_succ]
      refine ⟨k4.mono (fun _ f => f.elim), ?_⟩
      refine held_w (n := 11) (fuel := 2) (L' := #[true, true, true, true, true, true, true, true, true, true, true, true, false, false]) rfl (by kernel_rfl) rfl (by kernel_rfl) ?_
      refine wp_row1 _ rfl (entOf ((s, d), c1)) rfl ?_
      simp only [Act.put, List.setIfInBounds_toArray, List.set_cons_zero, List.set_cons_succ]
      have k5 : Chg Non w3 (w4.alloc (.cells (entOf ((s, d), c1)).cells.toArray 54)) := k4.alloc _
      have HO5 := Lib.hid (HO3.out.chg k5 (fun _ _ f => f))
      have HK5 := Lib.hid (HK3.out.trans k5 (fun _ f => f.elim))
      have HR5 := Lib.hid (rng_chg HR3.out k5 (fun f => f) (fun f => f))
      have hb5 := Hb.new w4 54 (entOf ((s, d), c1)).cells.toArray
      refine ⟨k5.mono (fun _ f => f.elim), ?_⟩
      have HKS : Hid (∀ w', Chg (vbl u3) (w4.alloc (.cells (entOf ((s, d), c1)).cells.toArray 54)) w' → Chg (vbl u3) w3 w') := Lib.hid fun w' k => (k5.mono (fun _ f => f.elim)).trans k (fun _ f => .inl f)
      clear k4 k5 HO3 HK3 HR3
      generalize w4.alloc (.cells (entOf ((s, d), c1)).cells.toArray 54) = w5 at *
      refine held_w (n := 12) (fuel := 1) (L' := #[true, true, true, true, true, true, true, true, true, true, true, true, true, false]) rfl (by kernel_rfl) rfl (by kernel_rfl) ?_
      refine wp_app _ _ rfl rfl HO5.out (entOf ((s, d), c1)) rfl hb5 (by rw [List.length_map]; have := HNU.out.1; omega) ?_
      intro v6 w6 hO6 k6 hv6
      simp only [Act.put, List.setIfInBounds_toArray, List.set_cons_zero, List.set_cons_succ]
      refine ⟨HKS.out w6 k6, ?_⟩
      refine held_w (n := 13) (fuel := 0) (L' := #[true, true, true, true, true, true, true, true, true, true, true, true, true, true]) rfl (by kernel_rfl) rfl (by kernel_rfl) ?_
      refine wp_val (v := v6) (by go_simp) ?_
      simp only [Act.put, List.setIfInBounds_toArray, List.set_cons_zero, List.set_cons_succ]
      refine ⟨HKS.out w6 k6, ?_⟩
      refine wpAnyH_done (by kernel_rfl) ?_ _
      refine NoPanic.normal ?_
      have hrg6 := rng_chg HR5.out k6 (rng_own HR5.out HO5.out).1 (rng_own HR5.out HO5.out).2
      have HO6 : Hid (OwnE w6 v6 ((l ++ [((s, d), c1)]).map entOf)) := Lib.hid (by rw [List.map_append]; exact hO6.out)
      have HV6 : Hid (∀ j, vbl v6 j → w.heap.size ≤ j) := Lib.hid fun j hj => by
        rcases hv6 j hj with e | e
        · exact hV.out j e
        · exact Nat.le_trans HK5.out.size e
      have HK6 : Hid (Chg Non w w6) := Lib.hid (HK5.out.trans k6 (fun j hj => .inr (hV.out j hj)))
      clear hO6 k6 hv6 HKS hb5 HB HR5 HO5 HK5
      go_wp2_with fail
      go_roundw
      case rel => exact ⟨_, _, _, hrg6, HO6, HV6, HMT, by rw [List.length_append, List.length_singleton]; exact HNU.out.1, HK6⟩
      case measure => rw [hrg6.left_eq, HR0.out.left_eq]; exact HNU.out.2.1
end Go.Proofs.YtahlfncijbkcoaaDoor
