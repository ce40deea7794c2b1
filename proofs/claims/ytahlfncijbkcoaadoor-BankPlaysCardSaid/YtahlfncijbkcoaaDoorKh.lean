/- Burn, Move. -/
import Derived.Test.YtahlfncijbkcoaaDoorChecked
import Derived.WalkKit
import Derived.WalkLawsBesides
import Derived.Lib.Hide
import Derived.Deep.MidRow
import Derived.Test.YtahlfncijbkcoaaDoorKg
namespace Go.Proofs.YtahlfncijbkcoaaDoor
open Go.RowKit
set_option linter.unusedVariables false
set_option linter.unusedSimpArgs false
set_option maxRecDepth 20000

set_option maxHeartbeats 1600000 in
theorem Burn_any (w : World) (g b1 b2 n : Nat) (st : Bst) (h : BkP w g b1 b2 n st.F st.S) (hi : Inv st.F st.S) (hn : n < 100000) (s d : ByteArray) (hs : s.size ≤ maxLen) (hd : d.size ≤ maxLen) (c : Nat) (hc : c < 18446744073709551616) :
    Calls Tryd.prog 21 #[.pointer (some ⟨g, 0, none⟩), .string s, .string d, .int .u64 (c : Int)] w (ActP w g b1 b2 n (burnR st s d c)) := by
  have HW := Lib.hid (wrong_one w s d hs hd c hc 1)
  have HH := Lib.hid h
  have HI := Lib.hid hi
  have HC := Lib.hid hc
  have HSD : Hid (s.size ≤ maxLen ∧ d.size ≤ maxLen ∧ n < 100000) := Lib.hid ⟨hs, hd, hn⟩
  have HR : Hid (burnR st s d c = if errN (accOk s && denOk d) c = 0 then (if st.F (s, d) < c then (181, st) else (0, ⟨kupd st.F (s, d) (st.F (s, d) - c), kupd st.S d (st.S d - c)⟩)) else (errN (accOk s && denOk d) c, st)) := Lib.hid rfl
  generalize burnR st s d c = r at *
  generalize errN (accOk s && denOk d) c = v at *
  clear h hi hs hd hn hc
  have ent : ∀ args w, (callFunc 32 args).run Tryd.prog w = .ok (.enter 32 args) w := enters_of Tryd.func32 (by kernel_rfl) rfl
  go_enter Tryd.func21, Tryd.ntmps21
  go_wp2_with fail
  refine HW.out.mono ?_
  rintro e w1 ⟨rfl, k1⟩
  have HK1 := Lib.hid k1
  have HH1 := Lib.hid (HH.out.non k1)
  clear k1 HH
  by_cases hv : v = 0
  · have HR2 := Lib.hid (HR.out.trans (if_pos hv))
    clear HR
    subst hv
    go_wp2_with fail
    refine (take_any w1 g b1 b2 n st.F st.S HH1.out (by have := HSD.out.2.2; omega) s d HSD.out.1 HSD.out.2.1 c HC.out (HI.out.lt (s, d))).mono ?_
    rintro e w2 (⟨h1, rfl, k2⟩ | ⟨h1, rfl, k2, h2⟩)
    · have HR3 := Lib.hid (HR2.out.trans (if_pos h1))
      have HK2 := Lib.hid (HK1.out.trans k2 (fun _ f => f.elim))
      have HH2 := Lib.hid (HH1.out.non k2)
      clear HR2 h1 k2
      go_wp2_with fail
      go_ret
      rw [HR3.out]
      exact ⟨rfl, HK2.out.mono (fun _ f => f.elim), Lib.hid (HH2.out.mono (by omega))⟩
    · have HR3 := Lib.hid (HR2.out.trans (if_neg (by omega)))
      have HK2 : Hid (Chg (Bb b1 b2) w w2) := Lib.hid ((HK1.out.mono (fun _ f => f.elim)).trans k2 (fun j e => .inl e))
      have hle := HI.out.le (s, d)
      dsimp only at hle
      have hlim := HI.out.lim d
      have hcs : c ≤ st.S d := by omega
      clear HR2 k2 hle
      go_wp2_with fail
      rename_i ha
      have HB : Hid (∀ w', Chg (· = b2) w2.drew w' → w'.cell? ⟨g, 1, none⟩ = some (.map (some b2))) := Lib.hid fun w' k => by
        have q := h2.out.non ((Chg.refl Non w2).drew)
        exact k.cell q.c2 q.g2
      have HH2 := Lib.hid (h2.out.non ((Chg.refl Non w2).drew))
      have HK3 := Lib.hid HK2.out.drew
      clear h2 HK2
      refine wp_region_heads [0, 1, 2, 3, 4, 5, 6, 7, 8, 9, 11] 3 #[true, true, true, true, true, true, true, true, true, true, false, true, false, false] (by kernel_rfl) (by kernel_rfl) (by kernel_rfl) (by kernel_rfl) (by kernel_rfl) (fun w' => Chg (· = b2) w2.drew w') (Chg.refl _ _) ?_
      refine headI_run rfl rfl (fun w' kk => by (skip); go_simp; rfl) ?_
      simp only [Act.put, List.setIfInBounds_toArray, List.set_cons_zero, List.set_cons_succ]
      refine headI_run rfl rfl (fun w' kk => by (skip); go_simp; rfl) ?_
      simp only [Act.put, List.setIfInBounds_toArray, List.set_cons_zero, List.set_cons_succ]
      refine headI_run rfl rfl (fun w' kk => by (skip); go_simp; rfl) ?_
      simp only [Act.put, List.setIfInBounds_toArray, List.set_cons_zero, List.set_cons_succ]
      refine headI_run rfl rfl (fun w' kk => by (have x0 := HB.out w' kk; skip); go_simp; rfl) ?_
      simp only [Act.put, List.setIfInBounds_toArray, List.set_cons_zero, List.set_cons_succ]
      refine headI_run rfl rfl (fun w' kk => by (skip); go_simp; rfl) ?_
      simp only [Act.put, List.setIfInBounds_toArray, List.set_cons_zero, List.set_cons_succ]
      refine headI_run rfl rfl (fun w' kk => by (skip); go_simp; rfl) ?_
      simp only [Act.put, List.setIfInBounds_toArray, List.set_cons_zero, List.set_cons_succ]
      refine headI_run rfl rfl (fun w' kk => by (skip); go_simp; rfl) ?_
      simp only [Act.put, List.setIfInBounds_toArray, List.set_cons_zero, List.set_cons_succ]
      refine headI_run rfl rfl (fun w' kk => by (skip); go_simp; rfl) ?_
      simp only [Act.put, List.setIfInBounds_toArray, List.set_cons_zero, List.set_cons_succ]
      refine headI_run rfl rfl (fun w' kk => by (have x0 := HB.out w' kk; skip); go_simp; rfl) ?_
      simp only [Act.put, List.setIfInBounds_toArray, List.set_cons_zero, List.set_cons_succ]
      refine headI_run rfl rfl (fun w' kk => by (skip); go_simp; rfl) ?_
      simp only [Act.put, List.setIfInBounds_toArray, List.set_cons_zero, List.set_cons_succ]
      refine headI_run rfl rfl (fun w' kk => by (skip); go_simp; rfl) ?_
      simp only [Act.put, List.setIfInBounds_toArray, List.set_cons_zero, List.set_cons_succ]
      refine headI_nil ?_
      generalize w2.drew = w3 at *
      refine held_w (n := 10) (fuel := 2) (L' := #[true, true, true, true, true, true, true, true, true, true, true, true, false, false]) rfl (by kernel_rfl) rfl (by kernel_rfl) ?_
      refine wp_look 44 _ _ rfl rfl rfl (lookS_run HH2.out.su d HSD.out.2.1) ?_
      simp only [Act.put, List.setIfInBounds_toArray, List.set_cons_zero, List.set_cons_succ]
      refine ⟨Chg.refl _ _, ?_⟩
      refine held_w (n := 12) (fuel := 1) (L' := #[true, true, true, true, true, true, true, true, true, true, true, true, true, false]) rfl (by kernel_rfl) rfl (by kernel_rfl) ?_
      refine wp_val (v := .int .u64 ((st.S d - c : Nat) : Int)) (by go_simp; rw [wrap_sub hcs hlim]) ?_
      simp only [Act.put, List.setIfInBounds_toArray, List.set_cons_zero, List.set_cons_succ]
      refine ⟨Chg.refl _ _, ?_⟩
      refine held_w (n := 13) (fuel := 0) (L' := #[true, true, true, true, true, true, true, true, true, true, true, true, true, true]) rfl (by kernel_rfl) rfl (by kernel_rfl) ?_
      refine wp_call (vl := [.map (some b2), .string d, .int .u64 ((st.S d - c : Nat) : Int)]) 32 _ _ rfl rfl ent (putS_any w3 b2 (n + 1) st.S HH2.out.su (by have := HSD.out.2.2; omega) d HSD.out.2.1 (st.S d - c) (by omega)) ?_
      rintro e w4 ⟨rfl, k4, h4⟩
      refine ⟨_, rfl, ?_⟩
      have HQ : Hid (ActP w g b1 b2 n r (.returned (.int .i64 0)) w4) := Lib.hid (by
        rw [HR3.out]
        exact ⟨rfl, HK3.out.trans k4 (fun j e => .inl (.inr e)), Lib.hid (HH2.out.su_chg k4 h4.out (by omega))⟩)
      refine ⟨k4, ?_⟩
      refine wpAnyH_done (by kernel_rfl) ?_ _
      refine ha _ _ ?_
      clear ha HH2 k4 h4
      simp only [Act.put, List.setIfInBounds_toArray, List.set_cons_zero, List.set_cons_succ]
      go_wp2_with fail
      go_ret
      exact HQ.out
  · have HR2 := Lib.hid (HR.out.trans (if_neg hv))
    have hv2 : (v == 0) = false := by simpa using hv
    clear HR hv
    go_wp2_with fail
    go_ret
    rw [HR2.out]
    exact ⟨rfl, HK1.out.mono (fun _ f => f.elim), Lib.hid (HH1.out.mono (by omega))⟩
set_option maxHeartbeats 1600000 in
theorem Move_any (w : World) (g b1 b2 n : Nat) (st : Bst) (h : BkP w g b1 b2 n st.F st.S) (hi : Inv st.F st.S) (hn : n < 100000) (s t d : ByteArray) (hs : s.size ≤ maxLen) (ht : t.size ≤ maxLen) (hd : d.size ≤ maxLen) (c : Nat) (hc : c < 18446744073709551616) :
    Calls Tryd.prog 18 #[.pointer (some ⟨g, 0, none⟩), .string s, .string t, .string d, .int .u64 (c : Int)] w (ActP w g b1 b2 n (moveR st s t d c)) := by
  have HW := Lib.hid (wrong_two w s t d hs ht hd c hc 2)
  have HH := Lib.hid h
  have HI := Lib.hid hi
  have HC := Lib.hid hc
  have HSD : Hid (s.size ≤ maxLen ∧ t.size ≤ maxLen ∧ d.size ≤ maxLen ∧ n < 100000) := Lib.hid ⟨hs, ht, hd, hn⟩
  have HR : Hid (moveR st s t d c = if errN ((accOk s && accOk t) && denOk d) c = 0 then (if st.F (s, d) < c then (181, st) else (0, ⟨kmov st.F (s, d) (t, d) c, st.S⟩)) else (errN ((accOk s && accOk t) && denOk d) c, st)) := Lib.hid rfl
  have HIM := Lib.hid (moveR_inv hi s t d c)
  generalize moveR st s t d c = r at *
  generalize errN ((accOk s && accOk t) && denOk d) c = v at *
  clear h hi hs hd hn hc ht
  go_enter Tryd.func18, Tryd.ntmps18
  go_wp2_with fail
  refine HW.out.mono ?_
  rintro e w1 ⟨rfl, k1⟩
  have HK1 := Lib.hid k1
  have HH1 := Lib.hid (HH.out.non k1)
  clear k1 HH
  by_cases hv : v = 0
  · have HR2 := Lib.hid (HR.out.trans (if_pos hv))
    clear HR
    subst hv
    go_wp2_with fail
    refine (take_any w1 g b1 b2 n st.F st.S HH1.out (by have := HSD.out.2.2.2; omega) s d HSD.out.1 HSD.out.2.2.1 c HC.out (HI.out.lt (s, d))).mono ?_
    rintro e w2 (⟨h1, rfl, k2⟩ | ⟨h1, rfl, k2, h2⟩)
    · have HR3 := Lib.hid (HR2.out.trans (if_pos h1))
      have HK2 := Lib.hid (HK1.out.trans k2 (fun _ f => f.elim))
      have HH2 := Lib.hid (HH1.out.non k2)
      clear HR2 h1 k2
      go_wp2_with fail
      go_ret
      rw [HR3.out]
      exact ⟨rfl, HK2.out.mono (fun _ f => f.elim), Lib.hid (HH2.out.mono (by omega))⟩
    · have HR3 := Lib.hid (HR2.out.trans (if_neg (by omega)))
      have HK2 : Hid (Chg (Bb b1 b2) w w2) := Lib.hid ((HK1.out.mono (fun _ f => f.elim)).trans k2 (fun j e => .inl e))
      have hlt : kupd st.F (s, d) (st.F (s, d) - c) (t, d) + c < 18446744073709551616 := by
        have := HIM.out.lt (t, d)
        rw [HR3.out] at this
        dsimp only at this
        unfold kmov at this
        have e : ∀ (G : Key → Nat) (x : Key) (m : Nat), kupd G x m x = m := fun G x m => by simp [kupd]
        rw [e] at this
        exact this
      have HLT := Lib.hid hlt
      clear HR2 k2 hlt
      go_wp2_with fail
      refine (give_any w2 g b1 b2 (n + 1) _ st.S h2.out (by have := HSD.out.2.2.2; omega) t d HSD.out.2.1 HSD.out.2.2.1 c HLT.out).mono ?_
      rintro e w3 ⟨rfl, k3, h3⟩
      have HQ : Hid (ActP w g b1 b2 n r (.returned (.int .i64 0)) w3) := Lib.hid (by
        rw [HR3.out]
        exact ⟨rfl, HK2.out.trans k3 (fun j e => .inl e), h3⟩)
      clear k3 h3
      go_wp2_with fail
      go_ret
      exact HQ.out
  · have HR2 := Lib.hid (HR.out.trans (if_neg hv))
    have hv2 : (v == 0) = false := by simpa using hv
    clear HR hv
    go_wp2_with fail
    go_ret
    rw [HR2.out]
    exact ⟨rfl, HK1.out.mono (fun _ f => f.elim), Lib.hid (HH1.out.mono (by omega))⟩
end Go.Proofs.YtahlfncijbkcoaaDoor
