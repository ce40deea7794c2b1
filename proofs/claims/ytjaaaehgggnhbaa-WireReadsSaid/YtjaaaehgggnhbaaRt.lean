/- The document's own reader: texts and counts. -/
import Derived.Test.YtjaaaehgggnhbaaChecked
import Derived.WalkKit
import Derived.Lib.Hide
import Derived.Deep.QuietTactic
import Derived.BigQuiet
import Derived.Test.YtjaaaehgggnhbaaRk
namespace Go.Proofs.Ytjaaaehgggnhbaa
open Go.RowKit
set_option linter.unusedVariables false

theorem text_big (st : Option (List UInt8)) (h : 4096 < ofbe (takeB st 2)) : vT st = [] ∧ nT st = none := by
  unfold vT nT fText
  unfold takeB at h
  cases st with
  | none => exact ⟨rfl, rfl⟩
  | some l =>
    simp only at h
    simp only [Option.bind_some]
    by_cases hl : l.length < 2
    · rw [if_pos hl]; exact ⟨rfl, rfl⟩
    · rw [if_pos (by omega)] at h
      rw [if_neg hl, if_pos h]; exact ⟨rfl, rfl⟩
theorem text_none (st : Option (List UInt8)) (h : ¬ 4096 < ofbe (takeB st 2)) (h2 : takeS (takeS st 2) (ofbe (takeB st 2)) = none) : vT st = [] ∧ nT st = none := by
  unfold vT nT fText
  unfold takeB takeS at h2
  unfold takeB at h
  cases st with
  | none => exact ⟨rfl, rfl⟩
  | some l =>
    simp only at h h2
    simp only [Option.bind_some]
    by_cases hl : l.length < 2
    · rw [if_pos hl]; exact ⟨rfl, rfl⟩
    · rw [if_pos (by omega)] at h
      rw [if_pos (by omega), if_pos (by omega)] at h2
      rw [if_neg hl, if_neg h]
      by_cases h3 : ofbe (l.take 2) ≤ (l.drop 2).length
      · simp only at h2; rw [if_pos h3] at h2; cases h2
      · rw [if_pos (by omega)]; exact ⟨rfl, rfl⟩
theorem text_some (st : Option (List UInt8)) (r : List UInt8) (h : ¬ 4096 < ofbe (takeB st 2)) (h2 : takeS (takeS st 2) (ofbe (takeB st 2)) = some r) : vT st = takeB (takeS st 2) (ofbe (takeB st 2)) ∧ nT st = some r := by
  unfold vT nT fText
  unfold takeS at h2
  cases st with
  | none => cases h2
  | some l =>
    simp only at h2
    by_cases hl : l.length < 2
    · rw [if_neg (by omega)] at h2; cases h2
    · have e1 : takeB (some l) 2 = l.take 2 := by unfold takeB; simp only; rw [if_pos (by omega)]
      have e2 : takeS (some l) 2 = some (l.drop 2) := by unfold takeS; simp only; rw [if_pos (by omega)]
      rw [e1] at h h2 ⊢
      rw [e2]
      rw [if_pos (by omega)] at h2
      simp only at h2
      simp only [Option.bind_some]
      rw [if_neg hl, if_neg h]
      by_cases h3 : ofbe (l.take 2) ≤ (l.drop 2).length
      · rw [if_pos h3] at h2
        injection h2 with h2
        rw [if_neg (by omega)]
        unfold takeB
        simp only
        rw [if_pos h3]
        exact ⟨rfl, congrArg some h2⟩
      · rw [if_neg h3] at h2; cases h2

theorem RdF.blk {w : World} {g : Nat} {F : Nat → Prop} {st : Option (List UInt8)} (h : RdF w g F st) : ∃ A m c, Hb w g 48 #[.slice A m c, .bool st.isNone] := by
  cases st with
  | none => obtain ⟨_, A, m, c, hb⟩ := h; exact ⟨A, m, c, hb⟩
  | some l => obtain ⟨_, A, c, hb, _⟩ := h; exact ⟨A, _, c, hb⟩
theorem RdF.drewN {w : World} {g : Nat} {F : Nat → Prop} {st : Option (List UInt8)} (h : RdF w g F st) (n : Nat) : RdF (w.drewN n) g F st := h.chg ((Chg.refl Non w).drewN n) (fun f => f) (fun _ _ f => f)

set_option maxHeartbeats 1600000 in
theorem refRText (w : World) (g : Nat) (F : Nat → Prop) (st : Option (List UInt8)) (h : RdF w g F st) (hFs : ∀ j, F j → j < w.heap.size) :
    Calls Try.prog 28 #[.pointer (some ⟨g, 0, none⟩)] w (Gotf w g F (.string ⟨(vT st).toArray⟩) (nT st)) := by
  have HK : Calls Try.prog 40 #[.pointer (some ⟨g, 0, none⟩), .int .i64 2] w (Tk w g F st 2) := take_any w g F st 2 h hFs (by omega)
  have hl := takeB_length st 2
  have TB := text_big st
  have TN := text_none st
  have TSM := text_some st
  unfold Tk at HK
  generalize takeB st 2 = bs at *
  generalize takeS st 2 = s2 at *
  obtain ⟨x, y, rfl⟩ : ∃ x y, bs = [x, y] := by
    match bs, hl with
    | [x, y], _ => exact ⟨x, y, rfl⟩
  have ho : ofbe [x, y] = x.toNat * 256 + y.toNat := by simp [ofbe]
  rw [ho] at TB TN TSM
  have hx := x.toNat_lt
  have hy := y.toNat_lt
  have TB' := Lib.hid TB
  have TN' := Lib.hid TN
  have TS' := Lib.hid TSM
  clear hl h ho TB TN TSM
  have hcv : IntKind.i64.wrap (x.toNat : Int) = (x.toNat : Int) := by rw [IntKind.wrap_i64]; omega
  have hcy : IntKind.i64.wrap (y.toNat : Int) = (y.toNat : Int) := by rw [IntKind.wrap_i64]; omega
  have hcm : IntKind.i64.wrap ((x.toNat : Int) * 256) = (x.toNat : Int) * 256 := by rw [IntKind.wrap_i64]; omega
  have hca : IntKind.i64.wrap ((x.toNat : Int) * 256 + (y.toNat : Int)) = (x.toNat : Int) * 256 + (y.toNat : Int) := by rw [IntKind.wrap_i64]; omega
  have CV := Lib.hid hcv
  have CY := Lib.hid hcy
  have CM := Lib.hid hcm
  have CA := Lib.hid hca
  clear hcv hcy hcm hca
  by_cases hbig : 4096 < x.toNat * 256 + y.toNat
  · rw [(TB'.out hbig).1, (TB'.out hbig).2]
    go_enter Try.func28, Try.ntmps28
    go_wp2_with fail
    refine HK.mono ?_
    rintro e w1 ⟨A, c, rfl, hc, hr, hR, hC, _⟩
    obtain ⟨ad, rfl, _⟩ := hr.blk_lt (by simp)
    have d0 : w1.cell? ad = some (.int .u8 (x.toNat : Int)) := hr.at_ (j := 0) (by simp)
    have d1 : w1.cell? ⟨ad.block, ad.off + 1, none⟩ = some (.int .u8 (y.toNat : Int)) := hr.at_ (j := 1) (by simp)
    have hcv := CV.out
    have hcy := CY.out
    have hcm := CM.out
    have hca := CA.out
    go_wp2_with fail
    go_quiet (fail)
    clear hcv hcy hcm hca
    have hbi : (4096 : Int) < (x.toNat : Int) * 256 + (y.toNat : Int) := by omega
    obtain ⟨A2, m2, c2, hb2⟩ := hR.blk
    have b1 : w1.cell? ⟨g, 1, none⟩ = some (.bool s2.isNone) := hb2.cell 1
    have b2 : w1.frozen? ⟨g, 1, none⟩ = false := hb2.frozen 1
    go_wp2
    go_ret
    exact ⟨rfl, ⟨hR.nF, A2, m2, c2, (hb2.drewN _).set 1 _⟩, (hC.drewN _).setCell (p := ⟨g, 1, none⟩) (.inl rfl) _⟩
  · obtain ⟨N, hN⟩ : ∃ N : Nat, N = x.toNat * 256 + y.toNat := ⟨_, rfl⟩
    rw [← hN] at hbig TN' TS'
    have HN : ∀ w' : World, RdF w' g F s2 → (∀ j, F j → j < w'.heap.size) → Calls Try.prog 40 #[.pointer (some ⟨g, 0, none⟩), .int .i64 ((x.toNat : Int) * 256 + (y.toNat : Int))] w' (Tk w' g F s2 N) := by
      intro w' h1 h2
      have := take_any w' g F s2 N h1 h2 (by omega)
      rwa [show (N : Int) = (x.toNat : Int) * 256 + (y.toNat : Int) by omega] at this
    have hNI : ¬ (4096 : Int) < (x.toNat : Int) * 256 + (y.toNat : Int) := by omega
    have hlN := takeB_length s2 N
    have HLN := Lib.hid hlN
    have HHN := Lib.hid hN
    clear hN hlN
    cases hs3 : takeS s2 N with
    | none =>
      rw [(TN'.out hbig hs3).1, (TN'.out hbig hs3).2]
      have HS3 := Lib.hid hs3
      clear hs3
      go_enter Try.func28, Try.ntmps28
      go_wp2_with fail
      refine HK.mono ?_
      rintro e w1 ⟨A, c, rfl, hc, hr, hR, hC, _⟩
      obtain ⟨ad, rfl, _⟩ := hr.blk_lt (by simp)
      have d0 : w1.cell? ad = some (.int .u8 (x.toNat : Int)) := hr.at_ (j := 0) (by simp)
      have d1 : w1.cell? ⟨ad.block, ad.off + 1, none⟩ = some (.int .u8 (y.toNat : Int)) := hr.at_ (j := 1) (by simp)
      have hcv := CV.out
      have hcy := CY.out
      have hcm := CM.out
      have hca := CA.out
      go_wp2_with fail
      go_quiet (fail)
      clear hcv hcy hcm hca d0 d1
      go_wp2_with fail
      refine (HN _ (hR.drewN _) (fun j hj => Nat.lt_of_lt_of_le (hFs j hj) hC.size)).mono ?_
      rintro e w3 ⟨A3, c3, rfl, hc3, hr3, hR3, hC3, _⟩
      rw [HS3.out] at hR3
      obtain ⟨A2, m2, c2, hb2⟩ := hR3.blk
      have b1 : w3.cell? ⟨g, 1, none⟩ = some (.bool true) := hb2.cell 1
      go_wp2
      go_ret
      exact ⟨rfl, hR3, (hC.drewN _).trans hC3 (fun _ hj => .inl hj)⟩
    | some r =>
      rw [(TS'.out r hbig hs3).1, (TS'.out r hbig hs3).2]
      have HS3 := Lib.hid hs3
      clear hs3
      go_enter Try.func28, Try.ntmps28
      go_wp2_with fail
      refine HK.mono ?_
      rintro e w1 ⟨A, c, rfl, hc, hr, hR, hC, _⟩
      obtain ⟨ad, rfl, _⟩ := hr.blk_lt (by simp)
      have d0 : w1.cell? ad = some (.int .u8 (x.toNat : Int)) := hr.at_ (j := 0) (by simp)
      have d1 : w1.cell? ⟨ad.block, ad.off + 1, none⟩ = some (.int .u8 (y.toNat : Int)) := hr.at_ (j := 1) (by simp)
      have hcv := CV.out
      have hcy := CY.out
      have hcm := CM.out
      have hca := CA.out
      go_wp2_with fail
      go_quiet (fail)
      clear hcv hcy hcm hca d0 d1
      go_wp2_with fail
      refine (HN _ (hR.drewN _) (fun j hj => Nat.lt_of_lt_of_le (hFs j hj) hC.size)).mono ?_
      rintro e w3 ⟨A3, c3, rfl, hc3, hr3, hR3, hC3, _⟩
      rw [HS3.out] at hR3
      obtain ⟨A2, m2, c2, hb2⟩ := hR3.blk
      have b1 : w3.cell? ⟨g, 1, none⟩ = some (.bool false) := hb2.cell 1
      have hst := run_str byt w3 hr3 c3
      rw [HLN.out] at hst
      go_wp2
      go_ret
      exact ⟨rfl, hR3, (hC.drewN _).trans hC3 (fun _ hj => .inl hj)⟩

theorem refRCount (w : World) (g : Nat) (F : Nat → Prop) (st : Option (List UInt8)) (most : Int) (h : RdF w g F st) (hFs : ∀ j, F j → j < w.heap.size) :
    Calls Try.prog 30 #[.pointer (some ⟨g, 0, none⟩), .int .i64 most] w (Gotf w g F (.int .i64 (vC most st)) (nC most st)) := by
  have H := refRNumber w g F st h hFs
  have hv : vN st = ((st.bind fNumber).map (·.1)).getD 0 := rfl
  have hn : nW st = (st.bind fNumber).map (·.2) := by
    unfold nW fNumber
    cases st with
    | none => rfl
    | some l => simp only [Option.bind_some]; cases fWord l <;> rfl
  have hc : vC most st = (((st.bind fNumber).bind fun x => if 0 ≤ x.1 ∧ x.1 ≤ most then some x else none).map (·.1)).getD 0 := by
    unfold vC fCount
    cases st <;> rfl
  have hd : nC most st = (((st.bind fNumber).bind fun x => if 0 ≤ x.1 ∧ x.1 ≤ most then some x else none).map (·.2)) := by
    unfold nC fCount
    cases st <;> rfl
  rw [hc, hd]
  unfold Gotf at H
  rw [hv, hn] at H
  clear hc hd hv hn h
  cases hf : st.bind fNumber with
  | none =>
    rw [hf] at H
    clear hf
    have H' : Calls Try.prog 22 #[.pointer (some ⟨g, 0, none⟩)] w fun e w' => e = .returned (.int .i64 0) ∧ RdF w' g F none ∧ Chg (Eqg g) w w' := H
    clear H
    by_cases hm : most < 0
    · go_enter Try.func30, Try.ntmps30
      go_wp2_with fail
      refine H'.mono ?_
      rintro e w1 ⟨rfl, hR, hC⟩
      obtain ⟨A2, m2, c2, hb2⟩ := hR.blk
      have b1 : w1.cell? ⟨g, 1, none⟩ = some (.bool true) := hb2.cell 1
      have b2 : w1.frozen? ⟨g, 1, none⟩ = false := hb2.frozen 1
      go_wp2
      go_ret
      exact ⟨rfl, ⟨hR.nF, A2, m2, c2, hb2.set 1 _⟩, hC.setCell (p := ⟨g, 1, none⟩) (.inl rfl) _⟩
    · go_enter Try.func30, Try.ntmps30
      go_wp2_with fail
      refine H'.mono ?_
      rintro e w1 ⟨rfl, hR, hC⟩
      go_wp2
      go_ret
      exact ⟨rfl, hR, hC⟩
  | some x =>
    obtain ⟨n, r⟩ := x
    rw [hf] at H
    clear hf
    have H' : Calls Try.prog 22 #[.pointer (some ⟨g, 0, none⟩)] w fun e w' => e = .returned (.int .i64 n) ∧ RdF w' g F (some r) ∧ Chg (Eqg g) w w' := H
    clear H
    rw [Option.bind_some]
    by_cases h0 : n < 0
    · rw [if_neg (by omega)]
      go_enter Try.func30, Try.ntmps30
      go_wp2_with fail
      refine H'.mono ?_
      rintro e w1 ⟨rfl, hR, hC⟩
      obtain ⟨A2, m2, c2, hb2⟩ := hR.blk
      have b1 : w1.cell? ⟨g, 1, none⟩ = some (.bool false) := hb2.cell 1
      have b2 : w1.frozen? ⟨g, 1, none⟩ = false := hb2.frozen 1
      go_wp2
      go_ret
      exact ⟨rfl, ⟨hR.nF, A2, m2, c2, hb2.set 1 _⟩, hC.setCell (p := ⟨g, 1, none⟩) (.inl rfl) _⟩
    · by_cases h1 : most < n
      · rw [if_neg (by omega)]
        go_enter Try.func30, Try.ntmps30
        go_wp2_with fail
        refine H'.mono ?_
        rintro e w1 ⟨rfl, hR, hC⟩
        obtain ⟨A2, m2, c2, hb2⟩ := hR.blk
        have b1 : w1.cell? ⟨g, 1, none⟩ = some (.bool false) := hb2.cell 1
        have b2 : w1.frozen? ⟨g, 1, none⟩ = false := hb2.frozen 1
        go_wp2
        go_ret
        exact ⟨rfl, ⟨hR.nF, A2, m2, c2, hb2.set 1 _⟩, hC.setCell (p := ⟨g, 1, none⟩) (.inl rfl) _⟩
      · rw [if_pos (by omega)]
        go_enter Try.func30, Try.ntmps30
        go_wp2_with fail
        refine H'.mono ?_
        rintro e w1 ⟨rfl, hR, hC⟩
        go_wp2
        go_ret
        exact ⟨rfl, hR, hC⟩
end Go.Proofs.Ytjaaaehgggnhbaa
