/- Balance, Supply; no bank; the live question. -/
import Derived.Test.YtahlfncijbkcoaaDoorChecked
import Derived.WalkKit
import Derived.WalkLawsBesides
import Derived.Lib.Hide
import Derived.Deep.MidRow
import Derived.Test.YtahlfncijbkcoaaDoorKh
namespace Go.Proofs.YtahlfncijbkcoaaDoor
open Go.RowKit
set_option linter.unusedVariables false
set_option linter.unusedSimpArgs false
set_option maxRecDepth 20000

theorem Balance_any (w : World) (g b1 b2 n : Nat) (F : Key → Nat) (S : ByteArray → Nat) (h : BkP w g b1 b2 n F S) (s d : ByteArray) (hs : s.size ≤ maxLen) (hd : d.size ≤ maxLen) :
    Calls Tryd.prog 13 #[.pointer (some ⟨g, 0, none⟩), .string s, .string d] w (Zero w (.int .u64 (F (s, d) : Int))) := by
  have HM := Lib.hid h.am
  have p1 := h.c1
  have HSD : Hid (s.size ≤ maxLen ∧ d.size ≤ maxLen) := Lib.hid ⟨hs, hd⟩
  clear h hs hd
  generalize hf : F (s, d) = f at *
  have HF := Lib.hid hf
  clear hf
  go_enter Tryd.func13, Tryd.ntmps13
  go_wp2_with (first | (with_reducible refine wpList_lookH rfl _ _ rfl rfl HM.out s d HSD.out.1 HSD.out.2 rfl HF.out ?_))
  go_ret
  exact ⟨rfl, Chg.refl _ _⟩
theorem Supply_any (w : World) (g b1 b2 n : Nat) (F : Key → Nat) (S : ByteArray → Nat) (h : BkP w g b1 b2 n F S) (d : ByteArray) (hd : d.size ≤ maxLen) :
    Calls Tryd.prog 15 #[.pointer (some ⟨g, 0, none⟩), .string d] w (Zero w (.int .u64 (S d : Int))) := by
  have HM := Lib.hid h.su
  have p1 := h.c2
  have HSD := Lib.hid hd
  clear h hd
  generalize hf : S d = f at *
  have HF := Lib.hid hf
  clear hf
  go_enter Tryd.func15, Tryd.ntmps15
  go_wp2_with (first | (with_reducible refine wpList_lookS rfl _ _ rfl rfl HM.out d HSD.out rfl HF.out ?_))
  go_ret
  exact ⟨rfl, Chg.refl _ _⟩

/-! ### No bank -/
theorem Mint_nil (w : World) (s d : ByteArray) (c : Int) : Calls Tryd.prog 17 #[.pointer none, .string s, .string d, .int .u64 c] w (Zero w (.int .i64 1)) := by
  go_enter Tryd.func17, Tryd.ntmps17
  go_wp2_with fail
  go_ret
  exact ⟨rfl, Chg.refl _ _⟩
theorem Burn_nil (w : World) (s d : ByteArray) (c : Int) : Calls Tryd.prog 21 #[.pointer none, .string s, .string d, .int .u64 c] w (Zero w (.int .i64 1)) := by
  go_enter Tryd.func21, Tryd.ntmps21
  go_wp2_with fail
  go_ret
  exact ⟨rfl, Chg.refl _ _⟩
theorem Move_nil (w : World) (s t d : ByteArray) (c : Int) : Calls Tryd.prog 18 #[.pointer none, .string s, .string t, .string d, .int .u64 c] w (Zero w (.int .i64 1)) := by
  go_enter Tryd.func18, Tryd.ntmps18
  go_wp2_with fail
  go_ret
  exact ⟨rfl, Chg.refl _ _⟩
theorem Balance_nil (w : World) (s d : ByteArray) : Calls Tryd.prog 13 #[.pointer none, .string s, .string d] w (Zero w (.int .u64 0)) := by
  go_enter Tryd.func13, Tryd.ntmps13
  go_wp2_with fail
  go_ret
  exact ⟨rfl, Chg.refl _ _⟩
theorem Supply_nil (w : World) (d : ByteArray) : Calls Tryd.prog 15 #[.pointer none, .string d] w (Zero w (.int .u64 0)) := by
  go_enter Tryd.func15, Tryd.ntmps15
  go_wp2_with fail
  go_ret
  exact ⟨rfl, Chg.refl _ _⟩
theorem Entries_nil (w : World) : Calls Tryd.prog 11 #[.pointer none] w (Zero w (.slice none 0 0)) := by
  go_enter Tryd.func11, Tryd.ntmps11
  go_wp2_with fail
  go_ret
  exact ⟨rfl, Chg.refl _ _⟩

/-! ### The live question -/
def bAnn : ByteArray := ⟨#[97, 110, 110]⟩
def bBob : ByteArray := ⟨#[98, 111, 98]⟩
def bCoin : ByteArray := ⟨#[99, 111, 105, 110]⟩
def bNo : ByteArray := ⟨#[]⟩
def st1 : Bst := (mintR Bst.none bAnn bCoin 7).2
def st2 : Bst := (moveR st1 bAnn bBob bCoin 2).2
theorem live1 : (mintR Bst.none bAnn bCoin 7).1 = 0 := by decide +kernel
theorem live2 : (moveR st1 bAnn bBob bCoin 2).1 = 0 := by decide +kernel
theorem live3 : st2.F (bBob, bCoin) = 2 := by decide +kernel
theorem live4 : st2.S bCoin = 7 := by decide +kernel
theorem live5 : (mintR st2 bNo bCoin 1).1 = 183 := by decide +kernel
set_option maxHeartbeats 1600000 in
theorem alive_any (w : World) : Calls Tryd.prog 5 #[] w (Zero w (.bool true)) := by
  have i0 : Inv Bst.none.F Bst.none.S := Inv.none
  have i1 : Inv st1.F st1.S := mintR_inv i0 bAnn bCoin 7
  have i2 : Inv st2.F st2.S := moveR_inv i1 bAnn bBob bCoin 2
  have s1 : bAnn.size ≤ maxLen := by decide +kernel
  have s2 : bBob.size ≤ maxLen := by decide +kernel
  have s3 : bCoin.size ≤ maxLen := by decide +kernel
  have s4 : bNo.size ≤ maxLen := by decide +kernel
  have H1 : Hid (∀ w g b1 b2, Hid (BkP w g b1 b2 0 (fun _ => 0) (fun _ => 0)) → Calls Tryd.prog 17 #[.pointer (some ⟨g, 0, none⟩), .string { data := #[97, 110, 110] }, .string { data := #[99, 111, 105, 110] }, .int .u64 7] w fun e w' => e = .returned (.int .i64 0) ∧ Chg (Bb b1 b2) w w' ∧ Hid (BkP w' g b1 b2 2 st1.F st1.S)) := Lib.hid fun w g b1 b2 h => by
    refine (Mint_any w g b1 b2 0 Bst.none h.out i0 (by omega) bAnn bCoin s1 s3 7 (by omega)).mono ?_
    rintro e w' ⟨rfl, k, h'⟩
    exact ⟨by rw [live1], k, h'⟩
  have H2 : Hid (∀ w g b1 b2, Hid (BkP w g b1 b2 2 st1.F st1.S) → Calls Tryd.prog 18 #[.pointer (some ⟨g, 0, none⟩), .string { data := #[97, 110, 110] }, .string { data := #[98, 111, 98] }, .string { data := #[99, 111, 105, 110] }, .int .u64 2] w fun e w' => e = .returned (.int .i64 0) ∧ Chg (Bb b1 b2) w w' ∧ Hid (BkP w' g b1 b2 4 st2.F st2.S)) := Lib.hid fun w g b1 b2 h => by
    refine (Move_any w g b1 b2 2 st1 h.out i1 (by omega) bAnn bBob bCoin s1 s2 s3 2 (by omega)).mono ?_
    rintro e w' ⟨rfl, k, h'⟩
    exact ⟨by rw [live2], k, h'⟩
  have H3 : Hid (∀ w g b1 b2, Hid (BkP w g b1 b2 4 st2.F st2.S) → Calls Tryd.prog 13 #[.pointer (some ⟨g, 0, none⟩), .string { data := #[98, 111, 98] }, .string { data := #[99, 111, 105, 110] }] w (Zero w (.int .u64 2))) := Lib.hid fun w g b1 b2 h => by
    have := Balance_any w g b1 b2 4 st2.F st2.S h.out bBob bCoin s2 s3
    rw [live3] at this
    exact this
  have H4 : Hid (∀ w g b1 b2, Hid (BkP w g b1 b2 4 st2.F st2.S) → Calls Tryd.prog 15 #[.pointer (some ⟨g, 0, none⟩), .string { data := #[99, 111, 105, 110] }] w (Zero w (.int .u64 7))) := Lib.hid fun w g b1 b2 h => by
    have := Supply_any w g b1 b2 4 st2.F st2.S h.out bCoin s3
    rw [live4] at this
    exact this
  have H5 : Hid (∀ w g b1 b2, Hid (BkP w g b1 b2 4 st2.F st2.S) → Calls Tryd.prog 17 #[.pointer (some ⟨g, 0, none⟩), .string { data := #[] }, .string { data := #[99, 111, 105, 110] }, .int .u64 1] w fun e w' => e = .returned (.int .i64 183) ∧ Chg (Bb b1 b2) w w') := Lib.hid fun w g b1 b2 h => by
    refine (Mint_any w g b1 b2 4 st2 h.out i2 (by omega) bNo bCoin s4 s3 1 (by omega)).mono ?_
    rintro e w' ⟨rfl, k, h'⟩
    exact ⟨by rw [live5], k⟩
  clear i0 i1 i2 s1 s2 s3 s4
  go_enter Tryd.func5, Tryd.ntmps5
  go_wp2_with fail
  refine (New_any w).mono ?_
  rintro e w1 ⟨k1, g, b1, b2, rfl, hu, h1⟩
  have HU := Lib.hid hu
  have HK1 := Lib.hid k1
  clear hu k1
  go_wp2_with fail
  refine (H1.out w1 g b1 b2 h1).mono ?_
  rintro e w2 ⟨rfl, k2, h2⟩
  have HK2 : Hid (Chg Non w w2) := Lib.hid (HK1.out.trans k2 (fun j e => .inr (by have := HU.out; rcases e with rfl | rfl; exact this.2.1; exact this.2.2)))
  clear k2 h1
  go_wp2_with fail
  refine (H2.out w2 g b1 b2 h2).mono ?_
  rintro e w3 ⟨rfl, k3, h3⟩
  have HK3 : Hid (Chg Non w w3) := Lib.hid (HK2.out.trans k3 (fun j e => .inr (by have := HU.out; rcases e with rfl | rfl; exact this.2.1; exact this.2.2)))
  clear k3 h2
  go_wp2_with fail
  refine (H3.out w3 g b1 b2 h3).mono ?_
  rintro e w4 ⟨rfl, k4⟩
  have HK4 : Hid (Chg Non w w4) := Lib.hid (HK3.out.trans k4 (fun _ f => f.elim))
  have h4 := Lib.hid (h3.out.non k4)
  clear k4 h3
  go_wp2_with fail
  refine (H4.out w4 g b1 b2 h4).mono ?_
  rintro e w5 ⟨rfl, k5⟩
  have HK5 : Hid (Chg Non w w5) := Lib.hid (HK4.out.trans k5 (fun _ f => f.elim))
  have h5 := Lib.hid (h4.out.non k5)
  clear k5 h4
  go_wp2_with fail
  refine (H5.out w5 g b1 b2 h5).mono ?_
  rintro e w6 ⟨rfl, k6⟩
  have HK6 : Hid (Chg Non w w6) := Lib.hid (HK5.out.trans k6 (fun j e => .inr (by have := HU.out; rcases e with rfl | rfl; exact this.2.1; exact this.2.2)))
  clear k6 h5
  go_wp2_with fail
  go_ret
  exact ⟨rfl, HK6.out⟩
end Go.Proofs.YtahlfncijbkcoaaDoor
