/- Package valset: rises, sum, Total, Right; Power. -/
import Derived.Test.YtmmacimneaehiaaChecked
import Derived.WalkKit
import Derived.WalkLawsBesides
import Derived.Lib.Hide
import Derived.Deep.QuietTactic
import Derived.BigQuiet
import Derived.Test.YtmmacimneaehiaaGw
namespace Go.Proofs.Ytmmacimneaehiaa
open Go.RowKit
set_option linter.unusedVariables false
set_option linter.unusedSimpArgs false
set_option maxRecDepth 20000

/-- An answer of yes or no. -/
def Yes (w : World) (p : Prop) (e : Ending) (w' : World) : Prop := Chg Non w w' ∧ ∃ b : Bool, e = .returned (.bool b) ∧ (b = true ↔ p)

set_option maxHeartbeats 1600000 in
theorem rises_any (w : World) (A : Option Addr) (c : Nat) (l : List Va) (hl : l.length ≤ maxLen) (M : LstM w A l Va.cells 2) :
    Calls Try.prog 8 #[.slice A l.length c] w (Yes w (Rises l)) := by
  have HM := Lib.hid M
  unfold maxLen at hl
  clear M
  generalize hn : l.length = n at *
  have HL := Lib.hid hn
  clear hn
  go_enter Try.func8, Try.ntmps8
  go_wp2_with fail
  go_loopw [3] (fun i wr => ∃ k : Nat, (k + 1 ≤ n ∨ k = 0) ∧ i = .int .i64 ((k + 1 : Nat) : Int) ∧ Hid (Rises (l.take (k + 1))) ∧ Chg Non w wr) (fun i _ => n - (intOf i).toNat)
  case atStart => exact ⟨0, by omega, rfl, Lib.hid (by cases l <;> simp [Rises]), Chg.refl _ _⟩
  case round =>
    obtain ⟨k, hk, rfl, hR, hC⟩ := hrel
    by_cases hlt : k + 1 < n
    · have hkl : k + 1 < l.length := by rw [HL.out]; exact hlt
      have hx := List.getElem?_eq_getElem hkl
      have hy := List.getElem?_eq_getElem (show k < l.length by omega)
      obtain ⟨a, ao, rfl, _, r1⟩ := (HM.out.chg hC) _ _ hx
      obtain ⟨b, bo, hb, _, r2⟩ := (HM.out.chg hC) _ _ hy
      obtain ⟨rfl, rfl⟩ : a = b ∧ ao = bo := by injection hb with hb; injection hb with h1 h2 _; exact ⟨h1, h2⟩
      clear hb
      have HX := Lib.hid hx
      have HY := Lib.hid hy
      generalize l[k + 1] = x at *
      generalize l[k] = y at *
      obtain ⟨p0, _⟩ := rangeAt_cons r1
      obtain ⟨q0, _⟩ := rangeAt_cons r2
      have hki : ((k + 1 : Nat) : Int) < (n : Int) := by omega
      clear r1 r2 hx hy hkl hk
      by_cases hlk : y.key < x.key
      · have hcmp : ¬ ((x.key : Int) ≤ (y.key : Int)) := by omega
        go_wp2_with fail
        go_quiet (fail)
        go_wp2_with fail
        go_roundw
        case rel => exact ⟨k + 1, by omega, by go_num, Lib.hid ((rises_next HY.out HX.out).2 ⟨hR.out, hlk⟩), hC.drewN _⟩
        case measure => simp [intOf]; omega
      · have hcmp : (x.key : Int) ≤ (y.key : Int) := by omega
        go_wp2_with fail
        go_quiet (fail)
        go_wp2_with fail
        go_ret
        exact ⟨hC.drewN _, false, rfl, by simp; exact fun h => hlk ((rises_next HY.out HX.out).1 (rises_take h _)).2⟩
    · have hge : ¬ (((k + 1 : Nat) : Int) < (n : Int)) := by omega
      go_wp2
      go_ret
      have e : l.take (k + 1) = l := List.take_of_length_le (by have := HL.out; omega)
      exact ⟨hC, true, rfl, by simp; rw [← e]; exact hR.out⟩

set_option maxHeartbeats 1600000 in
theorem sum_any (w : World) (A : Option Addr) (c : Nat) (l : List Va) (hl : l.length ≤ maxLen) (ol : ∀ x ∈ l, x.Ok) (M : LstM w A l Va.cells 2) :
    Calls Try.prog 9 #[.slice A l.length c] w fun e w' => Chg Non w w' ∧ (Fits l ∧ e = .returned (.tuple #[.int .i64 (sumP l), .bool true]) ∨ ¬ Fits l ∧ e = .returned (.tuple #[.int .i64 0, .bool false])) := by
  have HM := Lib.hid M
  have OL := Lib.hid ol
  unfold maxLen at hl
  clear M ol
  generalize hn : l.length = n at *
  have HL := Lib.hid hn
  clear hn
  go_enter Try.func9, Try.ntmps9
  go_wp2_with fail
  go_loopw [4, 9] (fun s i wr => ∃ k : Nat, k ≤ n ∧ i = .int .i64 (k : Int) ∧ s = .int .i64 (sumP (l.take k)) ∧ Hid (Fits (l.take k)) ∧ Chg Non w wr) (fun _ i _ => n - (intOf i).toNat)
  case atStart => exact ⟨0, by omega, rfl, by simp [sumP], Lib.hid ⟨fun x hx => by simp at hx, by simp [sumP, top]⟩, Chg.refl _ _⟩
  case round =>
    obtain ⟨k, hk, rfl, rfl, hF, hC⟩ := hrel
    by_cases hlt : k < n
    · have hkl : k < l.length := by rw [HL.out]; exact hlt
      have hx := List.getElem?_eq_getElem hkl
      obtain ⟨a, ao, rfl, _, r1⟩ := (HM.out.chg hC) _ _ hx
      have HX := Lib.hid hx
      have ox := OL.out l[k] (List.getElem_mem hkl)
      generalize l[k] = x at *
      have r0 := r1
      obtain ⟨p0, p1⟩ := rangeAt_cons r1
      obtain ⟨p1, _⟩ := rangeAt_cons p1
      have hki : (k : Int) < (n : Int) := by omega
      have hs0 := sumP_nonneg hF.out.1
      have hs1 := hF.out.2
      have hlo := ox.lo
      have hhi := ox.hi
      have hnext := fits_next HX.out
      have hsum : sumP (l.take (k + 1)) = sumP (l.take k) + x.power := by rw [take_next HX.out, sumP_append]; simp [sumP]
      have HN := Lib.hid hnext
      have HS := Lib.hid hsum
      unfold top at hs1
      generalize sumP (l.take k) = s at *
      clear r1 hx hkl hk hnext hsum
      by_cases h1 : x.power < 1
      · go_wp2_with fail
        go_ret2
        exact ⟨hC.alloc _, .inr ⟨fun h => by have := (HN.out.1 (fits_take h (k + 1))).2.1; omega, rfl⟩⟩
      · by_cases h2 : 1125899906842624 - s < x.power
        · go_wp2_with fail
          go_ret2
          exact ⟨hC.alloc _, .inr ⟨fun h => by have := (HN.out.1 (fits_take h (k + 1))).2.2; unfold top at this; omega, rfl⟩⟩
        · go_wp2_with fail
          go_roundw
          case rel => exact ⟨k + 1, by omega, by go_num, by rw [HS.out], Lib.hid (HN.out.2 ⟨hF.out, by omega, by unfold top; omega⟩), hC.alloc _⟩
          case measure => simp [intOf]; omega
    · obtain rfl : k = n := by omega
      go_wp2
      go_ret2
      have e : l.take k = l := List.take_of_length_le (by have := HL.out; omega)
      rw [e] at hF ⊢
      exact ⟨hC, .inl ⟨hF.out, rfl⟩⟩

/-- What Total leaves. -/
def Tot (w : World) (l : List Va) (e : Ending) (w' : World) : Prop := Chg Non w w' ∧ (Rt l ∧ e = .returned (.tuple #[.int .i64 (sumP l), .int .i64 0]) ∨ ¬ Rt l ∧ e = .returned (.tuple #[.int .i64 0, .int .i64 71]))

set_option maxHeartbeats 1600000 in
theorem Total_any (w : World) (A : Option Addr) (c : Nat) (l : List Va) (hl : l.length ≤ maxLen) (ol : ∀ x ∈ l, x.Ok) (M : LstM w A l Va.cells 2) :
    Calls Try.prog 4 #[.slice A l.length c] w (Tot w l) := by
  have HR : Hid (∀ w', Chg Non w w' → Calls Try.prog 8 #[.slice A l.length c] w' (Yes w' (Rises l))) := Lib.hid fun w' k => rises_any w' A c l hl (M.chg k)
  have HS : Hid (∀ w', Chg Non w w' → Calls Try.prog 9 #[.slice A l.length c] w' fun e w'' => Chg Non w' w'' ∧ (Fits l ∧ e = .returned (.tuple #[.int .i64 (sumP l), .bool true]) ∨ ¬ Fits l ∧ e = .returned (.tuple #[.int .i64 0, .bool false]))) := Lib.hid fun w' k => sum_any w' A c l hl ol (M.chg k)
  unfold maxLen at hl
  clear M ol
  generalize hn : l.length = n at *
  have HL := Lib.hid hn
  clear hn
  by_cases h1 : n < 1
  · have h1' : (n : Int) < 1 := by omega
    go_enter Try.func4, Try.ntmps4
    go_wp2_with fail
    go_ret2
    exact ⟨Chg.refl _ _, .inr ⟨fun h => by have := h.1; have := HL.out; omega, rfl⟩⟩
  have h1' : ¬ (n : Int) < 1 := by omega
  by_cases h2 : 64 < n
  · have h2' : (64 : Int) < n := by omega
    go_enter Try.func4, Try.ntmps4
    go_wp2_with fail
    go_ret2
    exact ⟨Chg.refl _ _, .inr ⟨fun h => by have := h.2.1; have := HL.out; omega, rfl⟩⟩
  have h2' : ¬ (64 : Int) < n := by omega
  go_enter Try.func4, Try.ntmps4
  go_wp2_with fail
  refine (HR.out _ (Chg.refl _ _)).mono ?_
  rintro e w1 ⟨k1, b, rfl, hb⟩
  have HB := Lib.hid hb
  clear hb
  cases b
  · go_wp2_with fail
    go_ret2
    exact ⟨k1, .inr ⟨fun h => by simpa using HB.out.2 h.2.2.1, rfl⟩⟩
  · go_wp2_with fail
    refine (HS.out _ k1).mono ?_
    rintro e w2 ⟨k2, hh⟩
    obtain ⟨sv, bv', rfl, hh⟩ : ∃ (sv : Int) (b : Bool), e = .returned (.tuple #[.int .i64 sv, .bool b]) ∧ Hid ((Fits l ∧ sv = sumP l ∧ b = true) ∨ (¬ Fits l ∧ sv = 0 ∧ b = false)) := by
      rcases hh with ⟨a, b⟩ | ⟨a, b⟩
      · exact ⟨_, _, b, Lib.hid (.inl ⟨a, rfl, rfl⟩)⟩
      · exact ⟨_, _, b, Lib.hid (.inr ⟨a, rfl, rfl⟩)⟩
    cases bv'
    · go_wp2_with fail
      go_ret2
      exact ⟨k1.trans k2 (fun _ f => f.elim), .inr ⟨fun h => by rcases hh.out with ⟨_, _, q⟩ | ⟨q, _⟩; cases q; exact q h.2.2.2, rfl⟩⟩
    · go_wp2_with fail
      go_ret2
      rcases hh.out with ⟨hf, rfl, _⟩ | ⟨_, _, q⟩
      · exact ⟨k1.trans k2 (fun _ f => f.elim), .inl ⟨⟨by have := HL.out; omega, by have := HL.out; omega, HB.out.1 (by simp), hf⟩, rfl⟩⟩
      · cases q

theorem pw_first {l : List Va} {k : Nat} {x : Va} (hx : l[k]? = some x) (h : ∀ y ∈ l.take k, y.key ≠ x.key) : pw l x.key = x.power := by
  induction l generalizing k with
  | nil => simp at hx
  | cons y l ih =>
    cases k with
    | zero => simp at hx; subst hx; simp [pw]
    | succ k =>
      rw [pw, if_neg (h y (by simp))]
      exact ih (by simpa using hx) (fun z hz => h z (by simp [hz]))

end Go.Proofs.Ytmmacimneaehiaa
