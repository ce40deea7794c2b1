/- Package valset: rises, sum, Total, Right; Power. -/
import Derived.Test.YtflellcbfcakhaaChecked
import Derived.WalkKit
import Derived.WalkLawsBesides
import Derived.Lib.Hide
import Derived.Deep.QuietTactic
import Derived.BigQuiet
import Derived.Test.YtflellcbfcakhaaGw
namespace Go.Proofs.Ytflellcbfcakhaa
open Go.RowKit
set_option linter.unusedVariables false
set_option linter.unusedSimpArgs false
set_option maxRecDepth 20000

/-- An answer of yes or no. -/
def Yes (w : World) (p : Prop) (e : Ending) (w' : World) : Prop := Chg Non w w' ∧ ∃ b : Bool, e = .returned (.bool b) ∧ (b = true ↔ p)

/-- What Total leaves. -/
def Tot (w : World) (l : List Va) (e : Ending) (w' : World) : Prop := Chg Non w w' ∧ (Rt l ∧ e = .returned (.tuple #[.int .i64 (sumP l), .int .i64 0]) ∨ ¬ Rt l ∧ e = .returned (.tuple #[.int .i64 0, .int .i64 71]))

theorem pw_first {l : List Va} {k : Nat} {x : Va} (hx : l[k]? = some x) (h : ∀ y ∈ l.take k, y.key ≠ x.key) : pw l x.key = x.power := by
  induction l generalizing k with
  | nil => simp at hx
  | cons y l ih =>
    cases k with
    | zero => simp at hx; subst hx; simp [pw]
    | succ k =>
      rw [pw, if_neg (h y (by simp))]
      exact ih (by simpa using hx) (fun z hz => h z (by simp [hz]))

set_option maxHeartbeats 1600000 in
theorem hasKey_any (w : World) (x : Va) (b : Nat) (key : Nat) (hb : w.cell? ⟨b, 0, none⟩ = some (.int .u64 (key : Int))) :
    Calls Try.prog 26 #[.agg x.cells.toArray, .pointer (some ⟨b, 0, none⟩)] w (Zero w (.bool (decide (x.key = key)))) := by
  have hbl := World.block_lt_of_cell? w _ hb
  have e : ((x.key : Int) == (key : Int)) = decide (x.key = key) := by rw [Bool.eq_iff_iff]; simp; omega
  rw [← e]
  unfold Va.cells
  go_enter Try.func26, Try.ntmps26
  go_wp2_with fail
  go_ret
  exact ⟨rfl, (Chg.refl _ _).alloc _⟩

set_option maxHeartbeats 1600000 in
theorem index_any (w : World) (A : Option Addr) (c b key : Nat) (l : List Va) (hl : l.length ≤ maxLen) (M : LstM w A l Va.cells 2) (hb : w.cell? ⟨b, 0, none⟩ = some (.int .u64 (key : Int))) :
    Calls Try.prog 25 #[.slice A l.length c, .func (.func 26) #[] #[.pointer (some ⟨b, 0, none⟩)]] w fun e w' => Chg Non w w' ∧ ∃ i : Int, e = .returned (.int .i64 i) ∧
      Hid ((i = -1 ∧ ∀ x ∈ l, x.key ≠ key) ∨ ∃ (k : Nat) (x : Va), i = (k : Int) ∧ l[k]? = some x ∧ x.key = key ∧ ∀ y ∈ l.take k, y.key ≠ x.key) := by
  have HM := Lib.hid M
  have HB := Lib.hid hb
  unfold maxLen at hl
  clear M hb
  generalize hn : l.length = n at *
  have HL := Lib.hid hn
  clear hn
  go_enter Try.func25, Try.ntmps25
  go_wp2_with fail
  go_loopw [5, 8] (fun _ i wr => ∃ k : Nat, k ≤ n ∧ i = .int .i64 (k : Int) ∧ Hid (∀ y ∈ l.take k, y.key ≠ key) ∧ Chg Non w wr) (fun _ i _ => n - (intOf i).toNat)
  case atStart => exact ⟨0, by omega, rfl, Lib.hid (by simp), Chg.refl _ _⟩
  case round =>
    obtain ⟨k, hk, rfl, hF, hC⟩ := hrel
    by_cases hlt : k < n
    · have hkl : k < l.length := by rw [HL.out]; exact hlt
      have hx := List.getElem?_eq_getElem hkl
      obtain ⟨a, ao, rfl, _, r1⟩ := (HM.out.chg hC) _ _ hx
      have HX := Lib.hid hx
      generalize l[k] = x at *
      have r0 := r1
      obtain ⟨p0, p1⟩ := rangeAt_cons r1
      obtain ⟨p1, _⟩ := rangeAt_cons p1
      have hki : (k : Int) < (n : Int) := by omega
      have HC := hasKey_any wr x b key (hC.cell HB.out (fun f => f))
      unfold Va.cells at HC
      clear r1 hx hkl hk
      by_cases e : x.key = key
      · rw [decide_eq_true e] at HC
        have E := Lib.hid e
        clear e
        go_wp2_with fail
        refine HC.mono ?_
        rintro e w1 ⟨rfl, k1⟩
        go_wp2_with fail
        go_ret
        exact ⟨hC.trans k1 (fun _ f => f.elim), _, rfl, Lib.hid (.inr ⟨k, x, rfl, HX.out, E.out, fun y hy => E.out ▸ hF.out y hy⟩)⟩
      · rw [decide_eq_false e] at HC
        go_wp2_with fail
        refine HC.mono ?_
        rintro e w1 ⟨rfl, k1⟩
        go_wp2_with fail
        go_roundw
        case rel => exact ⟨k + 1, by omega, by go_num, Lib.hid (by
          intro y hy
          rw [take_next HX.out, List.mem_append, List.mem_singleton] at hy
          rcases hy with hy | rfl
          · exact hF.out y hy
          · exact e), hC.trans k1 (fun _ f => f.elim)⟩
        case measure => simp [intOf]; omega
    · obtain rfl : k = n := by omega
      go_wp2
      go_ret
      have e : l.take k = l := List.take_of_length_le (by have := HL.out; omega)
      rw [e] at hF
      exact ⟨hC, _, rfl, Lib.hid (.inl ⟨rfl, hF.out⟩)⟩

set_option maxHeartbeats 1600000 in
theorem Power_any (w : World) (A : Option Addr) (c key : Nat) (l : List Va) (hl : l.length ≤ maxLen) (M : LstM w A l Va.cells 2) :
    Calls Try.prog 21 #[.slice A l.length c, .int .u64 (key : Int)] w (Zero w (.int .i64 (pw l key))) := by
  have HI : Hid (∀ w' b, Chg Non w w' → w'.cell? ⟨b, 0, none⟩ = some (.int .u64 (key : Int)) → _) := Lib.hid fun w' b k hb => index_any w' A c b key l hl (M.chg k) hb
  have HM := Lib.hid M
  clear M
  unfold maxLen at hl
  generalize hn : l.length = n at *
  have HL := Lib.hid hn
  clear hn
  generalize hp : pw l key = p at *
  have HP := Lib.hid hp
  clear hp
  go_enter Try.func21, Try.ntmps21
  go_wp2_with fail
  have k0 : Chg Non w (w.alloc (.cells #[.int .u64 (key : Int)] 43)) := (Chg.refl _ _).alloc _
  refine (HI.out _ w.heap.size k0 (by first | exact (Hb.new w _ _).cell 0 | trace_state)).mono ?_
  rintro e w1 ⟨k1, i, rfl, hh⟩
  have kk := k0.trans k1 (fun _ f => f.elim)
  by_cases hi : i < 0
  · have HP0 : Hid (p = 0) := Lib.hid (by
      rcases hh.out with ⟨_, q⟩ | ⟨k, x, q, _⟩
      · rw [← HP.out]; exact pw_not q
      · omega)
    go_wp2_with fail
    go_ret
    rw [HP0.out]
    exact ⟨rfl, kk⟩
  · obtain ⟨k, x, rfl, hx, hk, hf⟩ : ∃ (k : Nat) (x : Va), i = (k : Int) ∧ l[k]? = some x ∧ x.key = key ∧ ∀ y ∈ l.take k, y.key ≠ x.key := by
      rcases hh.out with ⟨q, _⟩ | q
      · omega
      · exact q
    obtain ⟨a, ao, rfl, _, r1⟩ := (HM.out.chg kk) _ _ hx
    obtain ⟨p0, p1⟩ := rangeAt_cons r1
    obtain ⟨p1, _⟩ := rangeAt_cons p1
    have hkn : k < n := by have := (List.getElem?_eq_some_iff.1 hx).1; have := HL.out; omega
    have hki : (k : Int) < (n : Int) := by omega
    obtain rfl : x.power = p := by rw [← HP.out, ← hk]; exact (pw_first hx hf).symm
    clear r1 hx hf hh
    go_wp2_with fail
    go_ret
    exact ⟨rfl, kk⟩
end Go.Proofs.Ytflellcbfcakhaa
