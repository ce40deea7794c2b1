/- What the laws on sets lean on: the live question, Update by what is good, arguments. -/
import Derived.Test.YtddkcdlioglkmaaChecked
import Derived.WalkKit
import Derived.WalkLawsBesides
import Derived.Lib.Hide
import Derived.Test.YtddkcdlioglkmaaUe
namespace Go.Proofs.Ytddkcdlioglkmaa
open Go.RowKit
set_option linter.unusedVariables false
set_option linter.unusedSimpArgs false
set_option maxRecDepth 20000

theorem rt_two : Rt [⟨1, 2⟩, ⟨3, 5⟩] := by
  refine ⟨by simp, by simp, ?_, ?_, ?_⟩
  · simp [Rises]
  · intro x hx; simp at hx; rcases hx with rfl | rfl <;> simp
  · simp [sumP, top]
theorem not_rt_nil : ¬ Rt [] := fun h => by have := h.1; simp at this

/-- New blocks of one and of two validators. -/
theorem one_new (w : World) (x : Va) : LstM (w.alloc (.cells #[.int .u64 (x.key : Int), .int .i64 x.power] 26)) (some ⟨w.heap.size, 0, none⟩) [x] Va.cells 2 :=
  lstM_new (fun _ => rfl) (t := 26) (Hb.new w _ _)
theorem two_new (w : World) (x y : Va) : LstM (w.alloc (.cells #[.int .u64 (x.key : Int), .int .i64 x.power, .int .u64 (y.key : Int), .int .i64 y.power] 26)) (some ⟨w.heap.size, 0, none⟩) [x, y] Va.cells 2 :=
  lstM_new (fun _ => rfl) (t := 26) (Hb.new w _ _)

set_option maxHeartbeats 1600000 in
theorem alive_any (w : World) : Calls Try.prog 5 #[] w (Zero w (.bool true)) := by
  have k0 : Chg Non w (w.alloc (.cells #[.int .u64 1, .int .i64 2, .int .u64 3, .int .i64 5] 26)) := (Chg.refl _ _).alloc _
  have HT := Lib.hid (Total_any _ _ 2 _ (by unfold maxLen; simp) (by intro x hx; simp at hx; rcases hx with rfl | rfl <;> exact ⟨by simp, by simp, by simp⟩) (two_new w ⟨1, 2⟩ ⟨3, 5⟩))
  have HR : Hid (∀ w', Calls Try.prog 10 #[.slice none 0 0] w' (Yes w' (Rt []))) := Lib.hid fun w' => Right_any w' none 0 [] (by unfold maxLen; simp) (by simp) (fun i x hx => by simp at hx)
  go_enter Try.func5, Try.ntmps5
  go_wp2_with fail
  refine HT.out.mono ?_
  rintro e w1 ⟨k1, hh⟩
  obtain rfl : e = .returned (.tuple #[.int .i64 7, .int .i64 0]) := by
    rcases hh with ⟨_, rfl⟩ | ⟨h, _⟩
    · rfl
    · exact absurd rt_two h
  clear hh
  go_wp2_with fail
  refine (HR.out _).mono ?_
  rintro e w2 ⟨k2, b, rfl, hb⟩
  obtain rfl : b = false := by
    cases b
    · rfl
    · exact absurd (hb.1 rfl) not_rt_nil
  clear hb
  go_wp2_with fail
  go_ret
  exact ⟨rfl, (k0.trans k1 (fun _ f => f.elim)).trans k2 (fun _ f => f.elim)⟩

/-- The set r is l behind the changes ch, and all is well. -/
def Good (l ch r : List Va) : Prop := ∃ f, Rt l ∧ runC (pw l) ch = .ok f ∧ Nf r f ∧ Rt r
theorem Good.uniq {l ch r s : List Va} (h : Good l ch r) (k : Good l ch s) : r = s := by
  obtain ⟨f, _, h1, h2, _⟩ := h
  obtain ⟨g, _, k1, k2, _⟩ := k
  rw [h1] at k1
  injection k1 with k1
  subst k1
  exact h2.uniq k2
/-- Update by what is good. -/
def UpG (w : World) (l ch : List Va) (e : Ending) (w' : World) : Prop := Chg Non w w' ∧ ∃ (s : Value) (er : Int), e = .returned (.tuple #[s, .int .i64 er]) ∧
  ((er = 0 ∧ ∃ r A c, s = .slice A r.length c ∧ Hid (Good l ch r ∧ (∀ x ∈ r, x.Ok) ∧ LstM w' A r Va.cells 2)) ∨ (er ≠ 0 ∧ s = .slice none 0 0 ∧ Hid (∀ r, ¬ Good l ch r)))
theorem Update_good (w : World) (A B : Option Addr) (c d : Nat) (l ch : List Va) (hl : l.length ≤ 100) (hch : ch.length ≤ 100) (ol : ∀ x ∈ l, x.Ok) (och : ∀ x ∈ ch, x.Ok) (M : LstM w A l Va.cells 2) (N : LstM w B ch Va.cells 2) :
    Calls Try.prog 6 #[.slice A l.length c, .slice B ch.length d] w (UpG w l ch) := by
  refine (Update_any w A B c d l ch hl hch ol och M N).mono ?_
  rintro e w' ⟨k, h⟩
  refine ⟨k, ?_⟩
  rcases h with ⟨h1, rfl⟩ | ⟨h1, x, h2, h3, rfl⟩ | ⟨h1, f, r, h2, h3, h4, h5⟩
  · exact ⟨_, _, rfl, .inr ⟨by omega, rfl, Lib.hid fun r g => h1 (by obtain ⟨f, h, _⟩ := g; exact h)⟩⟩
  · refine ⟨_, _, rfl, .inr ⟨by omega, rfl, Lib.hid fun r g => ?_⟩⟩
    obtain ⟨f, _, g2, _⟩ := g
    rw [h2] at g2
    cases g2
  · have key : ∀ r', Good l ch r' → r' = r ∧ Rt r' := by
      rintro r' ⟨f', _, g2, g3, g4⟩
      rw [h2] at g2
      injection g2 with g2
      subst g2
      exact ⟨g3.uniq h3, g4⟩
    rcases h5 with ⟨a, rfl⟩ | ⟨_, a, rfl⟩ | ⟨a, A', c', rfl, M'⟩
    · refine ⟨_, _, rfl, .inr ⟨by omega, rfl, Lib.hid fun r' g => ?_⟩⟩
      obtain ⟨rfl, h⟩ := key r' g
      exact a h.2.2.2
    · refine ⟨_, _, rfl, .inr ⟨by omega, rfl, Lib.hid fun r' g => ?_⟩⟩
      obtain ⟨rfl, h⟩ := key r' g
      exact a h
    · exact ⟨_, _, rfl, .inl ⟨rfl, r, A', c', rfl, Lib.hid ⟨⟨f, h1, h2, h3, a⟩, h4, M'⟩⟩⟩

theorem set_arg {w : World} {v : Value} (h : Okv Try.prog w 22 v) : ∃ A c l, v = .slice A l.length c ∧ l.length ≤ maxLen ∧ LstM w A l Va.cells 2 ∧ ∀ x ∈ l, Va.Ok x := by
  obtain ⟨h1, h2⟩ := h
  simp only [Try.underlying22] at h1
  obtain ⟨A, c, l, e, hl, M, ol⟩ := slice_of Try.underlying22 va_cells (by omega) (fun es h => va_of h) (h2 4)
  rw [h1] at e
  refine ⟨A, c, l, ?_, hl, M, ol⟩
  simpa using e
theorem va_arg {w : World} {v : Value} (h : Okv Try.prog w 26 v) : ∃ x : Va, v = .agg #[.int .u64 (x.key : Int), .int .i64 x.power] ∧ x.Ok := by
  obtain ⟨cs, rfl, ho⟩ := agg_arg Try.underlying26 h
  obtain ⟨x, e, ox⟩ := va_of (ho 4)
  refine ⟨x, ?_, ox⟩
  have : cs = x.cells.toArray := by rw [← e]
  rw [this]
  rfl
theorem key_arg {w : World} {v : Value} (h : Okv Try.prog w 24 v) : ∃ k : Nat, v = .int .u64 (k : Int) ∧ k < 18446744073709551616 := by
  obtain ⟨h1, h2⟩ := h
  simp only [Try.underlying24] at h1
  obtain ⟨x, e, hx⟩ := okc_u64 (h2 4)
  rw [h1] at e
  exact ⟨x, by simpa using e, hx⟩
end Go.Proofs.Ytddkcdlioglkmaa
