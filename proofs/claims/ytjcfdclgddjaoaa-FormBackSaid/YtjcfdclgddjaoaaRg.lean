/- The document's own reader of nuncioref02: contracts. -/
import Derived.Test.YtjcfdclgddjaoaaChecked
import Derived.WalkKit
import Derived.Lib.Hide
import Derived.Deep.QuietTactic
import Derived.BigQuiet
import Derived.Test.YtjcfdclgddjaoaaMt
import Derived.Test.YtjcfdclgddjaoaaRw
namespace Go.Proofs.Ytjcfdclgddjaoaa
open Go.RowKit
set_option linter.unusedVariables false
set_option maxRecDepth 20000

/-- The block g is the document's reader, whose bytes lie in the blocks F: of these bytes, or a broken one. -/
def RdF (w : World) (g : Nat) (F : Nat → Prop) : Option (List UInt8) → Prop
  | some l => ¬ F g ∧ ∃ A c, Hb w g 100 #[.slice A l.length c, .bool false] ∧ Rd w A l ∧ l.length ≤ c ∧ c ≤ maxLen ∧ (l ≠ [] → ∀ j, abl A j → F j)
  | none => ¬ F g ∧ ∃ A n c, Hb w g 100 #[.slice A n c, .bool true]

theorem RdF.lt {w : World} {g : Nat} {F : Nat → Prop} {st : Option (List UInt8)} (h : RdF w g F st) : g < w.heap.size := by
  cases st with
  | none => obtain ⟨_, A, n, c, hb⟩ := h; exact hb.lt
  | some l => obtain ⟨_, A, c, hb, _⟩ := h; exact hb.lt
theorem RdF.nF {w : World} {g : Nat} {F : Nat → Prop} {st : Option (List UInt8)} (h : RdF w g F st) : ¬ F g := by
  cases st <;> exact h.1
theorem Rd.chg' {w w' : World} {A : Option Addr} {l : List UInt8} {S : Nat → Prop} (h : Rd w A l) (k : Chg S w w') (hS : l ≠ [] → ∀ j, abl A j → ¬ S j) : Rd w' A l := by
  by_cases hl : l = []
  · subst hl; exact Rd.nil _ _
  · exact h.chg k (hS hl)
theorem RdF.chg {w w' : World} {g : Nat} {F : Nat → Prop} {st : Option (List UInt8)} {S : Nat → Prop} (h : RdF w g F st) (k : Chg S w w') (hg : ¬ S g) (hF : ∀ j, F j → ¬ S j) : RdF w' g F st := by
  cases st with
  | none =>
    obtain ⟨h1, A, n, c, hb⟩ := h
    exact ⟨h1, A, n, c, hb.chg k hg⟩
  | some l =>
    obtain ⟨h1, A, c, hb, hr, hc, hm, hA⟩ := h
    exact ⟨h1, A, c, hb.chg k hg, hr.chg' k (fun hl j hj => hF j (hA hl j hj)), hc, hm, hA⟩

/-- So many bytes: those that stand next, or noughts. -/
def takeB (st : Option (List UInt8)) (n : Nat) : List UInt8 := match st with | some l => if n ≤ l.length then l.take n else List.replicate n 0 | none => List.replicate n 0
def takeS (st : Option (List UInt8)) (n : Nat) : Option (List UInt8) := match st with | some l => if n ≤ l.length then some (l.drop n) else none | none => none
theorem takeB_length (st : Option (List UInt8)) (n : Nat) : (takeB st n).length = n := by
  unfold takeB
  split
  · split
    · simp; omega
    · simp
  · simp

/-- What take leaves. -/
def Tk (w : World) (g : Nat) (F : Nat → Prop) (st : Option (List UInt8)) (n : Nat) (e : Ending) (w' : World) : Prop :=
  ∃ A c, e = .returned (.slice A n c) ∧ n ≤ c ∧ Rd w' A (takeB st n) ∧ RdF w' g F (takeS st n) ∧ Chg (Eqg g) w w' ∧ (takeB st n ≠ [] → ∀ j, abl A j → F j ∨ w.heap.size ≤ j)

theorem rd_zeros (w : World) (n : Nat) : Rd (w.alloc (.cells (List.replicate n (Value.int .u8 0)).toArray 5)) (some ⟨w.heap.size, 0, none⟩) (List.replicate n 0) :=
  rd_of_blk (Hb.new w _ _) (fun j b hj => by
    rw [List.getElem?_replicate] at hj
    split at hj
    · injection hj with hj
      subst hj
      rename_i h
      simp [h]
    · cases hj)

theorem take_no (w : World) (g : Nat) (F : Nat → Prop) (n : Nat) (A : Option Addr) (m c : Nat) (bad : Bool) (hF : ¬ F g) (hb : Hb w g 100 #[.slice A m c, .bool bad]) (hn : n ≤ 1000000) (hm : bad = false → m < n) :
    Calls Try.prog 100 #[.pointer (some ⟨g, 0, none⟩), .int .i64 (n : Int)] w fun e w' => e = .returned (.slice (some ⟨w.heap.size, 0, none⟩) n n) ∧ w' = (w.setCell ⟨g, 1, none⟩ (.bool true)).alloc (.cells (List.replicate n (Value.int .u8 0)).toArray 5) := by
  have c0 : w.cell? ⟨g, 0, none⟩ = some (.slice A m c) := hb.cell 0
  have c1 : w.cell? ⟨g, 1, none⟩ = some (.bool bad) := hb.cell 1
  have f1 : w.frozen? ⟨g, 1, none⟩ = false := hb.frozen 1
  have HM := make_u8 n hn
  cases bad with
  | true =>
    clear hm
    go_enter Try.func100, Try.ntmps100
    go_wp2
    go_ret
    exact ⟨by simp [World.setCell], rfl⟩
  | false =>
    have hlt := hm rfl
    clear hm
    go_enter Try.func100, Try.ntmps100
    go_wp2
    go_ret
    exact ⟨by simp [World.setCell], rfl⟩

theorem take_yes (w : World) (g : Nat) (F : Nat → Prop) (l : List UInt8) (n : Nat) (h : RdF w g F (some l)) (hn : n ≤ l.length) :
    Calls Try.prog 100 #[.pointer (some ⟨g, 0, none⟩), .int .i64 (n : Int)] w (Tk w g F (some l) n) := by
  have htb : takeB (some l) n = l.take n := by unfold takeB; simp only; rw [if_pos hn]
  have hts : takeS (some l) n = some (l.drop n) := by unfold takeS; simp only; rw [if_pos hn]
  have HTB := Lib.hid htb
  have HTS := Lib.hid hts
  clear htb hts
  obtain ⟨h1, A, c, hb, hr, hc, hm, hA⟩ := h
  have c0 : w.cell? ⟨g, 0, none⟩ = some (.slice A l.length c) := hb.cell 0
  have c1 : w.cell? ⟨g, 1, none⟩ = some (.bool false) := hb.cell 1
  have f0 : w.frozen? ⟨g, 0, none⟩ = false := hb.frozen 0
  have hm' := hm
  unfold maxLen at hm
  have hl : (l.drop n).length = l.length - n := List.length_drop
  have hS : l ≠ [] → ∀ j, abl A j → ¬ Eqg g j := fun hne j hj e => h1 (by unfold Eqg at e; rw [← e]; exact hA hne j hj)
  have ht : l.take n ≠ [] → l ≠ [] := by rintro h2 rfl; simp at h2
  have hd : l.drop n ≠ [] → l ≠ [] := by rintro h2 rfl; simp at h2
  have TT := Lib.hid ht
  have TD := Lib.hid hd
  have TS := Lib.hid hS
  have TL := Lib.hid hl
  have TA := Lib.hid hA
  clear ht hd hS hl hA
  go_enter Try.func100, Try.ntmps100
  go_wp2
  · obtain rfl : c = n := by assumption
    go_ret
    unfold Tk
    rw [HTB.out, HTS.out]
    refine ⟨A, c, rfl, by omega, (hr.chg' ((Chg.refl (Eqg g) w).setCell (p := ⟨g, 0, none⟩) (.inl rfl) _) TS.out).take c, ⟨h1, A, 0, ?_, ?_, ?_, by unfold maxLen; omega, fun h2 => TA.out (TD.out h2)⟩, (Chg.refl (Eqg g) w).setCell (p := ⟨g, 0, none⟩) (.inl rfl) _, fun h2 j hj => .inl (TA.out (TT.out h2) j hj)⟩
    · rw [TL.out]; exact hb.set 0 _
    · rw [List.drop_of_length_le (by omega)]; exact Rd.nil _ _
    · rw [TL.out]; omega
  · go_ret
    unfold Tk
    rw [HTB.out, HTS.out]
    refine ⟨A, c, rfl, by omega, (hr.chg' ((Chg.refl (Eqg g) w).setCell (p := ⟨g, 0, none⟩) (.inl rfl) _) TS.out).take n, ⟨h1, A.map (·.add n), c - n, ?_, ?_, ?_, by omega, ?_⟩, (Chg.refl (Eqg g) w).setCell (p := ⟨g, 0, none⟩) (.inl rfl) _, fun h2 j hj => .inl (TA.out (TT.out h2) j hj)⟩
    · rw [TL.out]; exact hb.set 0 _
    · exact (hr.chg' ((Chg.refl (Eqg g) w).setCell (p := ⟨g, 0, none⟩) (.inl rfl) _) TS.out).drop n
    · rw [TL.out]; omega
    · rintro h2 j ⟨ad, h3, rfl⟩
      obtain ⟨ad', rfl, rfl⟩ := Option.map_eq_some_iff.1 h3
      rw [block_add]
      exact TA.out (TD.out h2) _ ⟨ad', rfl, rfl⟩

theorem take_any (w : World) (g : Nat) (F : Nat → Prop) (st : Option (List UInt8)) (n : Nat) (h : RdF w g F st) (hFs : ∀ j, F j → j < w.heap.size) (hn : n ≤ 1000000) :
    Calls Try.prog 100 #[.pointer (some ⟨g, 0, none⟩), .int .i64 (n : Int)] w (Tk w g F st n) := by
  have fin : ∀ (A : Option Addr) (m c : Nat) (bad : Bool), Hb w g 100 #[.slice A m c, .bool bad] → takeB st n = List.replicate n 0 → takeS st n = none →
      Tk w g F st n (.returned (.slice (some ⟨w.heap.size, 0, none⟩) n n)) ((w.setCell ⟨g, 1, none⟩ (.bool true)).alloc (.cells (List.replicate n (Value.int .u8 0)).toArray 5)) := by
    intro A m c bad hb e1 e2
    unfold Tk
    rw [e1, e2]
    have hz := rd_zeros (w.setCell ⟨g, 1, none⟩ (.bool true)) n
    rw [show (w.setCell ⟨g, 1, none⟩ (.bool true)).heap.size = w.heap.size by simp [World.setCell]] at hz
    refine ⟨_, n, rfl, Nat.le_refl _, hz, ⟨h.nF, A, m, c, (hb.set 1 (.bool true)).alloc _⟩, ((Chg.refl (Eqg g) w).setCell (p := ⟨g, 1, none⟩) (.inl rfl) _).alloc _, ?_⟩
    rintro _ j ⟨ad, h3, rfl⟩
    injection h3 with h3
    subst h3
    exact .inr (Nat.le_refl _)
  cases st with
  | none =>
    obtain ⟨h1, A, m, c, hb⟩ := h
    exact (take_no w g F n A m c true h1 hb hn (by simp)).mono fun e w' ⟨he, hw⟩ => by subst he; subst hw; exact fin A m c true hb rfl rfl
  | some l =>
    by_cases hl : n ≤ l.length
    · exact take_yes w g F l n h hl
    · obtain ⟨h1, A, c, hb, _⟩ := h
      exact (take_no w g F n A l.length c false h1 hb hn (fun _ => by omega)).mono fun e w' ⟨he, hw⟩ => by subst he; subst hw; exact fin A _ c false hb (by unfold takeB; simp only; rw [if_neg hl]) (by unfold takeS; simp only; rw [if_neg hl])
end Go.Proofs.Ytjcfdclgddjaoaa
