/- The document's tape: New, last, Read, Safe, Calls, Pick, Append, Sync, Trim. -/
import Derived.Test.YtenhicipgkjckaaJe
namespace Go.Proofs.Ytenhicipgkjckaa
open Go.RowKit
set_option linter.unusedVariables false
set_option linter.unusedSimpArgs false
set_option maxRecDepth 20000

/-- The document's tape at block m has H. -/
def RP (w : World) (m : Nat) (G : Nat → Prop) (H : List St) : Prop := ∃ vl h x, Rp 50 47 w m G vl (h ++ [x]) ∧ (h ++ [x]).map Ent.st = H
theorem RP.chg {S : Nat → Prop} {w w' : World} {m : Nat} {G : Nat → Prop} {H : List St} (t : RP w m G H) (k : Chg S w w') (hS : ∀ j, G j → ¬ S j) : RP w' m G H := by
  obtain ⟨vl, h, x, t, e⟩ := t
  exact ⟨vl, h, x, t.chg k hS, e⟩
theorem RP.lt {w : World} {m : Nat} {G : Nat → Prop} {H : List St} (t : RP w m G H) : ∀ j, G j → j < w.heap.size := by
  obtain ⟨vl, h, x, t, e⟩ := t
  exact t.lt
theorem was_parts : ∃ i z, Try.prog.info? 47 = some i ∧ i.zero = some z ∧ z.cells.size = 2 ∧ i.size = 2 ∧ i.bytes = 32 := by
  have h : (Try.prog.info? 47).map (fun i => (i.zero.map (·.cells.size), i.size, i.bytes)) = some (some 2, 2, 32) := by kernel_rfl
  cases hi : Try.prog.info? 47 with
  | none => rw [hi] at h; cases h
  | some i =>
    rw [hi] at h
    simp only [Option.map_some, Option.some.injEq, Prod.mk.injEq] at h
    obtain ⟨h1, h2, h3⟩ := h
    cases hz : i.zero with
    | none => rw [hz] at h1; cases h1
    | some z =>
      rw [hz] at h1
      simp only [Option.map_some, Option.some.injEq] at h1
      exact ⟨i, z, rfl, hz, h1, h2, h3⟩

/-- One that was, in a new block. -/
theorem own_one (w : World) (x : Ent) : OwnL 47 2 Ent.cells (w.alloc (.cells #[x.v, .int .i64 (x.s : Int)] 47)) (.slice (some ⟨w.heap.size, 0, none⟩) 1 1) [x] :=
  ⟨rfl, .inr ⟨w.heap.size, 1, _, rfl, Nat.zero_le _, heap_alloc_new w _, Nat.le_refl _, by unfold maxLen; omega, rfl, rfl⟩⟩

theorem rNew_any (w : World) : Calls Try.prog 6 #[] w fun e w' => e = .returned (.pointer (some ⟨w.heap.size + 1, 0, none⟩)) ∧ RP w' (w.heap.size + 1) (fun j => w.heap.size ≤ j ∧ j < w.heap.size + 2) [([], 0)] ∧ Chg Non w w' := by
  have o1 := own_one w ⟨.slice none 0 0, [], 0⟩
  have k1 := (Chg.refl Non w).alloc (.cells #[.slice none 0 0, .int .i64 0] 47)
  have hsz : (w.alloc (.cells #[.slice none 0 0, .int .i64 0] 47)).heap.size = w.heap.size + 1 := by simp
  have b2 : Hb ((w.alloc (.cells #[.slice none 0 0, .int .i64 0] 47)).alloc (.cells #[.slice (some ⟨w.heap.size, 0, none⟩) 1 1] 50)) (w.heap.size + 1) 50 #[.slice (some ⟨w.heap.size, 0, none⟩) 1 1] := by
    have := Hb.new (w.alloc (.cells #[.slice none 0 0, .int .i64 0] 47)) 50 #[.slice (some ⟨w.heap.size, 0, none⟩) 1 1]
    rw [hsz] at this
    exact this
  have k2 := (Chg.refl Non (w.alloc (.cells #[.slice none 0 0, .int .i64 0] 47))).alloc (.cells #[.slice (some ⟨w.heap.size, 0, none⟩) 1 1] 50)
  have o2 := o1.chg k2 (fun _ _ f => f)
  have hO2 := Lib.hid o2
  have hB2 := Lib.hid b2
  have hK := Lib.hid (k1.trans k2 (fun _ f => .inl f))
  clear o1 k1 k2 o2 b2
  go_enter Try.func6, Try.ntmps6
  go_wp2
  go_ret
  refine ⟨rfl, ⟨_, [], ⟨.slice none 0 0, [], 0⟩, ⟨hB2.out, hO2.out, ?_, ⟨by omega, by omega⟩, ?_, ?_, ?_, ?_⟩, rfl⟩, hK.out⟩
  · intro j hj
    have : some w.heap.size = some j := hj
    injection this with this
    omega
  · intro y hy
    rw [List.nil_append, List.mem_singleton] at hy
    subst hy
    exact ⟨none, 0, rfl, Nat.le_refl _, by unfold maxLen; omega, Rd.nil _ _⟩
  · intro y hy j hj
    rw [List.nil_append, List.mem_singleton] at hy
    subst hy
    cases hj
  · intro y hy
    rw [List.nil_append, List.mem_singleton] at hy
    subst hy
    exact ⟨Nat.le_refl _, by simp⟩
  · rintro j ⟨h1, h2⟩
    simp
    omega

/-- What it is. -/
theorem last_any (w : World) (m : Nat) (G : Nat → Prop) (vl : Value) (h : List Ent) (x : Ent) (t : Rp 50 47 w m G vl (h ++ [x])) (hl : h.length ≤ 1000) :
    Calls Try.prog 23 #[.pointer (some ⟨m, 0, none⟩)] w fun e w' => e = .returned (.agg #[x.v, .int .i64 (x.s : Int)]) ∧ Chg Non w w' := by
  have kd := (Chg.refl Non w).alloc (.cells #[.slice none 0 0, .int .i64 0] 47)
  have td := t.chg kd (fun _ _ f => f)
  obtain ⟨Ap, cp, rfl, hpc, hpb, hpr⟩ := td.row.slice (fun x _ => Ent.cells_len x) (by omega)
  obtain ⟨A, c, hv, h1, h2, h3⟩ := t.rd x (by simp)
  rw [hv]
  obtain ⟨eb, eo, rfl, hlt, hrg⟩ := hpr h.length x (by simp)
  have d0 := (rangeAt_cons hrg).1
  have d1 := (rangeAt_cons (rangeAt_cons hrg).2).1
  rw [hv] at d0
  have c0 := td.box.cell 0
  rw [List.length_append, List.length_singleton] at c0
  have hml := t.box.lt
  have hbe : (w.alloc (.cells #[.slice none 0 0, .int .i64 0] 47)).heap.size = w.heap.size + 1 := by simp
  have hebl : eb < w.heap.size := by have := t.lt eb (t.rowG eb rfl); exact this
  generalize hn : h.length = n at *
  clear td hpr hpb t hrg h3
  go_enter Try.func23, Try.ntmps23
  go_wp2_with fail
  go_region
  all_goals
    go_wp2
    refine bodyPost_ret (results_cell_row rfl _ _ w.heap.size 47 #[.slice A x.b.length c, .int .i64 (x.s : Int)] (0, 0) _ rfl (Hb.new w _ _) Try.underlying47 rfl (by kernel_rfl)) rfl ?_
    exact ⟨rfl, ((Chg.refl Non w).alloc _).drew⟩
end Go.Proofs.Ytenhicipgkjckaa
