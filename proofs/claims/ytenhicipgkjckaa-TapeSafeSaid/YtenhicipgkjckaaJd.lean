/- The tape's calls: New, Safe, Calls, Read; what becomes of it; on no tape. -/
import Derived.Deep.AppendLies
import Derived.Deep.RegionLaw
import Derived.BigRegion
import Derived.Test.YtenhicipgkjckaaJc
namespace Go.Proofs.Ytenhicipgkjckaa
open Go.RowKit
set_option linter.unusedVariables false
set_option linter.unusedSimpArgs false
set_option maxRecDepth 20000

/-- The tape at block g has H. -/
def TP (w : World) (g : Nat) (F : Nat → Prop) (H : List St) : Prop := ∃ vp h x, Tp 45 42 5 w g F vp h x ∧ (h ++ [x]).map Ent.st = H
theorem TP.chg {S : Nat → Prop} {w w' : World} {g : Nat} {F : Nat → Prop} {H : List St} (t : TP w g F H) (k : Chg S w w') (hS : ∀ j, F j → ¬ S j) : TP w' g F H := by
  obtain ⟨vp, h, x, t, e⟩ := t
  exact ⟨vp, h, x, t.chg k hS, e⟩
theorem TP.lt {w : World} {g : Nat} {F : Nat → Prop} {H : List St} (t : TP w g F H) : ∀ j, F j → j < w.heap.size := by
  obtain ⟨vp, h, x, t, e⟩ := t
  exact t.lt
theorem TP.pos {w : World} {g : Nat} {F : Nat → Prop} {H : List St} (t : TP w g F H) : 0 < H.length := by
  obtain ⟨vp, h, x, t, e⟩ := t
  rw [len_of e]; omega
theorem TP.ok {w : World} {g : Nat} {F : Nat → Prop} {H : List St} (t : TP w g F H) : ∀ y ∈ H, y.2 ≤ y.1.length ∧ y.1.length ≤ 1048576 := by
  obtain ⟨vp, h, x, t, rfl⟩ := t
  intro y hy
  obtain ⟨z, hz, rfl⟩ := List.mem_map.1 hy
  exact ⟨(t.ok z hz).1, (t.ok z hz).2.1⟩
theorem lastS_mem {H : List St} (h : 0 < H.length) : lastS H ∈ H := by
  unfold lastS
  cases e : H.getLast? with
  | none => rw [List.getLast?_eq_none_iff] at e; subst e; simp at h
  | some x => exact List.mem_of_getLast? e

theorem state_parts : ∃ i z, Try.prog.info? 42 = some i ∧ i.zero = some z ∧ z.cells.size = 2 ∧ i.size = 2 ∧ i.bytes = 32 := by
  have h : (Try.prog.info? 42).map (fun i => (i.zero.map (·.cells.size), i.size, i.bytes)) = some (some 2, 2, 32) := by kernel_rfl
  cases hi : Try.prog.info? 42 with
  | none => rw [hi] at h; cases h
  | some i =>
    rw [hi] at h
    simp only [Option.map_some, Option.some.injEq, Prod.mk.injEq] at h
    obtain ⟨h1, h2, h3⟩ := h
    cases hz : i.zero with
    | none => rw [hz] at h1; cases h1
    | some z =>
      rw [hz] at h1
      simp only [Option.map_some, Option.some.injEq] at h1
      exact ⟨i, z, rfl, hz, h1, h2, h3⟩

theorem New_any (w : World) : Calls Try.prog 4 #[] w fun e w' => e = .returned (.pointer (some ⟨w.heap.size, 0, none⟩)) ∧ TP w' w.heap.size (fun j => j = w.heap.size) [([], 0)] ∧ Chg Non w w' := by
  go_enter Try.func4, Try.ntmps4
  go_wp2
  go_ret
  refine ⟨rfl, ⟨.slice none 0 0, [], ⟨.slice none 0 0, [], 0⟩, ⟨Hb.new w _ _, OwnL.nil _, (fun j hj => by cases hj), rfl, .inl (Own.nil _ _), (fun y hy => by cases hy), ?_, ?_, ?_⟩, rfl⟩, (Chg.refl Non w).alloc _⟩
  · intro y hy j hj
    rw [List.nil_append, List.mem_singleton] at hy
    subst hy
    cases hj
  · intro y hy
    rw [List.nil_append, List.mem_singleton] at hy
    subst hy
    exact ⟨Nat.le_refl _, by simp, rfl⟩
  · rintro j rfl
    simp

theorem Safe_any (w : World) (g : Nat) (F : Nat → Prop) (H : List St) (t : TP w g F H) : Calls Try.prog 14 #[.pointer (some ⟨g, 0, none⟩)] w fun e w' => e = .returned (.int .i64 ((lastS H).2 : Int)) ∧ w' = w := by
  obtain ⟨vp, h, x, t, hH⟩ := t
  rw [last_of hH]
  have c1 : w.cell? ⟨g, 1, none⟩ = some (.int .i64 (x.s : Int)) := t.box.cell 1
  generalize x.s = s at *
  clear t hH
  go_enter Try.func14, Try.ntmps14
  go_wp2
  go_ret
  exact ⟨rfl, rfl⟩

theorem Calls_any (w : World) (g : Nat) (F : Nat → Prop) (H : List St) (t : TP w g F H) : Calls Try.prog 10 #[.pointer (some ⟨g, 0, none⟩)] w fun e w' => e = .returned (.int .i64 ((H.length - 1 : Nat) : Int)) ∧ w' = w := by
  obtain ⟨vp, h, x, t, hH⟩ := t
  rw [len_of hH, Nat.add_sub_cancel]
  have c2 : w.cell? ⟨g, 2, none⟩ = some vp := t.box.cell 2
  obtain ⟨A, c, rfl, _⟩ := t.row.slice (fun x _ => Ent.cells_len x) (by omega)
  generalize h.length = n at *
  clear t hH
  go_enter Try.func10, Try.ntmps10
  go_wp2
  go_ret
  exact ⟨rfl, rfl⟩

theorem Read_any (w : World) (g : Nat) (F : Nat → Prop) (H : List St) (t : TP w g F H) : Calls Try.prog 9 #[.pointer (some ⟨g, 0, none⟩)] w fun e w' => ∃ v, e = .returned v ∧ Own 5 w' v (lastS H).1 ∧ (∀ j, vbl v j → w.heap.size ≤ j) ∧ Chg Non w w' := by
  obtain ⟨vp, h, x, t, hH⟩ := t
  rw [last_of hH]
  have c0 : w.cell? ⟨g, 0, none⟩ = some x.v := t.box.cell 0
  have hl := t.xok.2.1
  obtain ⟨A, c, hv, h1, h2, h3⟩ := t.nw.sl
  rw [hv] at c0
  have HC := clone_any w A x.b.length c x.b rfl h2 h1 h3 (by omega)
  generalize x.b = l at *
  clear t hH hv
  go_enter Try.func9, Try.ntmps9
  go_wp2_with (go_at_call 20; refine HC.mono ?_; rintro e w' ⟨v, rfl, a1, a2, a3⟩)
  go_ret
  exact ⟨v, rfl, a1, a2, a3⟩

theorem news2 {w : World} {nb e : Nat} {a b : Value} (h : Hb w nb e #[a, b]) : ∀ j u, [a, b][j]? = some u → w.cell? ((⟨nb, 0, none⟩ : Addr).add j) = some u := by
  intro j u hu
  rw [Addr.add_mid, Nat.zero_add, h.cell, ← hu]
  simp

theorem become_any (w : World) (g : Nat) (A : Option Addr) (n c : Nat) (s : Int) (vp : Value) (h : List Ent) (x : Ent) (hb : Hb w g 45 #[x.v, .int .i64 (x.s : Int), vp]) (ho : OwnL 42 2 Ent.cells w vp h) (h1 : x.v.oneCell' = true) (hl : h.length ≤ 1000) :
    Calls Try.prog 19 #[.pointer (some ⟨g, 0, none⟩), .agg #[.slice A n c, .int .i64 s]] w fun e w' => e = .returned (.tuple #[]) ∧ ∃ vp', Hb w' g 45 #[.slice A n c, .int .i64 s, vp'] ∧
      OwnL 42 2 Ent.cells w' vp' (h ++ [x]) ∧ Chg (fun j => j = g ∨ vbl vp j) w w' ∧ ∀ j, vbl vp' j → vbl vp j ∨ w.heap.size ≤ j := by
  obtain ⟨i, z, hi, hz, hzs, hsi, hby⟩ := state_parts
  obtain ⟨xv, xb, xs⟩ := x
  have k0 := (Chg.refl Non w).alloc (.cells #[.slice A n c, .int .i64 s] 42)
  have hb0 := hb.alloc (.cells #[.slice A n c, .int .i64 s] 42)
  have ho0 := ho.chg k0 (fun _ _ f => f)
  have hn0 := Hb.new w 42 #[.slice A n c, .int .i64 s]
  have hgl := hb.lt
  have hs0 : w.heap.size < (w.alloc (.cells #[.slice A n c, .int .i64 s] 42)).heap.size := by simp
  have c0 : (w.alloc (.cells #[.slice A n c, .int .i64 s] 42)).cell? ⟨g, 0, none⟩ = some xv := hb0.cell 0
  have c1 : (w.alloc (.cells #[.slice A n c, .int .i64 s] 42)).cell? ⟨g, 1, none⟩ = some (.int .i64 (xs : Int)) := hb0.cell 1
  have c2 : (w.alloc (.cells #[.slice A n c, .int .i64 s] 42)).cell? ⟨g, 2, none⟩ = some vp := hb0.cell 2
  have f2 := hb0.frozen 2
  have k1 := k0.trans (((Chg.refl Non (w.alloc (.cells #[.slice A n c, .int .i64 s] 42))).drew).alloc (.cells #[xv, .int .i64 (xs : Int)] 42)) (fun _ f => .inl f)
  have ho1 := ho.chg k1 (fun _ _ f => f)
  have hb1 := hb.chg k1 (fun f => f)
  have hn1 := hn0.chg (((Chg.refl Non (w.alloc (.cells #[.slice A n c, .int .i64 s] 42))).drew).alloc (.cells #[xv, .int .i64 (xs : Int)] 42)) (fun f => f)
  have hx1 : Hb ((w.alloc (.cells #[.slice A n c, .int .i64 s] 42)).drew.alloc (.cells #[xv, .int .i64 (xs : Int)] 42)) (w.heap.size + 1) 42 #[xv, .int .i64 (xs : Int)] := by
    have := Hb.new (w.alloc (.cells #[.slice A n c, .int .i64 s] 42)).drew 42 #[xv, .int .i64 (xs : Int)]
    simpa using this
  have hnews := news2 hx1
  have hone : ∀ u ∈ [xv, Value.int .i64 (xs : Int)], u.oneCell' = true := by
    intro u hu
    simp only [List.mem_cons, List.not_mem_nil, or_false] at hu
    rcases hu with rfl | rfl
    · exact h1
    · rfl
  have hsz1 : ((w.alloc (.cells #[.slice A n c, .int .i64 s] 42)).drew.alloc (.cells #[xv, .int .i64 (xs : Int)] 42)).heap.size = w.heap.size + 2 := by simp
  have HO1 := Lib.hid ho1
  have HB1 := Lib.hid hb1
  have HN1 := Lib.hid hn1
  have HNW := Lib.hid hnews
  have HON := Lib.hid hone
  have HSZ := Lib.hid hsz1
  have K1 := Lib.hid k1
  have HI := Lib.hid (And.intro hi (And.intro hz (And.intro hzs (And.intro hsi hby))))
  have HLT := Lib.hid ho.lt
  have HNE := Lib.hid (ho.ne hb (by decide))
  have HNE1 : Hid (¬ vbl vp w.heap.size) := Lib.hid (fun hj => by have := ho.lt _ hj; omega)
  clear ho hb hb0 ho0 hn0 k0 k1 ho1 hb1 hn1 hx1 hnews hone hsz1 hi hz hzs hsi hby
  go_enter Try.func19, Try.ntmps19
  go_wp2_with fail
  go_region_law (refine step_append_lies _ (by rfl) _ _ 43 (by rfl) 0 42 i z 2 32 Try.underlying43 HI.out.1 HI.out.2.1 HI.out.2.2.2.1 HI.out.2.2.2.2 HI.out.2.2.1 (by omega) vp h.length (h.flatMap Ent.cells) (by rfl) HO1.out ⟨w.heap.size + 1, 0, none⟩ 1 1 [xv, .int .i64 (xs : Int)] (by rfl) (by rfl) HNW.out HON.out (by omega) (by unfold maxLen; omega) (by omega) (Nat.zero_le _) _ rfl ?_; intro g9 cap9 w9 o9 r9 b9 l9; have hb9 := HB1.out.grown r9 (fun e => HNE.out e.symm); have hn9 := HN1.out.grown r9 (fun e => HNE1.out e.symm); have c9 : w9.cell? ⟨g, 2, none⟩ = some vp := hb9.cell 2; have f9 : w9.frozen? ⟨g, 2, none⟩ = false := hb9.frozen 2)
  all_goals
    have hb10 := hb9.set 2 (.slice (some ⟨g9, 0, none⟩) (h.length + 1) cap9)
    have hn10 := hn9.far (p := ⟨g, 2, none⟩) (by show w.heap.size ≠ g; omega) (.slice (some ⟨g9, 0, none⟩) (h.length + 1) cap9)
    have k10 := (Chg.refl (fun j => j = g) w9).setCell (p := ⟨g, 2, none⟩) (.inl rfl) (.slice (some ⟨g9, 0, none⟩) (h.length + 1) cap9)
    have n9 : g9 ≠ g := fun e => by
      subst e
      rcases b9 with b9 | b9
      · exact HNE.out b9
      · have := HSZ.out; simp at b9; omega
    have b9' : vbl vp g9 ∨ g9 = w.heap.size + 2 := by
      rcases b9 with b9 | b9
      · exact .inl b9
      · right; rw [b9]; exact HSZ.out
    obtain ⟨w10, hw10⟩ : ∃ w10, w9.setCell ⟨g, 2, none⟩ (.slice (some ⟨g9, 0, none⟩) (h.length + 1) cap9) = w10 := ⟨_, rfl⟩
    rw [hw10] at hb10 hn10 k10 ⊢
    clear hw10
    have d0 : w10.cell? ⟨w.heap.size, 0, none⟩ = some (.slice A n c) := hn10.cell 0
    have d1 : w10.cell? ⟨w.heap.size, 1, none⟩ = some (.int .i64 s) := hn10.cell 1
    have e0 : w10.cell? ⟨g, 0, none⟩ = some xv := hb10.cell 0
    have e1 : w10.cell? ⟨g, 1, none⟩ = some (.int .i64 (xs : Int)) := hb10.cell 1
    have f0 := hb10.frozen 0
    have f1 := hb10.frozen 1
    have HB10 := Lib.hid hb10
    have K9 := Lib.hid r9
    have O9 := Lib.hid o9
    have K10 := Lib.hid k10
    clear hb10 hn10 c9 f9 hb9 hn9 r9 o9 k10 b9 f2 c2 c1 c0
    go_wp2_with fail
    go_end0
    have hb12 := (HB10.out.set 0 (.slice A n c)).set 1 (.int .i64 s)
    have k12 := (K10.out.setCell (p := ⟨g, 0, none⟩) (.inl rfl) (.slice A n c)).setCell (p := ⟨g, 1, none⟩) (.inl rfl) (.int .i64 s)
    have k9 := (Chg.refl (fun j => vbl vp j) _).grown K9.out (fun k hk => .inl hk)
    have kk := ((K1.out.mono (S' := fun j => j = g ∨ vbl vp j) (fun _ f => f.elim)).trans k9 (fun j hj => .inl (.inr hj))).trans k12 (fun j hj => .inl (.inl hj))
    refine ⟨rfl, _, hb12, ?_, kk, ?_⟩
    · have o' : OwnL 42 2 Ent.cells w9 (.slice (some ⟨g9, 0, none⟩) (h.length + 1) cap9) (h ++ [⟨xv, xb, xs⟩]) := by
        unfold OwnL
        rw [List.length_append, List.flatMap_append]
        exact O9.out
      exact o'.chg k12 (fun j hj e => by
        have : some g9 = some j := hj
        injection this with this
        omega)
    · intro j hj
      have : some g9 = some j := hj
      injection this with this
      subst this
      rcases b9' with b9' | b9'
      · exact .inl b9'
      · exact .inr (by omega)
end Go.Proofs.Ytenhicipgkjckaa
