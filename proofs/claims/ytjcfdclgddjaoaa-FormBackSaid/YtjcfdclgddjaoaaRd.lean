/- What the calls on package wire's reader answer: each recovers the panic of a field that is not there. -/
import Derived.Test.YtjcfdclgddjaoaaChecked
import Derived.WalkKit
import Derived.WalkLawsBesides
import Derived.Lib.Hide
import Derived.Recover
import Derived.Test.YtjcfdclgddjaoaaRr
namespace Go.Proofs.Ytjcfdclgddjaoaa
open Go.RowKit
set_option linter.unusedVariables false

theorem mkf (fn : Fn) (first cap : Array Value) (w : World) : (Instr.makeFunc fn first cap).run Try.prog w = .ok (.func fn first cap) w := rfl

/-- What a call on a reader leaves: the field, or none; the reader behind it, or a broken one. -/
def Readd (w : World) (g : Nat) (F : Nat → Prop) (z : Value) (o : Option (Value × List UInt8)) (e : Ending) (w' : World) : Prop :=
  e = .returned ((o.map (·.1)).getD z) ∧ Rdr w' g F (o.map (·.2)) ∧ Chg (Eqg g) w w'


theorem catchP_int (w : World) (p g : Nat) (x y : Value) (v : Value) (u : TypeId) (older : List PanicEntry) (hp : w.cell? ⟨p, 0, none⟩ = some (.pointer (some ⟨g, 0, none⟩))) (hpg : p ≠ g) (hb : Hb w g 180 #[x, y]) :
    CallsD Try.prog 134 #[.pointer (some ⟨p, 0, none⟩)] (.panicking ({ v := .iface u v, recovered := false } :: older)) w fun e u' w' =>
      e = .returned (.tuple #[]) ∧ u' = .panicking ({ v := .iface u v, recovered := true } :: older) ∧ w' = (w.setCell ⟨g, 1, none⟩ (.bool true)).setCell ⟨g, 0, none⟩ (.slice none 0 0) := by
  have c0 : w.cell? ⟨g, 0, none⟩ = some x := hb.cell 0
  have c1 : w.cell? ⟨g, 1, none⟩ = some y := hb.cell 1
  have f0 : w.frozen? ⟨g, 0, none⟩ = false := hb.frozen 0
  have f1 : w.frozen? ⟨g, 1, none⟩ = false := hb.frozen 1
  refine callsD_of_wpS Try.func134 rfl fun c₀ cs hu => ?_
  apply wpS_seq
  apply wpS_region
  simp [wpOpsS, go_sem, recoverD, hu, Try.ntmps134, Exit.thenS]
  refine wpS_cond (t := true) (by simp [Act.eval, Array.replicate]) ?_
  simp only [if_true]
  refine wpS_of_wp ?_
  go_wp2
  exact ⟨rfl, _, rfl, .tuple #[], by simp [results, Try.results134], rfl, rfl, rfl⟩

theorem catchI_int (w : World) (p : Addr) : CallsD Try.prog 134 #[.pointer (some p)] .returning w fun e u' w' => e = .returned (.tuple #[]) ∧ u' = .returning ∧ w' = w := by
  refine callsD_of_wpS Try.func134 rfl fun c₀ cs hu => ?_
  apply wpS_seq
  apply wpS_region
  simp [wpOpsS, go_sem, recoverD, hu, Try.ntmps134, Exit.thenS]
  refine wpS_cond (t := false) (by simp [Act.eval, Array.replicate]) ?_
  simp only [Bool.false_eq_true, if_false]
  refine wpS_of_wp (wp_skip ?_)
  cases c₀
  simp_all [bodyPostS, results, Try.results134]

theorem readB_int (w : World) (g : Nat) (F : Nat → Prop) (fv : Value) (h : Rdr w g F none) :
    Calls Try.prog 123 #[.pointer (some ⟨g, 0, none⟩), fv] w (Readd w g F (.int .i64 0) none) := by
  have c1 : (w.alloc (.cells #[.pointer (some ⟨g, 0, none⟩)] 136)).cell? ⟨g, 1, none⟩ = some (.bool true) := (h.2.2.alloc (.cells #[.pointer (some ⟨g, 0, none⟩)] 136)).cell 1
  have hch := (Chg.refl Non w).alloc (.cells #[.pointer (some ⟨g, 0, none⟩)] 136)
  have h1 := h.chg hch (fun f => f) (fun _ _ f => f)
  go_enter_defers Try.func123, Try.ntmps123
  go_wp2
  refine ⟨_, results_tmp rfl _ _ _, rfl, h1, hch.mono (fun _ f => f.elim)⟩

theorem readN_int (w : World) (fv : Value) :
    Calls Try.prog 123 #[.pointer none, fv] w fun e w' => e = .returned (.int .i64 0) ∧ Chg Non w w' := by
  go_enter_defers Try.func123, Try.ntmps123
  go_wp2
  refine ⟨_, results_tmp rfl _ _ _, rfl, (Chg.refl Non w).alloc _⟩

theorem catchP_u64 (w : World) (p g : Nat) (x y : Value) (v : Value) (u : TypeId) (older : List PanicEntry) (hp : w.cell? ⟨p, 0, none⟩ = some (.pointer (some ⟨g, 0, none⟩))) (hpg : p ≠ g) (hb : Hb w g 180 #[x, y]) :
    CallsD Try.prog 139 #[.pointer (some ⟨p, 0, none⟩)] (.panicking ({ v := .iface u v, recovered := false } :: older)) w fun e u' w' =>
      e = .returned (.tuple #[]) ∧ u' = .panicking ({ v := .iface u v, recovered := true } :: older) ∧ w' = (w.setCell ⟨g, 1, none⟩ (.bool true)).setCell ⟨g, 0, none⟩ (.slice none 0 0) := by
  have c0 : w.cell? ⟨g, 0, none⟩ = some x := hb.cell 0
  have c1 : w.cell? ⟨g, 1, none⟩ = some y := hb.cell 1
  have f0 : w.frozen? ⟨g, 0, none⟩ = false := hb.frozen 0
  have f1 : w.frozen? ⟨g, 1, none⟩ = false := hb.frozen 1
  refine callsD_of_wpS Try.func139 rfl fun c₀ cs hu => ?_
  apply wpS_seq
  apply wpS_region
  simp [wpOpsS, go_sem, recoverD, hu, Try.ntmps139, Exit.thenS]
  refine wpS_cond (t := true) (by simp [Act.eval, Array.replicate]) ?_
  simp only [if_true]
  refine wpS_of_wp ?_
  go_wp2
  exact ⟨rfl, _, rfl, .tuple #[], by simp [results, Try.results139], rfl, rfl, rfl⟩

theorem catchI_u64 (w : World) (p : Addr) : CallsD Try.prog 139 #[.pointer (some p)] .returning w fun e u' w' => e = .returned (.tuple #[]) ∧ u' = .returning ∧ w' = w := by
  refine callsD_of_wpS Try.func139 rfl fun c₀ cs hu => ?_
  apply wpS_seq
  apply wpS_region
  simp [wpOpsS, go_sem, recoverD, hu, Try.ntmps139, Exit.thenS]
  refine wpS_cond (t := false) (by simp [Act.eval, Array.replicate]) ?_
  simp only [Bool.false_eq_true, if_false]
  refine wpS_of_wp (wp_skip ?_)
  cases c₀
  simp_all [bodyPostS, results, Try.results139]

theorem readB_u64 (w : World) (g : Nat) (F : Nat → Prop) (fv : Value) (h : Rdr w g F none) :
    Calls Try.prog 132 #[.pointer (some ⟨g, 0, none⟩), fv] w (Readd w g F (.int .u64 0) none) := by
  have c1 : (w.alloc (.cells #[.pointer (some ⟨g, 0, none⟩)] 136)).cell? ⟨g, 1, none⟩ = some (.bool true) := (h.2.2.alloc (.cells #[.pointer (some ⟨g, 0, none⟩)] 136)).cell 1
  have hch := (Chg.refl Non w).alloc (.cells #[.pointer (some ⟨g, 0, none⟩)] 136)
  have h1 := h.chg hch (fun f => f) (fun _ _ f => f)
  go_enter_defers Try.func132, Try.ntmps132
  go_wp2
  refine ⟨_, results_tmp rfl _ _ _, rfl, h1, hch.mono (fun _ f => f.elim)⟩

theorem readN_u64 (w : World) (fv : Value) :
    Calls Try.prog 132 #[.pointer none, fv] w fun e w' => e = .returned (.int .u64 0) ∧ Chg Non w w' := by
  go_enter_defers Try.func132, Try.ntmps132
  go_wp2
  refine ⟨_, results_tmp rfl _ _ _, rfl, (Chg.refl Non w).alloc _⟩

theorem catchP_str (w : World) (p g : Nat) (x y : Value) (v : Value) (u : TypeId) (older : List PanicEntry) (hp : w.cell? ⟨p, 0, none⟩ = some (.pointer (some ⟨g, 0, none⟩))) (hpg : p ≠ g) (hb : Hb w g 180 #[x, y]) :
    CallsD Try.prog 135 #[.pointer (some ⟨p, 0, none⟩)] (.panicking ({ v := .iface u v, recovered := false } :: older)) w fun e u' w' =>
      e = .returned (.tuple #[]) ∧ u' = .panicking ({ v := .iface u v, recovered := true } :: older) ∧ w' = (w.setCell ⟨g, 1, none⟩ (.bool true)).setCell ⟨g, 0, none⟩ (.slice none 0 0) := by
  have c0 : w.cell? ⟨g, 0, none⟩ = some x := hb.cell 0
  have c1 : w.cell? ⟨g, 1, none⟩ = some y := hb.cell 1
  have f0 : w.frozen? ⟨g, 0, none⟩ = false := hb.frozen 0
  have f1 : w.frozen? ⟨g, 1, none⟩ = false := hb.frozen 1
  refine callsD_of_wpS Try.func135 rfl fun c₀ cs hu => ?_
  apply wpS_seq
  apply wpS_region
  simp [wpOpsS, go_sem, recoverD, hu, Try.ntmps135, Exit.thenS]
  refine wpS_cond (t := true) (by simp [Act.eval, Array.replicate]) ?_
  simp only [if_true]
  refine wpS_of_wp ?_
  go_wp2
  exact ⟨rfl, _, rfl, .tuple #[], by simp [results, Try.results135], rfl, rfl, rfl⟩

theorem catchI_str (w : World) (p : Addr) : CallsD Try.prog 135 #[.pointer (some p)] .returning w fun e u' w' => e = .returned (.tuple #[]) ∧ u' = .returning ∧ w' = w := by
  refine callsD_of_wpS Try.func135 rfl fun c₀ cs hu => ?_
  apply wpS_seq
  apply wpS_region
  simp [wpOpsS, go_sem, recoverD, hu, Try.ntmps135, Exit.thenS]
  refine wpS_cond (t := false) (by simp [Act.eval, Array.replicate]) ?_
  simp only [Bool.false_eq_true, if_false]
  refine wpS_of_wp (wp_skip ?_)
  cases c₀
  simp_all [bodyPostS, results, Try.results135]

theorem readB_str (w : World) (g : Nat) (F : Nat → Prop) (fv : Value) (h : Rdr w g F none) :
    Calls Try.prog 128 #[.pointer (some ⟨g, 0, none⟩), fv] w (Readd w g F (.string ⟨#[]⟩) none) := by
  have c1 : (w.alloc (.cells #[.pointer (some ⟨g, 0, none⟩)] 136)).cell? ⟨g, 1, none⟩ = some (.bool true) := (h.2.2.alloc (.cells #[.pointer (some ⟨g, 0, none⟩)] 136)).cell 1
  have hch := (Chg.refl Non w).alloc (.cells #[.pointer (some ⟨g, 0, none⟩)] 136)
  have h1 := h.chg hch (fun f => f) (fun _ _ f => f)
  go_enter_defers Try.func128, Try.ntmps128
  go_wp2
  refine ⟨_, results_tmp rfl _ _ _, rfl, h1, hch.mono (fun _ f => f.elim)⟩

theorem readN_str (w : World) (fv : Value) :
    Calls Try.prog 128 #[.pointer none, fv] w fun e w' => e = .returned (.string ⟨#[]⟩) ∧ Chg Non w w' := by
  go_enter_defers Try.func128, Try.ntmps128
  go_wp2
  refine ⟨_, results_tmp rfl _ _ _, rfl, (Chg.refl Non w).alloc _⟩

theorem readNumber_any (w : World) (g : Nat) (F : Nat → Prop) (l : List UInt8) (h : Rdr w g F (some l)) :
    Calls Try.prog 123 #[.pointer (some ⟨g, 0, none⟩), .func (.func 124) #[.pointer (some ⟨g, 0, none⟩)] #[]] w (Readd w g F (.int .i64 0) ((fNumber l).map fun x => (.int .i64 x.1, x.2))) := by
  have hmf := mkf
  obtain ⟨x, hb⟩ : ∃ x, Hb w g 180 #[x, .bool false] := by obtain ⟨_, _, A, c, hb, _⟩ := h; exact ⟨_, hb⟩
  have hb1 := hb.alloc (.cells #[.pointer (some ⟨g, 0, none⟩)] 136)
  have c1 : (w.alloc (.cells #[.pointer (some ⟨g, 0, none⟩)] 136)).cell? ⟨g, 1, none⟩ = some (.bool false) := hb1.cell 1
  have hch := (Chg.refl Non w).alloc (.cells #[.pointer (some ⟨g, 0, none⟩)] 136)
  have h1 := h.chg hch (fun f => f) (fun _ _ f => f)
  have H := takeNumber_any _ g F l h1
  cases hf : fNumber l with
  | none =>
    rw [hf] at H
    clear hf
    go_enter_defers Try.func123, Try.ntmps123
    go_wp2_with fail
    refine H.mono ?_
    rintro e w1 ⟨rfl, ⟨l', hR⟩, hC⟩
    have hp : w1.cell? ⟨w.heap.size, 0, none⟩ = some (.pointer (some ⟨g, 0, none⟩)) := hC.cell ((Hb.new w 136 #[.pointer (some ⟨g, 0, none⟩)]).cell 0) (fun e => by have := h.lt; unfold Eqg at e; simp at e; omega)
    obtain ⟨y, hb2⟩ : ∃ y, Hb w1 g 180 #[y, .bool false] := by obtain ⟨_, _, A, c, hb, _⟩ := hR; exact ⟨_, hb⟩
    go_wp2
    refine leaves_cons (f := 134) (args := #[.pointer (some ⟨w.heap.size, 0, none⟩)]) (by simp) (by simp [go_sem]) ?_
    refine (catchP_int w1 w.heap.size g y _ _ _ _ hp (by have := h.lt; omega) hb2).mono ?_
    rintro e u' w'' ⟨rfl, rfl, rfl⟩
    refine ⟨_, results_tmp rfl _ _ _, rfl, ?_, ?_⟩
    · exact ⟨h.nF, fun j hj => by have := hR.Flt j hj; simpa [World.setCell] using this, (hb2.set 1 _).set 0 _⟩
    · exact ((((Chg.refl Non w).alloc _).mono (S' := Eqg g) (fun _ f => f.elim)).trans hC (fun _ hj => .inl hj)).setCell (p := ⟨g, 1, none⟩) (.inl rfl) _ |>.setCell (p := ⟨g, 0, none⟩) (.inl rfl) _
  | some x =>
    rw [hf] at H
    clear hf
    go_enter_defers Try.func123, Try.ntmps123
    go_wp2_with fail
    refine H.mono ?_
    rintro e w1 ⟨rfl, hR, hC⟩
    go_wp2
    refine leaves_cons (f := 134) (args := #[.pointer (some ⟨w.heap.size, 0, none⟩)]) (by simp) (by simp [go_sem]) ?_
    refine (catchI_int _ ⟨w.heap.size, 0, none⟩).mono ?_
    rintro e u' w'' ⟨rfl, rfl, rfl⟩
    refine ⟨_, results_tmp rfl _ _ _, rfl, hR, ?_⟩
    exact (((Chg.refl Non w).alloc _).mono (S' := Eqg g) (fun _ f => f.elim)).trans hC (fun _ hj => .inl hj)

theorem readWord_any (w : World) (g : Nat) (F : Nat → Prop) (l : List UInt8) (h : Rdr w g F (some l)) :
    Calls Try.prog 132 #[.pointer (some ⟨g, 0, none⟩), .func (.func 133) #[.pointer (some ⟨g, 0, none⟩)] #[]] w (Readd w g F (.int .u64 0) ((fWord l).map fun x => (.int .u64 (x.1 : Int), x.2))) := by
  have hmf := mkf
  obtain ⟨x, hb⟩ : ∃ x, Hb w g 180 #[x, .bool false] := by obtain ⟨_, _, A, c, hb, _⟩ := h; exact ⟨_, hb⟩
  have hb1 := hb.alloc (.cells #[.pointer (some ⟨g, 0, none⟩)] 136)
  have c1 : (w.alloc (.cells #[.pointer (some ⟨g, 0, none⟩)] 136)).cell? ⟨g, 1, none⟩ = some (.bool false) := hb1.cell 1
  have hch := (Chg.refl Non w).alloc (.cells #[.pointer (some ⟨g, 0, none⟩)] 136)
  have h1 := h.chg hch (fun f => f) (fun _ _ f => f)
  have H := takeWord_any _ g F l h1
  cases hf : fWord l with
  | none =>
    rw [hf] at H
    clear hf
    go_enter_defers Try.func132, Try.ntmps132
    go_wp2_with fail
    refine H.mono ?_
    rintro e w1 ⟨rfl, ⟨l', hR⟩, hC⟩
    have hp : w1.cell? ⟨w.heap.size, 0, none⟩ = some (.pointer (some ⟨g, 0, none⟩)) := hC.cell ((Hb.new w 136 #[.pointer (some ⟨g, 0, none⟩)]).cell 0) (fun e => by have := h.lt; unfold Eqg at e; simp at e; omega)
    obtain ⟨y, hb2⟩ : ∃ y, Hb w1 g 180 #[y, .bool false] := by obtain ⟨_, _, A, c, hb, _⟩ := hR; exact ⟨_, hb⟩
    go_wp2
    refine leaves_cons (f := 139) (args := #[.pointer (some ⟨w.heap.size, 0, none⟩)]) (by simp) (by simp [go_sem]) ?_
    refine (catchP_u64 w1 w.heap.size g y _ _ _ _ hp (by have := h.lt; omega) hb2).mono ?_
    rintro e u' w'' ⟨rfl, rfl, rfl⟩
    refine ⟨_, results_tmp rfl _ _ _, rfl, ?_, ?_⟩
    · exact ⟨h.nF, fun j hj => by have := hR.Flt j hj; simpa [World.setCell] using this, (hb2.set 1 _).set 0 _⟩
    · exact ((((Chg.refl Non w).alloc _).mono (S' := Eqg g) (fun _ f => f.elim)).trans hC (fun _ hj => .inl hj)).setCell (p := ⟨g, 1, none⟩) (.inl rfl) _ |>.setCell (p := ⟨g, 0, none⟩) (.inl rfl) _
  | some x =>
    rw [hf] at H
    clear hf
    go_enter_defers Try.func132, Try.ntmps132
    go_wp2_with fail
    refine H.mono ?_
    rintro e w1 ⟨rfl, hR, hC⟩
    go_wp2
    refine leaves_cons (f := 139) (args := #[.pointer (some ⟨w.heap.size, 0, none⟩)]) (by simp) (by simp [go_sem]) ?_
    refine (catchI_u64 _ ⟨w.heap.size, 0, none⟩).mono ?_
    rintro e u' w'' ⟨rfl, rfl, rfl⟩
    refine ⟨_, results_tmp rfl _ _ _, rfl, hR, ?_⟩
    exact (((Chg.refl Non w).alloc _).mono (S' := Eqg g) (fun _ f => f.elim)).trans hC (fun _ hj => .inl hj)

theorem readText_any (w : World) (g : Nat) (F : Nat → Prop) (l : List UInt8) (h : Rdr w g F (some l)) :
    Calls Try.prog 128 #[.pointer (some ⟨g, 0, none⟩), .func (.func 129) #[.pointer (some ⟨g, 0, none⟩)] #[]] w (Readd w g F (.string ⟨#[]⟩) ((fText l).map fun x => (.string ⟨x.1.toArray⟩, x.2))) := by
  have hmf := mkf
  obtain ⟨x, hb⟩ : ∃ x, Hb w g 180 #[x, .bool false] := by obtain ⟨_, _, A, c, hb, _⟩ := h; exact ⟨_, hb⟩
  have hb1 := hb.alloc (.cells #[.pointer (some ⟨g, 0, none⟩)] 136)
  have c1 : (w.alloc (.cells #[.pointer (some ⟨g, 0, none⟩)] 136)).cell? ⟨g, 1, none⟩ = some (.bool false) := hb1.cell 1
  have hch := (Chg.refl Non w).alloc (.cells #[.pointer (some ⟨g, 0, none⟩)] 136)
  have h1 := h.chg hch (fun f => f) (fun _ _ f => f)
  have H := takeText_any _ g F l h1
  cases hf : fText l with
  | none =>
    rw [hf] at H
    clear hf
    go_enter_defers Try.func128, Try.ntmps128
    go_wp2_with fail
    refine H.mono ?_
    rintro e w1 ⟨rfl, ⟨l', hR⟩, hC⟩
    have hp : w1.cell? ⟨w.heap.size, 0, none⟩ = some (.pointer (some ⟨g, 0, none⟩)) := hC.cell ((Hb.new w 136 #[.pointer (some ⟨g, 0, none⟩)]).cell 0) (fun e => by have := h.lt; unfold Eqg at e; simp at e; omega)
    obtain ⟨y, hb2⟩ : ∃ y, Hb w1 g 180 #[y, .bool false] := by obtain ⟨_, _, A, c, hb, _⟩ := hR; exact ⟨_, hb⟩
    go_wp2
    refine leaves_cons (f := 135) (args := #[.pointer (some ⟨w.heap.size, 0, none⟩)]) (by simp) (by simp [go_sem]) ?_
    refine (catchP_str w1 w.heap.size g y _ _ _ _ hp (by have := h.lt; omega) hb2).mono ?_
    rintro e u' w'' ⟨rfl, rfl, rfl⟩
    refine ⟨_, results_tmp rfl _ _ _, rfl, ?_, ?_⟩
    · exact ⟨h.nF, fun j hj => by have := hR.Flt j hj; simpa [World.setCell] using this, (hb2.set 1 _).set 0 _⟩
    · exact ((((Chg.refl Non w).alloc _).mono (S' := Eqg g) (fun _ f => f.elim)).trans hC (fun _ hj => .inl hj)).setCell (p := ⟨g, 1, none⟩) (.inl rfl) _ |>.setCell (p := ⟨g, 0, none⟩) (.inl rfl) _
  | some x =>
    rw [hf] at H
    clear hf
    go_enter_defers Try.func128, Try.ntmps128
    go_wp2_with fail
    refine H.mono ?_
    rintro e w1 ⟨rfl, hR, hC⟩
    go_wp2
    refine leaves_cons (f := 135) (args := #[.pointer (some ⟨w.heap.size, 0, none⟩)]) (by simp) (by simp [go_sem]) ?_
    refine (catchI_str _ ⟨w.heap.size, 0, none⟩).mono ?_
    rintro e u' w'' ⟨rfl, rfl, rfl⟩
    refine ⟨_, results_tmp rfl _ _ _, rfl, hR, ?_⟩
    exact (((Chg.refl Non w).alloc _).mono (S' := Eqg g) (fun _ f => f.elim)).trans hC (fun _ hj => .inl hj)

end Go.Proofs.Ytjcfdclgddjaoaa
