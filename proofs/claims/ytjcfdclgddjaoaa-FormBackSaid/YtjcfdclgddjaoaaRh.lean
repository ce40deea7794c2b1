/- What reading a hash answers. -/
import Derived.Test.YtjcfdclgddjaoaaChecked
import Derived.WalkKit
import Derived.WalkLawsBesides
import Derived.Lib.Hide
import Derived.Recover
import Derived.Test.YtjcfdclgddjaoaaRd
namespace Go.Proofs.Ytjcfdclgddjaoaa
open Go.RowKit
set_option linter.unusedVariables false

/-- The hash of noughts. -/
def noH : List UInt8 := List.replicate 32 0
theorem noH_length : noH.length = 32 := rfl
theorem run_alloc_hash (w : World) : (Instr.alloc 45 true (.tuple #[])).run Try.prog w = .ok (.pointer (some ⟨w.heap.size, 0, none⟩)) (w.alloc (.cells (bv noH).toArray 45)) := by kernel_rfl
theorem wpList_alloc_hash {ops : Array Oper} {rest : List Oper} {o : Oper} {a : Act} {w : World} {Q : Exit → Act → World → Prop} (hgd : o.guard = none) (ho : o.op = .alloc 45)
    (hK : wpList Try.prog ops Q rest (a.put o.dst (.pointer (some ⟨w.heap.size, 0, none⟩))) (w.alloc (.cells (bv noH).toArray 45))) : wpList Try.prog ops Q (o :: rest) a w := by
  refine wpList_plain hgd fun K hK' => ?_
  unfold Oper.wp execOp
  simp only [ho, Sem.run_bind, Sem.run_pure, Result.andThen_ok, run_alloc_hash]
  exact hK' _ _ hK

/-- The result of a hash, behind the deferred calls. -/
theorem end_hash {fn : Func} {p : Tmp} {R : Ending → World → Prop} {tmps : Array Value} {w : World} {g : Nat} {t : TypeId} {h : List UInt8} (hf : fn.results = #[.cell p 45]) (hp : tmps.getD p undef = .pointer (some ⟨g, 0, none⟩))
    (hb : Hb w g t (bv h).toArray) (hl : h.length = 32) (hR : R (.returned (.agg (bv h).toArray)) w) : Leaves Try.prog fn tmps R [] .returning w :=
  ⟨_, results_cell_row hf _ _ g t _ (0, 0) _ hp hb Try.underlying45 rfl (by rw [hash_row]; simp [bv_length, hl]), hR⟩

theorem catchP_hash (w : World) (p g : Nat) (x y : Value) (v : Value) (u : TypeId) (older : List PanicEntry) (hp : w.cell? ⟨p, 0, none⟩ = some (.pointer (some ⟨g, 0, none⟩))) (hpg : p ≠ g) (hb : Hb w g 180 #[x, y]) :
    CallsD Try.prog 138 #[.pointer (some ⟨p, 0, none⟩)] (.panicking ({ v := .iface u v, recovered := false } :: older)) w fun e u' w' =>
      e = .returned (.tuple #[]) ∧ u' = .panicking ({ v := .iface u v, recovered := true } :: older) ∧ w' = (w.setCell ⟨g, 1, none⟩ (.bool true)).setCell ⟨g, 0, none⟩ (.slice none 0 0) := by
  have c0 : w.cell? ⟨g, 0, none⟩ = some x := hb.cell 0
  have c1 : w.cell? ⟨g, 1, none⟩ = some y := hb.cell 1
  have f0 : w.frozen? ⟨g, 0, none⟩ = false := hb.frozen 0
  have f1 : w.frozen? ⟨g, 1, none⟩ = false := hb.frozen 1
  refine callsD_of_wpS Try.func138 rfl fun c₀ cs hu => ?_
  apply wpS_seq
  apply wpS_region
  simp [wpOpsS, go_sem, recoverD, hu, Try.ntmps138, Exit.thenS]
  refine wpS_cond (t := true) (by simp [Act.eval, Array.replicate]) ?_
  simp only [if_true]
  refine wpS_of_wp ?_
  go_wp2
  exact ⟨rfl, _, rfl, .tuple #[], by simp [results, Try.results138], rfl, rfl, rfl⟩

theorem catchI_hash (w : World) (p : Addr) : CallsD Try.prog 138 #[.pointer (some p)] .returning w fun e u' w' => e = .returned (.tuple #[]) ∧ u' = .returning ∧ w' = w := by
  refine callsD_of_wpS Try.func138 rfl fun c₀ cs hu => ?_
  apply wpS_seq
  apply wpS_region
  simp [wpOpsS, go_sem, recoverD, hu, Try.ntmps138, Exit.thenS]
  refine wpS_cond (t := false) (by simp [Act.eval, Array.replicate]) ?_
  simp only [Bool.false_eq_true, if_false]
  refine wpS_of_wp (wp_skip ?_)
  cases c₀
  simp_all [bodyPostS, results, Try.results138]

theorem rd_noH (w : World) : Rd (w.alloc (.cells (bv noH).toArray 45)) (some ⟨w.heap.size, 0, none⟩) noH := rd_of_blk (Hb.new w _ _) (fun j b h => by simpa using bv_get noH j b h)

/-- The world in which a hash is read: the reader's pointer and the hash of noughts are new. -/
def hw (w : World) (P : Option Addr) : World := (w.alloc (.cells #[.pointer P] 136)).alloc (.cells (bv noH).toArray 45)
theorem hw_size (w : World) (P : Option Addr) : (hw w P).heap.size = w.heap.size + 2 := by simp [hw]
theorem hw_chg (w : World) (P : Option Addr) : Chg Non w (hw w P) := ((Chg.refl Non w).alloc _).alloc _
theorem hw_z (w : World) (P : Option Addr) : Hb (hw w P) (w.heap.size + 1) 45 (bv noH).toArray := by
  have h := Hb.new (w.alloc (.cells #[.pointer P] 136)) 45 (bv noH).toArray
  simpa [hw] using h
theorem hw_rd (w : World) (P : Option Addr) : Rd (hw w P) (some ⟨w.heap.size + 1, 0, none⟩) noH := rd_of_blk (hw_z w P) (fun j b h => by simpa using bv_get noH j b h)
theorem hw_p (w : World) (P : Option Addr) : Hb (hw w P) w.heap.size 136 #[.pointer P] := (Hb.new w _ _).alloc _

def NilHash (w : World) (e : Ending) (w' : World) : Prop := e = .returned (.agg (bv noH).toArray) ∧ Chg Non w w'
theorem readN_hash (w : World) (fv : Value) :
    Calls Try.prog 130 #[.pointer none, fv] w (NilHash w) := by
  have hz := hw_z w none
  have hr := hw_rd w none
  unfold hw at hz hr
  go_enter_defers Try.func130, Try.ntmps130
  go_wp2_with (first | (with_reducible refine wpList_alloc_hash rfl rfl ?_) | (with_reducible refine wpList_load_hash rfl _ rfl (h := noH) rfl noH_length hr ?_) | (with_reducible refine wpList_store_hash rfl _ _ rfl (h := noH) rfl rfl noH_length hz rfl ?_))
  refine end_hash rfl rfl (hz.setRow _) noH_length ⟨rfl, ?_⟩
  exact (hw_chg w none).setRow (.inr (by omega)) _

theorem readB_hash (w : World) (g : Nat) (F : Nat → Prop) (fv : Value) (h : Rdr w g F none) :
    Calls Try.prog 130 #[.pointer (some ⟨g, 0, none⟩), fv] w (Readd w g F (.agg (bv noH).toArray) none) := by
  have hz := hw_z w (some ⟨g, 0, none⟩)
  have hr := hw_rd w (some ⟨g, 0, none⟩)
  have hlt := h.lt
  have c1 := (h.2.2.chg (hw_chg w (some ⟨g, 0, none⟩)) (fun f => f)).cell 1
  have h1 := h.chg (hw_chg w (some ⟨g, 0, none⟩)) (fun f => f) (fun _ _ f => f)
  unfold hw at hz hr c1
  have c1' : ((w.alloc (.cells #[.pointer (some ⟨g, 0, none⟩)] 136)).alloc (.cells (bv noH).toArray 45)).cell? ⟨g, 1, none⟩ = some (.bool true) := c1
  go_enter_defers Try.func130, Try.ntmps130
  go_wp2_with (first | (with_reducible refine wpList_alloc_hash rfl rfl ?_) | (with_reducible refine wpList_load_hash rfl _ rfl (h := noH) rfl noH_length hr ?_) | (with_reducible refine wpList_store_hash rfl _ _ rfl (h := noH) rfl rfl noH_length hz rfl ?_))
  refine end_hash rfl rfl (hz.setRow _) noH_length ⟨rfl, ?_, ?_⟩
  · exact h1.chg ((Chg.refl (fun k => k = w.heap.size + 1) _).setRow (.inl rfl) _) (by omega) (fun j hj e => by have := h.Flt j hj; omega)
  · exact ((hw_chg w _).setRow (.inr (by omega)) _).mono (fun _ f => f.elim)

theorem readHash_any (w : World) (g : Nat) (F : Nat → Prop) (l : List UInt8) (h : Rdr w g F (some l)) :
    Calls Try.prog 130 #[.pointer (some ⟨g, 0, none⟩), .func (.func 131) #[.pointer (some ⟨g, 0, none⟩)] #[]] w (Readd w g F (.agg (bv noH).toArray) ((fHash l).map fun x => (.agg (bv x.1).toArray, x.2))) := by
  have hmf := mkf
  obtain ⟨x, hb⟩ : ∃ x, Hb w g 180 #[x, .bool false] := by obtain ⟨_, _, A, c, hb, _⟩ := h; exact ⟨_, hb⟩
  have hlt := h.lt
  have hz := hw_z w (some ⟨g, 0, none⟩)
  have hpp := hw_p w (some ⟨g, 0, none⟩)
  have c1 := (hb.chg (hw_chg w (some ⟨g, 0, none⟩)) (fun f => f)).cell 1
  have h1 := h.chg (hw_chg w (some ⟨g, 0, none⟩)) (fun f => f) (fun _ _ f => f)
  have H := takeHash_any _ g F l h1
  have hws := hw_size w (some ⟨g, 0, none⟩)
  have hwc := hw_chg w (some ⟨g, 0, none⟩)
  unfold hw at hz c1 H hpp hws hwc
  have c1' : ((w.alloc (.cells #[.pointer (some ⟨g, 0, none⟩)] 136)).alloc (.cells (bv noH).toArray 45)).cell? ⟨g, 1, none⟩ = some (.bool false) := c1
  clear c1
  cases hf : fHash l with
  | none =>
    rw [hf] at H
    clear hf
    go_enter_defers Try.func130, Try.ntmps130
    go_wp2_with (with_reducible refine wpList_alloc_hash rfl rfl ?_)
    refine H.mono ?_
    rintro e w1 ⟨rfl, ⟨l', hR⟩, hC⟩
    have hp : w1.cell? ⟨w.heap.size, 0, none⟩ = some (.pointer (some ⟨g, 0, none⟩)) := hC.cell (hpp.cell 0) (fun e => by unfold Eqg at e; simp at e; omega)
    have hz1 := hz.chg hC (fun e => by unfold Eqg at e; omega)
    obtain ⟨y, hb2⟩ : ∃ y, Hb w1 g 180 #[y, .bool false] := by obtain ⟨_, _, A, c, hb, _⟩ := hR; exact ⟨_, hb⟩
    go_wp2
    refine leaves_cons (f := 138) (args := #[.pointer (some ⟨w.heap.size, 0, none⟩)]) (by simp) (by simp [go_sem]) ?_
    refine (catchP_hash w1 w.heap.size g y _ _ _ _ hp (by have := h.lt; omega) hb2).mono ?_
    rintro e u' w'' ⟨rfl, rfl, rfl⟩
    refine end_hash rfl rfl ((hz1.far (p := ⟨g, 1, none⟩) (by simp; omega) _).far (p := ⟨g, 0, none⟩) (by simp; omega) _) noH_length ⟨rfl, ?_, ?_⟩
    · exact ⟨h.nF, fun j hj => by have := hR.Flt j hj; simpa [World.setCell] using this, (hb2.set 1 _).set 0 _⟩
    · exact ((hwc.mono (S' := Eqg g) (fun _ f => f.elim)).trans hC (fun _ hj => .inl hj)).setCell (p := ⟨g, 1, none⟩) (.inl rfl) _ |>.setCell (p := ⟨g, 0, none⟩) (.inl rfl) _
  | some x =>
    have hx : x.1.length = 32 := by
      unfold fHash at hf
      split at hf
      · cases hf
      · injection hf with hf; rw [← hf]; simp; omega
    rw [hf] at H
    clear hf
    have HX := Lib.hid hx
    clear hx
    go_enter_defers Try.func130, Try.ntmps130
    go_wp2_with (with_reducible refine wpList_alloc_hash rfl rfl ?_)
    refine H.mono ?_
    rintro e w1 ⟨rfl, hR, hC⟩
    have hz1 := hz.chg hC (fun e => by unfold Eqg at e; omega)
    go_wp2_with (with_reducible refine wpList_store_hash rfl _ _ rfl (h := x.1) rfl rfl HX.out hz1 rfl ?_)
    refine leaves_cons (f := 138) (args := #[.pointer (some ⟨w.heap.size, 0, none⟩)]) (by simp) (by simp [go_sem]) ?_
    refine (catchI_hash _ ⟨w.heap.size, 0, none⟩).mono ?_
    rintro e u' w'' ⟨rfl, rfl, rfl⟩
    refine end_hash rfl rfl (hz1.setRow _) HX.out ⟨rfl, ?_, ?_⟩
    · exact hR.chg ((Chg.refl (fun k => k = w.heap.size + 1) _).setRow (.inl rfl) _) (by omega) (fun j hj e => by have := h.Flt j hj; omega)
    · exact ((hwc.mono (S' := Eqg g) (fun _ f => f.elim)).trans hC (fun _ hj => .inl hj)).setRow (.inr (by omega)) _
end Go.Proofs.Ytjcfdclgddjaoaa
