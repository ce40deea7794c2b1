import Derived.Test.YtinbjbfgfknpaaaChecked
import Derived.WalkKit
import Derived.WalkLawsBesides
import Derived.Lib.Hide
import Derived.Recover
import Derived.Deep.RegionHeld3
import Derived.Test.YtinbjbfgfknpaaaMFormOnly5
/- Package forms: encoded[T]: the bytes of what was gone through, or the error. -/
namespace Go.Proofs.Ytinbjbfgfknpaaa
open Go.RowKit
set_option linter.unusedVariables false
set_option linter.unusedSimpArgs false
set_option maxRecDepth 20000

theorem results_two {fn : Func} {p q : Tmp} {t u : TypeId} (h : fn.results = #[.cell p t, .cell q u]) (tmps : Array Value) (P : Program) (w : World) (a b : Addr) (x y : Value)
    (hp : tmps.getD p undef = .pointer (some a)) (hq : tmps.getD q undef = .pointer (some b)) (hx : (loadVar t a).run P w = .ok x w) (hy : (loadVar u b).run P w = .ok y w) : (results fn tmps).run P w = .ok (.tuple #[x, y]) w := by
  have hp' : tmps[p]?.getD undef = .pointer (some a) := by simpa using hp
  have hq' : tmps[q]?.getD undef = .pointer (some b) := by simpa using hq
  simp [results, h, hp', hq', asAddr, hx, hy]
theorem load_bytes {w : World} {a : Addr} {v : Value} (h : w.cell? a = some v) : (loadVar 22 a).run Try.prog w = .ok v w := by
  have hagg : (isAgg 22).run Try.prog w = .ok false w := by
    unfold isAgg
    rw [Sem.run_bind, run_underlying Try.underlying22 w]
    rfl
  simp [loadVar, Sem.run_bind, hagg, h]
theorem load_errno {w : World} {a : Addr} {v : Value} (h : w.cell? a = some v) : (loadVar 32 a).run Try.prog w = .ok v w := by
  have hagg : (isAgg 32).run Try.prog w = .ok false w := by
    unfold isAgg
    rw [Sem.run_bind, run_underlying Try.underlying32 w]
    rfl
  simp [loadVar, Sem.run_bind, hagg, h]

/-- What encoding leaves: new bytes, or the error. -/
def Enc (w : World) (ok : Bool) (bs : List UInt8) (e : Ending) (w' : World) : Prop :=
  Chg Non w w' ∧ match ok with
    | true => ∃ v, e = .returned (.tuple #[v, .int .i64 0]) ∧ Own 5 w' v bs ∧ ∀ k, vbl v k → w.heap.size ≤ k
    | false => e = .returned (.tuple #[.slice none 0 0, .int .i64 61])

/-- The two results and the writer. -/
def ew (w : World) : World := ((w.alloc (.cells #[.slice none 0 0] 22)).alloc (.cells #[.int .i64 0] 32)).alloc (.cells #[.slice none 0 0, .bool false] 129)
theorem ew_chg (w : World) : Chg Non w (ew w) := (((Chg.refl Non w).alloc _).alloc _).alloc _
theorem ew_b (w : World) : Hb (ew w) w.heap.size 22 #[.slice none 0 0] := ((Hb.new w _ _).alloc _).alloc _
theorem ew_e (w : World) : Hb (ew w) (w.heap.size + 1) 32 #[.int .i64 0] := by
  have h := (Hb.new (w.alloc (.cells #[.slice none 0 0] 22)) 32 #[.int .i64 0]).alloc (.cells #[.slice none 0 0, .bool false] 129)
  rwa [show (w.alloc (.cells #[.slice none 0 0] 22)).heap.size = w.heap.size + 1 by simp] at h
theorem ew_w (w : World) : Wri (ew w) (w.heap.size + 2) (.slice none 0 0) (some []) := by
  have h := wri_new ((w.alloc (.cells #[.slice none 0 0] 22)).alloc (.cells #[.int .i64 0] 32))
  rwa [show ((w.alloc (.cells #[.slice none 0 0] 22)).alloc (.cells #[.int .i64 0] 32)).heap.size = w.heap.size + 2 by simp] at h
theorem ew_nb {w : World} {k : Nat} (h : k < w.heap.size + 2) : ¬ Wft (w.heap.size + 2) (.slice none 0 0) k := by
  rintro (rfl | h2)
  · omega
  · cases h2


theorem catchEP_Packet (w : World) (p q : Nat) (x y : Value) (v : Value) (u : TypeId) (older : List PanicEntry) (hp : Hb w p 22 #[x]) (hq : Hb w q 32 #[y]) (hpq : q ≠ p) :
    CallsD Try.prog 55 #[.pointer (some ⟨p, 0, none⟩), .pointer (some ⟨q, 0, none⟩)] (.panicking ({ v := .iface u v, recovered := false } :: older)) w fun e u' w' =>
      e = .returned (.tuple #[]) ∧ u' = .panicking ({ v := .iface u v, recovered := true } :: older) ∧ w' = (w.setCell ⟨p, 0, none⟩ (.slice none 0 0)).setCell ⟨q, 0, none⟩ (.int .i64 61) := by
  have c0 : w.cell? ⟨p, 0, none⟩ = some x := hp.cell 0
  have c1 : w.cell? ⟨q, 0, none⟩ = some y := hq.cell 0
  have f0 : w.frozen? ⟨p, 0, none⟩ = false := hp.frozen 0
  have f1 : w.frozen? ⟨q, 0, none⟩ = false := hq.frozen 0
  refine callsD_of_wpS Try.func55 rfl fun c₀ cs hu => ?_
  apply wpS_seq
  apply wpS_region
  simp [wpOpsS, go_sem, recoverD, hu, Try.ntmps55, Exit.thenS]
  refine wpS_cond (t := true) (by simp [Act.eval, Array.replicate]) ?_
  simp only [if_true]
  refine wpS_of_wp ?_
  go_wp2
  exact ⟨rfl, _, rfl, .tuple #[], by simp [results, Try.results55], rfl, rfl, rfl⟩

theorem catchEI_Packet (w : World) (p q : Addr) : CallsD Try.prog 55 #[.pointer (some p), .pointer (some q)] .returning w fun e u' w' => e = .returned (.tuple #[]) ∧ u' = .returning ∧ w' = w := by
  refine callsD_of_wpS Try.func55 rfl fun c₀ cs hu => ?_
  apply wpS_seq
  apply wpS_region
  simp [wpOpsS, go_sem, recoverD, hu, Try.ntmps55, Exit.thenS]
  refine wpS_cond (t := false) (by simp [Act.eval, Array.replicate]) ?_
  simp only [Bool.false_eq_true, if_false]
  refine wpS_of_wp (wp_skip ?_)
  cases c₀
  simp_all [bodyPostS, results, Try.results55]

theorem encoded_Packet (w : World) (b : Addr) (ok : Bool) (bs : List UInt8) (hbs : ok = true → bs.length ≤ 1000000000)
    (H : ∀ (w1 : World) (g : Nat), Chg Non w w1 → w.heap.size ≤ g → Wri w1 g (.slice none 0 0) (some []) → Calls Try.prog 26 #[.agg #[.pointer (some ⟨g, 0, none⟩), .pointer none], .pointer (some b)] w1 (WO w1 g (.slice none 0 0) ok bs)) :
    Calls Try.prog 27 #[.pointer (some b), .func (.func 26) #[] #[]] w (Enc w ok bs) := by
  have hmf := mkf
  have hC0 := ew_chg w
  have hb0 := ew_b w
  have he0 := ew_e w
  have H1 := H (ew w) (w.heap.size + 2) hC0 (by omega) (ew_w w)
  have nb := ew_nb (w := w) (k := w.heap.size) (by omega)
  have ne := ew_nb (w := w) (k := w.heap.size + 1) (by omega)
  clear H
  have HH := Lib.hid H1
  clear H1
  go_enter_defers Try.func27, Try.ntmps27
  go_wp2_with (go_at_call 44; refine (newWriter_any _).mono ?_; rintro e w' ⟨rfl, rfl⟩)
  have hew : ew w = ((w.alloc (.cells #[.slice none 0 0] 22)).alloc (.cells #[.int .i64 0] 32)).alloc (.cells #[.slice none 0 0, .bool false] 129) := rfl
  rw [← hew]
  clear hew
  generalize ew w = w1 at *
  refine HH.out.mono ?_
  rintro e w2 h2
  rcases h2.cases with ⟨rfl, rfl, C⟩ | ⟨rfl, rfl, v2, T⟩
  · have hb2 := hb0.chg C nb
    have he2 := he0.chg C ne
    go_wp2
    refine leaves_cons (f := 55) (args := #[.pointer (some ⟨w.heap.size, 0, none⟩), .pointer (some ⟨w.heap.size + 1, 0, none⟩)]) (by simp) (by simp [go_sem]) ?_
    refine (catchEP_Packet w2 w.heap.size (w.heap.size + 1) _ _ _ _ _ hb2 he2 (by omega)).mono ?_
    rintro e u' w'' ⟨rfl, rfl, rfl⟩
    have hb3 := (hb2.set 0 (.slice none 0 0)).far (p := ⟨w.heap.size + 1, 0, none⟩) (by simp) (.int .i64 61)
    have he3 := (he2.far (p := ⟨w.heap.size, 0, none⟩) (by simp) (.slice none 0 0)).set 0 (.int .i64 61)
    refine ⟨_, results_two rfl _ _ _ ⟨w.heap.size, 0, none⟩ ⟨w.heap.size + 1, 0, none⟩ _ _ rfl rfl (load_bytes (hb3.cell 0)) (load_errno (he3.cell 0)), ?_, rfl⟩
    have C1 : Chg Non w w2 := (hC0.trans C (fun j hj => .inr (by rcases hj with rfl | hj; omega; cases hj)))
    exact (C1.setCell (p := ⟨w.heap.size, 0, none⟩) (.inr (Nat.le_refl _)) _).setCell (p := ⟨w.heap.size + 1, 0, none⟩) (.inr (by simp)) _
  · have hb2 := hb0.chg T.chg nb
    have he2 := he0.chg T.chg ne
    have C1 : Chg Non w w2 := (hC0.trans T.chg (fun j hj => .inr (by rcases hj with rfl | hj; omega; cases hj)))
    have hlen := hbs rfl
    clear hb0 he0
    go_wp2_with fail
    refine (bytes_some _ (w.heap.size + 2) v2 bs T.wri hlen).mono ?_
    rintro e w3 ⟨v3, rfl, ho3, hl3, hc3⟩
    have hb3 := hb2.chg hc3 (fun f => f)
    have he3 := he2.chg hc3 (fun f => f)
    have c0 : w3.cell? ⟨w.heap.size, 0, none⟩ = some (.slice none 0 0) := hb3.cell 0
    have c1 : w3.cell? ⟨w.heap.size + 1, 0, none⟩ = some (.int .i64 0) := he3.cell 0
    have f0 : w3.frozen? ⟨w.heap.size, 0, none⟩ = false := hb3.frozen 0
    have f1 : w3.frozen? ⟨w.heap.size + 1, 0, none⟩ = false := he3.frozen 0
    obtain ⟨A, c, rfl, _⟩ := ho3.slice
    go_wp2_with (go_at_call 33; refine (insist_yes _).mono ?_; rintro e w5 ⟨rfl, rfl⟩)
    refine leaves_cons (f := 55) (args := #[.pointer (some ⟨w.heap.size, 0, none⟩), .pointer (some ⟨w.heap.size + 1, 0, none⟩)]) (by simp) (by simp [go_sem]) ?_
    refine (catchEI_Packet _ ⟨w.heap.size, 0, none⟩ ⟨w.heap.size + 1, 0, none⟩).mono ?_
    rintro e u' w'' ⟨rfl, rfl, rfl⟩
    have hb4 := (((hb3.set 0 (.slice A bs.length c)).far (p := ⟨w.heap.size + 1, 0, none⟩) (by simp) (.int .i64 0)).set 0 (.slice A bs.length c)).far (p := ⟨w.heap.size + 1, 0, none⟩) (by simp) (.int .i64 0)
    have he4 := (((he3.far (p := ⟨w.heap.size, 0, none⟩) (by simp) (.slice A bs.length c)).set 0 (.int .i64 0)).far (p := ⟨w.heap.size, 0, none⟩) (by simp) (.slice A bs.length c)).set 0 (.int .i64 0)
    have K := ((((Chg.refl (fun k => k = w.heap.size ∨ k = w.heap.size + 1) w3).setCell (p := ⟨w.heap.size, 0, none⟩) (.inl (.inl rfl)) (.slice A bs.length c)).setCell (p := ⟨w.heap.size + 1, 0, none⟩) (.inl (.inr rfl)) (.int .i64 0)).setCell (p := ⟨w.heap.size, 0, none⟩) (.inl (.inl rfl)) (.slice A bs.length c)).setCell (p := ⟨w.heap.size + 1, 0, none⟩) (.inl (.inr rfl)) (.int .i64 0)
    have hlt := he2.lt
    refine ⟨_, results_two rfl _ _ _ ⟨w.heap.size, 0, none⟩ ⟨w.heap.size + 1, 0, none⟩ _ _ rfl rfl (load_bytes (hb4.cell 0)) (load_errno (he4.cell 0)), (C1.trans hc3 (fun _ f => f.elim)).trans K (fun j hj => .inr (by omega)), _, rfl, ho3.chg K (fun j hj => ?_), fun k hk => ?_⟩
    · have := hl3 j hj; omega
    · have := hl3 k hk; omega


theorem catchEP_Vote (w : World) (p q : Nat) (x y : Value) (v : Value) (u : TypeId) (older : List PanicEntry) (hp : Hb w p 22 #[x]) (hq : Hb w q 32 #[y]) (hpq : q ≠ p) :
    CallsD Try.prog 43 #[.pointer (some ⟨p, 0, none⟩), .pointer (some ⟨q, 0, none⟩)] (.panicking ({ v := .iface u v, recovered := false } :: older)) w fun e u' w' =>
      e = .returned (.tuple #[]) ∧ u' = .panicking ({ v := .iface u v, recovered := true } :: older) ∧ w' = (w.setCell ⟨p, 0, none⟩ (.slice none 0 0)).setCell ⟨q, 0, none⟩ (.int .i64 61) := by
  have c0 : w.cell? ⟨p, 0, none⟩ = some x := hp.cell 0
  have c1 : w.cell? ⟨q, 0, none⟩ = some y := hq.cell 0
  have f0 : w.frozen? ⟨p, 0, none⟩ = false := hp.frozen 0
  have f1 : w.frozen? ⟨q, 0, none⟩ = false := hq.frozen 0
  refine callsD_of_wpS Try.func43 rfl fun c₀ cs hu => ?_
  apply wpS_seq
  apply wpS_region
  simp [wpOpsS, go_sem, recoverD, hu, Try.ntmps43, Exit.thenS]
  refine wpS_cond (t := true) (by simp [Act.eval, Array.replicate]) ?_
  simp only [if_true]
  refine wpS_of_wp ?_
  go_wp2
  exact ⟨rfl, _, rfl, .tuple #[], by simp [results, Try.results43], rfl, rfl, rfl⟩

theorem catchEI_Vote (w : World) (p q : Addr) : CallsD Try.prog 43 #[.pointer (some p), .pointer (some q)] .returning w fun e u' w' => e = .returned (.tuple #[]) ∧ u' = .returning ∧ w' = w := by
  refine callsD_of_wpS Try.func43 rfl fun c₀ cs hu => ?_
  apply wpS_seq
  apply wpS_region
  simp [wpOpsS, go_sem, recoverD, hu, Try.ntmps43, Exit.thenS]
  refine wpS_cond (t := false) (by simp [Act.eval, Array.replicate]) ?_
  simp only [Bool.false_eq_true, if_false]
  refine wpS_of_wp (wp_skip ?_)
  cases c₀
  simp_all [bodyPostS, results, Try.results43]

theorem encoded_Vote (w : World) (b : Addr) (ok : Bool) (bs : List UInt8) (hbs : ok = true → bs.length ≤ 1000000000)
    (H : ∀ (w1 : World) (g : Nat), Chg Non w w1 → w.heap.size ≤ g → Wri w1 g (.slice none 0 0) (some []) → Calls Try.prog 17 #[.agg #[.pointer (some ⟨g, 0, none⟩), .pointer none], .pointer (some b)] w1 (WO w1 g (.slice none 0 0) ok bs)) :
    Calls Try.prog 18 #[.pointer (some b), .func (.func 17) #[] #[]] w (Enc w ok bs) := by
  have hmf := mkf
  have hC0 := ew_chg w
  have hb0 := ew_b w
  have he0 := ew_e w
  have H1 := H (ew w) (w.heap.size + 2) hC0 (by omega) (ew_w w)
  have nb := ew_nb (w := w) (k := w.heap.size) (by omega)
  have ne := ew_nb (w := w) (k := w.heap.size + 1) (by omega)
  clear H
  have HH := Lib.hid H1
  clear H1
  go_enter_defers Try.func18, Try.ntmps18
  go_wp2_with (go_at_call 44; refine (newWriter_any _).mono ?_; rintro e w' ⟨rfl, rfl⟩)
  have hew : ew w = ((w.alloc (.cells #[.slice none 0 0] 22)).alloc (.cells #[.int .i64 0] 32)).alloc (.cells #[.slice none 0 0, .bool false] 129) := rfl
  rw [← hew]
  clear hew
  generalize ew w = w1 at *
  refine HH.out.mono ?_
  rintro e w2 h2
  rcases h2.cases with ⟨rfl, rfl, C⟩ | ⟨rfl, rfl, v2, T⟩
  · have hb2 := hb0.chg C nb
    have he2 := he0.chg C ne
    go_wp2
    refine leaves_cons (f := 43) (args := #[.pointer (some ⟨w.heap.size, 0, none⟩), .pointer (some ⟨w.heap.size + 1, 0, none⟩)]) (by simp) (by simp [go_sem]) ?_
    refine (catchEP_Vote w2 w.heap.size (w.heap.size + 1) _ _ _ _ _ hb2 he2 (by omega)).mono ?_
    rintro e u' w'' ⟨rfl, rfl, rfl⟩
    have hb3 := (hb2.set 0 (.slice none 0 0)).far (p := ⟨w.heap.size + 1, 0, none⟩) (by simp) (.int .i64 61)
    have he3 := (he2.far (p := ⟨w.heap.size, 0, none⟩) (by simp) (.slice none 0 0)).set 0 (.int .i64 61)
    refine ⟨_, results_two rfl _ _ _ ⟨w.heap.size, 0, none⟩ ⟨w.heap.size + 1, 0, none⟩ _ _ rfl rfl (load_bytes (hb3.cell 0)) (load_errno (he3.cell 0)), ?_, rfl⟩
    have C1 : Chg Non w w2 := (hC0.trans C (fun j hj => .inr (by rcases hj with rfl | hj; omega; cases hj)))
    exact (C1.setCell (p := ⟨w.heap.size, 0, none⟩) (.inr (Nat.le_refl _)) _).setCell (p := ⟨w.heap.size + 1, 0, none⟩) (.inr (by simp)) _
  · have hb2 := hb0.chg T.chg nb
    have he2 := he0.chg T.chg ne
    have C1 : Chg Non w w2 := (hC0.trans T.chg (fun j hj => .inr (by rcases hj with rfl | hj; omega; cases hj)))
    have hlen := hbs rfl
    clear hb0 he0
    go_wp2_with fail
    refine (bytes_some _ (w.heap.size + 2) v2 bs T.wri hlen).mono ?_
    rintro e w3 ⟨v3, rfl, ho3, hl3, hc3⟩
    have hb3 := hb2.chg hc3 (fun f => f)
    have he3 := he2.chg hc3 (fun f => f)
    have c0 : w3.cell? ⟨w.heap.size, 0, none⟩ = some (.slice none 0 0) := hb3.cell 0
    have c1 : w3.cell? ⟨w.heap.size + 1, 0, none⟩ = some (.int .i64 0) := he3.cell 0
    have f0 : w3.frozen? ⟨w.heap.size, 0, none⟩ = false := hb3.frozen 0
    have f1 : w3.frozen? ⟨w.heap.size + 1, 0, none⟩ = false := he3.frozen 0
    obtain ⟨A, c, rfl, _⟩ := ho3.slice
    go_wp2_with (go_at_call 33; refine (insist_yes _).mono ?_; rintro e w5 ⟨rfl, rfl⟩)
    refine leaves_cons (f := 43) (args := #[.pointer (some ⟨w.heap.size, 0, none⟩), .pointer (some ⟨w.heap.size + 1, 0, none⟩)]) (by simp) (by simp [go_sem]) ?_
    refine (catchEI_Vote _ ⟨w.heap.size, 0, none⟩ ⟨w.heap.size + 1, 0, none⟩).mono ?_
    rintro e u' w'' ⟨rfl, rfl, rfl⟩
    have hb4 := (((hb3.set 0 (.slice A bs.length c)).far (p := ⟨w.heap.size + 1, 0, none⟩) (by simp) (.int .i64 0)).set 0 (.slice A bs.length c)).far (p := ⟨w.heap.size + 1, 0, none⟩) (by simp) (.int .i64 0)
    have he4 := (((he3.far (p := ⟨w.heap.size, 0, none⟩) (by simp) (.slice A bs.length c)).set 0 (.int .i64 0)).far (p := ⟨w.heap.size, 0, none⟩) (by simp) (.slice A bs.length c)).set 0 (.int .i64 0)
    have K := ((((Chg.refl (fun k => k = w.heap.size ∨ k = w.heap.size + 1) w3).setCell (p := ⟨w.heap.size, 0, none⟩) (.inl (.inl rfl)) (.slice A bs.length c)).setCell (p := ⟨w.heap.size + 1, 0, none⟩) (.inl (.inr rfl)) (.int .i64 0)).setCell (p := ⟨w.heap.size, 0, none⟩) (.inl (.inl rfl)) (.slice A bs.length c)).setCell (p := ⟨w.heap.size + 1, 0, none⟩) (.inl (.inr rfl)) (.int .i64 0)
    have hlt := he2.lt
    refine ⟨_, results_two rfl _ _ _ ⟨w.heap.size, 0, none⟩ ⟨w.heap.size + 1, 0, none⟩ _ _ rfl rfl (load_bytes (hb4.cell 0)) (load_errno (he4.cell 0)), (C1.trans hc3 (fun _ f => f.elim)).trans K (fun j hj => .inr (by omega)), _, rfl, ho3.chg K (fun j hj => ?_), fun k hk => ?_⟩
    · have := hl3 j hj; omega
    · have := hl3 k hk; omega


theorem catchEP_Header (w : World) (p q : Nat) (x y : Value) (v : Value) (u : TypeId) (older : List PanicEntry) (hp : Hb w p 22 #[x]) (hq : Hb w q 32 #[y]) (hpq : q ≠ p) :
    CallsD Try.prog 48 #[.pointer (some ⟨p, 0, none⟩), .pointer (some ⟨q, 0, none⟩)] (.panicking ({ v := .iface u v, recovered := false } :: older)) w fun e u' w' =>
      e = .returned (.tuple #[]) ∧ u' = .panicking ({ v := .iface u v, recovered := true } :: older) ∧ w' = (w.setCell ⟨p, 0, none⟩ (.slice none 0 0)).setCell ⟨q, 0, none⟩ (.int .i64 61) := by
  have c0 : w.cell? ⟨p, 0, none⟩ = some x := hp.cell 0
  have c1 : w.cell? ⟨q, 0, none⟩ = some y := hq.cell 0
  have f0 : w.frozen? ⟨p, 0, none⟩ = false := hp.frozen 0
  have f1 : w.frozen? ⟨q, 0, none⟩ = false := hq.frozen 0
  refine callsD_of_wpS Try.func48 rfl fun c₀ cs hu => ?_
  apply wpS_seq
  apply wpS_region
  simp [wpOpsS, go_sem, recoverD, hu, Try.ntmps48, Exit.thenS]
  refine wpS_cond (t := true) (by simp [Act.eval, Array.replicate]) ?_
  simp only [if_true]
  refine wpS_of_wp ?_
  go_wp2
  exact ⟨rfl, _, rfl, .tuple #[], by simp [results, Try.results48], rfl, rfl, rfl⟩

theorem catchEI_Header (w : World) (p q : Addr) : CallsD Try.prog 48 #[.pointer (some p), .pointer (some q)] .returning w fun e u' w' => e = .returned (.tuple #[]) ∧ u' = .returning ∧ w' = w := by
  refine callsD_of_wpS Try.func48 rfl fun c₀ cs hu => ?_
  apply wpS_seq
  apply wpS_region
  simp [wpOpsS, go_sem, recoverD, hu, Try.ntmps48, Exit.thenS]
  refine wpS_cond (t := false) (by simp [Act.eval, Array.replicate]) ?_
  simp only [Bool.false_eq_true, if_false]
  refine wpS_of_wp (wp_skip ?_)
  cases c₀
  simp_all [bodyPostS, results, Try.results48]

theorem encoded_Header (w : World) (b : Addr) (ok : Bool) (bs : List UInt8) (hbs : ok = true → bs.length ≤ 1000000000)
    (H : ∀ (w1 : World) (g : Nat), Chg Non w w1 → w.heap.size ≤ g → Wri w1 g (.slice none 0 0) (some []) → Calls Try.prog 20 #[.agg #[.pointer (some ⟨g, 0, none⟩), .pointer none], .pointer (some b)] w1 (WO w1 g (.slice none 0 0) ok bs)) :
    Calls Try.prog 21 #[.pointer (some b), .func (.func 20) #[] #[]] w (Enc w ok bs) := by
  have hmf := mkf
  have hC0 := ew_chg w
  have hb0 := ew_b w
  have he0 := ew_e w
  have H1 := H (ew w) (w.heap.size + 2) hC0 (by omega) (ew_w w)
  have nb := ew_nb (w := w) (k := w.heap.size) (by omega)
  have ne := ew_nb (w := w) (k := w.heap.size + 1) (by omega)
  clear H
  have HH := Lib.hid H1
  clear H1
  go_enter_defers Try.func21, Try.ntmps21
  go_wp2_with (go_at_call 44; refine (newWriter_any _).mono ?_; rintro e w' ⟨rfl, rfl⟩)
  have hew : ew w = ((w.alloc (.cells #[.slice none 0 0] 22)).alloc (.cells #[.int .i64 0] 32)).alloc (.cells #[.slice none 0 0, .bool false] 129) := rfl
  rw [← hew]
  clear hew
  generalize ew w = w1 at *
  refine HH.out.mono ?_
  rintro e w2 h2
  rcases h2.cases with ⟨rfl, rfl, C⟩ | ⟨rfl, rfl, v2, T⟩
  · have hb2 := hb0.chg C nb
    have he2 := he0.chg C ne
    go_wp2
    refine leaves_cons (f := 48) (args := #[.pointer (some ⟨w.heap.size, 0, none⟩), .pointer (some ⟨w.heap.size + 1, 0, none⟩)]) (by simp) (by simp [go_sem]) ?_
    refine (catchEP_Header w2 w.heap.size (w.heap.size + 1) _ _ _ _ _ hb2 he2 (by omega)).mono ?_
    rintro e u' w'' ⟨rfl, rfl, rfl⟩
    have hb3 := (hb2.set 0 (.slice none 0 0)).far (p := ⟨w.heap.size + 1, 0, none⟩) (by simp) (.int .i64 61)
    have he3 := (he2.far (p := ⟨w.heap.size, 0, none⟩) (by simp) (.slice none 0 0)).set 0 (.int .i64 61)
    refine ⟨_, results_two rfl _ _ _ ⟨w.heap.size, 0, none⟩ ⟨w.heap.size + 1, 0, none⟩ _ _ rfl rfl (load_bytes (hb3.cell 0)) (load_errno (he3.cell 0)), ?_, rfl⟩
    have C1 : Chg Non w w2 := (hC0.trans C (fun j hj => .inr (by rcases hj with rfl | hj; omega; cases hj)))
    exact (C1.setCell (p := ⟨w.heap.size, 0, none⟩) (.inr (Nat.le_refl _)) _).setCell (p := ⟨w.heap.size + 1, 0, none⟩) (.inr (by simp)) _
  · have hb2 := hb0.chg T.chg nb
    have he2 := he0.chg T.chg ne
    have C1 : Chg Non w w2 := (hC0.trans T.chg (fun j hj => .inr (by rcases hj with rfl | hj; omega; cases hj)))
    have hlen := hbs rfl
    clear hb0 he0
    go_wp2_with fail
    refine (bytes_some _ (w.heap.size + 2) v2 bs T.wri hlen).mono ?_
    rintro e w3 ⟨v3, rfl, ho3, hl3, hc3⟩
    have hb3 := hb2.chg hc3 (fun f => f)
    have he3 := he2.chg hc3 (fun f => f)
    have c0 : w3.cell? ⟨w.heap.size, 0, none⟩ = some (.slice none 0 0) := hb3.cell 0
    have c1 : w3.cell? ⟨w.heap.size + 1, 0, none⟩ = some (.int .i64 0) := he3.cell 0
    have f0 : w3.frozen? ⟨w.heap.size, 0, none⟩ = false := hb3.frozen 0
    have f1 : w3.frozen? ⟨w.heap.size + 1, 0, none⟩ = false := he3.frozen 0
    obtain ⟨A, c, rfl, _⟩ := ho3.slice
    go_wp2_with (go_at_call 33; refine (insist_yes _).mono ?_; rintro e w5 ⟨rfl, rfl⟩)
    refine leaves_cons (f := 48) (args := #[.pointer (some ⟨w.heap.size, 0, none⟩), .pointer (some ⟨w.heap.size + 1, 0, none⟩)]) (by simp) (by simp [go_sem]) ?_
    refine (catchEI_Header _ ⟨w.heap.size, 0, none⟩ ⟨w.heap.size + 1, 0, none⟩).mono ?_
    rintro e u' w'' ⟨rfl, rfl, rfl⟩
    have hb4 := (((hb3.set 0 (.slice A bs.length c)).far (p := ⟨w.heap.size + 1, 0, none⟩) (by simp) (.int .i64 0)).set 0 (.slice A bs.length c)).far (p := ⟨w.heap.size + 1, 0, none⟩) (by simp) (.int .i64 0)
    have he4 := (((he3.far (p := ⟨w.heap.size, 0, none⟩) (by simp) (.slice A bs.length c)).set 0 (.int .i64 0)).far (p := ⟨w.heap.size, 0, none⟩) (by simp) (.slice A bs.length c)).set 0 (.int .i64 0)
    have K := ((((Chg.refl (fun k => k = w.heap.size ∨ k = w.heap.size + 1) w3).setCell (p := ⟨w.heap.size, 0, none⟩) (.inl (.inl rfl)) (.slice A bs.length c)).setCell (p := ⟨w.heap.size + 1, 0, none⟩) (.inl (.inr rfl)) (.int .i64 0)).setCell (p := ⟨w.heap.size, 0, none⟩) (.inl (.inl rfl)) (.slice A bs.length c)).setCell (p := ⟨w.heap.size + 1, 0, none⟩) (.inl (.inr rfl)) (.int .i64 0)
    have hlt := he2.lt
    refine ⟨_, results_two rfl _ _ _ ⟨w.heap.size, 0, none⟩ ⟨w.heap.size + 1, 0, none⟩ _ _ rfl rfl (load_bytes (hb4.cell 0)) (load_errno (he4.cell 0)), (C1.trans hc3 (fun _ f => f.elim)).trans K (fun j hj => .inr (by omega)), _, rfl, ho3.chg K (fun j hj => ?_), fun k hk => ?_⟩
    · have := hl3 j hj; omega
    · have := hl3 k hk; omega


theorem catchEP_Light (w : World) (p q : Nat) (x y : Value) (v : Value) (u : TypeId) (older : List PanicEntry) (hp : Hb w p 22 #[x]) (hq : Hb w q 32 #[y]) (hpq : q ≠ p) :
    CallsD Try.prog 52 #[.pointer (some ⟨p, 0, none⟩), .pointer (some ⟨q, 0, none⟩)] (.panicking ({ v := .iface u v, recovered := false } :: older)) w fun e u' w' =>
      e = .returned (.tuple #[]) ∧ u' = .panicking ({ v := .iface u v, recovered := true } :: older) ∧ w' = (w.setCell ⟨p, 0, none⟩ (.slice none 0 0)).setCell ⟨q, 0, none⟩ (.int .i64 61) := by
  have c0 : w.cell? ⟨p, 0, none⟩ = some x := hp.cell 0
  have c1 : w.cell? ⟨q, 0, none⟩ = some y := hq.cell 0
  have f0 : w.frozen? ⟨p, 0, none⟩ = false := hp.frozen 0
  have f1 : w.frozen? ⟨q, 0, none⟩ = false := hq.frozen 0
  refine callsD_of_wpS Try.func52 rfl fun c₀ cs hu => ?_
  apply wpS_seq
  apply wpS_region
  simp [wpOpsS, go_sem, recoverD, hu, Try.ntmps52, Exit.thenS]
  refine wpS_cond (t := true) (by simp [Act.eval, Array.replicate]) ?_
  simp only [if_true]
  refine wpS_of_wp ?_
  go_wp2
  exact ⟨rfl, _, rfl, .tuple #[], by simp [results, Try.results52], rfl, rfl, rfl⟩

theorem catchEI_Light (w : World) (p q : Addr) : CallsD Try.prog 52 #[.pointer (some p), .pointer (some q)] .returning w fun e u' w' => e = .returned (.tuple #[]) ∧ u' = .returning ∧ w' = w := by
  refine callsD_of_wpS Try.func52 rfl fun c₀ cs hu => ?_
  apply wpS_seq
  apply wpS_region
  simp [wpOpsS, go_sem, recoverD, hu, Try.ntmps52, Exit.thenS]
  refine wpS_cond (t := false) (by simp [Act.eval, Array.replicate]) ?_
  simp only [Bool.false_eq_true, if_false]
  refine wpS_of_wp (wp_skip ?_)
  cases c₀
  simp_all [bodyPostS, results, Try.results52]

theorem encoded_Light (w : World) (b : Addr) (ok : Bool) (bs : List UInt8) (hbs : ok = true → bs.length ≤ 1000000000)
    (H : ∀ (w1 : World) (g : Nat), Chg Non w w1 → w.heap.size ≤ g → Wri w1 g (.slice none 0 0) (some []) → Calls Try.prog 23 #[.agg #[.pointer (some ⟨g, 0, none⟩), .pointer none], .pointer (some b)] w1 (WO w1 g (.slice none 0 0) ok bs)) :
    Calls Try.prog 24 #[.pointer (some b), .func (.func 23) #[] #[]] w (Enc w ok bs) := by
  have hmf := mkf
  have hC0 := ew_chg w
  have hb0 := ew_b w
  have he0 := ew_e w
  have H1 := H (ew w) (w.heap.size + 2) hC0 (by omega) (ew_w w)
  have nb := ew_nb (w := w) (k := w.heap.size) (by omega)
  have ne := ew_nb (w := w) (k := w.heap.size + 1) (by omega)
  clear H
  have HH := Lib.hid H1
  clear H1
  go_enter_defers Try.func24, Try.ntmps24
  go_wp2_with (go_at_call 44; refine (newWriter_any _).mono ?_; rintro e w' ⟨rfl, rfl⟩)
  have hew : ew w = ((w.alloc (.cells #[.slice none 0 0] 22)).alloc (.cells #[.int .i64 0] 32)).alloc (.cells #[.slice none 0 0, .bool false] 129) := rfl
  rw [← hew]
  clear hew
  generalize ew w = w1 at *
  refine HH.out.mono ?_
  rintro e w2 h2
  rcases h2.cases with ⟨rfl, rfl, C⟩ | ⟨rfl, rfl, v2, T⟩
  · have hb2 := hb0.chg C nb
    have he2 := he0.chg C ne
    go_wp2
    refine leaves_cons (f := 52) (args := #[.pointer (some ⟨w.heap.size, 0, none⟩), .pointer (some ⟨w.heap.size + 1, 0, none⟩)]) (by simp) (by simp [go_sem]) ?_
    refine (catchEP_Light w2 w.heap.size (w.heap.size + 1) _ _ _ _ _ hb2 he2 (by omega)).mono ?_
    rintro e u' w'' ⟨rfl, rfl, rfl⟩
    have hb3 := (hb2.set 0 (.slice none 0 0)).far (p := ⟨w.heap.size + 1, 0, none⟩) (by simp) (.int .i64 61)
    have he3 := (he2.far (p := ⟨w.heap.size, 0, none⟩) (by simp) (.slice none 0 0)).set 0 (.int .i64 61)
    refine ⟨_, results_two rfl _ _ _ ⟨w.heap.size, 0, none⟩ ⟨w.heap.size + 1, 0, none⟩ _ _ rfl rfl (load_bytes (hb3.cell 0)) (load_errno (he3.cell 0)), ?_, rfl⟩
    have C1 : Chg Non w w2 := (hC0.trans C (fun j hj => .inr (by rcases hj with rfl | hj; omega; cases hj)))
    exact (C1.setCell (p := ⟨w.heap.size, 0, none⟩) (.inr (Nat.le_refl _)) _).setCell (p := ⟨w.heap.size + 1, 0, none⟩) (.inr (by simp)) _
  · have hb2 := hb0.chg T.chg nb
    have he2 := he0.chg T.chg ne
    have C1 : Chg Non w w2 := (hC0.trans T.chg (fun j hj => .inr (by rcases hj with rfl | hj; omega; cases hj)))
    have hlen := hbs rfl
    clear hb0 he0
    go_wp2_with fail
    refine (bytes_some _ (w.heap.size + 2) v2 bs T.wri hlen).mono ?_
    rintro e w3 ⟨v3, rfl, ho3, hl3, hc3⟩
    have hb3 := hb2.chg hc3 (fun f => f)
    have he3 := he2.chg hc3 (fun f => f)
    have c0 : w3.cell? ⟨w.heap.size, 0, none⟩ = some (.slice none 0 0) := hb3.cell 0
    have c1 : w3.cell? ⟨w.heap.size + 1, 0, none⟩ = some (.int .i64 0) := he3.cell 0
    have f0 : w3.frozen? ⟨w.heap.size, 0, none⟩ = false := hb3.frozen 0
    have f1 : w3.frozen? ⟨w.heap.size + 1, 0, none⟩ = false := he3.frozen 0
    obtain ⟨A, c, rfl, _⟩ := ho3.slice
    go_wp2_with (go_at_call 33; refine (insist_yes _).mono ?_; rintro e w5 ⟨rfl, rfl⟩)
    refine leaves_cons (f := 52) (args := #[.pointer (some ⟨w.heap.size, 0, none⟩), .pointer (some ⟨w.heap.size + 1, 0, none⟩)]) (by simp) (by simp [go_sem]) ?_
    refine (catchEI_Light _ ⟨w.heap.size, 0, none⟩ ⟨w.heap.size + 1, 0, none⟩).mono ?_
    rintro e u' w'' ⟨rfl, rfl, rfl⟩
    have hb4 := (((hb3.set 0 (.slice A bs.length c)).far (p := ⟨w.heap.size + 1, 0, none⟩) (by simp) (.int .i64 0)).set 0 (.slice A bs.length c)).far (p := ⟨w.heap.size + 1, 0, none⟩) (by simp) (.int .i64 0)
    have he4 := (((he3.far (p := ⟨w.heap.size, 0, none⟩) (by simp) (.slice A bs.length c)).set 0 (.int .i64 0)).far (p := ⟨w.heap.size, 0, none⟩) (by simp) (.slice A bs.length c)).set 0 (.int .i64 0)
    have K := ((((Chg.refl (fun k => k = w.heap.size ∨ k = w.heap.size + 1) w3).setCell (p := ⟨w.heap.size, 0, none⟩) (.inl (.inl rfl)) (.slice A bs.length c)).setCell (p := ⟨w.heap.size + 1, 0, none⟩) (.inl (.inr rfl)) (.int .i64 0)).setCell (p := ⟨w.heap.size, 0, none⟩) (.inl (.inl rfl)) (.slice A bs.length c)).setCell (p := ⟨w.heap.size + 1, 0, none⟩) (.inl (.inr rfl)) (.int .i64 0)
    have hlt := he2.lt
    refine ⟨_, results_two rfl _ _ _ ⟨w.heap.size, 0, none⟩ ⟨w.heap.size + 1, 0, none⟩ _ _ rfl rfl (load_bytes (hb4.cell 0)) (load_errno (he4.cell 0)), (C1.trans hc3 (fun _ f => f.elim)).trans K (fun j hj => .inr (by omega)), _, rfl, ho3.chg K (fun j hj => ?_), fun k hk => ?_⟩
    · have := hl3 j hj; omega
    · have := hl3 k hk; omega


theorem catchEP_Proof (w : World) (p q : Nat) (x y : Value) (v : Value) (u : TypeId) (older : List PanicEntry) (hp : Hb w p 22 #[x]) (hq : Hb w q 32 #[y]) (hpq : q ≠ p) :
    CallsD Try.prog 59 #[.pointer (some ⟨p, 0, none⟩), .pointer (some ⟨q, 0, none⟩)] (.panicking ({ v := .iface u v, recovered := false } :: older)) w fun e u' w' =>
      e = .returned (.tuple #[]) ∧ u' = .panicking ({ v := .iface u v, recovered := true } :: older) ∧ w' = (w.setCell ⟨p, 0, none⟩ (.slice none 0 0)).setCell ⟨q, 0, none⟩ (.int .i64 61) := by
  have c0 : w.cell? ⟨p, 0, none⟩ = some x := hp.cell 0
  have c1 : w.cell? ⟨q, 0, none⟩ = some y := hq.cell 0
  have f0 : w.frozen? ⟨p, 0, none⟩ = false := hp.frozen 0
  have f1 : w.frozen? ⟨q, 0, none⟩ = false := hq.frozen 0
  refine callsD_of_wpS Try.func59 rfl fun c₀ cs hu => ?_
  apply wpS_seq
  apply wpS_region
  simp [wpOpsS, go_sem, recoverD, hu, Try.ntmps59, Exit.thenS]
  refine wpS_cond (t := true) (by simp [Act.eval, Array.replicate]) ?_
  simp only [if_true]
  refine wpS_of_wp ?_
  go_wp2
  exact ⟨rfl, _, rfl, .tuple #[], by simp [results, Try.results59], rfl, rfl, rfl⟩

theorem catchEI_Proof (w : World) (p q : Addr) : CallsD Try.prog 59 #[.pointer (some p), .pointer (some q)] .returning w fun e u' w' => e = .returned (.tuple #[]) ∧ u' = .returning ∧ w' = w := by
  refine callsD_of_wpS Try.func59 rfl fun c₀ cs hu => ?_
  apply wpS_seq
  apply wpS_region
  simp [wpOpsS, go_sem, recoverD, hu, Try.ntmps59, Exit.thenS]
  refine wpS_cond (t := false) (by simp [Act.eval, Array.replicate]) ?_
  simp only [Bool.false_eq_true, if_false]
  refine wpS_of_wp (wp_skip ?_)
  cases c₀
  simp_all [bodyPostS, results, Try.results59]

theorem encoded_Proof (w : World) (b : Addr) (ok : Bool) (bs : List UInt8) (hbs : ok = true → bs.length ≤ 1000000000)
    (H : ∀ (w1 : World) (g : Nat), Chg Non w w1 → w.heap.size ≤ g → Wri w1 g (.slice none 0 0) (some []) → Calls Try.prog 29 #[.agg #[.pointer (some ⟨g, 0, none⟩), .pointer none], .pointer (some b)] w1 (WO w1 g (.slice none 0 0) ok bs)) :
    Calls Try.prog 30 #[.pointer (some b), .func (.func 29) #[] #[]] w (Enc w ok bs) := by
  have hmf := mkf
  have hC0 := ew_chg w
  have hb0 := ew_b w
  have he0 := ew_e w
  have H1 := H (ew w) (w.heap.size + 2) hC0 (by omega) (ew_w w)
  have nb := ew_nb (w := w) (k := w.heap.size) (by omega)
  have ne := ew_nb (w := w) (k := w.heap.size + 1) (by omega)
  clear H
  have HH := Lib.hid H1
  clear H1
  go_enter_defers Try.func30, Try.ntmps30
  go_wp2_with (go_at_call 44; refine (newWriter_any _).mono ?_; rintro e w' ⟨rfl, rfl⟩)
  have hew : ew w = ((w.alloc (.cells #[.slice none 0 0] 22)).alloc (.cells #[.int .i64 0] 32)).alloc (.cells #[.slice none 0 0, .bool false] 129) := rfl
  rw [← hew]
  clear hew
  generalize ew w = w1 at *
  refine HH.out.mono ?_
  rintro e w2 h2
  rcases h2.cases with ⟨rfl, rfl, C⟩ | ⟨rfl, rfl, v2, T⟩
  · have hb2 := hb0.chg C nb
    have he2 := he0.chg C ne
    go_wp2
    refine leaves_cons (f := 59) (args := #[.pointer (some ⟨w.heap.size, 0, none⟩), .pointer (some ⟨w.heap.size + 1, 0, none⟩)]) (by simp) (by simp [go_sem]) ?_
    refine (catchEP_Proof w2 w.heap.size (w.heap.size + 1) _ _ _ _ _ hb2 he2 (by omega)).mono ?_
    rintro e u' w'' ⟨rfl, rfl, rfl⟩
    have hb3 := (hb2.set 0 (.slice none 0 0)).far (p := ⟨w.heap.size + 1, 0, none⟩) (by simp) (.int .i64 61)
    have he3 := (he2.far (p := ⟨w.heap.size, 0, none⟩) (by simp) (.slice none 0 0)).set 0 (.int .i64 61)
    refine ⟨_, results_two rfl _ _ _ ⟨w.heap.size, 0, none⟩ ⟨w.heap.size + 1, 0, none⟩ _ _ rfl rfl (load_bytes (hb3.cell 0)) (load_errno (he3.cell 0)), ?_, rfl⟩
    have C1 : Chg Non w w2 := (hC0.trans C (fun j hj => .inr (by rcases hj with rfl | hj; omega; cases hj)))
    exact (C1.setCell (p := ⟨w.heap.size, 0, none⟩) (.inr (Nat.le_refl _)) _).setCell (p := ⟨w.heap.size + 1, 0, none⟩) (.inr (by simp)) _
  · have hb2 := hb0.chg T.chg nb
    have he2 := he0.chg T.chg ne
    have C1 : Chg Non w w2 := (hC0.trans T.chg (fun j hj => .inr (by rcases hj with rfl | hj; omega; cases hj)))
    have hlen := hbs rfl
    clear hb0 he0
    go_wp2_with fail
    refine (bytes_some _ (w.heap.size + 2) v2 bs T.wri hlen).mono ?_
    rintro e w3 ⟨v3, rfl, ho3, hl3, hc3⟩
    have hb3 := hb2.chg hc3 (fun f => f)
    have he3 := he2.chg hc3 (fun f => f)
    have c0 : w3.cell? ⟨w.heap.size, 0, none⟩ = some (.slice none 0 0) := hb3.cell 0
    have c1 : w3.cell? ⟨w.heap.size + 1, 0, none⟩ = some (.int .i64 0) := he3.cell 0
    have f0 : w3.frozen? ⟨w.heap.size, 0, none⟩ = false := hb3.frozen 0
    have f1 : w3.frozen? ⟨w.heap.size + 1, 0, none⟩ = false := he3.frozen 0
    obtain ⟨A, c, rfl, _⟩ := ho3.slice
    go_wp2_with (go_at_call 33; refine (insist_yes _).mono ?_; rintro e w5 ⟨rfl, rfl⟩)
    refine leaves_cons (f := 59) (args := #[.pointer (some ⟨w.heap.size, 0, none⟩), .pointer (some ⟨w.heap.size + 1, 0, none⟩)]) (by simp) (by simp [go_sem]) ?_
    refine (catchEI_Proof _ ⟨w.heap.size, 0, none⟩ ⟨w.heap.size + 1, 0, none⟩).mono ?_
    rintro e u' w'' ⟨rfl, rfl, rfl⟩
    have hb4 := (((hb3.set 0 (.slice A bs.length c)).far (p := ⟨w.heap.size + 1, 0, none⟩) (by simp) (.int .i64 0)).set 0 (.slice A bs.length c)).far (p := ⟨w.heap.size + 1, 0, none⟩) (by simp) (.int .i64 0)
    have he4 := (((he3.far (p := ⟨w.heap.size, 0, none⟩) (by simp) (.slice A bs.length c)).set 0 (.int .i64 0)).far (p := ⟨w.heap.size, 0, none⟩) (by simp) (.slice A bs.length c)).set 0 (.int .i64 0)
    have K := ((((Chg.refl (fun k => k = w.heap.size ∨ k = w.heap.size + 1) w3).setCell (p := ⟨w.heap.size, 0, none⟩) (.inl (.inl rfl)) (.slice A bs.length c)).setCell (p := ⟨w.heap.size + 1, 0, none⟩) (.inl (.inr rfl)) (.int .i64 0)).setCell (p := ⟨w.heap.size, 0, none⟩) (.inl (.inl rfl)) (.slice A bs.length c)).setCell (p := ⟨w.heap.size + 1, 0, none⟩) (.inl (.inr rfl)) (.int .i64 0)
    have hlt := he2.lt
    refine ⟨_, results_two rfl _ _ _ ⟨w.heap.size, 0, none⟩ ⟨w.heap.size + 1, 0, none⟩ _ _ rfl rfl (load_bytes (hb4.cell 0)) (load_errno (he4.cell 0)), (C1.trans hc3 (fun _ f => f.elim)).trans K (fun j hj => .inr (by omega)), _, rfl, ho3.chg K (fun j hj => ?_), fun k hk => ?_⟩
    · have := hl3 j hj; omega
    · have := hl3 k hk; omega

end Go.Proofs.Ytinbjbfgfknpaaa

/- Package forms: words for decoded[T]. -/
namespace Go.Proofs.Ytinbjbfgfknpaaa
open Go.RowKit
set_option linter.unusedVariables false
set_option linter.unusedSimpArgs false
set_option maxRecDepth 20000


theorem wpList_alloc_row {ops : Array Oper} {rest : List Oper} {o : Oper} {a : Act} {w : World} {Q : Exit → Act → World → Prop} (hgd : o.guard = none) (ty : TypeId) (ho : o.op = .alloc ty) (z : List Value)
    (hz : (Instr.alloc ty true (.tuple #[])).run Try.prog w = .ok (.pointer (some ⟨w.heap.size, 0, none⟩)) (w.alloc (.cells z.toArray ty)))
    (hK : wpList Try.prog ops Q rest (a.put o.dst (.pointer (some ⟨w.heap.size, 0, none⟩))) (w.alloc (.cells z.toArray ty))) : wpList Try.prog ops Q (o :: rest) a w := by
  refine wpList_plain hgd fun K hK' => ?_
  unfold Oper.wp execOp
  simp only [ho, Sem.run_bind, Sem.run_pure, Result.andThen_ok, hz]
  exact hK' _ _ hK
theorem wpList_box_row {ops : Array Oper} {rest : List Oper} {o : Oper} {a : Act} {w : World} {Q : Exit → Act → World → Prop} (hgd : o.guard = none) (ty : TypeId) (x : Operand) (ho : o.op = .box ty x) {cs : Array Value} (hx : a.eval x = .agg cs)
    (hK : ∀ w1, Hid (w1 = w.alloc (.cells cs ty)) → wpList Try.prog ops Q rest (a.put o.dst (.pointer (some ⟨w.heap.size, 0, none⟩))) w1) : wpList Try.prog ops Q (o :: rest) a w := by
  refine wpList_plain hgd fun K hK' => ?_
  unfold Oper.wp execOp
  simp only [ho, hx, Sem.run_bind, Sem.run_pure, Instr.box]
  exact hK' _ _ (hK _ (Lib.hid rfl))
theorem wpList_load_w {ops : Array Oper} {rest : List Oper} {op : Oper} {a : Act} {w : World} {Q : Exit → Act → World → Prop} (ty : TypeId) (x : Operand) (ho : op.op = .load ty x) (hw : Region.wanted op (yielded ops a.tmps) = true)
    (b o : Nat) (hx : a.eval x = .pointer (some ⟨b, o, none⟩)) (cs : List Value) (d : TypeDesc) (hc : w.rangeAt b o cs)
    (hu : Try.prog.underlying ty = some d) (hd : d.isRow = true) (hi : (Try.prog.info? ty).map (·.size) = some cs.length)
    (h : wpList Try.prog ops Q rest (a.put op.dst (.agg cs.toArray)) w) : wpList Try.prog ops Q (op :: rest) a w := by
  unfold wpList
  rw [if_pos hw]
  exact .inl (wp_load_mid ty x ho b o hx cs d hc hu hd hi h)
theorem Hb.range0 {w : World} {b : Nat} {t : TypeId} {L : List Value} (h : Hb w b t L.toArray) : w.rangeAt b 0 L := by
  intro j u hu
  rw [Nat.zero_add, h.cell]
  simpa using hu
theorem Hb.there0 {w : World} {b : Nat} {t : TypeId} {L : List Value} (h : Hb w b t L.toArray) : w.there b 0 L.length := by
  intro j hj
  refine ⟨?_, h.frozen _⟩
  rw [Nat.zero_add, h.cell, List.getElem?_toArray, List.getElem?_eq_getElem hj]
  rfl
theorem Hb.sets0 {w : World} {b : Nat} {t : TypeId} {L L' : List Value} (h : Hb w b t L.toArray) (hl : L.length = L'.length) : Hb (w.setCells b 0 L') b t L'.toArray := by
  have := Hb.setCells L' L [] [] w hl (by simpa using h)
  simpa using this
theorem Hb.farCells {w : World} {b tb : Nat} {t : TypeId} {cs : Array Value} (h : Hb w b t cs) (hne : b ≠ tb) (vs : List Value) (o : Nat) : Hb (w.setCells tb o vs) b t cs :=
  h.chg (Chg.setCells (S := fun k => k = tb) rfl vs w o (Chg.refl _ w)) hne
theorem one_mem {L : List Value} (h : ∀ v ∈ L, v.oneCell' = true) : L.toArray.all (·.oneCell') = true := all_oneCell_toArray h

/-- What was read, if nothing stands behind it. -/
def whole {α : Type} (r : Option (α × St)) : Option α := match r with | some (x, some []) => some x | _ => none
/-- What decoding leaves: the thing's cells, or none and the error. -/
def Dec (w : World) (z : List Value) (r : Option (List Value)) (e : Ending) (w' : World) : Prop :=
  Chg Non w w' ∧ e = (match r with | some L => .returned (.tuple #[.agg L.toArray, .int .i64 0]) | none => .returned (.tuple #[.agg z.toArray, .int .i64 61]))
/-- The two results. -/
def dw (w : World) (z : List Value) (t : TypeId) : World := (w.alloc (.cells z.toArray t)).alloc (.cells #[.int .i64 0] 32)
theorem dw_chg (w : World) (z : List Value) (t : TypeId) : Chg Non w (dw w z t) := ((Chg.refl Non w).alloc _).alloc _
theorem dw_b (w : World) (z : List Value) (t : TypeId) : Hb (dw w z t) w.heap.size t z.toArray := (Hb.new w _ _).alloc _
theorem dw_e (w : World) (z : List Value) (t : TypeId) : Hb (dw w z t) (w.heap.size + 1) 32 #[.int .i64 0] := by
  have h := Hb.new (w.alloc (.cells z.toArray t)) 32 #[.int .i64 0]
  rwa [show (w.alloc (.cells z.toArray t)).heap.size = w.heap.size + 1 by simp] at h
theorem endv_eq (st : St) : (endv st == 0) = decide (st = some []) := by
  unfold endv
  by_cases h : st = some []
  · rw [if_pos h, decide_eq_true h]; rfl
  · rw [if_neg h, decide_eq_false h]; rfl
theorem load_row {w : World} {b : Nat} {t ty : TypeId} {L : List Value} {d : TypeDesc} (h : Hb w b t L.toArray) (hu : Try.prog.underlying ty = some d) (hd : d.isRow = true) (hi : (Try.prog.info? ty).map (·.size) = some L.length) : (loadVar ty ⟨b, 0, none⟩).run Try.prog w = .ok (.agg L.toArray) w :=
  run_loadVar_mid w b 0 ty L d h.range0 hu hd hi
end Go.Proofs.Ytinbjbfgfknpaaa

/- Package forms: votes, read: contracts. -/
namespace Go.Proofs.Ytinbjbfgfknpaaa
open Go.RowKit
set_option linter.unusedVariables false
set_option linter.unusedSimpArgs false
set_option maxRecDepth 20000

theorem Rst.eq {W w : World} {g : Nat} {F : Nat → Prop} {tb : Nat} {t : TypeId} {L L' : List Value} {st : St} (S : Rst W g F tb t L st w) (h : L = L') : Rst W g F tb t L' st w := h ▸ S

theorem signature_r (w : World) (g : Nat) (F : Nat → Prop) (tb o : Nat) (t : TypeId) (p q : List Value) (x y : Value) (st : St) (S : Rst w g F tb t (p ++ x :: y :: q) st w) (ho : o = p.length) :
    Calls Try.prog 42 #[.agg #[.pointer none, .pointer (some ⟨g, 0, none⟩)], .pointer (some ⟨tb, o, none⟩)] w (RO w g F tb t (p ++ x :: y :: q).length (some (p ++ .int .u64 (vW st : Int) :: .int .u64 (vW (nW st) : Int) :: q, nW (nW st)))) := by
  have HO := Lib.hid ho
  clear ho
  have S0 := S.non ((Chg.refl Non w).alloc (.cells #[.pointer none, .pointer (some ⟨g, 0, none⟩)] 88))
  have hw := S.nw (Nat.le_refl w.heap.size)
  have hx := Hb.new w 88 #[.pointer none, .pointer (some ⟨g, 0, none⟩)]
  have hx0 : (w.alloc (.cells #[.pointer none, .pointer (some ⟨g, 0, none⟩)] 88)).cell? ⟨w.heap.size, 0, none⟩ = some (.pointer none) := hx.cell 0
  have hx1 : (w.alloc (.cells #[.pointer none, .pointer (some ⟨g, 0, none⟩)] 88)).cell? ⟨w.heap.size, 1, none⟩ = some (.pointer (some ⟨g, 0, none⟩)) := hx.cell 1
  have S1 := S0.here
  clear hx S
  go_enter Try.func42, Try.ntmps42
  go_wp2_with fail
  generalize w.alloc (.cells #[.pointer none, .pointer (some ⟨g, 0, none⟩)] 88) = B at *
  have D2 := S1.non ((Chg.refl Non B).drew)
  have x0 := D2.chg.cell hx0 hw
  have x1 := D2.chg.cell hx1 hw
  go_region_held (fun w' => w'.cell? ⟨w.heap.size, 0, none⟩ = some (.pointer none) ∧ w'.cell? ⟨w.heap.size, 1, none⟩ = some (.pointer (some ⟨g, 0, none⟩))) (first | exact ⟨y0, y1⟩ | exact ⟨x0, x1⟩ | assumption) (first | (go_at_call 41; go_loud (refine (word_r _ g F tb o t p (y :: q) x st D2.here HO.out).mono ?_; rintro e w2 h2; have y0 := h2.chg.cell x0 hw; have y1 := h2.chg.cell x1 hw; obtain ⟨rfl, T2⟩ := h2)) | fail)
  have S2 := D2.trans T2
  clear D2 T2 x0 x1 y0 y1
  go_wp2_with fail
  have D3 := S2.non ((Chg.refl Non w2).drew)
  have x0 := D3.chg.cell hx0 hw
  have x1 := D3.chg.cell hx1 hw
  go_region_held (fun w' => w'.cell? ⟨w.heap.size, 0, none⟩ = some (.pointer none) ∧ w'.cell? ⟨w.heap.size, 1, none⟩ = some (.pointer (some ⟨g, 0, none⟩))) (first | exact ⟨y0, y1⟩ | exact ⟨x0, x1⟩ | assumption) (first | (go_at_call 41; go_loud (refine (word_r _ g F tb (o + 1) t (p ++ [.int .u64 (vW st : Int)]) q y (nW st) (D3.here.eq (by simp)) (by rw [HO.out]; simp)).mono ?_; rintro e w3 h3; have y0 := h3.chg.cell x0 hw; have y1 := h3.chg.cell x1 hw; obtain ⟨rfl, T3⟩ := h3)) | fail)
  have S3 := D3.trans T3
  go_wp2
  go_end0
  exact ⟨rfl, (S0.trans S3).eq (by simp)⟩

theorem vote_r_old {old : List Value} (h : old.length = 39) : ∃ (a0 : Value) (a1 : Value) (a2 : Value) (a3 : Value) (o4 : List Value) (a5 : Value) (a6 : Value) (a7 : Value), old = [a0] ++ [a1] ++ [a2] ++ [a3] ++ o4 ++ [a5] ++ [a6] ++ [a7] ∧ o4.length = 32 ∧ True := by
  refine ⟨(old[0]'(by omega)), (old[1]'(by omega)), (old[2]'(by omega)), (old[3]'(by omega)), ((old.drop 4).take 32), (old[36]'(by omega)), (old[37]'(by omega)), (old[38]'(by omega)), ?_, by simp; omega, trivial⟩
  apply List.ext_getElem?
  intro j
  have hone : ∀ (i : Nat) (hi : i < old.length), [old[i]] = (old.drop i).take 1 := by
    intro i hi
    apply List.ext_getElem?
    intro k
    rw [List.getElem?_take, List.getElem?_drop]
    by_cases hk : k < 1
    · obtain rfl : k = 0 := by omega
      simp [List.getElem?_eq_getElem hi]
    · rw [if_neg hk, List.getElem?_eq_none (by simp; omega)]
  simp only [hone]
  have hj : ∀ (a b c : Nat), a + b = c → (old.drop a).take b ++ old.drop c = old.drop a := by
    intro a b c e
    subst e
    rw [← List.drop_drop, List.take_append_drop]
  have he : old.drop 39 = [] := List.drop_of_length_le (by omega)
  have hall : (old.drop 0).take 1 ++ ((old.drop 1).take 1 ++ ((old.drop 2).take 1 ++ ((old.drop 3).take 1 ++ ((old.drop 4).take 32 ++ ((old.drop 36).take 1 ++ ((old.drop 37).take 1 ++ ((old.drop 38).take 1 ++ old.drop 39))))))) = old := by
    rw [hj 38 1 39 rfl, hj 37 1 38 rfl, hj 36 1 37 rfl, hj 4 32 36 rfl, hj 3 1 4 rfl, hj 2 1 3 rfl, hj 1 1 2 rfl, hj 0 1 1 rfl]
    rfl
  rw [he, List.append_nil] at hall
  conv => lhs; rw [← hall]
  try simp only [List.append_assoc]

set_option maxHeartbeats 1600000 in
theorem vote_r (w : World) (g : Nat) (F : Nat → Prop) (tb o : Nat) (t : TypeId) (p q old : List Value) (st : St) (S : Rst w g F tb t (p ++ (old ++ q)) st w) (ho : o = p.length) (hold : old.length = 39) :
    Calls Try.prog 17 #[.agg #[.pointer none, .pointer (some ⟨g, 0, none⟩)], .pointer (some ⟨tb, o, none⟩)] w (RO w g F tb t (p ++ (old ++ q)).length ((dVote st).map fun y => (p ++ (y.1.cells ++ q), y.2))) := by
  obtain ⟨a0, a1, a2, a3, o4, a5, a6, a7, rfl, l_o4, _⟩ := vote_r_old hold
  generalize hn : (p ++ (_ ++ q)).length = n
  generalize hr : (dVote st).map _ = r
  have HR := Lib.hid hr
  have HN := Lib.hid hn
  have HO := Lib.hid ho
  clear hr hn ho hold
  have S0 := S.non ((Chg.refl Non w).alloc (.cells #[.pointer none, .pointer (some ⟨g, 0, none⟩)] 88))
  have hw := S.nw (Nat.le_refl w.heap.size)
  have hx := Hb.new w 88 #[.pointer none, .pointer (some ⟨g, 0, none⟩)]
  have hx0 : (w.alloc (.cells #[.pointer none, .pointer (some ⟨g, 0, none⟩)] 88)).cell? ⟨w.heap.size, 0, none⟩ = some (.pointer none) := hx.cell 0
  have hx1 : (w.alloc (.cells #[.pointer none, .pointer (some ⟨g, 0, none⟩)] 88)).cell? ⟨w.heap.size, 1, none⟩ = some (.pointer (some ⟨g, 0, none⟩)) := hx.cell 1
  have S1 := S0.here
  obtain ⟨B, hB⟩ : ∃ B, B = w.alloc (.cells #[.pointer none, .pointer (some ⟨g, 0, none⟩)] 88) := ⟨_, rfl⟩
  clear hx S
  go_enter Try.func17, Try.ntmps17
  go_wp2_with fail
  rw [← hB] at S0 hx0 hx1 S1 ⊢
  clear hB
  have x0 := S1.chg.cell hx0 hw
  have x1 := S1.chg.cell hx1 hw
  go_wp2_with (first | (go_at_call 35; go_loud (refine (begin_r _ g F tb t _ st S1.here 1).mono ?_; rintro e w2 h2; rcases h2.cases with ⟨k, he, C, L', hL1, hL2⟩ | ⟨y, k, he, T2⟩; (subst he; obtain rfl : r = none := HR.out.symm.trans (by (simp only [Option.map_eq_none_iff] at k) <;> simp [dVote, k]); exact ⟨rfl, rfl, (S0.chg.trans (S1.chg.trans C (fun _ h => .inl h)) (fun _ h => .inl h)), L', by (rw [hL1, ← HN.out]) <;> simp [bv_length, vH_length, l_o4], hL2⟩); subst he; obtain ⟨z2, k2, rfl⟩ := Option.map_eq_some_iff.1 k; clear k)) | fail)
  have S2 := S1.trans T2
  clear T2 x0 x1
  clear h2
  go_wp2_with fail
  have D3 := S2.non ((Chg.refl Non w2).drew)
  have x0 := D3.chg.cell hx0 hw
  have x1 := D3.chg.cell hx1 hw
  go_region_held (fun w' => w'.cell? ⟨w.heap.size, 0, none⟩ = some (.pointer none) ∧ w'.cell? ⟨w.heap.size, 1, none⟩ = some (.pointer (some ⟨g, 0, none⟩))) (first | exact ⟨y0, y1⟩ | exact ⟨x0, x1⟩ | assumption) (first | (go_at_call 36; go_loud (refine (name_r _ g F tb o t (p) (a1 :: a2 :: a3 :: o4 ++ (a5 :: a6 :: a7 :: q)) a0 z2 (D3.here.eq (by simp)) HO.out).mono ?_; rintro e w3 h3; have y0 := h3.chg.cell x0 hw; have y1 := h3.chg.cell x1 hw; rcases h3.cases with ⟨k, he, C, L', hL1, hL2⟩ | ⟨y, k, he, T3⟩; (subst he; obtain rfl : r = none := HR.out.symm.trans (by (simp only [Option.map_eq_none_iff] at k) <;> simp [dVote, k2, k]); exact ⟨rfl, rfl, (S0.chg.trans (D3.chg.trans C (fun _ h => .inl h)) (fun _ h => .inl h)), L', by (rw [hL1, ← HN.out]) <;> simp [bv_length, vH_length, l_o4], hL2⟩); subst he; obtain ⟨z3, k3, rfl⟩ := Option.map_eq_some_iff.1 k; clear k)) | fail)
  have S3 := D3.trans T3
  clear D3 T3 x0 x1 y0 y1
  clear h3
  go_wp2_with fail
  have D4 := S3.non ((Chg.refl Non w3).drew)
  have x0 := D4.chg.cell hx0 hw
  have x1 := D4.chg.cell hx1 hw
  go_region_held (fun w' => w'.cell? ⟨w.heap.size, 0, none⟩ = some (.pointer none) ∧ w'.cell? ⟨w.heap.size, 1, none⟩ = some (.pointer (some ⟨g, 0, none⟩))) (first | exact ⟨y0, y1⟩ | exact ⟨x0, x1⟩ | assumption) (first | (go_at_call 37; go_loud (refine (height_r _ g F tb (o + 1) t (p ++ (.string z3.1 :: [])) (a2 :: a3 :: o4 ++ (a5 :: a6 :: a7 :: q)) a1 z3.2 (D4.here.eq (by simp)) (by rw [HO.out]; simp [bv_length, vH_length])).mono ?_; rintro e w4 h4; have y0 := h4.chg.cell x0 hw; have y1 := h4.chg.cell x1 hw; rcases h4.cases with ⟨k, he, C, L', hL1, hL2⟩ | ⟨y, k, he, T4⟩; (subst he; obtain rfl : r = none := HR.out.symm.trans (by (simp only [Option.map_eq_none_iff] at k) <;> simp [dVote, k2, k3, k]); exact ⟨rfl, rfl, (S0.chg.trans (D4.chg.trans C (fun _ h => .inl h)) (fun _ h => .inl h)), L', by (rw [hL1, ← HN.out]) <;> simp [bv_length, vH_length, l_o4], hL2⟩); subst he; obtain ⟨z4, k4, rfl⟩ := Option.map_eq_some_iff.1 k; clear k)) | fail)
  have S4 := D4.trans T4
  clear D4 T4 x0 x1 y0 y1
  clear h4
  go_wp2_with fail
  have D5 := S4.non ((Chg.refl Non w4).drew)
  have x0 := D5.chg.cell hx0 hw
  have x1 := D5.chg.cell hx1 hw
  go_region_held (fun w' => w'.cell? ⟨w.heap.size, 0, none⟩ = some (.pointer none) ∧ w'.cell? ⟨w.heap.size, 1, none⟩ = some (.pointer (some ⟨g, 0, none⟩))) (first | exact ⟨y0, y1⟩ | exact ⟨x0, x1⟩ | assumption) (first | (go_at_call 38; go_loud (refine (round_r _ g F tb (o + 2) t (p ++ (.string z3.1 :: .int .i64 z4.1 :: [])) (a3 :: o4 ++ (a5 :: a6 :: a7 :: q)) a2 z4.2 (D5.here.eq (by simp)) (by rw [HO.out]; simp [bv_length, vH_length])).mono ?_; rintro e w5 h5; have y0 := h5.chg.cell x0 hw; have y1 := h5.chg.cell x1 hw; rcases h5.cases with ⟨k, he, C, L', hL1, hL2⟩ | ⟨y, k, he, T5⟩; (subst he; obtain rfl : r = none := HR.out.symm.trans (by (simp only [Option.map_eq_none_iff] at k) <;> simp [dVote, k2, k3, k4, k]); exact ⟨rfl, rfl, (S0.chg.trans (D5.chg.trans C (fun _ h => .inl h)) (fun _ h => .inl h)), L', by (rw [hL1, ← HN.out]) <;> simp [bv_length, vH_length, l_o4], hL2⟩); subst he; obtain ⟨z5, k5, rfl⟩ := Option.map_eq_some_iff.1 k; clear k)) | fail)
  have S5 := D5.trans T5
  clear D5 T5 x0 x1 y0 y1
  clear h5
  go_wp2_with fail
  have D6 := S5.non ((Chg.refl Non w5).drew)
  have x0 := D6.chg.cell hx0 hw
  have x1 := D6.chg.cell hx1 hw
  go_region_held (fun w' => w'.cell? ⟨w.heap.size, 0, none⟩ = some (.pointer none) ∧ w'.cell? ⟨w.heap.size, 1, none⟩ = some (.pointer (some ⟨g, 0, none⟩))) (first | exact ⟨y0, y1⟩ | exact ⟨x0, x1⟩ | assumption) (first | (go_at_call 39; go_loud (refine (numberT_r _ g F tb (o + 3) t (p ++ (.string z3.1 :: .int .i64 z4.1 :: .int .i64 z5.1 :: [])) (o4 ++ (a5 :: a6 :: a7 :: q)) a3 z5.2 (D6.here.eq (by simp)) (by rw [HO.out]; simp [bv_length, vH_length]) 1 2).mono ?_; rintro e w6 h6; have y0 := h6.chg.cell x0 hw; have y1 := h6.chg.cell x1 hw; rcases h6.cases with ⟨k, he, C, L', hL1, hL2⟩ | ⟨y, k, he, T6⟩; (subst he; obtain rfl : r = none := HR.out.symm.trans (by (simp only [Option.map_eq_none_iff] at k) <;> simp [dVote, k2, k3, k4, k5, k]); exact ⟨rfl, rfl, (S0.chg.trans (D6.chg.trans C (fun _ h => .inl h)) (fun _ h => .inl h)), L', by (rw [hL1, ← HN.out]) <;> simp [bv_length, vH_length, l_o4], hL2⟩); subst he; obtain ⟨z6, k6, rfl⟩ := Option.map_eq_some_iff.1 k; clear k)) | fail)
  have S6 := D6.trans T6
  clear D6 T6 x0 x1 y0 y1
  clear h6
  go_wp2_with fail
  have D7 := S6.non ((Chg.refl Non w6).drew)
  have x0 := D7.chg.cell hx0 hw
  have x1 := D7.chg.cell hx1 hw
  go_region_held (fun w' => w'.cell? ⟨w.heap.size, 0, none⟩ = some (.pointer none) ∧ w'.cell? ⟨w.heap.size, 1, none⟩ = some (.pointer (some ⟨g, 0, none⟩))) (first | exact ⟨y0, y1⟩ | exact ⟨x0, x1⟩ | assumption) (first | (go_at_call 40; go_loud (refine (hash_r _ g F tb (o + 4) t (p ++ (.string z3.1 :: .int .i64 z4.1 :: .int .i64 z5.1 :: .int .i64 z6.1 :: [])) (a5 :: a6 :: a7 :: q) o4 z6.2 (D7.here.eq (by simp)) (by rw [HO.out]; simp [bv_length, vH_length]) l_o4).mono ?_; rintro e w7 h7; have y0 := h7.chg.cell x0 hw; have y1 := h7.chg.cell x1 hw; obtain ⟨rfl, T7⟩ := h7)) | fail)
  have S7 := D7.trans T7
  clear D7 T7 x0 x1 y0 y1
  go_wp2_with fail
  have D8 := S7.non ((Chg.refl Non w7).drew)
  have x0 := D8.chg.cell hx0 hw
  have x1 := D8.chg.cell hx1 hw
  go_region_held (fun w' => w'.cell? ⟨w.heap.size, 0, none⟩ = some (.pointer none) ∧ w'.cell? ⟨w.heap.size, 1, none⟩ = some (.pointer (some ⟨g, 0, none⟩))) (first | exact ⟨y0, y1⟩ | exact ⟨x0, x1⟩ | assumption) (first | (go_at_call 41; go_loud (refine (word_r _ g F tb (o + 36) t (p ++ (.string z3.1 :: .int .i64 z4.1 :: .int .i64 z5.1 :: .int .i64 z6.1 :: bv (vH z6.2) ++ ([]))) (a6 :: a7 :: q) a5 (nH z6.2) (D8.here.eq (by simp)) (by rw [HO.out]; simp [bv_length, vH_length])).mono ?_; rintro e w8 h8; have y0 := h8.chg.cell x0 hw; have y1 := h8.chg.cell x1 hw; obtain ⟨rfl, T8⟩ := h8)) | fail)
  have S8 := D8.trans T8
  clear D8 T8 x0 x1 y0 y1
  go_wp2_with fail
  have D9 := S8.non ((Chg.refl Non w8).drew)
  have x0 := D9.chg.cell hx0 hw
  have x1 := D9.chg.cell hx1 hw
  go_region_held (fun w' => w'.cell? ⟨w.heap.size, 0, none⟩ = some (.pointer none) ∧ w'.cell? ⟨w.heap.size, 1, none⟩ = some (.pointer (some ⟨g, 0, none⟩))) (first | exact ⟨y0, y1⟩ | exact ⟨x0, x1⟩ | assumption) (first | (go_at_call 42; go_loud (refine (signature_r _ g F tb (o + 37) t (p ++ (.string z3.1 :: .int .i64 z4.1 :: .int .i64 z5.1 :: .int .i64 z6.1 :: bv (vH z6.2) ++ (.int .u64 (vW (nH z6.2) : Int) :: []))) (q) a6 a7 (nW (nH z6.2)) (D9.here.eq (by simp)) (by rw [HO.out]; simp [bv_length, vH_length])).mono ?_; rintro e w9 h9; have y0 := h9.chg.cell x0 hw; have y1 := h9.chg.cell x1 hw; obtain ⟨rfl, T9⟩ := h9)) | fail)
  have S9 := D9.trans T9
  clear D9 T9 x0 x1 y0 y1
  obtain rfl : r = some (_, (nW (nW (nW (nH z6.2))))) := HR.out.symm.trans (by simp only [dVote, k2, k3, k4, k5, k6, Option.bind_some, Option.map_some]; rfl)
  go_wp2
  go_end0
  refine ⟨rfl, (S0.trans S9).eq ?_⟩
  simp [Vt.cells]

end Go.Proofs.Ytinbjbfgfknpaaa

/- Package forms: words for lists. -/
namespace Go.Proofs.Ytinbjbfgfknpaaa
open Go.RowKit
set_option linter.unusedVariables false
set_option linter.unusedSimpArgs false
set_option maxRecDepth 20000

/-- The first k, one behind the other. -/
def jn (bs : Nat → List UInt8) : Nat → List UInt8
  | 0 => []
  | k + 1 => jn bs k ++ bs k
/-- All of the first k are right. -/
def allB (ok : Nat → Bool) : Nat → Bool
  | 0 => true
  | k + 1 => allB ok k && ok k
theorem allB_no {ok : Nat → Bool} {n k : Nat} (h : k < n) (hk : ok k = false) : allB ok n = false := by
  induction n with
  | zero => omega
  | succ n ih =>
    unfold allB
    by_cases e : k = n
    · subst e; rw [hk, Bool.and_false]
    · rw [ih (by omega), Bool.false_and]
theorem allB_yes {ok : Nat → Bool} {n k : Nat} (h : allB ok n = true) (hk : k < n) : ok k = true := by
  cases e : ok k with
  | true => rfl
  | false => rw [allB_no hk e] at h; cases h
theorem jn_len {bs : Nat → List UInt8} {ok : Nat → Bool} {m : Nat} (hb : ∀ i, ok i = true → (bs i).length ≤ m) : ∀ k, allB ok k = true → (jn bs k).length ≤ k * m
  | 0, _ => by simp [jn]
  | k + 1, h => by
    unfold allB at h
    rw [Bool.and_eq_true] at h
    have h1 := jn_len hb k h.1
    have h2 := hb k h.2
    unfold jn
    rw [List.length_append, Nat.succ_mul]
    omega
end Go.Proofs.Ytinbjbfgfknpaaa
