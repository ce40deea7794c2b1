/- Package forms: encoded[T]: the bytes of what was gone through, or the error. -/
import Derived.Test.YtjcfdclgddjaoaaChecked
import Derived.WalkKit
import Derived.WalkLawsBesides
import Derived.Lib.Hide
import Derived.Recover
import Derived.Test.YtjcfdclgddjaoaaFw
namespace Go.Proofs.Ytjcfdclgddjaoaa
open Go.RowKit
set_option linter.unusedVariables false
set_option linter.unusedSimpArgs false
set_option maxRecDepth 20000

theorem results_two {fn : Func} {p q : Tmp} {t u : TypeId} (h : fn.results = #[.cell p t, .cell q u]) (tmps : Array Value) (P : Program) (w : World) (a b : Addr) (x y : Value)
    (hp : tmps.getD p undef = .pointer (some a)) (hq : tmps.getD q undef = .pointer (some b)) (hx : (loadVar t a).run P w = .ok x w) (hy : (loadVar u b).run P w = .ok y w) : (results fn tmps).run P w = .ok (.tuple #[x, y]) w := by
  have hp' : tmps[p]?.getD undef = .pointer (some a) := by simpa using hp
  have hq' : tmps[q]?.getD undef = .pointer (some b) := by simpa using hq
  simp [results, h, hp', hq', asAddr, hx, hy]
theorem load_bytes {w : World} {a : Addr} {v : Value} (h : w.cell? a = some v) : (loadVar 33 a).run Try.prog w = .ok v w := by
  have hagg : (isAgg 33).run Try.prog w = .ok false w := by
    unfold isAgg
    rw [Sem.run_bind, run_underlying Try.underlying33 w]
    rfl
  simp [loadVar, Sem.run_bind, hagg, h]
theorem load_errno {w : World} {a : Addr} {v : Value} (h : w.cell? a = some v) : (loadVar 34 a).run Try.prog w = .ok v w := by
  have hagg : (isAgg 34).run Try.prog w = .ok false w := by
    unfold isAgg
    rw [Sem.run_bind, run_underlying Try.underlying34 w]
    rfl
  simp [loadVar, Sem.run_bind, hagg, h]

/-- What encoding leaves: new bytes, or the error. -/
def Enc (w : World) (ok : Bool) (bs : List UInt8) (e : Ending) (w' : World) : Prop :=
  Chg Non w w' ∧ match ok with
    | true => ∃ v, e = .returned (.tuple #[v, .int .i64 0]) ∧ Own 5 w' v bs ∧ ∀ k, vbl v k → w.heap.size ≤ k
    | false => e = .returned (.tuple #[.slice none 0 0, .int .i64 61])

/-- The two results and the writer. -/
def ew (w : World) : World := ((w.alloc (.cells #[.slice none 0 0] 33)).alloc (.cells #[.int .i64 0] 34)).alloc (.cells #[.slice none 0 0, .bool false] 172)
theorem ew_chg (w : World) : Chg Non w (ew w) := (((Chg.refl Non w).alloc _).alloc _).alloc _
theorem ew_b (w : World) : Hb (ew w) w.heap.size 33 #[.slice none 0 0] := ((Hb.new w _ _).alloc _).alloc _
theorem ew_e (w : World) : Hb (ew w) (w.heap.size + 1) 34 #[.int .i64 0] := by
  have h := (Hb.new (w.alloc (.cells #[.slice none 0 0] 33)) 34 #[.int .i64 0]).alloc (.cells #[.slice none 0 0, .bool false] 172)
  rwa [show (w.alloc (.cells #[.slice none 0 0] 33)).heap.size = w.heap.size + 1 by simp] at h
theorem ew_w (w : World) : Wri (ew w) (w.heap.size + 2) (.slice none 0 0) (some []) := by
  have h := wri_new ((w.alloc (.cells #[.slice none 0 0] 33)).alloc (.cells #[.int .i64 0] 34))
  rwa [show ((w.alloc (.cells #[.slice none 0 0] 33)).alloc (.cells #[.int .i64 0] 34)).heap.size = w.heap.size + 2 by simp] at h
theorem ew_nb {w : World} {k : Nat} (h : k < w.heap.size + 2) : ¬ Wft (w.heap.size + 2) (.slice none 0 0) k := by
  rintro (rfl | h2)
  · omega
  · cases h2


theorem catchEP_Packet (w : World) (p q : Nat) (x y : Value) (v : Value) (u : TypeId) (older : List PanicEntry) (hp : Hb w p 33 #[x]) (hq : Hb w q 34 #[y]) (hpq : q ≠ p) :
    CallsD Try.prog 75 #[.pointer (some ⟨p, 0, none⟩), .pointer (some ⟨q, 0, none⟩)] (.panicking ({ v := .iface u v, recovered := false } :: older)) w fun e u' w' =>
      e = .returned (.tuple #[]) ∧ u' = .panicking ({ v := .iface u v, recovered := true } :: older) ∧ w' = (w.setCell ⟨p, 0, none⟩ (.slice none 0 0)).setCell ⟨q, 0, none⟩ (.int .i64 61) := by
  have c0 : w.cell? ⟨p, 0, none⟩ = some x := hp.cell 0
  have c1 : w.cell? ⟨q, 0, none⟩ = some y := hq.cell 0
  have f0 : w.frozen? ⟨p, 0, none⟩ = false := hp.frozen 0
  have f1 : w.frozen? ⟨q, 0, none⟩ = false := hq.frozen 0
  refine callsD_of_wpS Try.func75 rfl fun c₀ cs hu => ?_
  apply wpS_seq
  apply wpS_region
  simp [wpOpsS, go_sem, recoverD, hu, Try.ntmps75, Exit.thenS]
  refine wpS_cond (t := true) (by simp [Act.eval, Array.replicate]) ?_
  simp only [if_true]
  refine wpS_of_wp ?_
  go_wp2
  exact ⟨rfl, _, rfl, .tuple #[], by simp [results, Try.results75], rfl, rfl, rfl⟩

theorem catchEI_Packet (w : World) (p q : Addr) : CallsD Try.prog 75 #[.pointer (some p), .pointer (some q)] .returning w fun e u' w' => e = .returned (.tuple #[]) ∧ u' = .returning ∧ w' = w := by
  refine callsD_of_wpS Try.func75 rfl fun c₀ cs hu => ?_
  apply wpS_seq
  apply wpS_region
  simp [wpOpsS, go_sem, recoverD, hu, Try.ntmps75, Exit.thenS]
  refine wpS_cond (t := false) (by simp [Act.eval, Array.replicate]) ?_
  simp only [Bool.false_eq_true, if_false]
  refine wpS_of_wp (wp_skip ?_)
  cases c₀
  simp_all [bodyPostS, results, Try.results75]

theorem encoded_Packet (w : World) (b : Addr) (ok : Bool) (bs : List UInt8) (hbs : ok = true → bs.length ≤ 1000000000)
    (H : ∀ (w1 : World) (g : Nat), Chg Non w w1 → w.heap.size ≤ g → Wri w1 g (.slice none 0 0) (some []) → Calls Try.prog 39 #[.agg #[.pointer (some ⟨g, 0, none⟩), .pointer none], .pointer (some b)] w1 (WO w1 g (.slice none 0 0) ok bs)) :
    Calls Try.prog 38 #[.pointer (some b), .func (.func 39) #[] #[]] w (Enc w ok bs) := by
  have hmf := mkf
  have hC0 := ew_chg w
  have hb0 := ew_b w
  have he0 := ew_e w
  have H1 := H (ew w) (w.heap.size + 2) hC0 (by omega) (ew_w w)
  have nb := ew_nb (w := w) (k := w.heap.size) (by omega)
  have ne := ew_nb (w := w) (k := w.heap.size + 1) (by omega)
  clear H
  have HH := Lib.hid H1
  clear H1
  go_enter_defers Try.func38, Try.ntmps38
  go_wp2_with (go_at_call 76; refine (newWriter_any _).mono ?_; rintro e w' ⟨rfl, rfl⟩)
  have hew : ew w = ((w.alloc (.cells #[.slice none 0 0] 33)).alloc (.cells #[.int .i64 0] 34)).alloc (.cells #[.slice none 0 0, .bool false] 172) := rfl
  rw [← hew]
  clear hew
  generalize ew w = w1 at *
  refine HH.out.mono ?_
  rintro e w2 h2
  rcases h2.cases with ⟨rfl, rfl, C⟩ | ⟨rfl, rfl, v2, T⟩
  · have hb2 := hb0.chg C nb
    have he2 := he0.chg C ne
    go_wp2
    refine leaves_cons (f := 75) (args := #[.pointer (some ⟨w.heap.size, 0, none⟩), .pointer (some ⟨w.heap.size + 1, 0, none⟩)]) (by simp) (by simp [go_sem]) ?_
    refine (catchEP_Packet w2 w.heap.size (w.heap.size + 1) _ _ _ _ _ hb2 he2 (by omega)).mono ?_
    rintro e u' w'' ⟨rfl, rfl, rfl⟩
    have hb3 := (hb2.set 0 (.slice none 0 0)).far (p := ⟨w.heap.size + 1, 0, none⟩) (by simp) (.int .i64 61)
    have he3 := (he2.far (p := ⟨w.heap.size, 0, none⟩) (by simp) (.slice none 0 0)).set 0 (.int .i64 61)
    refine ⟨_, results_two rfl _ _ _ ⟨w.heap.size, 0, none⟩ ⟨w.heap.size + 1, 0, none⟩ _ _ rfl rfl (load_bytes (hb3.cell 0)) (load_errno (he3.cell 0)), ?_, rfl⟩
    have C1 : Chg Non w w2 := (hC0.trans C (fun j hj => .inr (by rcases hj with rfl | hj; omega; cases hj)))
    exact (C1.setCell (p := ⟨w.heap.size, 0, none⟩) (.inr (Nat.le_refl _)) _).setCell (p := ⟨w.heap.size + 1, 0, none⟩) (.inr (by simp)) _
  · have hb2 := hb0.chg T.chg nb
    have he2 := he0.chg T.chg ne
    have C1 : Chg Non w w2 := (hC0.trans T.chg (fun j hj => .inr (by rcases hj with rfl | hj; omega; cases hj)))
    have hlen := hbs rfl
    clear hb0 he0
    go_wp2_with fail
    refine (bytes_some _ (w.heap.size + 2) v2 bs T.wri hlen).mono ?_
    rintro e w3 ⟨v3, rfl, ho3, hl3, hc3⟩
    have hb3 := hb2.chg hc3 (fun f => f)
    have he3 := he2.chg hc3 (fun f => f)
    have c0 : w3.cell? ⟨w.heap.size, 0, none⟩ = some (.slice none 0 0) := hb3.cell 0
    have c1 : w3.cell? ⟨w.heap.size + 1, 0, none⟩ = some (.int .i64 0) := he3.cell 0
    have f0 : w3.frozen? ⟨w.heap.size, 0, none⟩ = false := hb3.frozen 0
    have f1 : w3.frozen? ⟨w.heap.size + 1, 0, none⟩ = false := he3.frozen 0
    obtain ⟨A, c, rfl, _⟩ := ho3.slice
    go_wp2_with (go_at_call 78; refine (insist_yes _).mono ?_; rintro e w5 ⟨rfl, rfl⟩)
    refine leaves_cons (f := 75) (args := #[.pointer (some ⟨w.heap.size, 0, none⟩), .pointer (some ⟨w.heap.size + 1, 0, none⟩)]) (by simp) (by simp [go_sem]) ?_
    refine (catchEI_Packet _ ⟨w.heap.size, 0, none⟩ ⟨w.heap.size + 1, 0, none⟩).mono ?_
    rintro e u' w'' ⟨rfl, rfl, rfl⟩
    have hb4 := (((hb3.set 0 (.slice A bs.length c)).far (p := ⟨w.heap.size + 1, 0, none⟩) (by simp) (.int .i64 0)).set 0 (.slice A bs.length c)).far (p := ⟨w.heap.size + 1, 0, none⟩) (by simp) (.int .i64 0)
    have he4 := (((he3.far (p := ⟨w.heap.size, 0, none⟩) (by simp) (.slice A bs.length c)).set 0 (.int .i64 0)).far (p := ⟨w.heap.size, 0, none⟩) (by simp) (.slice A bs.length c)).set 0 (.int .i64 0)
    have K := ((((Chg.refl (fun k => k = w.heap.size ∨ k = w.heap.size + 1) w3).setCell (p := ⟨w.heap.size, 0, none⟩) (.inl (.inl rfl)) (.slice A bs.length c)).setCell (p := ⟨w.heap.size + 1, 0, none⟩) (.inl (.inr rfl)) (.int .i64 0)).setCell (p := ⟨w.heap.size, 0, none⟩) (.inl (.inl rfl)) (.slice A bs.length c)).setCell (p := ⟨w.heap.size + 1, 0, none⟩) (.inl (.inr rfl)) (.int .i64 0)
    have hlt := he2.lt
    refine ⟨_, results_two rfl _ _ _ ⟨w.heap.size, 0, none⟩ ⟨w.heap.size + 1, 0, none⟩ _ _ rfl rfl (load_bytes (hb4.cell 0)) (load_errno (he4.cell 0)), (C1.trans hc3 (fun _ f => f.elim)).trans K (fun j hj => .inr (by omega)), _, rfl, ho3.chg K (fun j hj => ?_), fun k hk => ?_⟩
    · have := hl3 j hj; omega
    · have := hl3 k hk; omega


theorem catchEP_Vote (w : World) (p q : Nat) (x y : Value) (v : Value) (u : TypeId) (older : List PanicEntry) (hp : Hb w p 33 #[x]) (hq : Hb w q 34 #[y]) (hpq : q ≠ p) :
    CallsD Try.prog 110 #[.pointer (some ⟨p, 0, none⟩), .pointer (some ⟨q, 0, none⟩)] (.panicking ({ v := .iface u v, recovered := false } :: older)) w fun e u' w' =>
      e = .returned (.tuple #[]) ∧ u' = .panicking ({ v := .iface u v, recovered := true } :: older) ∧ w' = (w.setCell ⟨p, 0, none⟩ (.slice none 0 0)).setCell ⟨q, 0, none⟩ (.int .i64 61) := by
  have c0 : w.cell? ⟨p, 0, none⟩ = some x := hp.cell 0
  have c1 : w.cell? ⟨q, 0, none⟩ = some y := hq.cell 0
  have f0 : w.frozen? ⟨p, 0, none⟩ = false := hp.frozen 0
  have f1 : w.frozen? ⟨q, 0, none⟩ = false := hq.frozen 0
  refine callsD_of_wpS Try.func110 rfl fun c₀ cs hu => ?_
  apply wpS_seq
  apply wpS_region
  simp [wpOpsS, go_sem, recoverD, hu, Try.ntmps110, Exit.thenS]
  refine wpS_cond (t := true) (by simp [Act.eval, Array.replicate]) ?_
  simp only [if_true]
  refine wpS_of_wp ?_
  go_wp2
  exact ⟨rfl, _, rfl, .tuple #[], by simp [results, Try.results110], rfl, rfl, rfl⟩

theorem catchEI_Vote (w : World) (p q : Addr) : CallsD Try.prog 110 #[.pointer (some p), .pointer (some q)] .returning w fun e u' w' => e = .returned (.tuple #[]) ∧ u' = .returning ∧ w' = w := by
  refine callsD_of_wpS Try.func110 rfl fun c₀ cs hu => ?_
  apply wpS_seq
  apply wpS_region
  simp [wpOpsS, go_sem, recoverD, hu, Try.ntmps110, Exit.thenS]
  refine wpS_cond (t := false) (by simp [Act.eval, Array.replicate]) ?_
  simp only [Bool.false_eq_true, if_false]
  refine wpS_of_wp (wp_skip ?_)
  cases c₀
  simp_all [bodyPostS, results, Try.results110]

theorem encoded_Vote (w : World) (b : Addr) (ok : Bool) (bs : List UInt8) (hbs : ok = true → bs.length ≤ 1000000000)
    (H : ∀ (w1 : World) (g : Nat), Chg Non w w1 → w.heap.size ≤ g → Wri w1 g (.slice none 0 0) (some []) → Calls Try.prog 48 #[.agg #[.pointer (some ⟨g, 0, none⟩), .pointer none], .pointer (some b)] w1 (WO w1 g (.slice none 0 0) ok bs)) :
    Calls Try.prog 72 #[.pointer (some b), .func (.func 48) #[] #[]] w (Enc w ok bs) := by
  have hmf := mkf
  have hC0 := ew_chg w
  have hb0 := ew_b w
  have he0 := ew_e w
  have H1 := H (ew w) (w.heap.size + 2) hC0 (by omega) (ew_w w)
  have nb := ew_nb (w := w) (k := w.heap.size) (by omega)
  have ne := ew_nb (w := w) (k := w.heap.size + 1) (by omega)
  clear H
  have HH := Lib.hid H1
  clear H1
  go_enter_defers Try.func72, Try.ntmps72
  go_wp2_with (go_at_call 76; refine (newWriter_any _).mono ?_; rintro e w' ⟨rfl, rfl⟩)
  have hew : ew w = ((w.alloc (.cells #[.slice none 0 0] 33)).alloc (.cells #[.int .i64 0] 34)).alloc (.cells #[.slice none 0 0, .bool false] 172) := rfl
  rw [← hew]
  clear hew
  generalize ew w = w1 at *
  refine HH.out.mono ?_
  rintro e w2 h2
  rcases h2.cases with ⟨rfl, rfl, C⟩ | ⟨rfl, rfl, v2, T⟩
  · have hb2 := hb0.chg C nb
    have he2 := he0.chg C ne
    go_wp2
    refine leaves_cons (f := 110) (args := #[.pointer (some ⟨w.heap.size, 0, none⟩), .pointer (some ⟨w.heap.size + 1, 0, none⟩)]) (by simp) (by simp [go_sem]) ?_
    refine (catchEP_Vote w2 w.heap.size (w.heap.size + 1) _ _ _ _ _ hb2 he2 (by omega)).mono ?_
    rintro e u' w'' ⟨rfl, rfl, rfl⟩
    have hb3 := (hb2.set 0 (.slice none 0 0)).far (p := ⟨w.heap.size + 1, 0, none⟩) (by simp) (.int .i64 61)
    have he3 := (he2.far (p := ⟨w.heap.size, 0, none⟩) (by simp) (.slice none 0 0)).set 0 (.int .i64 61)
    refine ⟨_, results_two rfl _ _ _ ⟨w.heap.size, 0, none⟩ ⟨w.heap.size + 1, 0, none⟩ _ _ rfl rfl (load_bytes (hb3.cell 0)) (load_errno (he3.cell 0)), ?_, rfl⟩
    have C1 : Chg Non w w2 := (hC0.trans C (fun j hj => .inr (by rcases hj with rfl | hj; omega; cases hj)))
    exact (C1.setCell (p := ⟨w.heap.size, 0, none⟩) (.inr (Nat.le_refl _)) _).setCell (p := ⟨w.heap.size + 1, 0, none⟩) (.inr (by simp)) _
  · have hb2 := hb0.chg T.chg nb
    have he2 := he0.chg T.chg ne
    have C1 : Chg Non w w2 := (hC0.trans T.chg (fun j hj => .inr (by rcases hj with rfl | hj; omega; cases hj)))
    have hlen := hbs rfl
    clear hb0 he0
    go_wp2_with fail
    refine (bytes_some _ (w.heap.size + 2) v2 bs T.wri hlen).mono ?_
    rintro e w3 ⟨v3, rfl, ho3, hl3, hc3⟩
    have hb3 := hb2.chg hc3 (fun f => f)
    have he3 := he2.chg hc3 (fun f => f)
    have c0 : w3.cell? ⟨w.heap.size, 0, none⟩ = some (.slice none 0 0) := hb3.cell 0
    have c1 : w3.cell? ⟨w.heap.size + 1, 0, none⟩ = some (.int .i64 0) := he3.cell 0
    have f0 : w3.frozen? ⟨w.heap.size, 0, none⟩ = false := hb3.frozen 0
    have f1 : w3.frozen? ⟨w.heap.size + 1, 0, none⟩ = false := he3.frozen 0
    obtain ⟨A, c, rfl, _⟩ := ho3.slice
    go_wp2_with (go_at_call 78; refine (insist_yes _).mono ?_; rintro e w5 ⟨rfl, rfl⟩)
    refine leaves_cons (f := 110) (args := #[.pointer (some ⟨w.heap.size, 0, none⟩), .pointer (some ⟨w.heap.size + 1, 0, none⟩)]) (by simp) (by simp [go_sem]) ?_
    refine (catchEI_Vote _ ⟨w.heap.size, 0, none⟩ ⟨w.heap.size + 1, 0, none⟩).mono ?_
    rintro e u' w'' ⟨rfl, rfl, rfl⟩
    have hb4 := (((hb3.set 0 (.slice A bs.length c)).far (p := ⟨w.heap.size + 1, 0, none⟩) (by simp) (.int .i64 0)).set 0 (.slice A bs.length c)).far (p := ⟨w.heap.size + 1, 0, none⟩) (by simp) (.int .i64 0)
    have he4 := (((he3.far (p := ⟨w.heap.size, 0, none⟩) (by simp) (.slice A bs.length c)).set 0 (.int .i64 0)).far (p := ⟨w.heap.size, 0, none⟩) (by simp) (.slice A bs.length c)).set 0 (.int .i64 0)
    have K := ((((Chg.refl (fun k => k = w.heap.size ∨ k = w.heap.size + 1) w3).setCell (p := ⟨w.heap.size, 0, none⟩) (.inl (.inl rfl)) (.slice A bs.length c)).setCell (p := ⟨w.heap.size + 1, 0, none⟩) (.inl (.inr rfl)) (.int .i64 0)).setCell (p := ⟨w.heap.size, 0, none⟩) (.inl (.inl rfl)) (.slice A bs.length c)).setCell (p := ⟨w.heap.size + 1, 0, none⟩) (.inl (.inr rfl)) (.int .i64 0)
    have hlt := he2.lt
    refine ⟨_, results_two rfl _ _ _ ⟨w.heap.size, 0, none⟩ ⟨w.heap.size + 1, 0, none⟩ _ _ rfl rfl (load_bytes (hb4.cell 0)) (load_errno (he4.cell 0)), (C1.trans hc3 (fun _ f => f.elim)).trans K (fun j hj => .inr (by omega)), _, rfl, ho3.chg K (fun j hj => ?_), fun k hk => ?_⟩
    · have := hl3 j hj; omega
    · have := hl3 k hk; omega


theorem catchEP_Header (w : World) (p q : Nat) (x y : Value) (v : Value) (u : TypeId) (older : List PanicEntry) (hp : Hb w p 33 #[x]) (hq : Hb w q 34 #[y]) (hpq : q ≠ p) :
    CallsD Try.prog 112 #[.pointer (some ⟨p, 0, none⟩), .pointer (some ⟨q, 0, none⟩)] (.panicking ({ v := .iface u v, recovered := false } :: older)) w fun e u' w' =>
      e = .returned (.tuple #[]) ∧ u' = .panicking ({ v := .iface u v, recovered := true } :: older) ∧ w' = (w.setCell ⟨p, 0, none⟩ (.slice none 0 0)).setCell ⟨q, 0, none⟩ (.int .i64 61) := by
  have c0 : w.cell? ⟨p, 0, none⟩ = some x := hp.cell 0
  have c1 : w.cell? ⟨q, 0, none⟩ = some y := hq.cell 0
  have f0 : w.frozen? ⟨p, 0, none⟩ = false := hp.frozen 0
  have f1 : w.frozen? ⟨q, 0, none⟩ = false := hq.frozen 0
  refine callsD_of_wpS Try.func112 rfl fun c₀ cs hu => ?_
  apply wpS_seq
  apply wpS_region
  simp [wpOpsS, go_sem, recoverD, hu, Try.ntmps112, Exit.thenS]
  refine wpS_cond (t := true) (by simp [Act.eval, Array.replicate]) ?_
  simp only [if_true]
  refine wpS_of_wp ?_
  go_wp2
  exact ⟨rfl, _, rfl, .tuple #[], by simp [results, Try.results112], rfl, rfl, rfl⟩

theorem catchEI_Header (w : World) (p q : Addr) : CallsD Try.prog 112 #[.pointer (some p), .pointer (some q)] .returning w fun e u' w' => e = .returned (.tuple #[]) ∧ u' = .returning ∧ w' = w := by
  refine callsD_of_wpS Try.func112 rfl fun c₀ cs hu => ?_
  apply wpS_seq
  apply wpS_region
  simp [wpOpsS, go_sem, recoverD, hu, Try.ntmps112, Exit.thenS]
  refine wpS_cond (t := false) (by simp [Act.eval, Array.replicate]) ?_
  simp only [Bool.false_eq_true, if_false]
  refine wpS_of_wp (wp_skip ?_)
  cases c₀
  simp_all [bodyPostS, results, Try.results112]

theorem encoded_Header (w : World) (b : Addr) (ok : Bool) (bs : List UInt8) (hbs : ok = true → bs.length ≤ 1000000000)
    (H : ∀ (w1 : World) (g : Nat), Chg Non w w1 → w.heap.size ≤ g → Wri w1 g (.slice none 0 0) (some []) → Calls Try.prog 53 #[.agg #[.pointer (some ⟨g, 0, none⟩), .pointer none], .pointer (some b)] w1 (WO w1 g (.slice none 0 0) ok bs)) :
    Calls Try.prog 74 #[.pointer (some b), .func (.func 53) #[] #[]] w (Enc w ok bs) := by
  have hmf := mkf
  have hC0 := ew_chg w
  have hb0 := ew_b w
  have he0 := ew_e w
  have H1 := H (ew w) (w.heap.size + 2) hC0 (by omega) (ew_w w)
  have nb := ew_nb (w := w) (k := w.heap.size) (by omega)
  have ne := ew_nb (w := w) (k := w.heap.size + 1) (by omega)
  clear H
  have HH := Lib.hid H1
  clear H1
  go_enter_defers Try.func74, Try.ntmps74
  go_wp2_with (go_at_call 76; refine (newWriter_any _).mono ?_; rintro e w' ⟨rfl, rfl⟩)
  have hew : ew w = ((w.alloc (.cells #[.slice none 0 0] 33)).alloc (.cells #[.int .i64 0] 34)).alloc (.cells #[.slice none 0 0, .bool false] 172) := rfl
  rw [← hew]
  clear hew
  generalize ew w = w1 at *
  refine HH.out.mono ?_
  rintro e w2 h2
  rcases h2.cases with ⟨rfl, rfl, C⟩ | ⟨rfl, rfl, v2, T⟩
  · have hb2 := hb0.chg C nb
    have he2 := he0.chg C ne
    go_wp2
    refine leaves_cons (f := 112) (args := #[.pointer (some ⟨w.heap.size, 0, none⟩), .pointer (some ⟨w.heap.size + 1, 0, none⟩)]) (by simp) (by simp [go_sem]) ?_
    refine (catchEP_Header w2 w.heap.size (w.heap.size + 1) _ _ _ _ _ hb2 he2 (by omega)).mono ?_
    rintro e u' w'' ⟨rfl, rfl, rfl⟩
    have hb3 := (hb2.set 0 (.slice none 0 0)).far (p := ⟨w.heap.size + 1, 0, none⟩) (by simp) (.int .i64 61)
    have he3 := (he2.far (p := ⟨w.heap.size, 0, none⟩) (by simp) (.slice none 0 0)).set 0 (.int .i64 61)
    refine ⟨_, results_two rfl _ _ _ ⟨w.heap.size, 0, none⟩ ⟨w.heap.size + 1, 0, none⟩ _ _ rfl rfl (load_bytes (hb3.cell 0)) (load_errno (he3.cell 0)), ?_, rfl⟩
    have C1 : Chg Non w w2 := (hC0.trans C (fun j hj => .inr (by rcases hj with rfl | hj; omega; cases hj)))
    exact (C1.setCell (p := ⟨w.heap.size, 0, none⟩) (.inr (Nat.le_refl _)) _).setCell (p := ⟨w.heap.size + 1, 0, none⟩) (.inr (by simp)) _
  · have hb2 := hb0.chg T.chg nb
    have he2 := he0.chg T.chg ne
    have C1 : Chg Non w w2 := (hC0.trans T.chg (fun j hj => .inr (by rcases hj with rfl | hj; omega; cases hj)))
    have hlen := hbs rfl
    clear hb0 he0
    go_wp2_with fail
    refine (bytes_some _ (w.heap.size + 2) v2 bs T.wri hlen).mono ?_
    rintro e w3 ⟨v3, rfl, ho3, hl3, hc3⟩
    have hb3 := hb2.chg hc3 (fun f => f)
    have he3 := he2.chg hc3 (fun f => f)
    have c0 : w3.cell? ⟨w.heap.size, 0, none⟩ = some (.slice none 0 0) := hb3.cell 0
    have c1 : w3.cell? ⟨w.heap.size + 1, 0, none⟩ = some (.int .i64 0) := he3.cell 0
    have f0 : w3.frozen? ⟨w.heap.size, 0, none⟩ = false := hb3.frozen 0
    have f1 : w3.frozen? ⟨w.heap.size + 1, 0, none⟩ = false := he3.frozen 0
    obtain ⟨A, c, rfl, _⟩ := ho3.slice
    go_wp2_with (go_at_call 78; refine (insist_yes _).mono ?_; rintro e w5 ⟨rfl, rfl⟩)
    refine leaves_cons (f := 112) (args := #[.pointer (some ⟨w.heap.size, 0, none⟩), .pointer (some ⟨w.heap.size + 1, 0, none⟩)]) (by simp) (by simp [go_sem]) ?_
    refine (catchEI_Header _ ⟨w.heap.size, 0, none⟩ ⟨w.heap.size + 1, 0, none⟩).mono ?_
    rintro e u' w'' ⟨rfl, rfl, rfl⟩
    have hb4 := (((hb3.set 0 (.slice A bs.length c)).far (p := ⟨w.heap.size + 1, 0, none⟩) (by simp) (.int .i64 0)).set 0 (.slice A bs.length c)).far (p := ⟨w.heap.size + 1, 0, none⟩) (by simp) (.int .i64 0)
    have he4 := (((he3.far (p := ⟨w.heap.size, 0, none⟩) (by simp) (.slice A bs.length c)).set 0 (.int .i64 0)).far (p := ⟨w.heap.size, 0, none⟩) (by simp) (.slice A bs.length c)).set 0 (.int .i64 0)
    have K := ((((Chg.refl (fun k => k = w.heap.size ∨ k = w.heap.size + 1) w3).setCell (p := ⟨w.heap.size, 0, none⟩) (.inl (.inl rfl)) (.slice A bs.length c)).setCell (p := ⟨w.heap.size + 1, 0, none⟩) (.inl (.inr rfl)) (.int .i64 0)).setCell (p := ⟨w.heap.size, 0, none⟩) (.inl (.inl rfl)) (.slice A bs.length c)).setCell (p := ⟨w.heap.size + 1, 0, none⟩) (.inl (.inr rfl)) (.int .i64 0)
    have hlt := he2.lt
    refine ⟨_, results_two rfl _ _ _ ⟨w.heap.size, 0, none⟩ ⟨w.heap.size + 1, 0, none⟩ _ _ rfl rfl (load_bytes (hb4.cell 0)) (load_errno (he4.cell 0)), (C1.trans hc3 (fun _ f => f.elim)).trans K (fun j hj => .inr (by omega)), _, rfl, ho3.chg K (fun j hj => ?_), fun k hk => ?_⟩
    · have := hl3 j hj; omega
    · have := hl3 k hk; omega


theorem catchEP_Light (w : World) (p q : Nat) (x y : Value) (v : Value) (u : TypeId) (older : List PanicEntry) (hp : Hb w p 33 #[x]) (hq : Hb w q 34 #[y]) (hpq : q ≠ p) :
    CallsD Try.prog 111 #[.pointer (some ⟨p, 0, none⟩), .pointer (some ⟨q, 0, none⟩)] (.panicking ({ v := .iface u v, recovered := false } :: older)) w fun e u' w' =>
      e = .returned (.tuple #[]) ∧ u' = .panicking ({ v := .iface u v, recovered := true } :: older) ∧ w' = (w.setCell ⟨p, 0, none⟩ (.slice none 0 0)).setCell ⟨q, 0, none⟩ (.int .i64 61) := by
  have c0 : w.cell? ⟨p, 0, none⟩ = some x := hp.cell 0
  have c1 : w.cell? ⟨q, 0, none⟩ = some y := hq.cell 0
  have f0 : w.frozen? ⟨p, 0, none⟩ = false := hp.frozen 0
  have f1 : w.frozen? ⟨q, 0, none⟩ = false := hq.frozen 0
  refine callsD_of_wpS Try.func111 rfl fun c₀ cs hu => ?_
  apply wpS_seq
  apply wpS_region
  simp [wpOpsS, go_sem, recoverD, hu, Try.ntmps111, Exit.thenS]
  refine wpS_cond (t := true) (by simp [Act.eval, Array.replicate]) ?_
  simp only [if_true]
  refine wpS_of_wp ?_
  go_wp2
  exact ⟨rfl, _, rfl, .tuple #[], by simp [results, Try.results111], rfl, rfl, rfl⟩

theorem catchEI_Light (w : World) (p q : Addr) : CallsD Try.prog 111 #[.pointer (some p), .pointer (some q)] .returning w fun e u' w' => e = .returned (.tuple #[]) ∧ u' = .returning ∧ w' = w := by
  refine callsD_of_wpS Try.func111 rfl fun c₀ cs hu => ?_
  apply wpS_seq
  apply wpS_region
  simp [wpOpsS, go_sem, recoverD, hu, Try.ntmps111, Exit.thenS]
  refine wpS_cond (t := false) (by simp [Act.eval, Array.replicate]) ?_
  simp only [Bool.false_eq_true, if_false]
  refine wpS_of_wp (wp_skip ?_)
  cases c₀
  simp_all [bodyPostS, results, Try.results111]

theorem encoded_Light (w : World) (b : Addr) (ok : Bool) (bs : List UInt8) (hbs : ok = true → bs.length ≤ 1000000000)
    (H : ∀ (w1 : World) (g : Nat), Chg Non w w1 → w.heap.size ≤ g → Wri w1 g (.slice none 0 0) (some []) → Calls Try.prog 70 #[.agg #[.pointer (some ⟨g, 0, none⟩), .pointer none], .pointer (some b)] w1 (WO w1 g (.slice none 0 0) ok bs)) :
    Calls Try.prog 73 #[.pointer (some b), .func (.func 70) #[] #[]] w (Enc w ok bs) := by
  have hmf := mkf
  have hC0 := ew_chg w
  have hb0 := ew_b w
  have he0 := ew_e w
  have H1 := H (ew w) (w.heap.size + 2) hC0 (by omega) (ew_w w)
  have nb := ew_nb (w := w) (k := w.heap.size) (by omega)
  have ne := ew_nb (w := w) (k := w.heap.size + 1) (by omega)
  clear H
  have HH := Lib.hid H1
  clear H1
  go_enter_defers Try.func73, Try.ntmps73
  go_wp2_with (go_at_call 76; refine (newWriter_any _).mono ?_; rintro e w' ⟨rfl, rfl⟩)
  have hew : ew w = ((w.alloc (.cells #[.slice none 0 0] 33)).alloc (.cells #[.int .i64 0] 34)).alloc (.cells #[.slice none 0 0, .bool false] 172) := rfl
  rw [← hew]
  clear hew
  generalize ew w = w1 at *
  refine HH.out.mono ?_
  rintro e w2 h2
  rcases h2.cases with ⟨rfl, rfl, C⟩ | ⟨rfl, rfl, v2, T⟩
  · have hb2 := hb0.chg C nb
    have he2 := he0.chg C ne
    go_wp2
    refine leaves_cons (f := 111) (args := #[.pointer (some ⟨w.heap.size, 0, none⟩), .pointer (some ⟨w.heap.size + 1, 0, none⟩)]) (by simp) (by simp [go_sem]) ?_
    refine (catchEP_Light w2 w.heap.size (w.heap.size + 1) _ _ _ _ _ hb2 he2 (by omega)).mono ?_
    rintro e u' w'' ⟨rfl, rfl, rfl⟩
    have hb3 := (hb2.set 0 (.slice none 0 0)).far (p := ⟨w.heap.size + 1, 0, none⟩) (by simp) (.int .i64 61)
    have he3 := (he2.far (p := ⟨w.heap.size, 0, none⟩) (by simp) (.slice none 0 0)).set 0 (.int .i64 61)
    refine ⟨_, results_two rfl _ _ _ ⟨w.heap.size, 0, none⟩ ⟨w.heap.size + 1, 0, none⟩ _ _ rfl rfl (load_bytes (hb3.cell 0)) (load_errno (he3.cell 0)), ?_, rfl⟩
    have C1 : Chg Non w w2 := (hC0.trans C (fun j hj => .inr (by rcases hj with rfl | hj; omega; cases hj)))
    exact (C1.setCell (p := ⟨w.heap.size, 0, none⟩) (.inr (Nat.le_refl _)) _).setCell (p := ⟨w.heap.size + 1, 0, none⟩) (.inr (by simp)) _
  · have hb2 := hb0.chg T.chg nb
    have he2 := he0.chg T.chg ne
    have C1 : Chg Non w w2 := (hC0.trans T.chg (fun j hj => .inr (by rcases hj with rfl | hj; omega; cases hj)))
    have hlen := hbs rfl
    clear hb0 he0
    go_wp2_with fail
    refine (bytes_some _ (w.heap.size + 2) v2 bs T.wri hlen).mono ?_
    rintro e w3 ⟨v3, rfl, ho3, hl3, hc3⟩
    have hb3 := hb2.chg hc3 (fun f => f)
    have he3 := he2.chg hc3 (fun f => f)
    have c0 : w3.cell? ⟨w.heap.size, 0, none⟩ = some (.slice none 0 0) := hb3.cell 0
    have c1 : w3.cell? ⟨w.heap.size + 1, 0, none⟩ = some (.int .i64 0) := he3.cell 0
    have f0 : w3.frozen? ⟨w.heap.size, 0, none⟩ = false := hb3.frozen 0
    have f1 : w3.frozen? ⟨w.heap.size + 1, 0, none⟩ = false := he3.frozen 0
    obtain ⟨A, c, rfl, _⟩ := ho3.slice
    go_wp2_with (go_at_call 78; refine (insist_yes _).mono ?_; rintro e w5 ⟨rfl, rfl⟩)
    refine leaves_cons (f := 111) (args := #[.pointer (some ⟨w.heap.size, 0, none⟩), .pointer (some ⟨w.heap.size + 1, 0, none⟩)]) (by simp) (by simp [go_sem]) ?_
    refine (catchEI_Light _ ⟨w.heap.size, 0, none⟩ ⟨w.heap.size + 1, 0, none⟩).mono ?_
    rintro e u' w'' ⟨rfl, rfl, rfl⟩
    have hb4 := (((hb3.set 0 (.slice A bs.length c)).far (p := ⟨w.heap.size + 1, 0, none⟩) (by simp) (.int .i64 0)).set 0 (.slice A bs.length c)).far (p := ⟨w.heap.size + 1, 0, none⟩) (by simp) (.int .i64 0)
    have he4 := (((he3.far (p := ⟨w.heap.size, 0, none⟩) (by simp) (.slice A bs.length c)).set 0 (.int .i64 0)).far (p := ⟨w.heap.size, 0, none⟩) (by simp) (.slice A bs.length c)).set 0 (.int .i64 0)
    have K := ((((Chg.refl (fun k => k = w.heap.size ∨ k = w.heap.size + 1) w3).setCell (p := ⟨w.heap.size, 0, none⟩) (.inl (.inl rfl)) (.slice A bs.length c)).setCell (p := ⟨w.heap.size + 1, 0, none⟩) (.inl (.inr rfl)) (.int .i64 0)).setCell (p := ⟨w.heap.size, 0, none⟩) (.inl (.inl rfl)) (.slice A bs.length c)).setCell (p := ⟨w.heap.size + 1, 0, none⟩) (.inl (.inr rfl)) (.int .i64 0)
    have hlt := he2.lt
    refine ⟨_, results_two rfl _ _ _ ⟨w.heap.size, 0, none⟩ ⟨w.heap.size + 1, 0, none⟩ _ _ rfl rfl (load_bytes (hb4.cell 0)) (load_errno (he4.cell 0)), (C1.trans hc3 (fun _ f => f.elim)).trans K (fun j hj => .inr (by omega)), _, rfl, ho3.chg K (fun j hj => ?_), fun k hk => ?_⟩
    · have := hl3 j hj; omega
    · have := hl3 k hk; omega


theorem catchEP_Proof (w : World) (p q : Nat) (x y : Value) (v : Value) (u : TypeId) (older : List PanicEntry) (hp : Hb w p 33 #[x]) (hq : Hb w q 34 #[y]) (hpq : q ≠ p) :
    CallsD Try.prog 85 #[.pointer (some ⟨p, 0, none⟩), .pointer (some ⟨q, 0, none⟩)] (.panicking ({ v := .iface u v, recovered := false } :: older)) w fun e u' w' =>
      e = .returned (.tuple #[]) ∧ u' = .panicking ({ v := .iface u v, recovered := true } :: older) ∧ w' = (w.setCell ⟨p, 0, none⟩ (.slice none 0 0)).setCell ⟨q, 0, none⟩ (.int .i64 61) := by
  have c0 : w.cell? ⟨p, 0, none⟩ = some x := hp.cell 0
  have c1 : w.cell? ⟨q, 0, none⟩ = some y := hq.cell 0
  have f0 : w.frozen? ⟨p, 0, none⟩ = false := hp.frozen 0
  have f1 : w.frozen? ⟨q, 0, none⟩ = false := hq.frozen 0
  refine callsD_of_wpS Try.func85 rfl fun c₀ cs hu => ?_
  apply wpS_seq
  apply wpS_region
  simp [wpOpsS, go_sem, recoverD, hu, Try.ntmps85, Exit.thenS]
  refine wpS_cond (t := true) (by simp [Act.eval, Array.replicate]) ?_
  simp only [if_true]
  refine wpS_of_wp ?_
  go_wp2
  exact ⟨rfl, _, rfl, .tuple #[], by simp [results, Try.results85], rfl, rfl, rfl⟩

theorem catchEI_Proof (w : World) (p q : Addr) : CallsD Try.prog 85 #[.pointer (some p), .pointer (some q)] .returning w fun e u' w' => e = .returned (.tuple #[]) ∧ u' = .returning ∧ w' = w := by
  refine callsD_of_wpS Try.func85 rfl fun c₀ cs hu => ?_
  apply wpS_seq
  apply wpS_region
  simp [wpOpsS, go_sem, recoverD, hu, Try.ntmps85, Exit.thenS]
  refine wpS_cond (t := false) (by simp [Act.eval, Array.replicate]) ?_
  simp only [Bool.false_eq_true, if_false]
  refine wpS_of_wp (wp_skip ?_)
  cases c₀
  simp_all [bodyPostS, results, Try.results85]

theorem encoded_Proof (w : World) (b : Addr) (ok : Bool) (bs : List UInt8) (hbs : ok = true → bs.length ≤ 1000000000)
    (H : ∀ (w1 : World) (g : Nat), Chg Non w w1 → w.heap.size ≤ g → Wri w1 g (.slice none 0 0) (some []) → Calls Try.prog 45 #[.agg #[.pointer (some ⟨g, 0, none⟩), .pointer none], .pointer (some b)] w1 (WO w1 g (.slice none 0 0) ok bs)) :
    Calls Try.prog 44 #[.pointer (some b), .func (.func 45) #[] #[]] w (Enc w ok bs) := by
  have hmf := mkf
  have hC0 := ew_chg w
  have hb0 := ew_b w
  have he0 := ew_e w
  have H1 := H (ew w) (w.heap.size + 2) hC0 (by omega) (ew_w w)
  have nb := ew_nb (w := w) (k := w.heap.size) (by omega)
  have ne := ew_nb (w := w) (k := w.heap.size + 1) (by omega)
  clear H
  have HH := Lib.hid H1
  clear H1
  go_enter_defers Try.func44, Try.ntmps44
  go_wp2_with (go_at_call 76; refine (newWriter_any _).mono ?_; rintro e w' ⟨rfl, rfl⟩)
  have hew : ew w = ((w.alloc (.cells #[.slice none 0 0] 33)).alloc (.cells #[.int .i64 0] 34)).alloc (.cells #[.slice none 0 0, .bool false] 172) := rfl
  rw [← hew]
  clear hew
  generalize ew w = w1 at *
  refine HH.out.mono ?_
  rintro e w2 h2
  rcases h2.cases with ⟨rfl, rfl, C⟩ | ⟨rfl, rfl, v2, T⟩
  · have hb2 := hb0.chg C nb
    have he2 := he0.chg C ne
    go_wp2
    refine leaves_cons (f := 85) (args := #[.pointer (some ⟨w.heap.size, 0, none⟩), .pointer (some ⟨w.heap.size + 1, 0, none⟩)]) (by simp) (by simp [go_sem]) ?_
    refine (catchEP_Proof w2 w.heap.size (w.heap.size + 1) _ _ _ _ _ hb2 he2 (by omega)).mono ?_
    rintro e u' w'' ⟨rfl, rfl, rfl⟩
    have hb3 := (hb2.set 0 (.slice none 0 0)).far (p := ⟨w.heap.size + 1, 0, none⟩) (by simp) (.int .i64 61)
    have he3 := (he2.far (p := ⟨w.heap.size, 0, none⟩) (by simp) (.slice none 0 0)).set 0 (.int .i64 61)
    refine ⟨_, results_two rfl _ _ _ ⟨w.heap.size, 0, none⟩ ⟨w.heap.size + 1, 0, none⟩ _ _ rfl rfl (load_bytes (hb3.cell 0)) (load_errno (he3.cell 0)), ?_, rfl⟩
    have C1 : Chg Non w w2 := (hC0.trans C (fun j hj => .inr (by rcases hj with rfl | hj; omega; cases hj)))
    exact (C1.setCell (p := ⟨w.heap.size, 0, none⟩) (.inr (Nat.le_refl _)) _).setCell (p := ⟨w.heap.size + 1, 0, none⟩) (.inr (by simp)) _
  · have hb2 := hb0.chg T.chg nb
    have he2 := he0.chg T.chg ne
    have C1 : Chg Non w w2 := (hC0.trans T.chg (fun j hj => .inr (by rcases hj with rfl | hj; omega; cases hj)))
    have hlen := hbs rfl
    clear hb0 he0
    go_wp2_with fail
    refine (bytes_some _ (w.heap.size + 2) v2 bs T.wri hlen).mono ?_
    rintro e w3 ⟨v3, rfl, ho3, hl3, hc3⟩
    have hb3 := hb2.chg hc3 (fun f => f)
    have he3 := he2.chg hc3 (fun f => f)
    have c0 : w3.cell? ⟨w.heap.size, 0, none⟩ = some (.slice none 0 0) := hb3.cell 0
    have c1 : w3.cell? ⟨w.heap.size + 1, 0, none⟩ = some (.int .i64 0) := he3.cell 0
    have f0 : w3.frozen? ⟨w.heap.size, 0, none⟩ = false := hb3.frozen 0
    have f1 : w3.frozen? ⟨w.heap.size + 1, 0, none⟩ = false := he3.frozen 0
    obtain ⟨A, c, rfl, _⟩ := ho3.slice
    go_wp2_with (go_at_call 78; refine (insist_yes _).mono ?_; rintro e w5 ⟨rfl, rfl⟩)
    refine leaves_cons (f := 85) (args := #[.pointer (some ⟨w.heap.size, 0, none⟩), .pointer (some ⟨w.heap.size + 1, 0, none⟩)]) (by simp) (by simp [go_sem]) ?_
    refine (catchEI_Proof _ ⟨w.heap.size, 0, none⟩ ⟨w.heap.size + 1, 0, none⟩).mono ?_
    rintro e u' w'' ⟨rfl, rfl, rfl⟩
    have hb4 := (((hb3.set 0 (.slice A bs.length c)).far (p := ⟨w.heap.size + 1, 0, none⟩) (by simp) (.int .i64 0)).set 0 (.slice A bs.length c)).far (p := ⟨w.heap.size + 1, 0, none⟩) (by simp) (.int .i64 0)
    have he4 := (((he3.far (p := ⟨w.heap.size, 0, none⟩) (by simp) (.slice A bs.length c)).set 0 (.int .i64 0)).far (p := ⟨w.heap.size, 0, none⟩) (by simp) (.slice A bs.length c)).set 0 (.int .i64 0)
    have K := ((((Chg.refl (fun k => k = w.heap.size ∨ k = w.heap.size + 1) w3).setCell (p := ⟨w.heap.size, 0, none⟩) (.inl (.inl rfl)) (.slice A bs.length c)).setCell (p := ⟨w.heap.size + 1, 0, none⟩) (.inl (.inr rfl)) (.int .i64 0)).setCell (p := ⟨w.heap.size, 0, none⟩) (.inl (.inl rfl)) (.slice A bs.length c)).setCell (p := ⟨w.heap.size + 1, 0, none⟩) (.inl (.inr rfl)) (.int .i64 0)
    have hlt := he2.lt
    refine ⟨_, results_two rfl _ _ _ ⟨w.heap.size, 0, none⟩ ⟨w.heap.size + 1, 0, none⟩ _ _ rfl rfl (load_bytes (hb4.cell 0)) (load_errno (he4.cell 0)), (C1.trans hc3 (fun _ f => f.elim)).trans K (fun j hj => .inr (by omega)), _, rfl, ho3.chg K (fun j hj => ?_), fun k hk => ?_⟩
    · have := hl3 j hj; omega
    · have := hl3 k hk; omega

end Go.Proofs.Ytjcfdclgddjaoaa
