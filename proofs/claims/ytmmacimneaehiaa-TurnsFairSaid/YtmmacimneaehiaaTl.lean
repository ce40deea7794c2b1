/- A loop over an iterator that keeps rows of numbers of its own, where the loop's body writes other things alone. It knows no program. -/
import Derived.RangeFuncNested
import Derived.RangeFuncBound
import Derived.RangeFuncCalls
import Derived.RangeFuncLeaves
import Derived.WalkKit
import Derived.Test.YtmmacimneaehiaaWd
namespace Go.Proofs.Ytmmacimneaehiaa
open Go.RowKit
set_option linter.unusedVariables false
set_option linter.unusedSimpArgs false

/-- Block k is a row of cells of type T. -/
def Ints (T : TypeId) (w : World) (k : Nat) : Prop := ∃ cs fr, w.heap[k]? = some (.cells cs T fr)
/-- Block k is a row of cells of another type. -/
def Mine (T : TypeId) (w : World) (k : Nat) : Prop := ∃ cs t fr, w.heap[k]? = some (.cells cs t fr) ∧ t ≠ T
theorem mine_not {T : TypeId} {w : World} {k : Nat} (h : Mine T w k) : ¬ Ints T w k := by
  rintro ⟨cs, fr, e⟩
  obtain ⟨cs', t, fr', e', ht⟩ := h
  rw [e] at e'
  cases e'
  exact ht rfl
theorem ints_not {T : TypeId} {w : World} {k : Nat} (h : Ints T w k) : ¬ Mine T w k := fun m => mine_not m h
theorem not_ints {T : TypeId} {w : World} {k : Nat} {o : Obj} (h : w.heap[k]? = some o) (ho : o.isCells = false) : ¬ Ints T w k := by
  rintro ⟨cs, fr, e⟩
  rw [h] at e
  cases e
  cases ho
theorem not_mine {T : TypeId} {w : World} {k : Nat} {o : Obj} (h : w.heap[k]? = some o) (ho : o.isCells = false) : ¬ Mine T w k := by
  rintro ⟨cs, t, fr, e, _⟩
  rw [h] at e
  cases e
  cases ho
theorem Chg.putObj {S : Nat → Prop} {a b : World} (h : Chg S a b) {l : Nat} (hl : S l ∨ a.heap.size ≤ l) (o : Obj) : Chg S a (b.putObj l o) :=
  ⟨h.os, h.tape, h.output, by simpa using h.size, fun i hi hn => (World.putObj_heap_other (by
    rintro rfl
    exact hl.elim hn (fun hl => absurd hi (by omega)))).trans (h.block i hi hn)⟩

theorem chg_putObj (w : World) (l : Nat) (o : Obj) : Chg (fun k => k = l) w (w.putObj l o) := Chg.putObj (S := fun k => k = l) (Chg.refl _ _) (.inl rfl) o

/-- An iterator that hands over xs, whatever its rounds do, if they write no row of type T and nothing but what is free; it writes rows of type T of its own alone. -/
def Gives {α : Type} (T : TypeId) (n : Nat) (P : Program) (gf : Nat) (lb : Array Value) (encs : α → Array Value) (Fr : Nat → Prop) (xs : List α) (w0 : World) : Prop :=
  ∀ (l : Nat) (J : List α → World → Prop) (W : World), Chg Non w0 W →
    (∀ s A B, J s A → Chg (fun k => W.heap.size ≤ k ∧ Ints T A k) A B → J s B) →
    (∀ pre x A, J pre A → pre ++ [x] <+: xs → YieldAt Fence.wide (n - 1) P l (encs x) A fun e B =>
      e = .returned (.bool true) ∧ J (pre ++ [x]) B ∧ Chg (fun k => Fr k ∧ ¬ Ints T A k) A B) →
    J [] W →
    CallsIn Fence.wide n P gf (#[.func (.yield l) #[] #[]] ++ lb) W fun e B => (∃ v, e = .returned v) ∧ J xs B

/-- How a round's body is left. -/
def bodyP {α : Type} (T : TypeId) (Fr : Nat → Prop) (I : List α → World → Prop) (xs : List α) (W : World) : Exit → Act → World → Prop
  | .normal, _, W' => Chg (fun k => Fr k ∧ Mine T W k) W W' ∧ I xs W'
  | _, _, _ => False

theorem range_walk {α : Type} {T : TypeId} {n : Nat} {P : Program} {g : Operand} {ps : Array Tmp} {assign body : Code} {Q : Exit → Act → World → Prop} {a : Act} {w : World} (h1 : 1 ≤ n)
    {gf : Nat} {lb : Array Value} (hg : a.eval g = .func (.func gf) #[] lb) (eg : ∀ args w, (callFunc gf args).run P w = .ok (.enter gf args) w)
    {encs : α → Array Value} {Fr : Nat → Prop} {xs : List α} {w0 : World} (hseq : Gives T (n - 1) P gf lb encs Fr xs w0) (hb0 : Chg Non w0 w) (hFr : ∀ k, w.heap.size ≤ k → Fr k) (hps : ∀ x, (encs x).size = ps.size)
    (I : List α → World → Prop) (hI : ∀ s A B, I s A → Chg (fun k => w.heap.size ≤ k ∧ ¬ Mine T A k) A B → I s B) (h0 : I [] w) (a₁ : α → Act)
    (hassign : ∀ (l : Nat) (x : α) (W : World) (K : Act → World → Prop), K (a₁ x) W →
      assign.wpIn (Fence.wide.inRound l) (n - 1 - 1) P (Exit.then K (fun _ _ _ => False)) { tmps := (ps.zip (encs x)).foldl (fun t (p, v) => t.setIfInBounds p v) a.tmps, defers := [] } W)
    (hbody : ∀ (l : Nat) (pre : List α) (x : α) (W : World), I pre W → pre ++ [x] <+: xs → body.wpIn (Fence.wide.inRound l) (n - 1 - 1) P (bodyP T Fr I (pre ++ [x]) W) (a₁ x) W)
    (hdone : ∀ (D : Nat) (W : World), w.heap.size ≤ D → I xs W → W.heap[D]? = some (.deferred (some [])) → Q .normal { a with defers := { target := .collected D, args := #[] } :: a.defers } W) :
    (Code.rangeFunc g ps assign body).wpIn Fence.wide n P Q a w := by
  refine wpIn_rangeFunc fun fn hfn => ?_
  obtain ⟨D, hD⟩ : ∃ D, w.heap.size = D := ⟨_, rfl⟩
  obtain ⟨re, hre⟩ : ∃ re : LoopState → Option Code → Loop, re = fun st pe => { state := st, pending := pe, fn, tmps := a.tmps, params := ps, assign, body, defers := w.heap.size } := ⟨_, rfl⟩
  obtain ⟨W1, hW1⟩ : ∃ W1, (w.alloc (.deferred (some []))).alloc (.loop (re .ready none)) = W1 := ⟨_, rfl⟩
  have hL1 : W1.heap[D + 1]? = some (.loop (re .ready none)) := by
    have := World.alloc_heap_new (w.alloc (.deferred (some []))) (.loop (re .ready none))
    rw [World.size_alloc, hW1, hD] at this
    exact this
  have hK1 : W1.heap[D]? = some (.deferred (some [])) := by
    rw [← hW1, ← hD]
    exact (Below.heap_alloc _ _ _ (by simp)).trans (World.alloc_heap_new w _)
  have hC1 : Chg Non w W1 := by rw [← hW1]; exact ((Chg.refl _ _).alloc _).alloc _
  have hs1 : D + 1 < W1.heap.size := (Array.getElem?_eq_some_iff.1 hL1).1
  refine ⟨D + 1, [{ target := .collected D, args := #[] }], W1, { target := .fn (.func gf) lb, args := #[.func (.yield (D + 1)) #[] #[]] }, W1, gf, #[.func (.yield (D + 1)) #[] #[]] ++ lb, W1, ?_, ?_, ?_, ?_, fun _ => h1, ?_⟩
  · rw [← hW1, hre, ← hD]; exact run_enterLoop_outer _ _ _ _ _
  · simp only [resolve, hg]
    simp [go_sem]
  · intro f' hf'
    simp [Target.leads] at hf'
    subst hf'
    exact trivial
  · simp [invoke, go_sem, eg]
  · refine (hseq (D + 1) (fun pre W => I pre W ∧ W.heap[D + 1]? = some (.loop (re .ready none)) ∧ W.heap[D]? = some (.deferred (some []))) W1 (hb0.trans hC1 (fun _ f => f.elim)) ?_ ?_ ⟨hI _ _ _ h0 (hC1.mono fun _ f => f.elim), hL1, hK1⟩).mono ?_
    · rintro s A B ⟨hi, hl, hk⟩ hAB
      have hl' := (Array.getElem?_eq_some_iff.1 hl).1
      have hk' := (Array.getElem?_eq_some_iff.1 hk).1
      refine ⟨hI _ _ _ hi (hAB.mono fun j hj => .inl ⟨by omega, ints_not hj.2⟩), ?_, ?_⟩
      · exact (hAB.block _ hl' (fun hj => not_ints hl rfl hj.2)).trans hl
      · exact (hAB.block _ hk' (fun hj => not_ints hk rfl hj.2)).trans hk
    · rintro pre x W ⟨hi, hl, hk⟩ hpre
      have hlt := (Array.getElem?_eq_some_iff.1 hl).1
      have hkt := (Array.getElem?_eq_some_iff.1 hk).1
      have hy := run_yield (P := P) (args := encs x) hl (by rw [hre]; exact hps x)
      rw [hre] at hy
      refine ⟨fn, _, assign, body, hy, roundIn_of_wpIn hfn (hassign _ x W _ ⟨_, run_beginRound hl (by rw [hre]), ?_⟩)⟩
      obtain ⟨W2, hW2⟩ : ∃ W2, W.putObj (D + 1) (.loop { re .ready none with state := .busy }) = W2 := ⟨_, rfl⟩
      have hC2 : Chg (fun k => k = D + 1) W W2 := by rw [← hW2]; exact chg_putObj _ _ _
      have hl2 : W2.heap[D + 1]? = some (.loop { re .ready none with state := .busy }) := by rw [← hW2]; exact World.putObj_heap_same hlt
      have hk2 : W2.heap[D]? = some (.deferred (some [])) := (hC2.block D hkt (by show ¬ D = D + 1; omega)).trans hk
      have hi2 : I pre W2 := hI _ _ _ hi (hC2.mono fun j hj => .inl ⟨by omega, by rw [hj]; exact not_mine hl rfl⟩)
      rw [hW2]
      refine wpIn_mono (hbody _ pre x W2 hi2 hpre) ?_
      intro e a3 W3 hp
      cases e with
      | normal =>
        obtain ⟨hC3, hi3⟩ := hp
        have hl3 : W3.heap[D + 1]? = some (.loop { re .ready none with state := .busy }) := (hC3.block _ (Array.getElem?_eq_some_iff.1 hl2).1 (fun hj => not_mine hl2 rfl hj.2)).trans hl2
        have hk3 : W3.heap[D]? = some (.deferred (some [])) := (hC3.block _ (Array.getElem?_eq_some_iff.1 hk2).1 (fun hj => not_mine hk2 rfl hj.2)).trans hk2
        have hr := run_endRound (P := P) none hl3
        have hC4 : Chg (fun k => k = D + 1) W3 (W3.putObj (D + 1) (.loop (re .ready none))) := chg_putObj _ _ _
        refine ⟨_, W3.putObj (D + 1) (.loop (re .ready none)), ?_, rfl, ⟨hI _ _ _ hi3 (hC4.mono fun j hj => .inl ⟨by omega, by rw [hj]; exact not_mine hl3 rfl⟩), World.putObj_heap_same (Array.getElem?_eq_some_iff.1 hl3).1, (hC4.block D (Array.getElem?_eq_some_iff.1 hk3).1 (by show ¬ D = D + 1; omega)).trans hk3⟩, ?_⟩
        · rw [hr, hre]
          rfl
        · have k2 : Chg (fun k => Fr k ∧ ¬ Ints T W k) W W2 := hC2.mono fun j hj => .inl ⟨hFr _ (by omega), by rw [hj]; exact not_ints hl rfl⟩
          have k3 : Chg (fun k => Fr k ∧ ¬ Ints T W k) W W3 := k2.trans hC3 fun j hj => .inl ⟨hj.1, by
            rintro ⟨cs, fr, e⟩
            have hne : ¬ j = D + 1 := by
              rintro rfl
              rw [hl] at e
              cases e
            exact mine_not hj.2 ⟨cs, fr, (hC2.block j (Array.getElem?_eq_some_iff.1 e).1 hne).trans e⟩⟩
          exact k3.putObj (.inl ⟨hFr _ (by omega), not_ints hl rfl⟩) _
      | ret => exact hp.elim
      | exit id => exact hp.elim
      | goto t => exact hp.elim
      | panic ch => exact hp.elim
      | outgrown => exact hp.elim
    · rintro e W2 ⟨⟨v, rfl⟩, hi, hl, hk⟩
      have hC : Chg (fun k => k = D + 1) W2 (W2.putObj (D + 1) (.loop { re .ready none with state := .exhausted })) := chg_putObj _ _ _
      refine ⟨none, W2.putObj (D + 1) (.loop { re .ready none with state := .exhausted }), ?_, ?_⟩
      · have := run_endLoop (P := P) hl (by rw [hre]; simp)
        rw [this, hre]
      · exact hdone D _ (by omega) (hI _ _ _ hi (hC.mono fun j hj => .inl ⟨by omega, by rw [hj]; exact not_mine hl rfl⟩)) ((hC.block D (Array.getElem?_eq_some_iff.1 hk).1 (by show ¬ D = D + 1; omega)).trans hk)
end Go.Proofs.Ytmmacimneaehiaa
