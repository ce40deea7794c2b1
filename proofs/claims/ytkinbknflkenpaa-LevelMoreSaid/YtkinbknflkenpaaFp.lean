/- A pair of float64s that comes in by value: how it is opened, and shut again. -/
import Derived.Laws.Cover2
import Derived.WideKeyPair
namespace Go.Proofs.Ytkinbknflkenpaa
open Go.ChangeShapes Go.WideShapes

structure FArr (P : Program) (k e : TypeId) : Prop where
  hu : P.underlying k = some (.array 2 e)
  one : P.cellsOf e = 1
  size : P.cellsOf k = 2

section
variable {H : Type} {enc : TypeId × Value → H} {P : Program} {k e : TypeId} {q : FloatKind} {W : World} {base : Nat} {sp : Nat → Bool} {held : Bool}

theorem trod_float {fuel : Nat} {t : TypeId} (ht : P.underlying t = some (.float q)) {cs : List Value} {x : DataW H × List MemPlace} (h : DataW.trod enc P W base sp held fuel t cs = some x) :
    ∃ a, cs = [.float q a] ∧ x = (.lit (.float q a), []) ∧ (Lit.float q a).wf = true := by
  cases fuel with
  | zero => simp [DataW.trod] at h
  | succ n =>
    simp only [DataW.trod, ht] at h
    split at h <;> simp_all

theorem open_fpair (A : FArr P k e) (he : P.underlying e = some (.float q)) {r : Reach} {b0 : Nat} {v : Value} {d : DataW H} {ps : List MemPlace} (hval : Value.okWide P W r b0 k v) (hd : DataW.Trod enc P W base sp held k v d ps) :
    ∃ a b : Nat, v = .agg #[.float q a, .float q b] ∧ d = .agg [.lit (.float q a), .lit (.float q b)] ∧ ps = [] ∧ (Lit.float q a).wf = true ∧ (Lit.float q b).wf = true := by
  have hv : ∃ c0 c1, v = .agg #[c0, c1] := by
    simp only [Value.okWide, A.hu] at hval
    obtain ⟨cs, h1, h2, _⟩ := hval
    rw [A.size] at h2
    obtain ⟨l⟩ := cs
    match l, h2 with
    | [c0, c1], _ => exact ⟨c0, c1, h1⟩
  obtain ⟨c0, c1, rfl⟩ := hv
  obtain ⟨fuel, hf⟩ := hd
  cases fuel with
  | zero => simp [DataW.trod] at hf
  | succ n =>
    rw [DataW.trod_step] at hf
    unfold DataW.trodStep at hf
    simp only [A.hu, Value.cells] at hf
    rw [if_pos (by rw [A.size]; rfl)] at hf
    simp only [Option.map_eq_some_iff] at hf
    obtain ⟨xs, hx, e1⟩ := hf
    rw [show List.range 2 = [0, 1] from rfl, List.mapM_cons, List.mapM_cons, List.mapM_nil] at hx
    simp only [bind, Option.bind_eq_some_iff, pure, Option.some.injEq, A.one] at hx
    obtain ⟨y0, h0, _, ⟨y1, h1, _, rfl, rfl⟩, rfl⟩ := hx
    obtain ⟨a, ea, rfl, wa⟩ := trod_float he h0
    obtain ⟨b, eb, rfl, wb⟩ := trod_float he h1
    simp at ea eb
    subst ea; subst eb
    simp only [Prod.mk.injEq] at e1
    exact ⟨a, b, rfl, by rw [← e1.1]; rfl, by rw [← e1.2]; rfl, wa, wb⟩

theorem shut_fpair (A : FArr P k e) (he : P.underlying e = some (.float q)) {a b : Nat} (wa : (Lit.float q a).wf = true) (wb : (Lit.float q b).wf = true) :
    DataW.Trod enc P W base sp held k (.agg #[.float q a, .float q b]) (.agg [.lit (.float q a), .lit (.float q b)]) [] :=
  ⟨2, by
    show DataW.trod enc P W base sp held (1 + 1) k [.float q a, .float q b] = _
    rw [DataW.trod_step]
    unfold DataW.trodStep
    simp only [A.hu]
    rw [if_pos (by rw [A.size]; rfl), show List.range 2 = [0, 1] from rfl, List.mapM_cons, List.mapM_cons, List.mapM_nil]
    simp [A.one, DataW.trod, he, wa, wb]⟩
end
end Go.Proofs.Ytkinbknflkenpaa
