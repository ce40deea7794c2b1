/- The machine of a height (chapter 12) in words, and what each of its promises keeps from step to step. Nothing here knows the program. -/
import Derived.Test.YtdejfamcmebdiaaVm
namespace Go.Proofs.Ytdejfamcmebdiaa.mach
set_option linter.unusedVariables false
set_option linter.unusedSimpArgs false

abbrev Hash := List UInt8
def zero : Hash := List.replicate 32 0

structure State where
  round : Int
  step : Int
  locked : Hash
  lockedR : Int
  valid : Hash
  validR : Int
  block : Hash
  waits : Int
  waited : Int
structure In where
  kind : Int
  round : Int
  block : Hash
  valid : Int
  good : Bool
  own : Hash
structure Out where
  kind : Int
  round : Int
  block : Hash
  valid : Int
def start : State := ⟨-1, 0, zero, -1, zero, -1, zero, -1, -1⟩
def top : Int := 1048576

/-- S1, the cases of an input that may do something. -/
def act (s : State) (i : In) : State × List Out :=
  if i.kind = 1 then
    if i.round ≤ s.round then (s, [])
    else if i.own = zero then ({ s with round := i.round, step := 1 }, [⟨4, i.round, zero, 0⟩])
    else if 0 ≤ s.validR then ({ s with round := i.round, step := 1 }, [⟨1, i.round, s.valid, s.validR⟩])
    else ({ s with round := i.round, step := 1 }, [⟨1, i.round, i.own, -1⟩])
  else if i.kind = 2 then
    if i.round = s.round ∧ s.step = 1 then ({ s with step := 2 }, [⟨2, i.round, if i.good = true ∧ i.block ≠ zero ∧ (s.lockedR < 0 ∨ s.locked = i.block) then i.block else zero, 0⟩])
    else (s, [])
  else if i.kind = 3 then
    if i.round = s.round ∧ s.step = 1 ∧ 0 ≤ i.valid ∧ i.valid < i.round then ({ s with step := 2 }, [⟨2, i.round, if i.good = true ∧ i.block ≠ zero ∧ (s.lockedR ≤ i.valid ∨ s.locked = i.block) then i.block else zero, 0⟩])
    else (s, [])
  else if i.kind = 4 then
    if i.round = s.round ∧ s.step = 2 ∧ s.waits < i.round then ({ s with waits := i.round }, [⟨5, i.round, zero, 0⟩]) else (s, [])
  else if i.kind = 5 then
    if i.round = s.round ∧ (s.step = 2 ∨ s.step = 3) ∧ i.good = true ∧ i.block ≠ zero ∧ s.validR < i.round then
      if s.step = 2 then ({ s with valid := i.block, validR := i.round, locked := i.block, lockedR := i.round, step := 3 }, [⟨3, i.round, i.block, 0⟩])
      else ({ s with valid := i.block, validR := i.round }, [])
    else (s, [])
  else if i.kind = 6 ∨ i.kind = 11 then
    if i.round = s.round ∧ s.step = 2 then ({ s with step := 3 }, [⟨3, i.round, zero, 0⟩]) else (s, [])
  else if i.kind = 7 then
    if i.round = s.round ∧ (1 ≤ s.step ∧ s.step ≤ 3) ∧ s.waited < i.round then ({ s with waited := i.round }, [⟨6, i.round, zero, 0⟩]) else (s, [])
  else if i.kind = 8 then
    if i.good = true ∧ i.block ≠ zero then ({ s with block := i.block, step := 4 }, [⟨8, i.round, i.block, 0⟩]) else (s, [])
  else if i.kind = 9 then
    if s.round < i.round then (s, [⟨7, i.round, zero, 0⟩]) else (s, [])
  else if i.kind = 10 then
    if i.round = s.round ∧ s.step = 1 then ({ s with step := 2 }, [⟨2, i.round, zero, 0⟩]) else (s, [])
  else if i.kind = 12 then
    if i.round = s.round ∧ (1 ≤ s.step ∧ s.step ≤ 3) ∧ i.round < top then (s, [⟨7, i.round + 1, zero, 0⟩]) else (s, [])
  else (s, [])
def stepM (s : State) (i : In) : State × List Out := if i.round < 0 ∨ top < i.round ∨ s.step = 4 then (s, []) else act s i

/-- The moves there are. -/
inductive Mv (s : State) (i : In) : State × List Out → Prop
  | none : Mv s i (s, [])
  | wait (h4 : s.step ≠ 4) (hr : 0 ≤ i.round) (hk : i.kind = 1) (h : s.round < i.round) : Mv s i ({ s with round := i.round, step := 1 }, [⟨4, i.round, zero, 0⟩])
  | propV (h4 : s.step ≠ 4) (hr : 0 ≤ i.round) (hk : i.kind = 1) (h : s.round < i.round) (hv : 0 ≤ s.validR) : Mv s i ({ s with round := i.round, step := 1 }, [⟨1, i.round, s.valid, s.validR⟩])
  | propO (h4 : s.step ≠ 4) (hr : 0 ≤ i.round) (hk : i.kind = 1) (h : s.round < i.round) (ho : i.own ≠ zero) (hv : s.validR < 0) : Mv s i ({ s with round := i.round, step := 1 }, [⟨1, i.round, i.own, -1⟩])
  | pre2 (h : i.round = s.round) (h1 : s.step = 1) (hr : 0 ≤ i.round) (hk : i.kind = 2) (hg : i.good = true) (hb : i.block ≠ zero) (hl : s.lockedR < 0 ∨ s.locked = i.block) : Mv s i ({ s with step := 2 }, [⟨2, i.round, i.block, 0⟩])
  | pre3 (h : i.round = s.round) (h1 : s.step = 1) (hr : 0 ≤ i.round) (hk : i.kind = 3) (hv : 0 ≤ i.valid) (hv2 : i.valid < i.round) (hg : i.good = true) (hb : i.block ≠ zero) (hl : s.lockedR ≤ i.valid ∨ s.locked = i.block) : Mv s i ({ s with step := 2 }, [⟨2, i.round, i.block, 0⟩])
  | preE (h : i.round = s.round) (h1 : s.step = 1) (hr : 0 ≤ i.round) (hk : i.kind = 2 ∨ i.kind = 3 ∨ i.kind = 10) : Mv s i ({ s with step := 2 }, [⟨2, i.round, zero, 0⟩])
  | wait2 (h : i.round = s.round) (h1 : s.step = 2) (hr : 0 ≤ i.round) (hk : i.kind = 4) (hw : s.waits < i.round) : Mv s i ({ s with waits := i.round }, [⟨5, i.round, zero, 0⟩])
  | lock (h : i.round = s.round) (h1 : s.step = 2) (hr : 0 ≤ i.round) (hk : i.kind = 5) (hg : i.good = true) (hb : i.block ≠ zero) (hv : s.validR < i.round) : Mv s i ({ s with valid := i.block, validR := i.round, locked := i.block, lockedR := i.round, step := 3 }, [⟨3, i.round, i.block, 0⟩])
  | vali (h : i.round = s.round) (h1 : s.step = 3) (hr : 0 ≤ i.round) (hk : i.kind = 5) (hg : i.good = true) (hb : i.block ≠ zero) (hv : s.validR < i.round) : Mv s i ({ s with valid := i.block, validR := i.round }, [])
  | comE (h : i.round = s.round) (h1 : s.step = 2) (hr : 0 ≤ i.round) (hk : i.kind = 6 ∨ i.kind = 11) : Mv s i ({ s with step := 3 }, [⟨3, i.round, zero, 0⟩])
  | wait3 (h : i.round = s.round) (h1 : 1 ≤ s.step) (h3 : s.step ≤ 3) (hr : 0 ≤ i.round) (hk : i.kind = 7) (hw : s.waited < i.round) : Mv s i ({ s with waited := i.round }, [⟨6, i.round, zero, 0⟩])
  | deci (h4 : s.step ≠ 4) (hr : 0 ≤ i.round) (hk : i.kind = 8) (hg : i.good = true) (hb : i.block ≠ zero) : Mv s i ({ s with block := i.block, step := 4 }, [⟨8, i.round, i.block, 0⟩])
  | next (h4 : s.step ≠ 4) (hr : 0 ≤ i.round) (hk : i.kind = 9) (h : s.round < i.round) : Mv s i (s, [⟨7, i.round, zero, 0⟩])
  | next1 (h : i.round = s.round) (h1 : 1 ≤ s.step) (h3 : s.step ≤ 3) (hr : 0 ≤ i.round) (hk : i.kind = 12) : Mv s i (s, [⟨7, i.round + 1, zero, 0⟩])
theorem mv (s : State) (i : In) : Mv s i (stepM s i) := by
  unfold stepM
  by_cases hn : i.round < 0 ∨ top < i.round ∨ s.step = 4
  · rw [if_pos hn]; exact .none
  rw [if_neg hn]
  have h4 : s.step ≠ 4 := fun h => hn (.inr (.inr h))
  have hr : 0 ≤ i.round := by
    rcases Int.lt_or_le i.round 0 with h | h
    · exact absurd (.inl h) hn
    · exact h
  unfold act
  by_cases k1 : i.kind = 1
  · rw [if_pos k1]
    by_cases h : i.round ≤ s.round
    · rw [if_pos h]; exact .none
    rw [if_neg h]
    by_cases ho : i.own = zero
    · rw [if_pos ho]; exact .wait h4 hr k1 (by omega)
    rw [if_neg ho]
    by_cases hv : 0 ≤ s.validR
    · rw [if_pos hv]; exact .propV h4 hr k1 (by omega) hv
    · rw [if_neg hv]; exact .propO h4 hr k1 (by omega) ho (by omega)
  rw [if_neg k1]
  by_cases k2 : i.kind = 2
  · rw [if_pos k2]
    by_cases h : i.round = s.round ∧ s.step = 1
    · rw [if_pos h]
      by_cases hc : i.good = true ∧ i.block ≠ zero ∧ (s.lockedR < 0 ∨ s.locked = i.block)
      · rw [if_pos hc]; exact .pre2 h.1 h.2 hr k2 hc.1 hc.2.1 hc.2.2
      · rw [if_neg hc]; exact .preE h.1 h.2 hr (.inl k2)
    · rw [if_neg h]; exact .none
  rw [if_neg k2]
  by_cases k3 : i.kind = 3
  · rw [if_pos k3]
    by_cases h : i.round = s.round ∧ s.step = 1 ∧ 0 ≤ i.valid ∧ i.valid < i.round
    · rw [if_pos h]
      by_cases hc : i.good = true ∧ i.block ≠ zero ∧ (s.lockedR ≤ i.valid ∨ s.locked = i.block)
      · rw [if_pos hc]; exact .pre3 h.1 h.2.1 hr k3 h.2.2.1 h.2.2.2 hc.1 hc.2.1 hc.2.2
      · rw [if_neg hc]; exact .preE h.1 h.2.1 hr (.inr (.inl k3))
    · rw [if_neg h]; exact .none
  rw [if_neg k3]
  by_cases k4 : i.kind = 4
  · rw [if_pos k4]
    by_cases h : i.round = s.round ∧ s.step = 2 ∧ s.waits < i.round
    · rw [if_pos h]; exact .wait2 h.1 h.2.1 hr k4 h.2.2
    · rw [if_neg h]; exact .none
  rw [if_neg k4]
  by_cases k5 : i.kind = 5
  · rw [if_pos k5]
    by_cases h : i.round = s.round ∧ (s.step = 2 ∨ s.step = 3) ∧ i.good = true ∧ i.block ≠ zero ∧ s.validR < i.round
    · rw [if_pos h]
      by_cases h2 : s.step = 2
      · rw [if_pos h2]; exact .lock h.1 h2 hr k5 h.2.2.1 h.2.2.2.1 h.2.2.2.2
      · rw [if_neg h2]; exact .vali h.1 (h.2.1.resolve_left h2) hr k5 h.2.2.1 h.2.2.2.1 h.2.2.2.2
    · rw [if_neg h]; exact .none
  rw [if_neg k5]
  by_cases k6 : i.kind = 6 ∨ i.kind = 11
  · rw [if_pos k6]
    by_cases h : i.round = s.round ∧ s.step = 2
    · rw [if_pos h]; exact .comE h.1 h.2 hr k6
    · rw [if_neg h]; exact .none
  rw [if_neg k6]
  by_cases k7 : i.kind = 7
  · rw [if_pos k7]
    by_cases h : i.round = s.round ∧ (1 ≤ s.step ∧ s.step ≤ 3) ∧ s.waited < i.round
    · rw [if_pos h]; exact .wait3 h.1 h.2.1.1 h.2.1.2 hr k7 h.2.2
    · rw [if_neg h]; exact .none
  rw [if_neg k7]
  by_cases k8 : i.kind = 8
  · rw [if_pos k8]
    by_cases h : i.good = true ∧ i.block ≠ zero
    · rw [if_pos h]; exact .deci h4 hr k8 h.1 h.2
    · rw [if_neg h]; exact .none
  rw [if_neg k8]
  by_cases k9 : i.kind = 9
  · rw [if_pos k9]
    by_cases h : s.round < i.round
    · rw [if_pos h]; exact .next h4 hr k9 h
    · rw [if_neg h]; exact .none
  rw [if_neg k9]
  by_cases k10 : i.kind = 10
  · rw [if_pos k10]
    by_cases h : i.round = s.round ∧ s.step = 1
    · rw [if_pos h]; exact .preE h.1 h.2 hr (.inr (.inr k10))
    · rw [if_neg h]; exact .none
  rw [if_neg k10]
  by_cases k12 : i.kind = 12
  · rw [if_pos k12]
    by_cases h : i.round = s.round ∧ (1 ≤ s.step ∧ s.step ≤ 3) ∧ i.round < top
    · rw [if_pos h]; exact .next1 h.1 h.2.1.1 h.2.1.2 hr k12
    · rw [if_neg h]; exact .none
  rw [if_neg k12]
  exact .none

/-- P12.2: once. -/
structure Once (s : State) (l1 l2 l3 : Int) : Prop where
  a1 : l1 ≤ s.round
  a2 : l2 ≤ s.round
  b2 : s.step = 1 → l2 < s.round
  a3 : l3 ≤ s.round
  b3 : s.step = 1 ∨ s.step = 2 → l3 < s.round
theorem once_start : Once start (-1) (-1) (-1) := by
  constructor <;> simp [start]
/-- What is said, by its kind, against what was said last. -/
inductive OnceOut (s : State) (l1 l2 l3 : Int) : List Out → Prop
  | none : Once s l1 l2 l3 → OnceOut s l1 l2 l3 []
  | k1 (o : Out) : o.kind = 1 → o.round = s.round → l1 < o.round → Once s o.round l2 l3 → OnceOut s l1 l2 l3 [o]
  | k2 (o : Out) : o.kind = 2 → o.round = s.round → l2 < o.round → Once s l1 o.round l3 → OnceOut s l1 l2 l3 [o]
  | k3 (o : Out) : o.kind = 3 → o.round = s.round → l3 < o.round → Once s l1 l2 o.round → OnceOut s l1 l2 l3 [o]
  | other (o : Out) : 3 < o.kind → Once s l1 l2 l3 → OnceOut s l1 l2 l3 [o]
theorem once_step {s : State} {l1 l2 l3 : Int} (h : Once s l1 l2 l3) (i : In) : s.round ≤ (stepM s i).1.round ∧ OnceOut (stepM s i).1 l1 l2 l3 (stepM s i).2 := by
  obtain ⟨h1, h2, h3, h4, h5⟩ := h
  have hm := mv s i
  generalize stepM s i = r at *
  cases hm <;> refine ⟨by simp only <;> omega, ?_⟩
  case none => exact .none ⟨h1, h2, h3, h4, h5⟩
  case wait => exact .other _ (by simp only; omega) ⟨by simp only; omega, by simp only; omega, by simp only; omega, by simp only; omega, by simp only; omega⟩
  case propV => exact .k1 _ rfl rfl (by simp only; omega) ⟨by simp only; omega, by simp only; omega, by simp only; omega, by simp only; omega, by simp only; omega⟩
  case propO => exact .k1 _ rfl rfl (by simp only; omega) ⟨by simp only; omega, by simp only; omega, by simp only; omega, by simp only; omega, by simp only; omega⟩
  case pre2 => exact .k2 _ rfl (by assumption) (by simp only; omega) ⟨by simp only; omega, by simp only; omega, by simp only; omega, by simp only; omega, by simp only; omega⟩
  case pre3 => exact .k2 _ rfl (by assumption) (by simp only; omega) ⟨by simp only; omega, by simp only; omega, by simp only; omega, by simp only; omega, by simp only; omega⟩
  case preE => exact .k2 _ rfl (by assumption) (by simp only; omega) ⟨by simp only; omega, by simp only; omega, by simp only; omega, by simp only; omega, by simp only; omega⟩
  case wait2 => exact .other _ (by simp only; omega) ⟨h1, h2, h3, h4, h5⟩
  case lock => exact .k3 _ rfl (by assumption) (by simp only; omega) ⟨by simp only; omega, by simp only; omega, by simp only; omega, by simp only; omega, by simp only; omega⟩
  case vali => exact .none ⟨h1, h2, h3, h4, h5⟩
  case comE => exact .k3 _ rfl (by assumption) (by simp only; omega) ⟨by simp only; omega, by simp only; omega, by simp only; omega, by simp only; omega, by simp only; omega⟩
  case wait3 => exact .other _ (by simp only; omega) ⟨h1, h2, h3, h4, h5⟩
  case deci => exact .other _ (by simp only; omega) ⟨by simp only; omega, by simp only; omega, by simp only; omega, by simp only; omega, by simp only; omega⟩
  case next => exact .other _ (by simp only; omega) ⟨h1, h2, h3, h4, h5⟩
  case next1 => exact .other _ (by simp only; omega) ⟨h1, h2, h3, h4, h5⟩

/-- P12.3: locks hold. -/
def Lk (s : State) (locked : Hash) (at_ : Int) : Prop := (at_ < 0 ∧ s.lockedR < 0) ∨ (0 ≤ at_ ∧ at_ = s.lockedR ∧ locked = s.locked)
theorem lk_start : Lk start zero (-1) := .inl ⟨by decide, by decide⟩
inductive LkOut (s : State) (i : In) (locked : Hash) (at_ : Int) : List Out → Prop
  | none : Lk s locked at_ → LkOut s i locked at_ []
  | empty (o : Out) : o.block = zero → Lk s locked at_ → LkOut s i locked at_ [o]
  | lock (o : Out) : o.kind = 3 → o.block ≠ zero → i.kind = 5 → i.round = o.round → i.block = o.block → i.good = true → Lk s o.block o.round → LkOut s i locked at_ [o]
  | vote (o : Out) : o.kind = 2 → o.block ≠ zero → (at_ < 0 ∨ o.block = locked ∨ (i.kind = 3 ∧ at_ ≤ i.valid ∧ i.valid < o.round ∧ i.block = o.block)) → Lk s locked at_ → LkOut s i locked at_ [o]
  | other (o : Out) : o.kind ≠ 2 → o.kind ≠ 3 → o.block ≠ zero → Lk s locked at_ → LkOut s i locked at_ [o]
theorem lkOther {s : State} {i : In} {locked : Hash} {at_ : Int} (o : Out) (h2 : o.kind ≠ 2) (h3 : o.kind ≠ 3) (h : Lk s locked at_) : LkOut s i locked at_ [o] := by
  by_cases hb : o.block = zero
  · exact .empty o hb h
  · exact .other o h2 h3 hb h
theorem lk_step {s : State} {locked : Hash} {at_ : Int} (h : Lk s locked at_) (i : In) : LkOut (stepM s i).1 i locked at_ (stepM s i).2 := by
  have hm := mv s i
  generalize stepM s i = r at *
  cases hm
  case none => exact .none h
  case wait => exact .empty _ rfl h
  case propV => exact lkOther _ (by simp only; omega) (by simp only; omega) h
  case propO => exact lkOther _ (by simp only; omega) (by simp only; omega) h
  case pre2 a1 a2 a3 a4 a5 a6 a7 =>
    refine .vote _ rfl a6 ?_ h
    rcases h with h | h
    · exact .inl h.1
    · rcases a7 with a7 | a7
      · omega
      · exact .inr (.inl (by rw [h.2.2, a7]))
  case pre3 a1 a2 a3 a4 a5 a6 a7 a8 a9 =>
    refine .vote _ rfl a8 ?_ h
    rcases h with h | h
    · exact .inl h.1
    · rcases a9 with a9 | a9
      · exact .inr (.inr ⟨a4, by omega, a6, rfl⟩)
      · exact .inr (.inl (by rw [h.2.2, a9]))
  case preE => exact .empty _ rfl h
  case wait2 => exact .empty _ rfl h
  case lock a1 a2 a3 a4 a5 a6 a7 => exact .lock _ rfl a6 a4 rfl rfl a5 (.inr ⟨a3, rfl, rfl⟩)
  case vali => exact .none h
  case comE => exact .empty _ rfl h
  case wait3 => exact .empty _ rfl h
  case deci => exact lkOther _ (by simp only; omega) (by simp only; omega) h
  case next => exact .empty _ rfl h
  case next1 => exact .empty _ rfl h

/-- P12.4: the end. -/
inductive EnOut (s s' : State) (i : In) : Bool → List Out → Prop
  | done : s.step = 4 → s' = s → EnOut s s' i true []
  | none : s'.step ≠ 4 → s'.block = zero → EnOut s s' i false []
  | other (o : Out) : o.kind ≠ 8 → s'.step ≠ 4 → s'.block = zero → EnOut s s' i false [o]
  | ends (o : Out) : o.kind = 8 → i.kind = 8 → o.block = i.block → s'.block = i.block → i.good = true → i.block ≠ zero → s'.step = 4 → EnOut s s' i false [o]
theorem en_done {s : State} (h : s.step = 4) (i : In) : stepM s i = (s, []) := by
  unfold stepM
  rw [if_pos (.inr (.inr h))]
theorem en_step {s : State} (h4 : s.step ≠ 4) (hb : s.block = zero) (i : In) : EnOut s (stepM s i).1 i false (stepM s i).2 := by
  have hm := mv s i
  generalize stepM s i = r at *
  cases hm
  case none => exact .none h4 hb
  case wait => exact .other _ (by simp only; omega) (by simp only; omega) hb
  case propV => exact .other _ (by simp only; omega) (by simp only; omega) hb
  case propO => exact .other _ (by simp only; omega) (by simp only; omega) hb
  case pre2 => exact .other _ (by simp only; omega) (by simp only; omega) hb
  case pre3 => exact .other _ (by simp only; omega) (by simp only; omega) hb
  case preE => exact .other _ (by simp only; omega) (by simp only; omega) hb
  case wait2 => exact .other _ (by simp only; omega) h4 hb
  case lock => exact .other _ (by simp only; omega) (by simp only; omega) hb
  case vali => exact .none h4 hb
  case comE => exact .other _ (by simp only; omega) (by simp only; omega) hb
  case wait3 => exact .other _ (by simp only; omega) h4 hb
  case deci a1 a2 a3 a4 a5 => exact .ends _ rfl a3 rfl rfl a4 a5 rfl
  case next => exact .other _ (by simp only; omega) h4 hb
  case next1 => exact .other _ (by simp only; omega) h4 hb

/-- What is proposed was valid. -/
structure Vl (s : State) : Prop where
  a : s.lockedR ≤ s.validR
  b : s.validR ≤ s.round
  c : -1 ≤ s.validR
theorem vl_start : Vl start := ⟨by decide, by decide, by decide⟩
/-- What a step does to what is valid and locked. -/
structure VlTo (s s' : State) (i : In) : Prop where
  to : Vl s'
  v : s'.validR = s.validR ∨ (s'.validR = s'.round ∧ i.kind = 5 ∧ s'.valid = i.block ∧ s.validR ≤ s'.validR)
  l : s'.lockedR = s.lockedR ∨ s'.locked = s'.valid
inductive VlOut (s : State) (i : In) : List Out → Prop
  | none : VlOut s i []
  | other (o : Out) : o.kind ≠ 1 → VlOut s i [o]
  | old (o : Out) : o.kind = 1 → 0 ≤ s.validR → o.block = s.valid → o.valid = s.validR → o.valid < o.round → VlOut s i [o]
  | own (o : Out) : o.kind = 1 → s.validR < 0 → o.block = i.own → o.valid = -1 → -1 < o.round → o.block ≠ zero → VlOut s i [o]
theorem vl_step {s : State} (h : Vl s) (i : In) : VlTo s (stepM s i).1 i ∧ VlOut s i (stepM s i).2 := by
  obtain ⟨h1, h2, h3⟩ := h
  have hm := mv s i
  generalize stepM s i = r at *
  cases hm
  case none => exact ⟨⟨⟨h1, h2, h3⟩, .inl rfl, .inl rfl⟩, .none⟩
  case wait => exact ⟨⟨⟨h1, by simp only; omega, h3⟩, .inl rfl, .inl rfl⟩, .other _ (by simp only; omega)⟩
  case propV a1 a2 a3 a4 a5 => exact ⟨⟨⟨h1, by simp only; omega, h3⟩, .inl rfl, .inl rfl⟩, .old _ rfl a5 rfl rfl (by simp only; omega)⟩
  case propO a1 a2 a3 a4 a5 a6 => exact ⟨⟨⟨h1, by simp only; omega, h3⟩, .inl rfl, .inl rfl⟩, .own _ rfl a6 rfl rfl (by simp only; omega) a5⟩
  case pre2 => exact ⟨⟨⟨h1, h2, h3⟩, .inl rfl, .inl rfl⟩, .other _ (by simp only; omega)⟩
  case pre3 => exact ⟨⟨⟨h1, h2, h3⟩, .inl rfl, .inl rfl⟩, .other _ (by simp only; omega)⟩
  case preE => exact ⟨⟨⟨h1, h2, h3⟩, .inl rfl, .inl rfl⟩, .other _ (by simp only; omega)⟩
  case wait2 => exact ⟨⟨⟨h1, h2, h3⟩, .inl rfl, .inl rfl⟩, .other _ (by simp only; omega)⟩
  case lock a1 a2 a3 a4 a5 a6 a7 => exact ⟨⟨⟨Int.le_refl _, by simp only; omega, by simp only; omega⟩, .inr ⟨a1, a4, rfl, by simp only; omega⟩, .inr rfl⟩, .other _ (by simp only; omega)⟩
  case vali a1 a2 a3 a4 a5 a6 a7 => exact ⟨⟨⟨by simp only; omega, by simp only; omega, by simp only; omega⟩, .inr ⟨a1, a4, rfl, by simp only; omega⟩, .inl rfl⟩, .none⟩
  case comE => exact ⟨⟨⟨h1, h2, h3⟩, .inl rfl, .inl rfl⟩, .other _ (by simp only; omega)⟩
  case wait3 => exact ⟨⟨⟨h1, h2, h3⟩, .inl rfl, .inl rfl⟩, .other _ (by simp only; omega)⟩
  case deci => exact ⟨⟨⟨h1, h2, h3⟩, .inl rfl, .inl rfl⟩, .other _ (by simp only; omega)⟩
  case next => exact ⟨⟨⟨h1, h2, h3⟩, .inl rfl, .inl rfl⟩, .other _ (by simp only; omega)⟩
  case next1 => exact ⟨⟨⟨h1, h2, h3⟩, .inl rfl, .inl rfl⟩, .other _ (by simp only; omega)⟩

/-- It waits once. -/
structure Wt (s : State) (l4 l5 l6 : Int) : Prop where
  a : l4 ≤ s.round
  b : l5 ≤ s.waits
  c : l6 ≤ s.waited
theorem wt_start : Wt start (-1) (-1) (-1) := ⟨by decide, by decide, by decide⟩
inductive WtOut (s s' : State) (i : In) (l4 l5 l6 : Int) : List Out → Prop
  | none : Wt s' l4 l5 l6 → WtOut s s' i l4 l5 l6 []
  | other (o : Out) : o.kind < 4 ∨ 6 < o.kind → Wt s' l4 l5 l6 → WtOut s s' i l4 l5 l6 [o]
  | k4 (o : Out) : o.kind = 4 → l4 < o.round → o.round = s'.round → i.kind = 1 → Wt s' o.round l5 l6 → WtOut s s' i l4 l5 l6 [o]
  | k5 (o : Out) : o.kind = 5 → l5 < o.round → o.round = s'.round → s.step = 2 → Wt s' l4 o.round l6 → WtOut s s' i l4 l5 l6 [o]
  | k6 (o : Out) : o.kind = 6 → l6 < o.round → o.round = s'.round → Wt s' l4 l5 o.round → WtOut s s' i l4 l5 l6 [o]
theorem wt_step {s : State} {l4 l5 l6 : Int} (h : Wt s l4 l5 l6) (i : In) : WtOut s (stepM s i).1 i l4 l5 l6 (stepM s i).2 := by
  obtain ⟨h1, h2, h3⟩ := h
  have hm := mv s i
  generalize stepM s i = r at *
  cases hm
  case none => exact .none ⟨h1, h2, h3⟩
  case wait a1 a2 a3 a4 => exact .k4 _ rfl (by simp only; omega) rfl a3 ⟨Int.le_refl _, h2, h3⟩
  case propV => exact .other _ (by simp only; omega) ⟨by simp only; omega, h2, h3⟩
  case propO => exact .other _ (by simp only; omega) ⟨by simp only; omega, h2, h3⟩
  case pre2 => exact .other _ (by simp only; omega) ⟨h1, h2, h3⟩
  case pre3 => exact .other _ (by simp only; omega) ⟨h1, h2, h3⟩
  case preE => exact .other _ (by simp only; omega) ⟨h1, h2, h3⟩
  case wait2 a1 a2 a3 a4 a5 => exact .k5 _ rfl (by simp only; omega) a1 a2 ⟨h1, Int.le_refl _, h3⟩
  case lock => exact .other _ (by simp only; omega) ⟨h1, h2, h3⟩
  case vali => exact .none ⟨h1, h2, h3⟩
  case comE => exact .other _ (by simp only; omega) ⟨h1, h2, h3⟩
  case wait3 a1 a2 a3 a4 a5 a6 => exact .k6 _ rfl (by simp only; omega) a1 ⟨h1, h2, Int.le_refl _⟩
  case deci => exact .other _ (by simp only; omega) ⟨h1, h2, h3⟩
  case next => exact .other _ (by simp only; omega) ⟨h1, h2, h3⟩
  case next1 => exact .other _ (by simp only; omega) ⟨h1, h2, h3⟩

/-- Other rounds do nothing. -/
theorem quiet (s : State) (i : In) (h : (i.round ≠ s.round ∧ i.kind ≠ 1 ∧ i.kind ≠ 9 ∧ i.kind ≠ 8) ∨ i.kind < 1 ∨ 12 < i.kind ∨ i.round < 0) : stepM s i = (s, []) := by
  have hm := mv s i
  generalize stepM s i = r at *
  cases hm
  case none => rfl
  all_goals exfalso; omega
theorem few (s : State) (i : In) : (stepM s i).2.length ≤ 1 := by
  have hm := mv s i
  generalize stepM s i = r at *
  cases hm <;> simp
end Go.Proofs.Ytdejfamcmebdiaa.mach
