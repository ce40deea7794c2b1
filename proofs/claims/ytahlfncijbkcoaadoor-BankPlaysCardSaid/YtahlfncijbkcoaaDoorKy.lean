/- Back again, in words; a list beside a bank that changes. -/
import Derived.Test.YtahlfncijbkcoaaDoorKx
namespace Go.Proofs.YtahlfncijbkcoaaDoor
open Go.RowKit
set_option linter.unusedVariables false
set_option linter.unusedSimpArgs false
set_option maxRecDepth 20000

/-- Entries that were told stay, whatever the bank does. -/
theorem entries_stay {w w' : World} {g b1 b2 n : Nat} {F : Key → Nat} {S : ByteArray → Nat} {A : Option Addr} {es : List En} (h : LstM w A es En.cells 2) (hB : BkP w g b1 b2 n F S) (k : Chg (Bb b1 b2) w w') : LstM w' A es En.cells 2 := by
  intro i y hy
  obtain ⟨eb, eo, e1, e2, e3⟩ := h i y hy
  refine ⟨eb, eo, e1, Nat.lt_of_lt_of_le e2 k.size, k.range' e3 (fun e => ?_)⟩
  cases hes : (En.cells y)[0]? with
  | none => simp [En.cells] at hes
  | some u =>
    have hc := e3 0 u hes
    rcases e with e | e
    · obtain ⟨D, ⟨ms, ck, hm, _⟩, _⟩ := hB.am
      rw [e] at hc
      unfold World.cell? at hc
      simp [hm] at hc
    · obtain ⟨D, ⟨ms, ck, hm, _⟩, _⟩ := hB.su
      rw [e] at hc
      unfold World.cell? at hc
      simp [hm] at hc
theorem kupd_self {κ : Type} [DecidableEq κ] (F : κ → Nat) (k : κ) (n : Nat) : kupd F k n k = n := by simp [kupd]
theorem moveR_no {st : Bst} {a b d : ByteArray} {n : Nat} (h : (moveR st a b d n).1 ≠ 0) : (moveR st a b d n).2 = st := by
  unfold moveR at *
  grind
theorem mintR_no {st : Bst} {a d : ByteArray} {n : Nat} (h : (mintR st a d n).1 ≠ 0) : (mintR st a d n).2 = st := by
  unfold mintR at *
  grind
theorem burnR_no {st : Bst} {a d : ByteArray} {n : Nat} (h : (burnR st a d n).1 ≠ 0) : (burnR st a d n).2 = st := by
  unfold burnR at *
  grind
/-- What is not refused. -/
theorem moveR_ok {st : Bst} {a b d : ByteArray} {n : Nat} (h : (moveR st a b d n).1 = 0) : ((accOk a && accOk b) && denOk d) = true ∧ 0 < n ∧ n ≤ st.F (a, d) ∧ (moveR st a b d n).2 = ⟨kmov st.F (a, d) (b, d) n, st.S⟩ := by
  unfold moveR at *
  split at h
  · rename_i h0
    obtain ⟨e1, e2⟩ := errN_ok h0
    split at h
    · cases h
    · rename_i h1
      rw [if_pos h0, if_neg h1]
      exact ⟨e1, e2, by omega, rfl⟩
  · rename_i h0
    exact absurd h h0
theorem moveR_of {st : Bst} {a b d : ByteArray} {n : Nat} (h1 : ((accOk a && accOk b) && denOk d) = true) (h2 : 0 < n) (h3 : n ≤ st.F (a, d)) : moveR st a b d n = (0, ⟨kmov st.F (a, d) (b, d) n, st.S⟩) := by
  have e : errN ((accOk a && accOk b) && denOk d) n = 0 := by rw [h1]; exact errN_pos (by omega)
  unfold moveR
  rw [if_pos e, if_neg (by omega)]
theorem mintR_ok {st : Bst} {a d : ByteArray} {n : Nat} (hi : Inv st.F st.S) (h : (mintR st a d n).1 = 0) : (accOk a && denOk d) = true ∧ 0 < n ∧ st.S d + n < 18446744073709551616 ∧ (mintR st a d n).2 = ⟨kupd st.F (a, d) (st.F (a, d) + n), kupd st.S d (st.S d + n)⟩ := by
  have hl := hi.lim d
  unfold mintR at *
  split at h
  · rename_i h0
    obtain ⟨e1, e2⟩ := errN_ok h0
    split at h
    · cases h
    · rename_i h1
      rw [if_pos h0, if_neg h1]
      exact ⟨e1, e2, by omega, rfl⟩
  · rename_i h0
    exact absurd h h0
theorem mintR_of {st : Bst} {a d : ByteArray} {n : Nat} (h1 : (accOk a && denOk d) = true) (h2 : 0 < n) (h3 : st.S d + n < 18446744073709551616) : mintR st a d n = (0, ⟨kupd st.F (a, d) (st.F (a, d) + n), kupd st.S d (st.S d + n)⟩) := by
  have e : errN (accOk a && denOk d) n = 0 := by rw [h1]; exact errN_pos (by omega)
  unfold mintR
  rw [if_pos e, if_neg (by omega)]
theorem burnR_ok {st : Bst} {a d : ByteArray} {n : Nat} (h : (burnR st a d n).1 = 0) : (accOk a && denOk d) = true ∧ 0 < n ∧ n ≤ st.F (a, d) ∧ (burnR st a d n).2 = ⟨kupd st.F (a, d) (st.F (a, d) - n), kupd st.S d (st.S d - n)⟩ := by
  unfold burnR at *
  split at h
  · rename_i h0
    obtain ⟨e1, e2⟩ := errN_ok h0
    split at h
    · cases h
    · rename_i h1
      rw [if_pos h0, if_neg h1]
      exact ⟨e1, e2, by omega, rfl⟩
  · rename_i h0
    exact absurd h h0
theorem burnR_of {st : Bst} {a d : ByteArray} {n : Nat} (h1 : (accOk a && denOk d) = true) (h2 : 0 < n) (h3 : n ≤ st.F (a, d)) : burnR st a d n = (0, ⟨kupd st.F (a, d) (st.F (a, d) - n), kupd st.S d (st.S d - n)⟩) := by
  have e : errN (accOk a && denOk d) n = 0 := by rw [h1]; exact errN_pos (by omega)
  unfold burnR
  rw [if_pos e, if_neg (by omega)]
theorem back_move {st : Bst} {a b d : ByteArray} {n : Nat} (h : (moveR st a b d n).1 = 0) : (moveR (moveR st a b d n).2 b a d n).1 = 0 ∧ (moveR (moveR st a b d n).2 b a d n).2 = st := by
  obtain ⟨h1, h2, h3, h4⟩ := moveR_ok h
  rw [h4]
  have e := moveR_of (st := ⟨kmov st.F (a, d) (b, d) n, st.S⟩) (a := b) (b := a) (d := d) (n := n) (by rw [Bool.and_comm (accOk b)]; exact h1) h2 (kmov_can h3)
  rw [e]
  refine ⟨rfl, ?_⟩
  dsimp only
  rw [kmov_back h3]
theorem back_mint {st : Bst} (hi : Inv st.F st.S) {a d : ByteArray} {n : Nat} (h : (mintR st a d n).1 = 0) : (burnR (mintR st a d n).2 a d n).1 = 0 ∧ (burnR (mintR st a d n).2 a d n).2.F = st.F := by
  obtain ⟨h1, h2, h3, h4⟩ := mintR_ok hi h
  rw [h4]
  have e := burnR_of (st := ⟨kupd st.F (a, d) (st.F (a, d) + n), kupd st.S d (st.S d + n)⟩) (a := a) (d := d) (n := n) h1 h2 (by dsimp only; rw [kupd_self]; omega)
  rw [e]
  refine ⟨rfl, ?_⟩
  dsimp only
  exact mint_back
end Go.Proofs.YtahlfncijbkcoaaDoor
