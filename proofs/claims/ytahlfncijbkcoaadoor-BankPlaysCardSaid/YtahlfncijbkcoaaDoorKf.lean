/- What the bank keeps: supplies are what all have; and acts, in words. -/
import Derived.Test.YtahlfncijbkcoaaDoorKe
namespace Go.Proofs.YtahlfncijbkcoaaDoor
open Go.RowKit
set_option linter.unusedVariables false
set_option linter.unusedSimpArgs false
set_option maxRecDepth 20000

/-- Supplies are what all accounts have, below 2^64; all names may be. -/
structure Inv (F : Key → Nat) (S : ByteArray → Nat) : Prop where
  lst : ∃ l, Lsg F l ∧ ∀ d, S d = ksup Prod.snd l d
  lim : ∀ d, S d < 18446744073709551616
  fine : Fine F
theorem Inv.le {F : Key → Nat} {S : ByteArray → Nat} (h : Inv F S) (k : Key) : F k ≤ S k.2 := by
  obtain ⟨l, h1, h2⟩ := h.lst
  rw [h2]
  exact h1.le_sup Prod.snd k
theorem Inv.lt {F : Key → Nat} {S : ByteArray → Nat} (h : Inv F S) (k : Key) : F k < 18446744073709551616 := Nat.lt_of_le_of_lt (h.le k) (h.lim _)
theorem Inv.none : Inv (fun _ => 0) (fun _ => 0) := ⟨⟨[], Lsg.none, fun d => rfl⟩, fun d => by simp, Fine.none⟩
theorem Inv.mint {F : Key → Nat} {S : ByteArray → Nat} (h : Inv F S) {a d : ByteArray} {n : Nat} (h1 : accOk a = true) (h2 : denOk d = true) (h3 : S d + n < 18446744073709551616) : Inv (kupd F (a, d) (F (a, d) + n)) (kupd S d (S d + n)) := by
  obtain ⟨l, g1, g2⟩ := h.lst
  refine ⟨⟨_, g1.put (a, d) (F (a, d) + n), fun x => ?_⟩, fun x => ?_, h.fine.put h1 h2 _⟩
  · have := g1.sup_put Prod.snd (a, d) (F (a, d) + n) x
    dsimp only at this
    have e := g2 x
    unfold kupd
    by_cases hx : x = d
    · subst hx
      rw [if_pos rfl]
      rw [if_pos rfl, if_pos rfl] at this
      omega
    · rw [if_neg hx]
      have hx' : ¬ d = x := fun e => hx e.symm
      rw [if_neg hx', if_neg hx'] at this
      omega
  · have := h.lim x
    unfold kupd
    split <;> omega
theorem Inv.burn {F : Key → Nat} {S : ByteArray → Nat} (h : Inv F S) {a d : ByteArray} {n : Nat} (h1 : accOk a = true) (h2 : denOk d = true) (h3 : n ≤ F (a, d)) : Inv (kupd F (a, d) (F (a, d) - n)) (kupd S d (S d - n)) := by
  obtain ⟨l, g1, g2⟩ := h.lst
  have hle := h.le (a, d)
  refine ⟨⟨_, g1.put (a, d) (F (a, d) - n), fun x => ?_⟩, fun x => ?_, h.fine.put h1 h2 _⟩
  · have := g1.sup_put Prod.snd (a, d) (F (a, d) - n) x
    dsimp only at this hle
    have e := g2 x
    unfold kupd
    by_cases hx : x = d
    · subst hx
      rw [if_pos rfl]
      rw [if_pos rfl, if_pos rfl] at this
      omega
    · rw [if_neg hx]
      have hx' : ¬ d = x := fun e => hx e.symm
      rw [if_neg hx', if_neg hx'] at this
      omega
  · have := h.lim x
    have := h.lim d
    unfold kupd
    split <;> omega
theorem Inv.move {F : Key → Nat} {S : ByteArray → Nat} (h : Inv F S) {a b d : ByteArray} {n : Nat} (h1 : accOk a = true) (h1' : accOk b = true) (h2 : denOk d = true) (h3 : n ≤ F (a, d)) : Inv (kmov F (a, d) (b, d) n) S := by
  obtain ⟨l, g1, g2⟩ := h.lst
  have p1 := g1.put (a, d) (F (a, d) - n)
  have p2 := p1.put (b, d) (kupd F (a, d) (F (a, d) - n) (b, d) + n)
  refine ⟨⟨_, p2, fun x => ?_⟩, h.lim, (h.fine.put h1 h2 _).put h1' h2 _⟩
  rw [g2 x]
  exact (kmov_sup Prod.snd g1 p2 h3 rfl x).symm

/-- A bank in words: who has how much; supplies. -/
structure Bst where
  F : Key → Nat
  S : ByteArray → Nat
def Bst.none : Bst := ⟨fun _ => 0, fun _ => 0⟩
def mintR (st : Bst) (a d : ByteArray) (n : Nat) : Int × Bst :=
  if errN (accOk a && denOk d) n = 0 then (if 18446744073709551615 - st.S d < n then (182, st) else (0, ⟨kupd st.F (a, d) (st.F (a, d) + n), kupd st.S d (st.S d + n)⟩)) else (errN (accOk a && denOk d) n, st)
def burnR (st : Bst) (a d : ByteArray) (n : Nat) : Int × Bst :=
  if errN (accOk a && denOk d) n = 0 then (if st.F (a, d) < n then (181, st) else (0, ⟨kupd st.F (a, d) (st.F (a, d) - n), kupd st.S d (st.S d - n)⟩)) else (errN (accOk a && denOk d) n, st)
def moveR (st : Bst) (a b d : ByteArray) (n : Nat) : Int × Bst :=
  if errN ((accOk a && accOk b) && denOk d) n = 0 then (if st.F (a, d) < n then (181, st) else (0, ⟨kmov st.F (a, d) (b, d) n, st.S⟩)) else (errN ((accOk a && accOk b) && denOk d) n, st)
theorem errN_ok {b : Bool} {n : Nat} (h : errN b n = 0) : b = true ∧ 0 < n := by
  unfold errN at h
  split at h
  · rename_i hb
    split at h
    · cases h
    · exact ⟨hb, by omega⟩
  · cases h
theorem mintR_inv {st : Bst} (h : Inv st.F st.S) (a d : ByteArray) (n : Nat) : Inv (mintR st a d n).2.F (mintR st a d n).2.S := by
  unfold mintR
  split
  · rename_i h0
    obtain ⟨e, _⟩ := errN_ok h0
    rw [Bool.and_eq_true] at e
    split
    · exact h
    · have := h.lim d
      exact h.mint e.1 e.2 (by omega)
  · exact h
theorem burnR_inv {st : Bst} (h : Inv st.F st.S) (a d : ByteArray) (n : Nat) : Inv (burnR st a d n).2.F (burnR st a d n).2.S := by
  unfold burnR
  split
  · rename_i h0
    obtain ⟨e, _⟩ := errN_ok h0
    rw [Bool.and_eq_true] at e
    split
    · exact h
    · exact h.burn e.1 e.2 (by omega)
  · exact h
theorem moveR_inv {st : Bst} (h : Inv st.F st.S) (a b d : ByteArray) (n : Nat) : Inv (moveR st a b d n).2.F (moveR st a b d n).2.S := by
  unfold moveR
  split
  · rename_i h0
    obtain ⟨e, _⟩ := errN_ok h0
    rw [Bool.and_eq_true, Bool.and_eq_true] at e
    split
    · exact h
    · exact h.move e.1.1 e.1.2 e.2 (by omega)
  · exact h
end Go.Proofs.YtahlfncijbkcoaaDoor
