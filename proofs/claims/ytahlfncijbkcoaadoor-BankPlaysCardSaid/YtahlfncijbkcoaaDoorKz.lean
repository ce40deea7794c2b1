/- In parts, in words; two banks apart; numbers as arguments. -/
import Derived.Test.YtahlfncijbkcoaaDoorKy
import Derived.Test.YtahlfncijbkcoaaDoorKj
namespace Go.Proofs.YtahlfncijbkcoaaDoor
open Go.RowKit
set_option linter.unusedVariables false
set_option linter.unusedSimpArgs false
set_option maxRecDepth 20000

/-- Two banks lie apart: what one changes is none of the other's. -/
def Far3 (g b1 b2 G c1 c2 : Nat) : Prop := ¬ Bb b1 b2 G ∧ ¬ Bb b1 b2 c1 ∧ ¬ Bb b1 b2 c2 ∧ ¬ Bb c1 c2 g ∧ ¬ Bb c1 c2 b1 ∧ ¬ Bb c1 c2 b2
theorem u64_arg {w : World} {v : Value} (h : Okv Tryd.prog w 30 v) : ∃ n : Nat, v = .int .u64 (n : Int) ∧ n < 18446744073709551616 := by
  obtain ⟨hv, ho⟩ := h
  simp only [Tryd.underlying30] at hv
  obtain ⟨n, e, hn⟩ := okc_u64 (ho 1)
  rw [hv] at e
  exact ⟨n, by simpa using e, hn⟩
theorem parts {st : Bst} (hi : Inv st.F st.S) {kd : Int} {s t d : ByteArray} {n k : Nat} (hk : 1 ≤ k) (hkn : k < n) (hkd : kd = 1 ∨ kd = 2 ∨ kd = 3) (h : (doR st ⟨kd, s, t, d, n⟩).1 = 0) :
    (doR st ⟨kd, s, t, d, k⟩).1 = 0 ∧ (doR (doR st ⟨kd, s, t, d, k⟩).2 ⟨kd, s, t, d, n - k⟩).1 = 0 ∧ (doR (doR st ⟨kd, s, t, d, k⟩).2 ⟨kd, s, t, d, n - k⟩).2 = (doR st ⟨kd, s, t, d, n⟩).2 := by
  rcases hkd with rfl | rfl | rfl
  · have e : ∀ (st : Bst) (n : Nat), doR st ⟨1, s, t, d, n⟩ = mintR st t d n := fun st n => if_pos rfl
    rw [e] at h ⊢
    rw [e, e]
    obtain ⟨h1, h2, h3, h4⟩ := mintR_ok hi h
    have e1 := mintR_of (st := st) (n := k) h1 (by omega) (by omega)
    have e2 := mintR_of (st := (mintR st t d k).2) (n := n - k) h1 (by omega) (by rw [e1]; dsimp only; rw [kupd_self]; omega)
    rw [e2, h4, e1]
    refine ⟨rfl, rfl, ?_⟩
    dsimp only
    rw [mint_parts (by omega), mint_parts (by omega)]
  · have e : ∀ (st : Bst) (n : Nat), doR st ⟨2, s, t, d, n⟩ = burnR st s d n := fun st n => rfl
    rw [e] at h ⊢
    rw [e, e]
    obtain ⟨h1, h2, h3, h4⟩ := burnR_ok h
    have hle := hi.le (s, d)
    dsimp only at hle
    have e1 := burnR_of (st := st) (n := k) h1 (by omega) (by omega)
    have e2 := burnR_of (st := (burnR st s d k).2) (n := n - k) h1 (by omega) (by rw [e1]; dsimp only; rw [kupd_self]; omega)
    rw [e2, h4, e1]
    refine ⟨rfl, rfl, ?_⟩
    dsimp only
    rw [burn_parts (by omega) (by omega), burn_parts (by omega) (by omega)]
  · have e : ∀ (st : Bst) (n : Nat), doR st ⟨3, s, t, d, n⟩ = moveR st s t d n := fun st n => rfl
    rw [e] at h ⊢
    rw [e, e]
    obtain ⟨h1, h2, h3, h4⟩ := moveR_ok h
    have e1 := moveR_of (st := st) (n := k) h1 (by omega) (by omega)
    have e2 := moveR_of (st := (moveR st s t d k).2) (n := n - k) h1 (by omega) (by rw [e1]; exact kmov_parts_can h3 (by omega))
    rw [e2, h4, e1]
    refine ⟨rfl, rfl, ?_⟩
    dsimp only
    rw [kmov_parts h3 (by omega)]
end Go.Proofs.YtahlfncijbkcoaaDoor
