/- What Order and Proposer answer, as functions of the set and the number; an argument of two numbers. -/
import Derived.Test.YtalfaoljbhmihaaTa
namespace Go.Proofs.Ytalfaoljbhmihaa
open Go.RowKit Go.Shelf
set_option linter.unusedVariables false
set_option linter.unusedSimpArgs false
set_option maxRecDepth 20000

open Classical in
noncomputable def oks (l : List Va) (n : Int) : List Nat := if Rt l ∧ 0 ≤ n ∧ n ≤ 4096 then ords l n.toNat else []
open Classical in
noncomputable def oer (l : List Va) (n : Int) : Int := if Rt l then (if 0 ≤ n ∧ n ≤ 4096 then 0 else 81) else 71
open Classical in
noncomputable def pks (l : List Va) (t : Int) : Nat := if Rt l ∧ 0 ≤ t ∧ t < 4096 then keyAt l (who l (sumP l) t.toNat) else 0
open Classical in
noncomputable def per (l : List Va) (t : Int) : Int := if Rt l then (if 0 ≤ t ∧ t < 4096 then 0 else 81) else 71
theorem oks_len (l : List Va) (n : Int) : (oks l n).length ≤ 4096 := by
  unfold oks
  split
  · rw [ords_len]; omega
  · simp
theorem ord_is {w w' : World} {l : List Va} {n : Int} {e : Ending} (h : Ord w l n e w') : Chg Non w w' ∧ ∃ A c, e = .returned (.tuple #[.slice A (oks l n).length c, .int .i64 (oer l n)]) ∧ LstM w' A (oks l n) keyC 1 := by
  obtain ⟨k, ⟨h1, rfl⟩ | ⟨h1, h2, rfl⟩ | ⟨h1, h2, h3, v, rfl, hv⟩⟩ := h
  · refine ⟨k, none, 0, ?_, ?_⟩
    · simp [oks, oer, h1]
    · intro i x hx
      simp [oks, h1] at hx
  · have h3 : ¬ (0 ≤ n ∧ n ≤ 4096) := by omega
    have h4 : ¬ (Rt l ∧ 0 ≤ n ∧ n ≤ 4096) := fun h => h3 h.2
    refine ⟨k, none, 0, ?_, ?_⟩
    · unfold oks oer
      rw [if_neg h4, if_pos h1, if_neg h3]
      rfl
    · intro i x hx
      unfold oks at hx
      rw [if_neg h4] at hx
      simp at hx
  · obtain ⟨A, c, rfl, _, _, L⟩ := hv.slice
    have e1 : oks l n = ords l n.toNat := by unfold oks; rw [if_pos ⟨h1, h2, h3⟩]
    have e2 : oer l n = 0 := by unfold oer; rw [if_pos h1, if_pos ⟨h2, h3⟩]
    refine ⟨k, A, c, ?_, ?_⟩
    · rw [e1, e2]
    · rw [e1]; exact L
theorem pro_is {w w' : World} {l : List Va} {t : Int} {e : Ending} (h : Pro w l t e w') : Chg Non w w' ∧ e = .returned (.tuple #[.int .u64 (pks l t : Int), .int .i64 (per l t)]) := by
  obtain ⟨k, ⟨h1, rfl⟩ | ⟨h1, h2, rfl⟩ | ⟨h1, h2, h3, rfl⟩⟩ := h
  · refine ⟨k, ?_⟩
    simp [pks, per, h1]
  · have h3 : ¬ (0 ≤ t ∧ t < 4096) := by omega
    have h4 : ¬ (Rt l ∧ 0 ≤ t ∧ t < 4096) := fun h => h3 h.2
    refine ⟨k, ?_⟩
    unfold pks per
    rw [if_neg h4, if_pos h1, if_neg h3]
    rfl
  · refine ⟨k, ?_⟩
    unfold pks per
    rw [if_pos ⟨h1, h2, h3⟩, if_pos h1, if_pos ⟨h2, h3⟩]

theorem two_cells : Try.prog.cellsOf 23 = 2 := by kernel_rfl
theorem pair_arg {w : World} {v : Value} (h : Okv Try.prog w 23 v) : ∃ a b : Int, v = .agg #[.int .i64 a, .int .i64 b] ∧ (-9223372036854775808 ≤ a ∧ a ≤ 9223372036854775807) ∧ (-9223372036854775808 ≤ b ∧ b ≤ 9223372036854775807) := by
  obtain ⟨h1, h2⟩ := h
  simp only [Try.underlying23] at h1
  obtain ⟨cs, rfl⟩ := h1
  have h3 := h2 2
  unfold Okc at h3
  simp only [Try.underlying23] at h3
  obtain ⟨hl, hb⟩ := h3
  rw [two_cells] at hl
  obtain ⟨ls⟩ := cs
  match ls, hl with
  | [x, y], _ =>
    obtain ⟨a, ea, ha⟩ := okc_i64 Try.underlying3 (hb 0 (by omega))
    obtain ⟨b, eb, hb'⟩ := okc_i64 Try.underlying3 (hb 1 (by omega))
    rw [int_cells] at ea eb
    have ea' : [x] = [Value.int .i64 a] := ea
    have eb' : [y] = [Value.int .i64 b] := eb
    injection ea' with ea'
    injection eb' with eb'
    exact ⟨a, b, by rw [ea', eb'], ha, hb'⟩
end Go.Proofs.Ytalfaoljbhmihaa
