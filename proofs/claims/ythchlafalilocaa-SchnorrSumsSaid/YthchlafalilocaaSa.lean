/- Arguments that are numbers of 64 bits. -/
import Derived.Test.YthchlafalilocaaFm
import Derived.Test.YthchlafalilocaaSc
namespace Go.Proofs.Ythchlafalilocaa
open Go.ChangeShapes Go.WideShapes Go.ChangeAt Go.RowKit
set_option linter.unusedVariables false

theorem u64_of_wf {n : Int} (h : (Lit.int .u64 n).wf = true) : ∃ m : Nat, n = (m : Int) ∧ m < 18446744073709551616 := by
  have m1 : IntKind.u64.min = 0 := by decide
  have m2 : IntKind.u64.max = 18446744073709551615 := by decide
  simp only [Lit.wf, m1, m2, Bool.and_eq_true, decide_eq_true_eq] at h
  exact ⟨n.toNat, by omega, by omega⟩
theorem u64_arg {W : World} {v : Value} (h : Okv Try.prog W 22 v) : ∃ n : Nat, v = .int .u64 (n : Int) ∧ n < 18446744073709551616 := by
  obtain ⟨h1, h2⟩ := h
  simp only [Try.underlying22] at h1
  have h3 := h2 1
  unfold Okc at h3
  simp only [Try.underlying22] at h3
  obtain ⟨x, h4, h5⟩ := h3
  obtain ⟨n, rfl, hn⟩ := u64_of_wf h5
  refine ⟨n, ?_, hn⟩
  rw [h1] at h4
  simpa using h4
end Go.Proofs.Ythchlafalilocaa
