/- Things of package forms as arguments: their cells out of a reading. -/
import Derived.Test.YtjcfdclgddjaoaaChecked
import Derived.WalkKit
import Derived.Lib.Hide
import Derived.Test.YtjcfdclgddjaoaaFm
import Derived.Test.YtjcfdclgddjaoaaFz
import Derived.Test.YtjcfdclgddjaoaaEh
namespace Go.Proofs.Ytjcfdclgddjaoaa
open Go.RowKit
set_option linter.unusedVariables false
set_option linter.unusedSimpArgs false
set_option maxRecDepth 20000

theorem cut (cs : List Value) (a b c : Nat) (h : a + b = c) : cs.drop a = (cs.drop a).take b ++ cs.drop c := by
  subst h
  rw [← List.drop_drop, List.take_append_drop]
theorem okc_i64 {w : World} {n : Nat} {t : TypeId} {cs : List Value} (hu : Try.prog.underlying t = some (.int .i64)) (h : Okc Try.prog w (n + 1) t cs) : ∃ x, cs = [.int .i64 x] ∧ I64 x := by
  unfold Okc at h
  simp only [hu] at h
  obtain ⟨x, h1, h2⟩ := h
  exact ⟨x, h1, (i64_bounds h2).1, (i64_bounds h2).2⟩
theorem okc_u64 {w : World} {n : Nat} {cs : List Value} (h : Okc Try.prog w (n + 1) 46 cs) : ∃ x : Nat, cs = [.int .u64 (x : Int)] ∧ x < 18446744073709551616 := by
  unfold Okc at h
  simp only [Try.underlying46] at h
  obtain ⟨x, h1, h2⟩ := h
  obtain ⟨m, rfl, hm⟩ := u64_nat h2
  exact ⟨m, h1, hm⟩
theorem okc_str {w : World} {n : Nat} {cs : List Value} (h : Okc Try.prog w (n + 1) 9 cs) : ∃ s, cs = [.string s] ∧ s.size ≤ maxLen := by
  unfold Okc at h
  simp only [Try.underlying9] at h
  exact h
theorem okc_hash {w : World} {n : Nat} {cs : List Value} (h : Okc Try.prog w (n + 2) 45 cs) : ∃ hs : List UInt8, cs = bv hs ∧ hs.length = 32 := by
  unfold Okc at h
  simp only [Try.underlying45] at h
  obtain ⟨hl, hb⟩ := h
  rw [hash_cells] at hl
  obtain ⟨hs, rfl⟩ := bytes_of cs (fun i hi => by
    have h1 := hb i (by omega)
    unfold Okc at h1
    simp only [Try.underlying5, byte_cells, Nat.mul_one] at h1
    obtain ⟨x, h2, h3⟩ := h1
    refine ⟨x, ?_, h3⟩
    have : (cs.drop i)[0]? = some (.int .u8 x) := by
      have h4 : ((cs.drop i).take 1)[0]? = some (.int .u8 x) := by rw [h2]; rfl
      rw [List.getElem?_take] at h4
      simpa using h4
    simpa using this)
  exact ⟨hs, rfl, by rw [bv_length] at hl; exact hl⟩
theorem sig_cells : Try.prog.cellsOf 48 = 2 := by kernel_rfl
theorem type_cells : Try.prog.cellsOf 43 = 1 := by kernel_rfl
theorem okc_sig {w : World} {n : Nat} {cs : List Value} (h : Okc Try.prog w (n + 2) 48 cs) : ∃ x y : Nat, cs = [.int .u64 (x : Int), .int .u64 (y : Int)] ∧ x < 18446744073709551616 ∧ y < 18446744073709551616 := by
  unfold Okc at h
  simp only [Try.underlying48] at h
  obtain ⟨hl, hf⟩ := h
  rw [sig_cells] at hl
  have h0 : Okc Try.prog w (n + 1) 46 ((cs.drop 0).take (Try.prog.cellsOf 46)) := hf 0 _ rfl
  have h1 : Okc Try.prog w (n + 1) 46 ((cs.drop 1).take (Try.prog.cellsOf 46)) := hf 1 _ rfl
  rw [u64_cells] at h0 h1
  obtain ⟨x, e0, b0⟩ := okc_u64 h0
  obtain ⟨y, e1, b1⟩ := okc_u64 h1
  have c0 := cut cs 0 1 1 rfl
  have c1 := cut cs 1 1 2 rfl
  rw [e0] at c0
  rw [e1, List.drop_of_length_le (i := 2) (by omega)] at c1
  rw [c1] at c0
  exact ⟨x, y, c0, b0, b1⟩
theorem vote_cells : Try.prog.cellsOf 50 = 39 := by kernel_rfl
theorem vote_of {w : World} {n : Nat} {cs : List Value} (h : Okc Try.prog w (n + 3) 50 cs) : ∃ x : Vt, cs = x.cells ∧ x.Ok := by
  unfold Okc at h
  simp only [Try.underlying50] at h
  obtain ⟨hl, hf⟩ := h
  rw [vote_cells] at hl
  have h0 : Okc Try.prog w (n + 2) 9 ((cs.drop 0).take (Try.prog.cellsOf 9)) := hf 0 _ rfl
  have h1 : Okc Try.prog w (n + 2) 3 ((cs.drop 1).take (Try.prog.cellsOf 3)) := hf 1 _ rfl
  have h2 : Okc Try.prog w (n + 2) 3 ((cs.drop 2).take (Try.prog.cellsOf 3)) := hf 2 _ rfl
  have h3 : Okc Try.prog w (n + 2) 43 ((cs.drop 3).take (Try.prog.cellsOf 43)) := hf 3 _ rfl
  have h4 : Okc Try.prog w (n + 2) 45 ((cs.drop 4).take (Try.prog.cellsOf 45)) := hf 4 _ rfl
  have h5 : Okc Try.prog w (n + 2) 46 ((cs.drop 36).take (Try.prog.cellsOf 46)) := hf 5 _ rfl
  have h6 : Okc Try.prog w (n + 2) 48 ((cs.drop 37).take (Try.prog.cellsOf 48)) := hf 6 _ rfl
  rw [str_cells] at h0
  rw [int_cells] at h1 h2
  rw [type_cells] at h3
  rw [hash_cells] at h4
  rw [u64_cells] at h5
  rw [sig_cells] at h6
  obtain ⟨a0, e0, b0⟩ := okc_str h0
  obtain ⟨a1, e1, b1⟩ := okc_i64 Try.underlying3 h1
  obtain ⟨a2, e2, b2⟩ := okc_i64 Try.underlying3 h2
  obtain ⟨a3, e3, b3⟩ := okc_i64 Try.underlying43 h3
  obtain ⟨a4, e4, b4⟩ := okc_hash h4
  obtain ⟨a5, e5, b5⟩ := okc_u64 h5
  obtain ⟨a6, a7, e6, b6, b7⟩ := okc_sig h6
  refine ⟨⟨a0, a1, a2, a3, a4, a5, a6, a7⟩, ?_, ⟨b0, b1, b2, b3, b4, b5, b6, b7⟩⟩
  have c0 := cut cs 0 1 1 rfl
  have c1 := cut cs 1 1 2 rfl
  have c2 := cut cs 2 1 3 rfl
  have c3 := cut cs 3 1 4 rfl
  have c4 := cut cs 4 32 36 rfl
  have c5 := cut cs 36 1 37 rfl
  have c6 := cut cs 37 2 39 rfl
  rw [e6, List.drop_of_length_le (i := 39) (by omega)] at c6
  rw [e5, c6] at c5
  rw [e4, c5] at c4
  rw [e3, c4] at c3
  rw [e2, c3] at c2
  rw [e1, c2] at c1
  rw [e0, c1] at c0
  exact c0
/-- A struct's cells. -/
theorem agg_arg {w : World} {t : TypeId} {fs : Array Field} {v : Value} (hu : Try.prog.underlying t = some (.struct fs)) (h : Okv Try.prog w t v) : ∃ cs, v = .agg cs ∧ ∀ n, Okc Try.prog w n t cs.toList := by
  obtain ⟨hv, ho⟩ := h
  simp only [hu] at hv
  obtain ⟨cs, rfl⟩ := hv
  exact ⟨cs, rfl, ho⟩
theorem vote_arg {w : World} {v : Value} (h : Okv Try.prog w 50 v) : ∃ x : Vt, v = .agg x.cells.toArray ∧ x.Ok := by
  obtain ⟨cs, rfl, ho⟩ := agg_arg Try.underlying50 h
  obtain ⟨x, hx, ox⟩ := vote_of (ho 3)
  exact ⟨x, by rw [← hx], ox⟩
theorem packet_cells : Try.prog.cellsOf 23 = 4 := by kernel_rfl
theorem packet_of {w : World} {n : Nat} {cs : List Value} (h : Okc Try.prog w (n + 2) 23 cs) : ∃ x : Pk, cs = x.cells ∧ x.Ok := by
  unfold Okc at h
  simp only [Try.underlying23] at h
  obtain ⟨hl, hf⟩ := h
  rw [packet_cells] at hl
  have h0 : Okc Try.prog w (n + 1) 3 ((cs.drop 0).take (Try.prog.cellsOf 3)) := hf 0 _ rfl
  have h1 : Okc Try.prog w (n + 1) 9 ((cs.drop 1).take (Try.prog.cellsOf 9)) := hf 1 _ rfl
  have h2 : Okc Try.prog w (n + 1) 9 ((cs.drop 2).take (Try.prog.cellsOf 9)) := hf 2 _ rfl
  have h3 : Okc Try.prog w (n + 1) 3 ((cs.drop 3).take (Try.prog.cellsOf 3)) := hf 3 _ rfl
  rw [str_cells] at h1 h2
  rw [int_cells] at h0 h3
  obtain ⟨a0, e0, b0⟩ := okc_i64 Try.underlying3 h0
  obtain ⟨a1, e1, b1⟩ := okc_str h1
  obtain ⟨a2, e2, b2⟩ := okc_str h2
  obtain ⟨a3, e3, b3⟩ := okc_i64 Try.underlying3 h3
  refine ⟨⟨a0, a1, a2, a3⟩, ?_, ⟨b0, b1, b2, b3⟩⟩
  have c0 := cut cs 0 1 1 rfl
  have c1 := cut cs 1 1 2 rfl
  have c2 := cut cs 2 1 3 rfl
  have c3 := cut cs 3 1 4 rfl
  rw [e3, List.drop_of_length_le (i := 4) (by omega)] at c3
  rw [e2, c3] at c2
  rw [e1, c2] at c1
  rw [e0, c1] at c0
  exact c0
theorem packet_arg {w : World} {v : Value} (h : Okv Try.prog w 23 v) : ∃ x : Pk, v = .agg x.cells.toArray ∧ x.Ok := by
  obtain ⟨cs, rfl, ho⟩ := agg_arg Try.underlying23 h
  obtain ⟨x, hx, ox⟩ := packet_of (ho 2)
  exact ⟨x, by rw [← hx], ox⟩
end Go.Proofs.Ytjcfdclgddjaoaa
