/- Light blocks as arguments: their cells and their lists out of a reading. -/
import Derived.Test.YtjcfdclgddjaoaaChecked
import Derived.WalkKit
import Derived.Lib.Hide
import Derived.Test.YtjcfdclgddjaoaaFa6
import Derived.Test.YtjcfdclgddjaoaaFxl
namespace Go.Proofs.Ytjcfdclgddjaoaa
open Go.RowKit
set_option linter.unusedVariables false
set_option linter.unusedSimpArgs false
set_option maxRecDepth 20000

theorem va_cells : Try.prog.cellsOf 125 = 2 := by kernel_rfl
theorem se_cells : Try.prog.cellsOf 127 = 3 := by kernel_rfl
theorem header_cells : Try.prog.cellsOf 54 = 163 := by kernel_rfl
theorem commit_cells : Try.prog.cellsOf 68 = 35 := by kernel_rfl
theorem light_cells : Try.prog.cellsOf 72 = 200 := by kernel_rfl
theorem vas_cells : Try.prog.cellsOf 63 = 1 := by kernel_rfl
theorem ses_cells : Try.prog.cellsOf 66 = 1 := by kernel_rfl

theorem va_of {w : World} {n : Nat} {cs : List Value} (h : Okc Try.prog w (n + 2) 125 cs) : ∃ x : Va, cs = x.cells ∧ x.Ok := by
  unfold Okc at h
  simp only [Try.underlying125] at h
  obtain ⟨hl, hf⟩ := h
  rw [va_cells] at hl
  have h0 : Okc Try.prog w (n + 1) 46 ((cs.drop 0).take (Try.prog.cellsOf 46)) := hf 0 _ rfl
  have h1 : Okc Try.prog w (n + 1) 3 ((cs.drop 1).take (Try.prog.cellsOf 3)) := hf 1 _ rfl
  rw [u64_cells] at h0
  rw [int_cells] at h1
  obtain ⟨a0, e0, b0⟩ := okc_u64 h0
  obtain ⟨a1, e1, b1⟩ := okc_i64 Try.underlying3 h1
  refine ⟨⟨a0, a1⟩, ?_, ⟨b0, b1⟩⟩
  have c0 := cut cs 0 1 1 rfl
  have c1 := cut cs 1 1 2 rfl
  rw [e1, List.drop_of_length_le (i := 2) (by omega)] at c1
  rw [e0, c1] at c0
  exact c0
theorem se_of {w : World} {n : Nat} {cs : List Value} (h : Okc Try.prog w (n + 3) 127 cs) : ∃ x : Se, cs = x.cells ∧ x.Ok := by
  unfold Okc at h
  simp only [Try.underlying127] at h
  obtain ⟨hl, hf⟩ := h
  rw [se_cells] at hl
  have h0 : Okc Try.prog w (n + 2) 46 ((cs.drop 0).take (Try.prog.cellsOf 46)) := hf 0 _ rfl
  have h1 : Okc Try.prog w (n + 2) 48 ((cs.drop 1).take (Try.prog.cellsOf 48)) := hf 1 _ rfl
  rw [u64_cells] at h0
  rw [sig_cells] at h1
  obtain ⟨a0, e0, b0⟩ := okc_u64 h0
  obtain ⟨a1, a2, e1, b1, b2⟩ := okc_sig h1
  refine ⟨⟨a0, a1, a2⟩, ?_, ⟨b0, b1, b2⟩⟩
  have c0 := cut cs 0 1 1 rfl
  have c1 := cut cs 1 2 3 rfl
  rw [e1, List.drop_of_length_le (i := 3) (by omega)] at c1
  rw [e0, c1] at c0
  exact c0
theorem header_of {w : World} {n : Nat} {cs : List Value} (h : Okc Try.prog w (n + 3) 54 cs) : ∃ x : Hd, cs = x.cells ∧ x.Ok := by
  unfold Okc at h
  simp only [Try.underlying54] at h
  obtain ⟨hl, hf⟩ := h
  rw [header_cells] at hl
  have h0 : Okc Try.prog w (n + 2) 9 ((cs.drop 0).take (Try.prog.cellsOf 9)) := hf 0 _ rfl
  have h1 : Okc Try.prog w (n + 2) 3 ((cs.drop 1).take (Try.prog.cellsOf 3)) := hf 1 _ rfl
  have h2 : Okc Try.prog w (n + 2) 3 ((cs.drop 2).take (Try.prog.cellsOf 3)) := hf 2 _ rfl
  have h3 : Okc Try.prog w (n + 2) 45 ((cs.drop 3).take (Try.prog.cellsOf 45)) := hf 3 _ rfl
  have h4 : Okc Try.prog w (n + 2) 45 ((cs.drop 35).take (Try.prog.cellsOf 45)) := hf 4 _ rfl
  have h5 : Okc Try.prog w (n + 2) 45 ((cs.drop 67).take (Try.prog.cellsOf 45)) := hf 5 _ rfl
  have h6 : Okc Try.prog w (n + 2) 45 ((cs.drop 99).take (Try.prog.cellsOf 45)) := hf 6 _ rfl
  have h7 : Okc Try.prog w (n + 2) 45 ((cs.drop 131).take (Try.prog.cellsOf 45)) := hf 7 _ rfl
  rw [str_cells] at h0
  rw [int_cells] at h1 h2
  rw [hash_cells] at h3 h4 h5 h6 h7
  obtain ⟨a0, e0, b0⟩ := okc_str h0
  obtain ⟨a1, e1, b1⟩ := okc_i64 Try.underlying3 h1
  obtain ⟨a2, e2, b2⟩ := okc_i64 Try.underlying3 h2
  obtain ⟨a3, e3, b3⟩ := okc_hash h3
  obtain ⟨a4, e4, b4⟩ := okc_hash h4
  obtain ⟨a5, e5, b5⟩ := okc_hash h5
  obtain ⟨a6, e6, b6⟩ := okc_hash h6
  obtain ⟨a7, e7, b7⟩ := okc_hash h7
  refine ⟨⟨a0, a1, a2, a3, a4, a5, a6, a7⟩, ?_, ⟨b0, b1, b2, b3, b4, b5, b6, b7⟩⟩
  have c0 := cut cs 0 1 1 rfl
  have c1 := cut cs 1 1 2 rfl
  have c2 := cut cs 2 1 3 rfl
  have c3 := cut cs 3 32 35 rfl
  have c4 := cut cs 35 32 67 rfl
  have c5 := cut cs 67 32 99 rfl
  have c6 := cut cs 99 32 131 rfl
  have c7 := cut cs 131 32 163 rfl
  rw [e7, List.drop_of_length_le (i := 163) (by omega), List.append_nil] at c7
  rw [e6, c7] at c6
  rw [e5, c6] at c5
  rw [e4, c5] at c4
  rw [e3, c4] at c3
  rw [e2, c3] at c2
  rw [e1, c2] at c1
  rw [e0, c1] at c0
  exact c0

/-- A slice of elements, out of a reading. -/
theorem slice_of {α : Type} {w : World} {n : Nat} {t e : TypeId} {cs : List Value} (ht : Try.prog.underlying t = some (.slice e)) {cells : α → List Value} {Ok : α → Prop} {sz : Nat} (hsz : Try.prog.cellsOf e = sz) (hpos : 0 < sz)
    (hel : ∀ es, Okc Try.prog w n e es → ∃ x : α, es = cells x ∧ Ok x) (h : Okc Try.prog w (n + 1) t cs) : ∃ A c l, cs = [.slice A l.length c] ∧ l.length ≤ maxLen ∧ LstM w A l cells sz ∧ ∀ x ∈ l, Ok x := by
  unfold Okc at h
  simp only [ht, hsz] at h
  rcases h with h | ⟨a, len, c, h, hlc, hcm, hi⟩
  · exact ⟨none, 0, [], h, by simp, fun i x hx => by simp at hx, by simp⟩
  · have hex : ∀ i, i < len → ∃ x : α, Ok x ∧ ∀ j, j < sz → w.cell? (a.add (i * sz + j)) = (cells x)[j]? ∧ (cells x).length = sz := by
      intro i hil
      obtain ⟨es, hl, hc, ho⟩ := hi i hil
      obtain ⟨x, rfl, ox⟩ := hel es ho
      exact ⟨x, ox, fun j hj => ⟨hc j hj, hl⟩⟩
    obtain ⟨l, hl, hP⟩ : ∃ l : List α, l.length = len ∧ ∀ i x, l[i]? = some x → Ok x ∧ ∀ j, j < sz → w.cell? (a.add (i * sz + j)) = (cells x)[j]? ∧ (cells x).length = sz := by
      clear h hlc
      have : ∀ m, m ≤ len → ∃ l : List α, l.length = m ∧ ∀ i x, l[i]? = some x → Ok x ∧ ∀ j, j < sz → w.cell? (a.add (i * sz + j)) = (cells x)[j]? ∧ (cells x).length = sz := by
        intro m
        induction m with
        | zero => intro _; exact ⟨[], rfl, by simp⟩
        | succ m ih =>
          intro hm
          obtain ⟨l, hl, hP⟩ := ih (by omega)
          obtain ⟨x, hx⟩ := hex m (by omega)
          refine ⟨l ++ [x], by simp [hl], fun i y hy => ?_⟩
          rcases Nat.lt_or_ge i m with hlt | hge
          · rw [List.getElem?_append_left (by omega)] at hy
            exact hP i y hy
          · rw [List.getElem?_append_right (by omega)] at hy
            have : i = m := by
              have := (List.getElem?_eq_some_iff.1 hy).1
              simp at this
              omega
            subst this
            simp [hl] at hy
            subst hy
            exact hx
      exact this len (Nat.le_refl _)
    subst hl
    refine ⟨some a, c, l, h, by omega, fun i x hx => ?_, fun x hx => ?_⟩
    · obtain ⟨_, hc⟩ := hP i x hx
      have h0l : 0 < l.length := by have := (List.getElem?_eq_some_iff.1 hx).1; omega
      obtain ⟨_, h0⟩ := hP 0 _ (List.getElem?_eq_getElem h0l)
      have h00 := h0 0 hpos
      rw [Nat.zero_mul, Nat.zero_add, List.getElem?_eq_getElem (by omega)] at h00
      have hadd : a.add 0 = a := by unfold Addr.add; simp
      rw [hadd] at h00
      have hsp : a.spot = none := by
        cases hs : a.spot with
        | none => rfl
        | some s =>
          have h1 := h00.1
          unfold World.cell? at h1
          simp [hs] at h1
          split at h1 <;> simp_all
      have hlt := World.block_lt_of_cell? w a h00.1
      obtain ⟨b, o, s⟩ := a
      simp only at hsp
      subst hsp
      refine ⟨b, o, rfl, hlt, fun j u hu => ?_⟩
      have hj : j < sz := by have := (List.getElem?_eq_some_iff.1 hu).1; have := (hc 0 hpos).2; omega
      have := (hc j hj).1
      rw [Addr.add_mid, ← Nat.add_assoc, hu] at this
      exact this
    · obtain ⟨i, hi⟩ := List.mem_iff_getElem?.1 hx
      exact (hP i x hi).1

theorem commit_of {w : World} {n : Nat} {cs : List Value} (h : Okc Try.prog w (n + 5) 68 cs) : ∃ (x : Cm) (A : Option Addr) (c : Nat), cs = x.cells (.slice A x.seals.length c) ∧ x.Ok ∧ x.seals.length ≤ maxLen ∧ LstM w A x.seals Se.cells 3 := by
  unfold Okc at h
  simp only [Try.underlying68] at h
  obtain ⟨hl, hf⟩ := h
  rw [commit_cells] at hl
  have h0 : Okc Try.prog w (n + 4) 3 ((cs.drop 0).take (Try.prog.cellsOf 3)) := hf 0 _ rfl
  have h1 : Okc Try.prog w (n + 4) 3 ((cs.drop 1).take (Try.prog.cellsOf 3)) := hf 1 _ rfl
  have h2 : Okc Try.prog w (n + 4) 45 ((cs.drop 2).take (Try.prog.cellsOf 45)) := hf 2 _ rfl
  have h3 : Okc Try.prog w (n + 4) 66 ((cs.drop 34).take (Try.prog.cellsOf 66)) := hf 3 _ rfl
  rw [int_cells] at h0 h1
  rw [hash_cells] at h2
  rw [ses_cells] at h3
  obtain ⟨a0, e0, b0⟩ := okc_i64 Try.underlying3 h0
  obtain ⟨a1, e1, b1⟩ := okc_i64 Try.underlying3 h1
  obtain ⟨a2, e2, b2⟩ := okc_hash h2
  obtain ⟨A, c, l, e3, hlm, M, ol⟩ := slice_of Try.underlying66 se_cells (by omega) (fun es h => se_of h) h3
  refine ⟨⟨a0, a1, a2, l⟩, A, c, ?_, ⟨b0, b1, b2, ol⟩, hlm, M⟩
  have c0 := cut cs 0 1 1 rfl
  have c1 := cut cs 1 1 2 rfl
  have c2 := cut cs 2 32 34 rfl
  have c3 := cut cs 34 1 35 rfl
  rw [e3, List.drop_of_length_le (i := 35) (by omega)] at c3
  rw [e2, c3] at c2
  rw [e1, c2] at c1
  rw [e0, c1] at c0
  exact c0
theorem light_arg {w : World} {v : Value} (h : Okv Try.prog w 72 v) : ∃ (x : Lt) (A1 A2 A3 : Option Addr) (c1 c2 c3 : Nat), v = .agg (x.cells (.slice A1 x.commit.seals.length c1) (.slice A2 x.set.length c2) (.slice A3 x.next.length c3)).toArray ∧ x.Ok ∧
    x.commit.seals.length ≤ maxLen ∧ x.set.length ≤ maxLen ∧ x.next.length ≤ maxLen ∧ LstM w A1 x.commit.seals Se.cells 3 ∧ LstM w A2 x.set Va.cells 2 ∧ LstM w A3 x.next Va.cells 2 := by
  obtain ⟨cs, rfl, ho⟩ := agg_arg Try.underlying72 h
  have h := ho 6
  unfold Okc at h
  simp only [Try.underlying72] at h
  obtain ⟨hl, hf⟩ := h
  rw [light_cells] at hl
  have h0 : Okc Try.prog w 5 54 ((cs.toList.drop 0).take (Try.prog.cellsOf 54)) := hf 0 _ rfl
  have h1 : Okc Try.prog w 5 68 ((cs.toList.drop 163).take (Try.prog.cellsOf 68)) := hf 1 _ rfl
  have h2 : Okc Try.prog w 5 63 ((cs.toList.drop 198).take (Try.prog.cellsOf 63)) := hf 2 _ rfl
  have h3 : Okc Try.prog w 5 63 ((cs.toList.drop 199).take (Try.prog.cellsOf 63)) := hf 3 _ rfl
  rw [header_cells] at h0
  rw [commit_cells] at h1
  rw [vas_cells] at h2 h3
  obtain ⟨hd, e0, b0⟩ := header_of h0
  obtain ⟨cm, A1, c1, e1, b1, l1, M1⟩ := commit_of h1
  obtain ⟨A2, c2, sv, e2, l2, M2, o2⟩ := slice_of Try.underlying63 va_cells (by omega) (fun es h => va_of h) h2
  obtain ⟨A3, c3, nv, e3, l3, M3, o3⟩ := slice_of Try.underlying63 va_cells (by omega) (fun es h => va_of h) h3
  refine ⟨⟨hd, cm, sv, nv⟩, A1, A2, A3, c1, c2, c3, ?_, ⟨b0, b1, o2, o3⟩, l1, l2, l3, M1, M2, M3⟩
  have k0 := cut cs.toList 0 163 163 rfl
  have k1 := cut cs.toList 163 35 198 rfl
  have k2 := cut cs.toList 198 1 199 rfl
  have k3 := cut cs.toList 199 1 200 rfl
  rw [e3, List.drop_of_length_le (i := 200) (by omega)] at k3
  rw [e2, k3] at k2
  rw [e1, k2] at k1
  rw [e0, k1] at k0
  have k0 : cs.toList = Lt.cells ⟨hd, cm, sv, nv⟩ (.slice A1 cm.seals.length c1) (.slice A2 sv.length c2) (.slice A3 nv.length c3) := k0
  rw [← k0]
end Go.Proofs.Ytjcfdclgddjaoaa
