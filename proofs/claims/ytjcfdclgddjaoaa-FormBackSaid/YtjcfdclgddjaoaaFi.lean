/- A slice of fields, and one of bytes, out of a reading; the reference's bytes; Same. -/
import Derived.Test.YtjcfdclgddjaoaaChecked
import Derived.WalkKit
import Derived.Lib.Hide
import Derived.Test.YtjcfdclgddjaoaaEh
namespace Go.Proofs.Ytjcfdclgddjaoaa
open Go.RowKit
set_option linter.unusedVariables false
set_option maxRecDepth 20000

/-- At the address lies this field. -/
def FdAt (w : World) (p : Addr) (f : Fd) : Prop := ∀ (j : Nat) (u : Value), f.cells[j]? = some u → w.cell? (p.add j) = some u

section
variable {w w' : World} {p : Addr} {f : Fd}
theorem FdAt.k (h : FdAt w p f) : w.cell? p = some (.int .i64 f.k) := h 0 _ rfl
theorem FdAt.n (h : FdAt w p f) : w.cell? ⟨p.block, p.off + 1, none⟩ = some (.int .i64 f.n) := h 1 _ rfl
theorem FdAt.wd (h : FdAt w p f) : w.cell? ⟨p.block, p.off + 2, none⟩ = some (.int .u64 (f.w : Int)) := h 2 _ rfl
theorem FdAt.s (h : FdAt w p f) (ok : f.Ok) : w.cell? ⟨p.block, p.off + 35, none⟩ = some (.string f.s) := by
  refine h 35 _ ?_
  unfold Fd.cells
  rw [List.getElem?_append_right (by simp [bv_length, ok.h])]
  simp [bv_length, ok.h]
theorem FdAt.h (h : FdAt w p f) : Rd w (some ⟨p.block, p.off + 3, none⟩) f.h := by
  intro j b hj
  have hjl := (List.getElem?_eq_some_iff.1 hj).1
  refine ⟨_, rfl, ?_⟩
  have e1 : (⟨p.block, p.off + 3, none⟩ : Addr).add j = p.add (3 + j) := by
    unfold Addr.add
    split
    · subst_vars; simp
    · rw [if_neg (by omega)]; simp [Nat.add_assoc]
  rw [e1]
  refine h (3 + j) _ ?_
  unfold Fd.cells
  rw [List.append_assoc, List.getElem?_append_right (by simp), List.getElem?_append_left (by rw [bv_length]; simp; omega)]
  simpa using bv_get f.h j b hj
theorem FdAt.chg {S : Nat → Prop} (h : FdAt w p f) (k : Chg S w w') (hp : ¬ S p.block) : FdAt w' p f := fun j u hu => k.cell (h j u hu) (by rw [block_add]; exact hp)
theorem FdAt.below {B : Nat} (h : FdAt w p f) (hb : Below B w w') (hp : p.block < B) : FdAt w' p f := fun j u hu => (hb.cell (by rw [block_add]; exact hp)).trans (h j u hu)
theorem FdAt.lt (h : FdAt w p f) : p.block < w.heap.size := by
  have := World.block_lt_of_cell? w _ h.k
  exact this
end

/-- A slice of fields. -/
def Fds (w : World) (A : Option Addr) (n : Nat) (L : Nat → Fd) : Prop := ∀ i, i < n → (L i).Ok ∧ ∃ a, A = some a ∧ FdAt w (a.add (i * 36)) (L i)

/-- A slice of bytes. -/
theorem bytes_arg {W : World} {v : Value} (h : Okv Try.prog W 33 v) : ∃ A c l, v = .slice A l.length c ∧ l.length ≤ c ∧ c ≤ maxLen ∧ Rd W A l ∧ ∀ j, l ≠ [] → abl A j → j < W.heap.size := by
  obtain ⟨hv, ho⟩ := h
  simp only [Try.underlying33] at hv
  have h4 := ho 2
  rw [hv] at h4
  unfold Okc at h4
  simp only [Try.underlying33] at h4
  rcases h4 with h4 | ⟨a, n, c, h4, hn, hc, hi⟩
  · simp only [List.cons.injEq, and_true] at h4
    subst h4
    exact ⟨none, 0, [], rfl, Nat.le_refl _, by unfold maxLen; omega, Rd.nil _ _, by simp⟩
  · simp only [List.cons.injEq, and_true] at h4
    subst h4
    have hex : ∀ i, i < n → ∃ x, W.cell? (a.add i) = some (.int .u8 x) ∧ (Lit.int .u8 x).wf = true := by
      intro i h
      obtain ⟨es, hl, hcell, hok⟩ := hi i h
      unfold Okc at hok
      simp only [Try.underlying5] at hok
      obtain ⟨x, rfl, hx⟩ := hok
      refine ⟨x, ?_, hx⟩
      have := hcell 0 (by rw [byte_cells]; omega)
      simpa [byte_cells] using this
    obtain ⟨l, hl⟩ := bytes_of ((List.range n).map fun i => (W.cell? (a.add i)).getD undef) (fun i hi => by
      have hin : i < n := by simpa using hi
      obtain ⟨x, h1, h2⟩ := hex i hin
      exact ⟨x, by simp [hin, h1], h2⟩)
    have hln : l.length = n := by have := congrArg List.length hl; rw [bv_length] at this; simpa using this.symm
    have hr : Rd W (some a) l := by
      intro j b hj
      have hjl := (List.getElem?_eq_some_iff.1 hj).1
      refine ⟨a, rfl, ?_⟩
      obtain ⟨x, h1, h2⟩ := hex j (by omega)
      have h3 := bv_get l j b hj
      rw [← hl] at h3
      simp [show j < n by omega, h1] at h3
      rw [h1, h3]
    refine ⟨some a, c, l, by rw [hln], by omega, hc, hr, fun j hne hj => ?_⟩
    obtain ⟨ad, e, hlt⟩ := hr.blk_lt (List.length_pos_iff.2 hne)
    obtain ⟨ad', e', rfl⟩ := hj
    injection e with e
    injection e' with e'
    subst e; subst e'
    exact hlt

theorem byte_of {W : World} {v : Value} (h : Okv Try.prog W 5 v) : ∃ b : UInt8, v = .int .u8 (b.toNat : Int) := by
  obtain ⟨hv, ho⟩ := h
  simp only [Try.underlying5] at hv
  have h4 := ho 1
  rw [hv] at h4
  unfold Okc at h4
  simp only [Try.underlying5] at h4
  obtain ⟨x, h5, h6⟩ := h4
  simp only [List.cons.injEq, and_true] at h5
  obtain ⟨l, hl⟩ := bytes_of [v] (fun i hi => by
    obtain rfl : i = 0 := by simp at hi; omega
    exact ⟨x, by rw [h5]; rfl, h6⟩)
  match l, hl with
  | [b], hl =>
    simp only [bv, List.map_cons, List.map_nil, List.cons.injEq, and_true] at hl
    exact ⟨b, hl⟩

/-- Same: are bytes one? -/
theorem same_any (w : World) (A A' : Option Addr) (n n' c c' : Nat) (l l' : List UInt8) (hn : n = l.length) (hn' : n' = l'.length) (hr : Rd w A l) (hr' : Rd w A' l') :
    Calls Try.prog 33 #[.slice A n c, .slice A' n' c'] w fun e w' => e = .returned (.bool (decide (l = l'))) ∧ w' = w := by
  subst hn
  subst hn'
  have h1 := run_str byt w hr c
  have h2 := run_str byt w hr' c'
  have he : (l == l') = decide (l = l') := by rw [Bool.eq_iff_iff]; simp
  go_enter Try.func33, Try.ntmps33
  go_wp2
  go_ret
  exact ⟨rfl, rfl⟩
end Go.Proofs.Ytjcfdclgddjaoaa
