/- Arguments of the laws of tape: bytes, an op, a script; Same. -/
import Derived.Test.YtenhicipgkjckaaJg
namespace Go.Proofs.Ytenhicipgkjckaa
open Go.RowKit
set_option linter.unusedVariables false
set_option linter.unusedSimpArgs false
set_option maxRecDepth 20000

def byC (b : UInt8) : List Value := [.int .u8 (b.toNat : Int)]
theorem byte_cells : Try.prog.cellsOf 5 = 1 := by kernel_rfl
theorem bytes_cells : Try.prog.cellsOf 23 = 1 := by kernel_rfl
theorem op_cells : Try.prog.cellsOf 25 = 4 := by kernel_rfl
theorem okc_u8 {w : World} {n : Nat} {cs : List Value} (h : Okc Try.prog w (n + 1) 5 cs) : ∃ b : UInt8, cs = byC b ∧ True := by
  unfold Okc at h
  simp only [Try.underlying5] at h
  obtain ⟨x, rfl, hx⟩ := h
  have hmin : IntKind.u8.min = 0 := rfl
  have hmax : IntKind.u8.max = 255 := rfl
  simp only [Lit.wf, Bool.and_eq_true, decide_eq_true_eq, hmin, hmax] at hx
  refine ⟨UInt8.ofNat x.toNat, ?_, trivial⟩
  unfold byC
  rw [UInt8.toNat_ofNat']
  congr 2
  omega
theorem rd_of_lst {w : World} {A : Option Addr} {l : List UInt8} (M : LstM w A l byC 1) : Rd w A l := by
  intro j b hj
  obtain ⟨eb, eo, rfl, _, h⟩ := M j b hj
  refine ⟨_, rfl, ?_⟩
  have := (rangeAt_cons h).1
  rw [Nat.mul_one] at this
  rw [Addr.add_mid]
  exact this
theorem bytes_okc {w : World} {n : Nat} {cs : List Value} (h : Okc Try.prog w (n + 2) 23 cs) : ∃ A c l, cs = [.slice A l.length c] ∧ l.length ≤ maxLen ∧ Rd w A l := by
  obtain ⟨A, c, l, e, hl, M, _⟩ := slice_of Try.underlying23 byte_cells (by omega) (fun es h => okc_u8 h) h
  exact ⟨A, c, l, e, hl, rd_of_lst M⟩
theorem bytes_arg {w : World} {v : Value} (h : Okv Try.prog w 23 v) : ∃ A c l, v = .slice A l.length c ∧ l.length ≤ maxLen ∧ Rd w A l := by
  obtain ⟨h1, h2⟩ := h
  simp only [Try.underlying23] at h1
  obtain ⟨A, c, l, e, hl, M⟩ := bytes_okc (h2 4)
  rw [h1] at e
  exact ⟨A, c, l, by simpa using e, hl, M⟩

/-- An op of a script. -/
structure Opn where
  k : Int
  n : Int
  m : Int
  A : Option Addr
  b : List UInt8
  c : Nat
def Opn.cells (o : Opn) : List Value := [.int .i64 o.k, .int .i64 o.n, .int .i64 o.m, .slice o.A o.b.length o.c]
structure Opn.Ok (w : World) (o : Opn) : Prop where
  k1 : -9223372036854775808 ≤ o.k
  k2 : o.k ≤ 9223372036854775807
  n1 : -9223372036854775808 ≤ o.n
  n2 : o.n ≤ 9223372036854775807
  m1 : -9223372036854775808 ≤ o.m
  m2 : o.m ≤ 9223372036854775807
  bl : o.b.length ≤ maxLen
  rd : Rd w o.A o.b
theorem op_of {w : World} {n : Nat} {cs : List Value} (h : Okc Try.prog w (n + 3) 25 cs) : ∃ o : Opn, cs = o.cells ∧ o.Ok w := by
  unfold Okc at h
  simp only [Try.underlying25] at h
  obtain ⟨hl, hf⟩ := h
  rw [op_cells] at hl
  have h0 : Okc Try.prog w (n + 2) 3 ((cs.drop 0).take (Try.prog.cellsOf 3)) := hf 0 _ rfl
  have h1 : Okc Try.prog w (n + 2) 3 ((cs.drop 1).take (Try.prog.cellsOf 3)) := hf 1 _ rfl
  have h2 : Okc Try.prog w (n + 2) 3 ((cs.drop 2).take (Try.prog.cellsOf 3)) := hf 2 _ rfl
  have h3 : Okc Try.prog w (n + 2) 23 ((cs.drop 3).take (Try.prog.cellsOf 23)) := hf 3 _ rfl
  rw [int_cells] at h0 h1 h2
  rw [bytes_cells] at h3
  obtain ⟨a0, e0, b0⟩ := okc_i64 Try.underlying3 h0
  obtain ⟨a1, e1, b1⟩ := okc_i64 Try.underlying3 h1
  obtain ⟨a2, e2, b2⟩ := okc_i64 Try.underlying3 h2
  obtain ⟨A, c, l, e3, hl3, hr⟩ := bytes_okc h3
  refine ⟨⟨a0, a1, a2, A, l, c⟩, ?_, ⟨b0.1, b0.2, b1.1, b1.2, b2.1, b2.2, hl3, hr⟩⟩
  have c0 := cut cs 0 1 1 rfl
  have c1 := cut cs 1 1 2 rfl
  have c2 := cut cs 2 1 3 rfl
  have c3 := cut cs 3 1 4 rfl
  rw [e3, List.drop_of_length_le (i := 4) (by omega)] at c3
  rw [e2, c3] at c2
  rw [e1, c2] at c1
  rw [e0, c1] at c0
  exact c0
theorem op_arg {w : World} {v : Value} (h : Okv Try.prog w 25 v) : ∃ o : Opn, v = .agg o.cells.toArray ∧ o.Ok w := by
  obtain ⟨cs, rfl, hc⟩ := agg_arg Try.underlying25 h
  obtain ⟨o, e, ok⟩ := op_of (hc 4)
  exact ⟨o, by rw [← e], ok⟩
theorem ops_arg {w : World} {v : Value} (h : Okv Try.prog w 22 v) : ∃ A c l, v = .slice A l.length c ∧ l.length ≤ maxLen ∧ LstM w A l Opn.cells 4 ∧ ∀ o ∈ l, Opn.Ok w o := by
  obtain ⟨h1, h2⟩ := h
  simp only [Try.underlying22] at h1
  obtain ⟨A, c, l, e, hl, M, ol⟩ := slice_of Try.underlying22 op_cells (by omega) (fun es h => op_of h) (h2 5)
  rw [h1] at e
  exact ⟨A, c, l, by simpa using e, hl, M, ol⟩

theorem Rd.below {w w' : World} {A : Option Addr} {l : List UInt8} (h : Rd w A l) (hb : Below w.heap.size w w') : Rd w' A l := by
  intro j b hj
  obtain ⟨ad, rfl, hc⟩ := h j b hj
  exact ⟨ad, rfl, (hb.cell (World.block_lt_of_cell? w _ hc)).trans hc⟩
theorem Opn.Ok.below {w w' : World} {o : Opn} (h : o.Ok w) (hb : Below w.heap.size w w') : o.Ok w' := ⟨h.k1, h.k2, h.n1, h.n2, h.m1, h.m2, h.bl, h.rd.below hb⟩
theorem lstM_below {α : Type} {w w' : World} {A : Option Addr} {l : List α} {cells : α → List Value} {sz : Nat} (h : LstM w A l cells sz) (hb : Below w.heap.size w w') : LstM w' A l cells sz := by
  intro i x hx
  obtain ⟨eb, eo, e, h2, h3⟩ := h i x hx
  exact ⟨eb, eo, e, Nat.lt_of_lt_of_le h2 hb.size, fun j u hu => (hb.cell h2).trans (h3 j u hu)⟩

/-- Same: are bytes one? -/
theorem same_any (w : World) (A A' : Option Addr) (n n' c c' : Nat) (l l' : List UInt8) (hn : n = l.length) (hn' : n' = l'.length) (hr : Rd w A l) (hr' : Rd w A' l') :
    Calls Try.prog 13 #[.slice A n c, .slice A' n' c'] w fun e w' => e = .returned (.bool (decide (l = l'))) ∧ w' = w := by
  subst hn
  subst hn'
  have h1 := run_str byt w hr c
  have h2 := run_str byt w hr' c'
  have he : (l == l') = decide (l = l') := by rw [Bool.eq_iff_iff]; simp
  go_enter Try.func13, Try.ntmps13
  go_wp2
  go_ret
  exact ⟨rfl, rfl⟩
end Go.Proofs.Ytenhicipgkjckaa
