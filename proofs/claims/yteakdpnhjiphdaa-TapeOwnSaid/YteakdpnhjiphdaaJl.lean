/- Arguments of the laws of tape: bytes, an op, a script; Same. -/
import Derived.Test.YteakdpnhjiphdaaJg
namespace Go.Proofs.Yteakdpnhjiphdaa
open Go.RowKit
set_option linter.unusedVariables false
set_option linter.unusedSimpArgs false
set_option maxRecDepth 20000

def byC (b : UInt8) : List Value := [.int .u8 (b.toNat : Int)]
theorem byte_cells : Try.prog.cellsOf 5 = 1 := by kernel_rfl
theorem bytes_cells : Try.prog.cellsOf 22 = 1 := by kernel_rfl
theorem okc_u8 {w : World} {n : Nat} {cs : List Value} (h : Okc Try.prog w (n + 1) 5 cs) : ∃ b : UInt8, cs = byC b ∧ True := by
  unfold Okc at h
  simp only [Try.underlying5] at h
  obtain ⟨x, rfl, hx⟩ := h
  have hmin : IntKind.u8.min = 0 := rfl
  have hmax : IntKind.u8.max = 255 := rfl
  simp only [Lit.wf, Bool.and_eq_true, decide_eq_true_eq, hmin, hmax] at hx
  refine ⟨UInt8.ofNat x.toNat, ?_, trivial⟩
  unfold byC
  rw [UInt8.toNat_ofNat']
  congr 2
  omega
theorem rd_of_lst {w : World} {A : Option Addr} {l : List UInt8} (M : LstM w A l byC 1) : Rd w A l := by
  intro j b hj
  obtain ⟨eb, eo, rfl, _, h⟩ := M j b hj
  refine ⟨_, rfl, ?_⟩
  have := (rangeAt_cons h).1
  rw [Nat.mul_one] at this
  rw [Addr.add_mid]
  exact this
theorem bytes_okc {w : World} {n : Nat} {cs : List Value} (h : Okc Try.prog w (n + 2) 22 cs) : ∃ A c l, cs = [.slice A l.length c] ∧ l.length ≤ maxLen ∧ Rd w A l := by
  obtain ⟨A, c, l, e, hl, M, _⟩ := slice_of Try.underlying22 byte_cells (by omega) (fun es h => okc_u8 h) h
  exact ⟨A, c, l, e, hl, rd_of_lst M⟩
theorem bytes_arg {w : World} {v : Value} (h : Okv Try.prog w 22 v) : ∃ A c l, v = .slice A l.length c ∧ l.length ≤ maxLen ∧ Rd w A l := by
  obtain ⟨h1, h2⟩ := h
  simp only [Try.underlying22] at h1
  obtain ⟨A, c, l, e, hl, M⟩ := bytes_okc (h2 4)
  rw [h1] at e
  exact ⟨A, c, l, by simpa using e, hl, M⟩

/-- An op of a script. -/
structure Opn where
  k : Int
  n : Int
  m : Int
  A : Option Addr
  b : List UInt8
  c : Nat
def Opn.cells (o : Opn) : List Value := [.int .i64 o.k, .int .i64 o.n, .int .i64 o.m, .slice o.A o.b.length o.c]
structure Opn.Ok (w : World) (o : Opn) : Prop where
  k1 : -9223372036854775808 ≤ o.k
  k2 : o.k ≤ 9223372036854775807
  n1 : -9223372036854775808 ≤ o.n
  n2 : o.n ≤ 9223372036854775807
  m1 : -9223372036854775808 ≤ o.m
  m2 : o.m ≤ 9223372036854775807
  bl : o.b.length ≤ maxLen
  rd : Rd w o.A o.b
theorem Rd.below {w w' : World} {A : Option Addr} {l : List UInt8} (h : Rd w A l) (hb : Below w.heap.size w w') : Rd w' A l := by
  intro j b hj
  obtain ⟨ad, rfl, hc⟩ := h j b hj
  exact ⟨ad, rfl, (hb.cell (World.block_lt_of_cell? w _ hc)).trans hc⟩
theorem Opn.Ok.below {w w' : World} {o : Opn} (h : o.Ok w) (hb : Below w.heap.size w w') : o.Ok w' := ⟨h.k1, h.k2, h.n1, h.n2, h.m1, h.m2, h.bl, h.rd.below hb⟩
theorem lstM_below {α : Type} {w w' : World} {A : Option Addr} {l : List α} {cells : α → List Value} {sz : Nat} (h : LstM w A l cells sz) (hb : Below w.heap.size w w') : LstM w' A l cells sz := by
  intro i x hx
  obtain ⟨eb, eo, e, h2, h3⟩ := h i x hx
  exact ⟨eb, eo, e, Nat.lt_of_lt_of_le h2 hb.size, fun j u hu => (hb.cell h2).trans (h3 j u hu)⟩

/-- Same: are bytes one? -/
theorem same_any (w : World) (A A' : Option Addr) (n n' c c' : Nat) (l l' : List UInt8) (hn : n = l.length) (hn' : n' = l'.length) (hr : Rd w A l) (hr' : Rd w A' l') :
    Calls Try.prog 9 #[.slice A n c, .slice A' n' c'] w fun e w' => e = .returned (.bool (decide (l = l'))) ∧ w' = w := by
  subst hn
  subst hn'
  have h1 := run_str byt w hr c
  have h2 := run_str byt w hr' c'
  have he : (l == l') = decide (l = l') := by rw [Bool.eq_iff_iff]; simp
  go_enter Try.func9, Try.ntmps9
  go_wp2
  go_ret
  exact ⟨rfl, rfl⟩
end Go.Proofs.Yteakdpnhjiphdaa
