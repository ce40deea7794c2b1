/- Acts as arguments; tables that a row lists. -/
import Derived.Test.YtahlfncijbkcoaaDoorChecked
import Derived.WalkKit
import Derived.WalkLawsBesides
import Derived.ProofKit
import Derived.Lib.Hide
import Derived.Lib.LaidTab
import Derived.Lib.ItoaNum
import Derived.LaidLaws
import Derived.LaidHandle
import Derived.Stop.LaidErr
import Derived.Deep.MidRow
import Derived.Test.YtahlfncijbkcoaaDoorRows
import Derived.Test.YtahlfncijbkcoaaDoorKi
namespace Go.Proofs.YtahlfncijbkcoaaDoor
open Go.RowKit
set_option linter.unusedVariables false
set_option linter.unusedSimpArgs false
set_option maxRecDepth 20000

/-! ### Acts -/
structure Ac where
  kind : Int
  frm : ByteArray
  to : ByteArray
  den : ByteArray
  n : Nat
def Ac.cells (x : Ac) : List Value := [.int .i64 x.kind, .string x.frm, .string x.to, .string x.den, .int .u64 (x.n : Int)]
theorem Ac.cells_len (x : Ac) : x.cells.length = 5 := rfl
structure Ac.Ok (x : Ac) : Prop where
  k0 : -9223372036854775808 ≤ x.kind
  k1 : x.kind ≤ 9223372036854775807
  frm : x.frm.size ≤ maxLen
  to : x.to.size ≤ maxLen
  den : x.den.size ≤ maxLen
  n : x.n < 18446744073709551616
theorem str_cells : Tryd.prog.cellsOf 9 = 1 := by kernel_rfl
theorem act_cells : Tryd.prog.cellsOf 32 = 5 := by kernel_rfl
theorem okc_str {w : World} {n : Nat} {cs : List Value} (h : Okc Tryd.prog w (n + 1) 9 cs) : ∃ s : ByteArray, cs = [.string s] ∧ s.size ≤ maxLen := by
  unfold Okc at h
  simp only [Tryd.underlying9] at h
  exact h
theorem act_of {w : World} {n : Nat} {cs : List Value} (h : Okc Tryd.prog w (n + 2) 32 cs) : ∃ x : Ac, cs = x.cells ∧ x.Ok := by
  unfold Okc at h
  simp only [Tryd.underlying32] at h
  obtain ⟨hl, hf⟩ := h
  rw [act_cells] at hl
  have h0 : Okc Tryd.prog w (n + 1) 3 ((cs.drop 0).take (Tryd.prog.cellsOf 3)) := hf 0 _ rfl
  have h1 : Okc Tryd.prog w (n + 1) 9 ((cs.drop 1).take (Tryd.prog.cellsOf 9)) := hf 1 _ rfl
  have h2 : Okc Tryd.prog w (n + 1) 9 ((cs.drop 2).take (Tryd.prog.cellsOf 9)) := hf 2 _ rfl
  have h3 : Okc Tryd.prog w (n + 1) 9 ((cs.drop 3).take (Tryd.prog.cellsOf 9)) := hf 3 _ rfl
  have h4 : Okc Tryd.prog w (n + 1) 30 ((cs.drop 4).take (Tryd.prog.cellsOf 30)) := hf 4 _ rfl
  rw [int_cells] at h0
  rw [str_cells] at h1 h2 h3
  rw [u64_cells] at h4
  obtain ⟨a0, e0, b0, b0'⟩ := okc_i64 Tryd.underlying3 h0
  obtain ⟨a1, e1, b1⟩ := okc_str h1
  obtain ⟨a2, e2, b2⟩ := okc_str h2
  obtain ⟨a3, e3, b3⟩ := okc_str h3
  obtain ⟨a4, e4, b4⟩ := okc_u64 h4
  refine ⟨⟨a0, a1, a2, a3, a4⟩, ?_, ⟨b0, b0', b1, b2, b3, b4⟩⟩
  have c0 := cut cs 0 1 1 rfl
  have c1 := cut cs 1 1 2 rfl
  have c2 := cut cs 2 1 3 rfl
  have c3 := cut cs 3 1 4 rfl
  have c4 := cut cs 4 1 5 rfl
  rw [e4, List.drop_of_length_le (i := 5) (by omega)] at c4
  rw [e3, c4] at c3
  rw [e2, c3] at c2
  rw [e1, c2] at c1
  rw [e0, c1] at c0
  exact c0
theorem act_arg {w : World} {v : Value} (h : Okv Tryd.prog w 32 v) : ∃ x : Ac, v = .agg x.cells.toArray ∧ x.Ok := by
  obtain ⟨cs, rfl, ho⟩ := agg_arg Tryd.underlying32 h
  obtain ⟨x, e, ok⟩ := act_of (ho 2)
  exact ⟨x, by rw [← e], ok⟩
/-- A script as an argument. -/
theorem acts_arg {w : World} {v : Value} (h : Okv Tryd.prog w 22 v) : ∃ A c l, v = .slice A l.length c ∧ l.length ≤ maxLen ∧ LstM w A l Ac.cells 5 ∧ ∀ x ∈ l, Ac.Ok x := by
  obtain ⟨hv, ho⟩ := h
  simp only [Tryd.underlying22] at hv
  have h3 := ho 3
  rw [hv] at h3
  obtain ⟨A, c, l, e, h1, h2, h4⟩ := slice_of (Ok := Ac.Ok) Tryd.underlying22 act_cells (by omega) (fun es he => act_of he) h3
  have e' : v = .slice A l.length c := by simpa using e
  exact ⟨A, c, l, e', h1, h2, h4⟩

/-! ### The table of powers of ten -/
def Tab (w : World) : Prop := Lib.TabIs Tryd.prog w "internal/strconv.uint64pow10" .u64 Lib.pow10Tab
theorem tab_global : Tryd.prog.globalNamed "internal/strconv.uint64pow10" = some 0 := by kernel_rfl
theorem Tab.chg {w w' : World} {S : Nat → Prop} (h : Tab w) (k : Chg S w w') (hS : ¬ S 0) : Tab w' := by
  unfold Tab Lib.TabIs World.var? at *
  rw [tab_global] at h ⊢
  simp only [Option.bind_some] at h ⊢
  have hlt : 0 < w.heap.size := by
    rcases Nat.lt_or_ge 0 w.heap.size with h' | h'
    · exact h'
    · rw [Array.getElem?_eq_none h'] at h; simp at h
  rw [k.block _ hlt hS]
  exact h
theorem Tab.lt {w : World} (h : Tab w) : 0 < w.heap.size := by
  unfold Tab Lib.TabIs World.var? at h
  rw [tab_global] at h
  simp only [Option.bind_some] at h
  rcases Nat.lt_or_ge 0 w.heap.size with h' | h'
  · exact h'
  · rw [Array.getElem?_eq_none h'] at h; simp at h
def laidL : List (String × DataW Unit) := [("math/bits.deBruijn32tab", Rows.laid_math_bits_deBruijn32tab), ("math/bits.deBruijn64tab", Rows.laid_math_bits_deBruijn64tab), ("internal/strconv.uint64pow10", Rows.laid_internal_strconv_uint64pow10)]
theorem laid_none : (laidL.filter fun x => x.2.handleName?.isSome) = [] := by kernel_rfl
theorem laid_iff {w : World} : laidMetH Tryd.prog laidL w ↔ laidMet Tryd.prog laidL w := by
  unfold laidMetH
  rw [laid_none]
theorem tab_data : (Rows.laid_internal_strconv_uint64pow10 : DataW Unit) = Lib.tabData .u64 Lib.pow10Tab := by kernel_rfl
theorem tab_of_laid {w : World} (h : laidMetH Tryd.prog laidL w) : Tab w := by
  have h1 := (laid_iff.1 h).tail.tail
  rw [tab_data] at h1
  exact Lib.tabIs_of_head tab_global (t := 93) (n := 20) (by kernel_rfl) Tryd.underlying93 Tryd.underlying30 u64_cells (by kernel_rfl) h1
/-- A world in which the tables are laid. -/
noncomputable def laidWorld (os : Os) : World :=
  let w0 := World.holding Tryd.prog os ⟨#[], #[], []⟩
  let put := fun (d : DataW Unit) (o : Obj) => match o, d with
    | .cells _ t frozen, .agg ds => Obj.cells (ds.map fun x => match x with | .lit (.int k z) => Value.int k z | _ => undef).toArray t frozen
    | o, _ => o
  { w0 with heap := ((w0.heap.modify 1 (put Rows.laid_math_bits_deBruijn32tab)).modify 2 (put Rows.laid_math_bits_deBruijn64tab)).modify 0 (put Rows.laid_internal_strconv_uint64pow10) }
theorem laidWorld_met (os : Os) (args : Array Value) : laidMetH Tryd.prog laidL ((laidWorld os).forCall (fun _ _ => 0) ⟨#[], args, []⟩).memory :=
  laid_iff.2 (laidMet_of_run' 8 (by kernel_rfl) (by kernel_rfl))
end Go.Proofs.YtahlfncijbkcoaaDoor
