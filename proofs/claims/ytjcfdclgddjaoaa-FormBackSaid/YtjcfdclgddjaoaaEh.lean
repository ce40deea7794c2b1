/- Two hashes held against each other; a hash's cells out of a reading; the zero hash built. -/
import Derived.Test.YtjcfdclgddjaoaaChecked
import Derived.WalkKit
import Derived.Lib.Hide
import Derived.ChangeKeysEq
import Derived.Test.YtjcfdclgddjaoaaWn
namespace Go.Proofs.Ytjcfdclgddjaoaa
open Go.RowKit
set_option linter.unusedVariables false
set_option maxRecDepth 20000

theorem byte_cells : Try.prog.cellsOf 5 = 1 := by kernel_rfl
theorem hash_cells : Try.prog.cellsOf 45 = 32 := by kernel_rfl

theorem run_part_byte (w : World) (a : List UInt8) (i : Nat) (hi : i < a.length) : (part 5 (bv a).toArray (i * 1)).run Try.prog w = .ok (.int .u8 (a[i].toNat : Int)) w := by
  have h : (bv a).toArray[i]? = some (.int .u8 (a[i].toNat : Int)) := by
    rw [List.getElem?_toArray]; exact bv_get a i _ (List.getElem?_eq_getElem hi)
  have hagg : (isAgg 5).run Try.prog w = .ok false w := by
    unfold isAgg
    rw [Sem.run_bind, run_underlying Try.underlying5 w]
    rfl
  simp [part, Sem.run_bind, hagg, h]

theorem u8_eq (x y : UInt8) : ((x.toNat : Int) == (y.toNat : Int)) = decide (x = y) := by
  rw [Bool.eq_iff_iff]
  simp only [beq_iff_eq, decide_eq_true_eq]
  exact ⟨fun h => UInt8.toNat_inj.1 (by omega), fun h => by rw [h]⟩

theorem run_items (w : World) (d : Nat) (a b : List UInt8) (n : Nat) (ha : a.length = n) (hb : b.length = n) : ∀ (is : List Nat), (∀ i ∈ is, i < n) →
    (Op.eqItems (d + 1) 5 1 (bv a).toArray (bv b).toArray is).run Try.prog w = .ok (decide (∀ i ∈ is, a[i]? = b[i]?)) w := by
  intro is
  induction is with
  | nil => intro _; simp [Op.eqItems]
  | cons i is ih =>
    intro h
    have hi : i < n := h i (by simp)
    have hih := ih (fun j hj => h j (by simp [hj]))
    have e1 : a[i]? = some (a[i]'(by omega)) := List.getElem?_eq_getElem (by omega)
    have e2 : b[i]? = some (b[i]'(by omega)) := List.getElem?_eq_getElem (by omega)
    simp only [Op.eqItems, Sem.run_bind, run_part_byte w a i (by omega), run_part_byte w b i (by omega), Result.andThen_ok, run_equalIn_int w d 5 .u8 .u8 _ _ Try.underlying5, u8_eq]
    by_cases hx : a[i]'(by omega) = b[i]'(by omega)
    · rw [decide_eq_true hx]
      simp only [Bool.not_true, Bool.false_eq_true, if_false]
      rw [hih]
      congr 1
      rw [decide_eq_decide]
      simp [e1, e2, hx]
    · rw [decide_eq_false hx]
      simp only [Bool.not_false, if_true, Sem.run_pure]
      congr 1
      symm
      rw [decide_eq_false_iff_not]
      intro h2
      have := h2 i (by simp)
      rw [e1, e2] at this
      injection this with this
      exact hx this

theorem run_eq_hash (w : World) {a b : List UInt8} (ha : a.length = 32) (hb : b.length = 32) : (Op.equalIn 10000 45 (.agg (bv a).toArray) (.agg (bv b).toArray)).run Try.prog w = .ok (decide (a = b)) w := by
  obtain ⟨i, hi, _, _, _⟩ := info_parts byt.hi
  rw [run_equalIn_array w 9999 (bv a).toArray (bv b).toArray Try.underlying45 hi, byte_cells, run_items w 9998 a b 32 ha hb _ (fun i hi => by simpa using hi)]
  congr 1
  rw [decide_eq_decide]
  constructor
  · intro h
    apply List.ext_getElem?
    intro j
    rcases Nat.lt_or_ge j 32 with hj | hj
    · exact h j (by simpa using hj)
    · rw [List.getElem?_eq_none (by omega), List.getElem?_eq_none (by omega)]
  · rintro rfl _ _
    rfl

theorem noH_eq : (bv noH).toArray = #[.int .u8 0, .int .u8 0, .int .u8 0, .int .u8 0, .int .u8 0, .int .u8 0, .int .u8 0, .int .u8 0, .int .u8 0, .int .u8 0, .int .u8 0, .int .u8 0, .int .u8 0, .int .u8 0, .int .u8 0, .int .u8 0, .int .u8 0, .int .u8 0, .int .u8 0, .int .u8 0, .int .u8 0, .int .u8 0, .int .u8 0, .int .u8 0, .int .u8 0, .int .u8 0, .int .u8 0, .int .u8 0, .int .u8 0, .int .u8 0, .int .u8 0, .int .u8 0] := rfl
theorem run_eq_zero (w : World) {a : List UInt8} (ha : a.length = 32) : (Op.equalIn 10000 45 (.agg (bv a).toArray) (.agg #[.int .u8 0, .int .u8 0, .int .u8 0, .int .u8 0, .int .u8 0, .int .u8 0, .int .u8 0, .int .u8 0, .int .u8 0, .int .u8 0, .int .u8 0, .int .u8 0, .int .u8 0, .int .u8 0, .int .u8 0, .int .u8 0, .int .u8 0, .int .u8 0, .int .u8 0, .int .u8 0, .int .u8 0, .int .u8 0, .int .u8 0, .int .u8 0, .int .u8 0, .int .u8 0, .int .u8 0, .int .u8 0, .int .u8 0, .int .u8 0, .int .u8 0, .int .u8 0])).run Try.prog w = .ok (decide (a = noH)) w := by
  rw [← noH_eq]
  exact run_eq_hash w ha noH_length

theorem build_noH (w : World) : (Instr.build 45 #[]).run Try.prog w = .ok (.agg (bv noH).toArray) w := by kernel_rfl

/-- Cells that are bytes, each. -/
theorem bytes_of : ∀ (cs : List Value), (∀ (i : Nat), i < cs.length → ∃ x, cs[i]? = some (.int .u8 x) ∧ (Lit.int .u8 x).wf = true) → ∃ h : List UInt8, cs = bv h
  | [], _ => ⟨[], rfl⟩
  | c :: cs, hc => by
    obtain ⟨h, rfl⟩ := bytes_of cs (fun i hi => by obtain ⟨x, h1, h2⟩ := hc (i + 1) (by simp; omega); exact ⟨x, by simpa using h1, h2⟩)
    obtain ⟨x, h1, h2⟩ := hc 0 (by simp)
    simp only [List.getElem?_cons_zero, Option.some.injEq] at h1
    subst h1
    have hmin : IntKind.u8.min = 0 := rfl
    have hmax : IntKind.u8.max = 255 := rfl
    simp only [Lit.wf, Bool.and_eq_true, decide_eq_true_eq, hmin, hmax] at h2
    refine ⟨UInt8.ofNat x.toNat :: h, ?_⟩
    simp only [bv, List.map_cons, List.cons.injEq, and_true, Value.int.injEq, true_and]
    rw [UInt8.toNat_ofNat']
    omega

theorem hash_of {w : World} {cs : List Value} (h : Okc Try.prog w 2 45 cs) : ∃ hs : List UInt8, cs = bv hs ∧ hs.length = 32 := by
  unfold Okc at h
  simp only [Try.underlying45] at h
  obtain ⟨hl, hb⟩ := h
  rw [hash_cells] at hl
  obtain ⟨hs, rfl⟩ := bytes_of cs (fun i hi => by
    have h1 := hb i (by omega)
    unfold Okc at h1
    simp only [Try.underlying5, byte_cells, Nat.mul_one] at h1
    obtain ⟨x, h2, h3⟩ := h1
    refine ⟨x, ?_, h3⟩
    have : (cs.drop i)[0]? = some (.int .u8 x) := by
      have h4 : ((cs.drop i).take 1)[0]? = some (.int .u8 x) := by rw [h2]; rfl
      rw [List.getElem?_take] at h4
      simpa using h4
    simpa using this)
  exact ⟨hs, rfl, by rw [bv_length] at hl; exact hl⟩

theorem i64_bounds {x : Int} (h : (Lit.int .i64 x).wf = true) : -9223372036854775808 ≤ x ∧ x ≤ 9223372036854775807 := by
  have hmin : IntKind.i64.min = -9223372036854775808 := rfl
  have hmax : IntKind.i64.max = 9223372036854775807 := rfl
  simp only [Lit.wf, Bool.and_eq_true, decide_eq_true_eq, hmin, hmax] at h
  exact h
theorem u64_nat {x : Int} (h : (Lit.int .u64 x).wf = true) : ∃ n : Nat, x = (n : Int) ∧ n < 18446744073709551616 := by
  have hmin : IntKind.u64.min = 0 := rfl
  have hmax : IntKind.u64.max = 18446744073709551615 := rfl
  simp only [Lit.wf, Bool.and_eq_true, decide_eq_true_eq, hmin, hmax] at h
  exact ⟨x.toNat, by omega, by omega⟩

/-- A field, as the laws have it. -/
structure Fd where
  k : Int
  n : Int
  w : Nat
  h : List UInt8
  s : ByteArray
/-- It is one. -/
structure Fd.Ok (f : Fd) : Prop where
  n1 : -9223372036854775808 ≤ f.n
  n2 : f.n ≤ 9223372036854775807
  k1 : -9223372036854775808 ≤ f.k
  k2 : f.k ≤ 9223372036854775807
  w : f.w < 18446744073709551616
  h : f.h.length = 32
  s : f.s.size ≤ maxLen
/-- Its cells. -/
def Fd.cells (f : Fd) : List Value := [.int .i64 f.k, .int .i64 f.n, .int .u64 (f.w : Int)] ++ bv f.h ++ [.string f.s]

theorem int_cells : Try.prog.cellsOf 3 = 1 := by kernel_rfl
theorem u64_cells : Try.prog.cellsOf 46 = 1 := by kernel_rfl
theorem str_cells : Try.prog.cellsOf 9 = 1 := by kernel_rfl

end Go.Proofs.Ytjcfdclgddjaoaa
