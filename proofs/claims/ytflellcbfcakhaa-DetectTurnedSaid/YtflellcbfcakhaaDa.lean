/- Light blocks as rows of cells, out of a reading: headers held against each other, lists of blocks as arguments. -/
import Derived.Test.YtflellcbfcakhaaChecked
import Derived.WalkKit
import Derived.WalkLawsBesides
import Derived.Lib.Hide
import Derived.ChangeKeysEq
import Derived.Laws.StructEq
import Derived.Deep.MidRow
import Derived.Deep.QuietTactic
import Derived.BigQuiet
import Derived.Test.YtflellcbfcakhaaGw
namespace Go.Proofs.Ytflellcbfcakhaa
open Go.RowKit
set_option linter.unusedVariables false
set_option linter.unusedSimpArgs false
set_option maxRecDepth 20000

theorem byte_cells : Try.prog.cellsOf 5 = 1 := by kernel_rfl
theorem hash_cells : Try.prog.cellsOf 23 = 32 := by kernel_rfl
theorem hash_row : (Try.prog.info? 23).map (·.size) = some 32 := by kernel_rfl
theorem run_part_byte (w : World) (a : List UInt8) (i : Nat) (hi : i < a.length) : (part 5 (bv a).toArray (i * 1)).run Try.prog w = .ok (.int .u8 (a[i].toNat : Int)) w := by
  have h : (bv a).toArray[i]? = some (.int .u8 (a[i].toNat : Int)) := by
    rw [List.getElem?_toArray]; exact bv_get a i _ (List.getElem?_eq_getElem hi)
  have hagg : (isAgg 5).run Try.prog w = .ok false w := by
    unfold isAgg
    rw [Sem.run_bind, run_underlying Try.underlying5 w]
    rfl
  simp [part, Sem.run_bind, hagg, h]
theorem u8_eq (x y : UInt8) : ((x.toNat : Int) == (y.toNat : Int)) = decide (x = y) := by
  rw [Bool.eq_iff_iff]
  simp only [beq_iff_eq, decide_eq_true_eq]
  exact ⟨fun h => UInt8.toNat_inj.1 (by omega), fun h => by rw [h]⟩
theorem run_items (w : World) (d : Nat) (a b : List UInt8) (n : Nat) (ha : a.length = n) (hb : b.length = n) : ∀ (is : List Nat), (∀ i ∈ is, i < n) →
    (Op.eqItems (d + 1) 5 1 (bv a).toArray (bv b).toArray is).run Try.prog w = .ok (decide (∀ i ∈ is, a[i]? = b[i]?)) w := by
  intro is
  induction is with
  | nil => intro _; simp [Op.eqItems]
  | cons i is ih =>
    intro h
    have hi : i < n := h i (by simp)
    have hih := ih (fun j hj => h j (by simp [hj]))
    have e1 : a[i]? = some (a[i]'(by omega)) := List.getElem?_eq_getElem (by omega)
    have e2 : b[i]? = some (b[i]'(by omega)) := List.getElem?_eq_getElem (by omega)
    simp only [Op.eqItems, Sem.run_bind, run_part_byte w a i (by omega), run_part_byte w b i (by omega), Result.andThen_ok, run_equalIn_int w d 5 .u8 .u8 _ _ Try.underlying5, u8_eq]
    by_cases hx : a[i]'(by omega) = b[i]'(by omega)
    · rw [decide_eq_true hx]
      simp only [Bool.not_true, Bool.false_eq_true, if_false]
      rw [hih]
      congr 1
      rw [decide_eq_decide]
      simp [e1, e2, hx]
    · rw [decide_eq_false hx]
      simp only [Bool.not_false, if_true, Sem.run_pure]
      congr 1
      symm
      rw [decide_eq_false_iff_not]
      intro h2
      have := h2 i (by simp)
      rw [e1, e2] at this
      injection this with this
      exact hx this
theorem byte_info : (Try.prog.info? 5).isSome = true := by kernel_rfl
theorem eqHash (w : World) (d : Nat) {a b : List UInt8} (ha : a.length = 32) (hb : b.length = 32) : (Op.equalIn (d + 2) 23 (.agg (bv a).toArray) (.agg (bv b).toArray)).run Try.prog w = .ok (decide (a = b)) w := by
  obtain ⟨i, hi⟩ := Option.isSome_iff_exists.1 byte_info
  rw [run_equalIn_array w (d + 1) (bv a).toArray (bv b).toArray Try.underlying23 hi, byte_cells, run_items w d a b 32 ha hb _ (fun i hi => by simpa using hi)]
  congr 1
  rw [decide_eq_decide]
  constructor
  · intro h
    apply List.ext_getElem?
    intro j
    rcases Nat.lt_or_ge j 32 with hj | hj
    · exact h j (by simpa using hj)
    · rw [List.getElem?_eq_none (by omega), List.getElem?_eq_none (by omega)]
  · rintro rfl _ _
    rfl
theorem run_eq_hash (w : World) {a b : List UInt8} (ha : a.length = 32) (hb : b.length = 32) : (Op.equalIn 10000 23 (.agg (bv a).toArray) (.agg (bv b).toArray)).run Try.prog w = .ok (decide (a = b)) w := eqHash w 9998 ha hb
theorem hash_guard : Try.prog.eqGuardType Try.prog.depth 23 = false := by kernel_rfl
theorem bytes_of : ∀ (cs : List Value), (∀ (i : Nat), i < cs.length → ∃ x, cs[i]? = some (.int .u8 x) ∧ (Lit.int .u8 x).wf = true) → ∃ h : List UInt8, cs = bv h
  | [], _ => ⟨[], rfl⟩
  | c :: cs, hc => by
    obtain ⟨h, rfl⟩ := bytes_of cs (fun i hi => by obtain ⟨x, h1, h2⟩ := hc (i + 1) (by simp; omega); exact ⟨x, by simpa using h1, h2⟩)
    obtain ⟨x, h1, h2⟩ := hc 0 (by simp)
    simp only [List.getElem?_cons_zero, Option.some.injEq] at h1
    subst h1
    have hmin : IntKind.u8.min = 0 := rfl
    have hmax : IntKind.u8.max = 255 := rfl
    simp only [Lit.wf, Bool.and_eq_true, decide_eq_true_eq, hmin, hmax] at h2
    refine ⟨UInt8.ofNat x.toNat :: h, ?_⟩
    simp only [bv, List.map_cons, List.cons.injEq, and_true, Value.int.injEq, true_and]
    rw [UInt8.toNat_ofNat']
    omega
theorem okc_hash {w : World} {n : Nat} {cs : List Value} (h : Okc Try.prog w (n + 2) 23 cs) : ∃ hs : List UInt8, cs = bv hs ∧ hs.length = 32 := by
  unfold Okc at h
  simp only [Try.underlying23] at h
  obtain ⟨hl, hb⟩ := h
  rw [hash_cells] at hl
  obtain ⟨hs, rfl⟩ := bytes_of cs (fun i hi => by
    have h1 := hb i (by omega)
    unfold Okc at h1
    simp only [Try.underlying5, byte_cells, Nat.mul_one] at h1
    obtain ⟨x, h2, h3⟩ := h1
    refine ⟨x, ?_, h3⟩
    have : (cs.drop i)[0]? = some (.int .u8 x) := by
      have h4 : ((cs.drop i).take 1)[0]? = some (.int .u8 x) := by rw [h2]; rfl
      rw [List.getElem?_take] at h4
      simpa using h4
    simpa using this)
  exact ⟨hs, rfl, by rw [bv_length] at hl; exact hl⟩
theorem str_cells : Try.prog.cellsOf 9 = 1 := by kernel_rfl
theorem sig_cells : Try.prog.cellsOf 59 = 2 := by kernel_rfl
/-- Bounds of 64 bits. -/
structure I64 (n : Int) : Prop where
  l : -9223372036854775808 ≤ n
  h : n ≤ 9223372036854775807
structure Hd where
  chain : ByteArray
  height : Int
  time : Int
  last : List UInt8
  set : List UInt8
  next : List UInt8
  data : List UInt8
  app : List UInt8
structure Hd.Ok (x : Hd) : Prop where
  chain : x.chain.size ≤ maxLen
  height : I64 x.height
  time : I64 x.time
  last : x.last.length = 32
  set : x.set.length = 32
  next : x.next.length = 32
  data : x.data.length = 32
  app : x.app.length = 32
def Hd.cells (x : Hd) : List Value := [.string x.chain, .int .i64 x.height, .int .i64 x.time] ++ (bv x.last ++ (bv x.set ++ (bv x.next ++ (bv x.data ++ bv x.app))))
theorem eqStr {w : World} (d : Nat) (a b : ByteArray) : (Op.equalIn (d + 1) 9 (.string a) (.string b)).run Try.prog w = .ok (decide (a = b)) w := by
  rw [run_equalIn_string w d 9 a b Try.underlying9]
  congr 1
  rw [Bool.eq_iff_iff]
  simp only [ByteArray.toList_eq, beq_iff_eq, decide_eq_true_eq, Array.toList_inj]
  exact ⟨fun h => by cases a; cases b; simp_all, fun h => by rw [h]⟩
/-- A row of a row. -/
theorem partR {w : World} {t : TypeId} {d : TypeDesc} (hu : Try.prog.underlying t = some d) (hd : d.isRow = true) {n : Nat} (hi : (Try.prog.info? t).map (·.size) = some n) {L cs : List Value} {off : Nat} (h : (L.drop off).take n = cs) : (part t L.toArray off).run Try.prog w = .ok (.agg cs.toArray) w := by
  have hagg : (isAgg t).run Try.prog w = .ok true w := by
    unfold isAgg
    rw [Sem.run_bind, run_underlying hu w]
    cases d <;> simp_all
  cases hq : Try.prog.info? t with
  | none => simp [hq] at hi
  | some i =>
    have hs : i.size = n := by simpa [hq] using hi
    have he : L.toArray.extract off (off + n) = cs.toArray := by
      rw [← h]
      simp [List.extract_toArray, List.take_drop, List.extract]
    simp only [part, Sem.run_bind, hagg, Result.andThen_ok, if_true]
    simp [sizeOf, typeInfo, hq, hs, he, Sem.run_bind]
    exact h
theorem Hd.eqv {x y : Hd} : (x.chain = y.chain ∧ x.height = y.height ∧ x.time = y.time ∧ x.last = y.last ∧ x.set = y.set ∧ x.next = y.next ∧ x.data = y.data ∧ x.app = y.app ∧ True) ↔ x = y := by
  cases x
  cases y
  simp
instance : DecidableEq Hd := fun x y => decidable_of_iff _ Hd.eqv
theorem Hd.drops (x : Hd) (ox : x.Ok) : (x.cells.drop 3).take 32 = bv x.last ∧ (x.cells.drop 35).take 32 = bv x.set ∧ (x.cells.drop 67).take 32 = bv x.next ∧ (x.cells.drop 99).take 32 = bv x.data ∧ (x.cells.drop 131).take 32 = bv x.app := by
  have h1 : (bv x.last).length = 32 := by rw [bv_length, ox.last]
  have h2 : (bv x.set).length = 32 := by rw [bv_length, ox.set]
  have h3 : (bv x.next).length = 32 := by rw [bv_length, ox.next]
  have h4 : (bv x.data).length = 32 := by rw [bv_length, ox.data]
  have h5 : (bv x.app).length = 32 := by rw [bv_length, ox.app]
  have e0 : x.cells.drop 3 = bv x.last ++ (bv x.set ++ (bv x.next ++ (bv x.data ++ bv x.app))) := rfl
  have e1 : x.cells.drop 35 = bv x.set ++ (bv x.next ++ (bv x.data ++ bv x.app)) := by rw [show 35 = 3 + 32 by omega, ← List.drop_drop, e0, List.drop_left' h1]
  have e2 : x.cells.drop 67 = bv x.next ++ (bv x.data ++ bv x.app) := by rw [show 67 = 35 + 32 by omega, ← List.drop_drop, e1, List.drop_left' h2]
  have e3 : x.cells.drop 99 = bv x.data ++ bv x.app := by rw [show 99 = 67 + 32 by omega, ← List.drop_drop, e2, List.drop_left' h3]
  have e4 : x.cells.drop 131 = bv x.app := by rw [show 131 = 99 + 32 by omega, ← List.drop_drop, e3, List.drop_left' h4]
  rw [e0, e1, e2, e3, e4]
  exact ⟨List.take_left' h1, List.take_left' h2, List.take_left' h3, List.take_left' h4, List.take_of_length_le (by omega)⟩
theorem Hd.get0 (x : Hd) : x.cells[0]? = some (.string x.chain) ∧ x.cells[1]? = some (.int .i64 x.height) ∧ x.cells[2]? = some (.int .i64 x.time) := ⟨rfl, rfl, rfl⟩
set_option maxHeartbeats 1600000 in
theorem run_eq_header (d : Nat) (w : World) (x y : Hd) (ox : x.Ok) (oy : y.Ok) : (Op.equalIn (d + 3) 25 (.agg x.cells.toArray) (.agg y.cells.toArray)).run Try.prog w = .ok (decide (x = y)) w := by
  obtain ⟨a0, a1, a2, a3, a4⟩ := x.drops ox
  obtain ⟨b0, b1, b2, b3, b4⟩ := y.drops oy
  obtain ⟨g0, g1, g2⟩ := x.get0
  obtain ⟨k0, k1, k2⟩ := y.get0
  rw [run_equalIn_struct w (d + 2) 25 _ _ (by kernel_rfl) (by kernel_rfl)]
  unfold Program.fieldsOf
  rw [Try.underlying25]
  refine (eqF (by decide) (part1 (by kernel_rfl) g0) (part1 (by kernel_rfl) k0) (eqStr (d + 1) _ _) (eqF (by decide) (part1 (by kernel_rfl) g1) (part1 (by kernel_rfl) k1) (eqInt (d + 1) _ _ Try.underlying3) (eqF (by decide) (part1 (by kernel_rfl) g2) (part1 (by kernel_rfl) k2) (eqInt (d + 1) _ _ Try.underlying3)
    (eqF (by decide) (partR Try.underlying23 rfl hash_row a0) (partR Try.underlying23 rfl hash_row b0) (eqHash _ d ox.last oy.last) (eqF (by decide) (partR Try.underlying23 rfl hash_row a1) (partR Try.underlying23 rfl hash_row b1) (eqHash _ d ox.set oy.set)
    (eqF (by decide) (partR Try.underlying23 rfl hash_row a2) (partR Try.underlying23 rfl hash_row b2) (eqHash _ d ox.next oy.next) (eqF (by decide) (partR Try.underlying23 rfl hash_row a3) (partR Try.underlying23 rfl hash_row b3) (eqHash _ d ox.data oy.data)
    (eqF (by decide) (partR Try.underlying23 rfl hash_row a4) (partR Try.underlying23 rfl hash_row b4) (eqHash _ d ox.app oy.app) eqF0)))))))).trans ?_
  congr 1
  rw [decide_eq_decide]
  exact Hd.eqv
theorem header_guard : Try.prog.eqGuardType Try.prog.depth 25 = false := by kernel_rfl
theorem Hd.cells_len (x : Hd) (ox : x.Ok) : x.cells.length = 163 := by
  unfold Hd.cells
  simp [bv_length, ox.last, ox.set, ox.next, ox.data, ox.app]
theorem okc_str {w : World} {n : Nat} {cs : List Value} (h : Okc Try.prog w (n + 1) 9 cs) : ∃ s, cs = [.string s] ∧ s.size ≤ maxLen := by
  unfold Okc at h
  simp only [Try.underlying9] at h
  exact h
theorem okc_sig {w : World} {n : Nat} {cs : List Value} (h : Okc Try.prog w (n + 2) 59 cs) : ∃ x y : Nat, cs = [.int .u64 (x : Int), .int .u64 (y : Int)] ∧ x < 18446744073709551616 ∧ y < 18446744073709551616 := by
  unfold Okc at h
  simp only [Try.underlying59] at h
  obtain ⟨hl, hf⟩ := h
  rw [sig_cells] at hl
  have h0 : Okc Try.prog w (n + 1) 43 ((cs.drop 0).take (Try.prog.cellsOf 43)) := hf 0 _ rfl
  have h1 : Okc Try.prog w (n + 1) 43 ((cs.drop 1).take (Try.prog.cellsOf 43)) := hf 1 _ rfl
  rw [u64_cells] at h0 h1
  obtain ⟨x, e0, b0⟩ := okc_u64 h0
  obtain ⟨y, e1, b1⟩ := okc_u64 h1
  have c0 := cut cs 0 1 1 rfl
  have c1 := cut cs 1 1 2 rfl
  rw [e0] at c0
  rw [e1, List.drop_of_length_le (i := 2) (by omega)] at c1
  rw [c1] at c0
  exact ⟨x, y, c0, b0, b1⟩
structure Se where
  key : Nat
  r : Nat
  s : Nat
  deriving DecidableEq
structure Se.Ok (x : Se) : Prop where
  key : x.key < 18446744073709551616
  r : x.r < 18446744073709551616
  s : x.s < 18446744073709551616
def Se.cells (x : Se) : List Value := [.int .u64 (x.key : Int), .int .u64 (x.r : Int), .int .u64 (x.s : Int)]
theorem okc_i64' {w : World} {n : Nat} {t : TypeId} {cs : List Value} (hu : Try.prog.underlying t = some (.int .i64)) (h : Okc Try.prog w (n + 1) t cs) : ∃ x, cs = [.int .i64 x] ∧ I64 x := by
  obtain ⟨x, h1, h2, h3⟩ := okc_i64 hu h
  exact ⟨x, h1, h2, h3⟩
theorem se_cells : Try.prog.cellsOf 61 = 3 := by kernel_rfl
theorem header_cells : Try.prog.cellsOf 25 = 163 := by kernel_rfl
theorem commit_cells : Try.prog.cellsOf 28 = 35 := by kernel_rfl
theorem light_cells : Try.prog.cellsOf 31 = 200 := by kernel_rfl
theorem vas_cells : Try.prog.cellsOf 29 = 1 := by kernel_rfl
theorem ses_cells : Try.prog.cellsOf 26 = 1 := by kernel_rfl
theorem se_of {w : World} {n : Nat} {cs : List Value} (h : Okc Try.prog w (n + 3) 61 cs) : ∃ x : Se, cs = x.cells ∧ x.Ok := by
  unfold Okc at h
  simp only [Try.underlying61] at h
  obtain ⟨hl, hf⟩ := h
  rw [se_cells] at hl
  have h0 : Okc Try.prog w (n + 2) 43 ((cs.drop 0).take (Try.prog.cellsOf 43)) := hf 0 _ rfl
  have h1 : Okc Try.prog w (n + 2) 59 ((cs.drop 1).take (Try.prog.cellsOf 59)) := hf 1 _ rfl
  rw [u64_cells] at h0
  rw [sig_cells] at h1
  obtain ⟨a0, e0, b0⟩ := okc_u64 h0
  obtain ⟨a1, a2, e1, b1, b2⟩ := okc_sig h1
  refine ⟨⟨a0, a1, a2⟩, ?_, ⟨b0, b1, b2⟩⟩
  have c0 := cut cs 0 1 1 rfl
  have c1 := cut cs 1 2 3 rfl
  rw [e1, List.drop_of_length_le (i := 3) (by omega)] at c1
  rw [e0, c1] at c0
  exact c0
theorem header_of {w : World} {n : Nat} {cs : List Value} (h : Okc Try.prog w (n + 3) 25 cs) : ∃ x : Hd, cs = x.cells ∧ x.Ok := by
  unfold Okc at h
  simp only [Try.underlying25] at h
  obtain ⟨hl, hf⟩ := h
  rw [header_cells] at hl
  have h0 : Okc Try.prog w (n + 2) 9 ((cs.drop 0).take (Try.prog.cellsOf 9)) := hf 0 _ rfl
  have h1 : Okc Try.prog w (n + 2) 3 ((cs.drop 1).take (Try.prog.cellsOf 3)) := hf 1 _ rfl
  have h2 : Okc Try.prog w (n + 2) 3 ((cs.drop 2).take (Try.prog.cellsOf 3)) := hf 2 _ rfl
  have h3 : Okc Try.prog w (n + 2) 23 ((cs.drop 3).take (Try.prog.cellsOf 23)) := hf 3 _ rfl
  have h4 : Okc Try.prog w (n + 2) 23 ((cs.drop 35).take (Try.prog.cellsOf 23)) := hf 4 _ rfl
  have h5 : Okc Try.prog w (n + 2) 23 ((cs.drop 67).take (Try.prog.cellsOf 23)) := hf 5 _ rfl
  have h6 : Okc Try.prog w (n + 2) 23 ((cs.drop 99).take (Try.prog.cellsOf 23)) := hf 6 _ rfl
  have h7 : Okc Try.prog w (n + 2) 23 ((cs.drop 131).take (Try.prog.cellsOf 23)) := hf 7 _ rfl
  rw [str_cells] at h0
  rw [int_cells] at h1 h2
  rw [hash_cells] at h3 h4 h5 h6 h7
  obtain ⟨a0, e0, b0⟩ := okc_str h0
  obtain ⟨a1, e1, b1⟩ := okc_i64' Try.underlying3 h1
  obtain ⟨a2, e2, b2⟩ := okc_i64' Try.underlying3 h2
  obtain ⟨a3, e3, b3⟩ := okc_hash h3
  obtain ⟨a4, e4, b4⟩ := okc_hash h4
  obtain ⟨a5, e5, b5⟩ := okc_hash h5
  obtain ⟨a6, e6, b6⟩ := okc_hash h6
  obtain ⟨a7, e7, b7⟩ := okc_hash h7
  refine ⟨⟨a0, a1, a2, a3, a4, a5, a6, a7⟩, ?_, ⟨b0, b1, b2, b3, b4, b5, b6, b7⟩⟩
  have c0 := cut cs 0 1 1 rfl
  have c1 := cut cs 1 1 2 rfl
  have c2 := cut cs 2 1 3 rfl
  have c3 := cut cs 3 32 35 rfl
  have c4 := cut cs 35 32 67 rfl
  have c5 := cut cs 67 32 99 rfl
  have c6 := cut cs 99 32 131 rfl
  have c7 := cut cs 131 32 163 rfl
  rw [e7, List.drop_of_length_le (i := 163) (by omega), List.append_nil] at c7
  rw [e6, c7] at c6
  rw [e5, c6] at c5
  rw [e4, c5] at c4
  rw [e3, c4] at c3
  rw [e2, c3] at c2
  rw [e1, c2] at c1
  rw [e0, c1] at c0
  exact c0
/-! ### Light blocks -/
structure Li where
  hd : Hd
  h : Int
  r : Int
  b : List UInt8
  se : List Se
  sv : List Va
  nx : List Va
  A1 : Option Addr
  A2 : Option Addr
  A3 : Option Addr
  c1 : Nat
  c2 : Nat
  c3 : Nat
def Li.tail (x : Li) : List Value := [.int .i64 x.h, .int .i64 x.r] ++ (bv x.b ++ [.slice x.A1 x.se.length x.c1, .slice x.A2 x.sv.length x.c2, .slice x.A3 x.nx.length x.c3])
def Li.cells (x : Li) : List Value := x.hd.cells ++ x.tail
structure Li.Ok (x : Li) : Prop where
  hd : x.hd.Ok
  h : I64 x.h
  r : I64 x.r
  b : x.b.length = 32
  se : ∀ y ∈ x.se, y.Ok
  sv : ∀ y ∈ x.sv, y.Ok
  nx : ∀ y ∈ x.nx, y.Ok
  l1 : x.se.length ≤ maxLen
  l2 : x.sv.length ≤ maxLen
  l3 : x.nx.length ≤ maxLen
structure Li.In (x : Li) (w : World) : Prop where
  se : LstM w x.A1 x.se Se.cells 3
  sv : LstM w x.A2 x.sv Va.cells 2
  nx : LstM w x.A3 x.nx Va.cells 2
theorem Li.In.chg {x : Li} {w w' : World} (h : x.In w) (k : Chg Non w w') : x.In w' := ⟨h.se.chg k, h.sv.chg k, h.nx.chg k⟩
theorem Li.cells_len (x : Li) (ox : x.Ok) : x.cells.length = 200 := by
  unfold Li.cells Li.tail
  simp [x.hd.cells_len ox.hd, bv_length, ox.b]
theorem light_of {w : World} {n : Nat} {cs : List Value} (h : Okc Try.prog w (n + 6) 31 cs) : ∃ x : Li, cs = x.cells ∧ x.Ok ∧ x.In w := by
  unfold Okc at h
  simp only [Try.underlying31] at h
  obtain ⟨hl, hf⟩ := h
  rw [light_cells] at hl
  have h0 : Okc Try.prog w (n + 5) 25 ((cs.drop 0).take (Try.prog.cellsOf 25)) := hf 0 _ rfl
  have h1 : Okc Try.prog w (n + 5) 28 ((cs.drop 163).take (Try.prog.cellsOf 28)) := hf 1 _ rfl
  have h2 : Okc Try.prog w (n + 5) 29 ((cs.drop 198).take (Try.prog.cellsOf 29)) := hf 2 _ rfl
  have h3 : Okc Try.prog w (n + 5) 29 ((cs.drop 199).take (Try.prog.cellsOf 29)) := hf 3 _ rfl
  rw [header_cells] at h0
  rw [commit_cells] at h1
  rw [vas_cells] at h2 h3
  obtain ⟨hd, e0, b0⟩ := header_of h0
  obtain ⟨A2, c2, sv, e2, l2, M2, o2⟩ := slice_of Try.underlying29 va_cells (by omega) (fun es h => va_of h) h2
  obtain ⟨A3, c3, nv, e3, l3, M3, o3⟩ := slice_of Try.underlying29 va_cells (by omega) (fun es h => va_of h) h3
  unfold Okc at h1
  simp only [Try.underlying28] at h1
  obtain ⟨gl, gf⟩ := h1
  generalize hcs : (cs.drop 163).take 35 = ds at *
  rw [commit_cells] at gl
  have g0 : Okc Try.prog w (n + 4) 3 ((ds.drop 0).take (Try.prog.cellsOf 3)) := gf 0 _ rfl
  have g1 : Okc Try.prog w (n + 4) 3 ((ds.drop 1).take (Try.prog.cellsOf 3)) := gf 1 _ rfl
  have g2 : Okc Try.prog w (n + 4) 23 ((ds.drop 2).take (Try.prog.cellsOf 23)) := gf 2 _ rfl
  have g3 : Okc Try.prog w (n + 4) 26 ((ds.drop 34).take (Try.prog.cellsOf 26)) := gf 3 _ rfl
  rw [int_cells] at g0 g1
  rw [hash_cells] at g2
  rw [ses_cells] at g3
  obtain ⟨a0, f0, d0⟩ := okc_i64' Try.underlying3 g0
  obtain ⟨a1, f1, d1⟩ := okc_i64' Try.underlying3 g1
  obtain ⟨a2, f2, d2⟩ := okc_hash g2
  obtain ⟨A1, c1, l, f3, l1, M1, o1⟩ := slice_of Try.underlying26 se_cells (by omega) (fun es h => se_of h) g3
  refine ⟨⟨hd, a0, a1, a2, l, sv, nv, A1, A2, A3, c1, c2, c3⟩, ?_, ⟨b0, d0, d1, d2, o1, o2, o3, l1, l2, l3⟩, M1, M2, M3⟩
  have e1 : ds = [.int .i64 a0, .int .i64 a1] ++ (bv a2 ++ [.slice A1 l.length c1]) := by
    have k0 := cut ds 0 1 1 rfl
    have k1 := cut ds 1 1 2 rfl
    have k2 := cut ds 2 32 34 rfl
    have k3 := cut ds 34 1 35 rfl
    rw [f3, List.drop_of_length_le (i := 35) (by omega)] at k3
    rw [f2, k3] at k2
    rw [f1, k2] at k1
    rw [f0, k1] at k0
    exact k0
  have k0 := cut cs 0 163 163 rfl
  have k1 := cut cs 163 35 198 rfl
  have k2 := cut cs 198 1 199 rfl
  have k3 := cut cs 199 1 200 rfl
  rw [e3, List.drop_of_length_le (i := 200) (by omega)] at k3
  rw [e2, k3] at k2
  rw [hcs, e1, k2] at k1
  rw [e0, k1] at k0
  simp only [List.append_assoc] at k0
  exact k0
theorem slice_cap {w : World} {n : Nat} {t e : TypeId} {cs : List Value} (ht : Try.prog.underlying t = some (.slice e)) (h : Okc Try.prog w (n + 1) t cs) {A : Option Addr} {len c : Nat} (hc : cs = [.slice A len c]) : len ≤ c ∧ c ≤ maxLen := by
  unfold Okc at h
  simp only [ht] at h
  rcases h with h | ⟨a, l, k, h, hlc, hcm, _⟩
  · rw [hc] at h
    simp only [List.cons.injEq, Value.slice.injEq, and_true] at h
    obtain ⟨_, rfl, rfl⟩ := h
    exact ⟨Nat.le_refl _, by unfold maxLen; omega⟩
  · rw [hc] at h
    simp only [List.cons.injEq, Value.slice.injEq, and_true] at h
    obtain ⟨_, rfl, rfl⟩ := h
    exact ⟨hlc, hcm⟩
theorem lights_arg {w : World} {v : Value} (h : Okv Try.prog w 34 v) : ∃ A c l, v = .slice A l.length c ∧ l.length ≤ c ∧ c ≤ maxLen ∧ LstM w A l Li.cells 200 ∧ ∀ x ∈ l, x.Ok ∧ x.In w := by
  obtain ⟨h1, h2⟩ := h
  simp only [Try.underlying34] at h1
  obtain ⟨A, c, l, e, hl, M, ol⟩ := slice_of (Ok := fun x : Li => x.Ok ∧ x.In w) Try.underlying34 light_cells (by omega) (fun es h => light_of h) (h2 8)
  obtain ⟨k1, k2⟩ := slice_cap Try.underlying34 (h2 9) e
  rw [h1] at e
  refine ⟨A, c, l, ?_, k1, k2, M, ol⟩
  simpa using e
/-- A row is loaded, in each world of a class. -/
theorem quiet_load_row {ops : Array Oper} {o : Oper} {a : Act} {C : World → Prop} {K : Act → Prop} {E : Prop} (hgd : o.guard = none) (ty : TypeId) (x : Operand) (ho : o.op = .load ty x) (b off : Nat) (hx : a.eval x = .pointer (some ⟨b, off, none⟩)) (cs : List Value) (d : TypeDesc)
    (hC : ∀ w', C w' → w'.rangeAt b off cs) (hu : Try.prog.underlying ty = some d) (hd : d.isRow = true) (hi : (Try.prog.info? ty).map (·.size) = some cs.length) (h : K (a.put o.dst (.agg cs.toArray))) :
    if Region.wanted o (yielded ops a.tmps) = true then o.quiet Try.prog a C K else E := by
  have hw : Region.wanted o (yielded ops a.tmps) = true := by simp [Region.wanted, hgd]
  rw [if_pos hw]
  refine ⟨_, fun w' hw' => ?_, h⟩
  have hl := run_loadVar_mid w' b off ty cs d (hC w' hw') hu hd hi
  unfold Oper.quietAt execOp
  simp only [ho, hx, Instr.loadAt, Instr.sureAddr, Sem.run_bind, Sem.run_pure, Result.andThen_ok, hl]
  exact ⟨rfl, rfl⟩
/-- Two rows are held against each other, in each world of a class. -/
theorem quiet_neq_row {ops : Array Oper} {o : Oper} {a : Act} {C : World → Prop} {K : Act → Prop} {E : Prop} (hgd : o.guard = none) (t : TypeId) (x y : Operand) (u : TypeId) (ho : o.op = .binOp .neq t x y u)
    {xs ys : Array Value} (hx : a.eval x = .agg xs) (hy : a.eval y = .agg ys) (hg : Try.prog.eqGuardType Try.prog.depth t = false) {b : Bool} (hrun : ∀ w, (Op.equalIn 10000 t (.agg xs) (.agg ys)).run Try.prog w = .ok b w) (h : K (a.put o.dst (.bool (!b)))) :
    if Region.wanted o (yielded ops a.tmps) = true then o.quiet Try.prog a C K else E := by
  have hw : Region.wanted o (yielded ops a.tmps) = true := by simp [Region.wanted, hgd]
  rw [if_pos hw]
  refine ⟨_, fun w' hw' => ?_, h⟩
  unfold Oper.quietAt execOp
  simp only [ho, hx, hy, Sem.run_bind, run_eqGuard_agg w' .neq t x y xs ys hg, Result.andThen_ok, run_neq_struct, hrun, Sem.run_pure]
  exact ⟨rfl, rfl⟩
end Go.Proofs.Ytflellcbfcakhaa
