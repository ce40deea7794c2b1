/- The things of package forms held against each other by ==. -/
import Derived.Test.YtjcfdclgddjaoaaChecked
import Derived.WalkKit
import Derived.Lib.Hide
import Derived.ChangeKeysEq
import Derived.Laws.StructEq
import Derived.Test.YtjcfdclgddjaoaaFt
namespace Go.Proofs.Ytjcfdclgddjaoaa
open Go.RowKit
set_option linter.unusedVariables false
set_option maxRecDepth 20000

theorem eqF {P : Program} {w : World} {d : Nat} {xs ys : Array Value} {f : Field} {fs : List Field} {a b : Value} {p q : Prop} [Decidable p] [Decidable q] (hn : f.name ≠ "_") (ha : (part f.type xs f.offset).run P w = .ok a w) (hb : (part f.type ys f.offset).run P w = .ok b w)
    (he : (Op.equalIn d f.type a b).run P w = .ok (decide p) w) (ht : (Op.eqFields d xs ys fs).run P w = .ok (decide q) w) : (Op.eqFields d xs ys (f :: fs)).run P w = .ok (decide (p ∧ q)) w := by
  simp only [Op.eqFields, hn, ne_eq, not_false_eq_true, if_true, Sem.run_bind, ha, hb, he, Result.andThen_ok]
  by_cases hp : p
  · simp only [decide_eq_true hp, Bool.not_true, Bool.false_eq_true, if_false]
    rw [ht]
    congr 1
    rw [decide_eq_decide]
    simp [hp]
  · simp only [decide_eq_false hp, Bool.not_false, if_true, Sem.run_pure]
    congr 1
    symm
    rw [decide_eq_false_iff_not]
    exact fun h => hp h.1
theorem eqF0 {P : Program} {w : World} {d : Nat} {xs ys : Array Value} : (Op.eqFields d xs ys []).run P w = .ok (decide True) w := by simp [Op.eqFields]

theorem eqInt {w : World} (d : Nat) {t : TypeId} {k k' : IntKind} (a b : Int) (h : Try.prog.underlying t = some (.int k')) : (Op.equalIn (d + 1) t (.int k a) (.int k b)).run Try.prog w = .ok (decide (a = b)) w := by
  rw [run_equalIn_int w d t k k' a b h]
  congr 1
theorem eqNat {w : World} (d : Nat) {t : TypeId} {k k' : IntKind} (a b : Nat) (h : Try.prog.underlying t = some (.int k')) : (Op.equalIn (d + 1) t (.int k (a : Int)) (.int k (b : Int))).run Try.prog w = .ok (decide (a = b)) w := by
  rw [eqInt d (a : Int) (b : Int) h]
  congr 1
  rw [decide_eq_decide]
  omega
theorem eqStr {w : World} (d : Nat) (a b : ByteArray) : (Op.equalIn (d + 1) 9 (.string a) (.string b)).run Try.prog w = .ok (decide (a = b)) w := by
  rw [run_equalIn_string w d 9 a b Try.underlying9]
  congr 1
  rw [Bool.eq_iff_iff]
  simp only [ByteArray.toList_eq, beq_iff_eq, decide_eq_true_eq, Array.toList_inj]
  exact ⟨fun h => by cases a; cases b; simp_all, fun h => by rw [h]⟩
theorem eqHash {w : World} (d : Nat) {a b : List UInt8} (ha : a.length = 32) (hb : b.length = 32) : (Op.equalIn (d + 2) 45 (.agg (bv a).toArray) (.agg (bv b).toArray)).run Try.prog w = .ok (decide (a = b)) w := by
  obtain ⟨i, hi, _, _, _⟩ := info_parts byt.hi
  rw [run_equalIn_array w (d + 1) (bv a).toArray (bv b).toArray Try.underlying45 hi, byte_cells, run_items w d a b 32 ha hb _ (fun i hi => by simpa using hi)]
  congr 1
  rw [decide_eq_decide]
  constructor
  · intro h
    apply List.ext_getElem?
    intro j
    rcases Nat.lt_or_ge j 32 with hj | hj
    · exact h j (by simpa using hj)
    · rw [List.getElem?_eq_none (by omega), List.getElem?_eq_none (by omega)]
  · rintro rfl _ _
    rfl

/-- A cell of a row. -/
theorem part1 {w : World} {e : TypeId} (he : Try.prog.plainKey e = true) {L : List Value} {off : Nat} {v : Value} (h : L[off]? = some v) : (part e L.toArray off).run Try.prog w = .ok v w := run_part_plain w he (by simpa using h)
/-- A row of a row. -/
theorem partR {w : World} {t : TypeId} {d : TypeDesc} (hu : Try.prog.underlying t = some d) (hd : d.isRow = true) {n : Nat} (hi : (Try.prog.info? t).map (·.size) = some n) {L cs : List Value} {off : Nat} (h : (L.drop off).take n = cs) : (part t L.toArray off).run Try.prog w = .ok (.agg cs.toArray) w := by
  have hagg : (isAgg t).run Try.prog w = .ok true w := by
    unfold isAgg
    rw [Sem.run_bind, run_underlying hu w]
    cases d <;> simp_all
  cases hq : Try.prog.info? t with
  | none => simp [hq] at hi
  | some i =>
    have hs : i.size = n := by simpa [hq] using hi
    have he : L.toArray.extract off (off + n) = cs.toArray := by
      rw [← h]
      simp [List.extract_toArray, List.take_drop, List.extract]
    simp only [part, Sem.run_bind, hagg, Result.andThen_ok, if_true]
    simp [sizeOf, typeInfo, hq, hs, he, Sem.run_bind]
    exact h

theorem sig_row : (Try.prog.info? 48).map (·.size) = some 2 := by kernel_rfl
theorem eqSig {w : World} (d : Nat) (a b c e : Nat) : (Op.equalIn (d + 2) 48 (.agg [Value.int .u64 (a : Int), .int .u64 (b : Int)].toArray) (.agg [Value.int .u64 (c : Int), .int .u64 (e : Int)].toArray)).run Try.prog w = .ok (decide (a = c ∧ b = e ∧ True)) w := by
  rw [run_equalIn_struct w (d + 1) 48 _ _ (by kernel_rfl) (by kernel_rfl)]
  unfold Program.fieldsOf
  rw [Try.underlying48]
  exact eqF (by decide) (part1 (by kernel_rfl) rfl) (part1 (by kernel_rfl) rfl) (eqNat d a c Try.underlying46) (eqF (by decide) (part1 (by kernel_rfl) rfl) (part1 (by kernel_rfl) rfl) (eqNat d b e Try.underlying46) eqF0)

theorem mid_get {p m q : List Value} {n : Nat} (hm : m.length = n) (j : Nat) : (p ++ (m ++ q))[p.length + n + j]? = q[j]? := by
  rw [List.getElem?_append_right (by omega), List.getElem?_append_right (by omega)]
  congr 1
  omega

theorem Vt.eqv {x y : Vt} : (x.chain = y.chain ∧ x.height = y.height ∧ x.round = y.round ∧ x.type = y.type ∧ x.block = y.block ∧ x.key = y.key ∧ (x.r = y.r ∧ x.s = y.s ∧ True) ∧ True) ↔ x = y := by
  cases x
  cases y
  simp
instance : DecidableEq Vt := fun x y => decidable_of_iff _ Vt.eqv
theorem Vt.drop4 (x : Vt) (ox : x.Ok) : (x.cells.drop 4).take 32 = bv x.block := by
  have e : x.cells.drop 4 = bv x.block ++ [.int .u64 (x.key : Int), .int .u64 (x.r : Int), .int .u64 (x.s : Int)] := rfl
  rw [e, List.take_left' (by rw [bv_length, ox.block])]
theorem Vt.drop37 (x : Vt) (ox : x.Ok) : (x.cells.drop 37).take 2 = [Value.int .u64 (x.r : Int), .int .u64 (x.s : Int)] := by
  have e : x.cells.drop 4 = bv x.block ++ [.int .u64 (x.key : Int), .int .u64 (x.r : Int), .int .u64 (x.s : Int)] := rfl
  rw [show 37 = 4 + (32 + 1) by omega, ← List.drop_drop, e, ← List.drop_drop, List.drop_left' (by rw [bv_length, ox.block])]
  rfl
theorem Vt.get36 (x : Vt) (ox : x.Ok) : x.cells[36]? = some (.int .u64 (x.key : Int)) := mid_get (p := [.string x.chain, .int .i64 x.height, .int .i64 x.round, .int .i64 x.type]) (by rw [bv_length, ox.block] : (bv x.block).length = 32) 0
theorem run_eq_vote (w : World) (x y : Vt) (ox : x.Ok) (oy : y.Ok) : (Op.equalIn 10000 50 (.agg x.cells.toArray) (.agg y.cells.toArray)).run Try.prog w = .ok (decide (x = y)) w := by
  rw [run_equalIn_struct w 9999 50 _ _ (by kernel_rfl) (by kernel_rfl)]
  unfold Program.fieldsOf
  rw [Try.underlying50]
  refine (eqF (by decide) (part1 (by kernel_rfl) rfl) (part1 (by kernel_rfl) rfl) (eqStr 9998 _ _) (eqF (by decide) (part1 (by kernel_rfl) rfl) (part1 (by kernel_rfl) rfl) (eqInt 9998 _ _ Try.underlying3) (eqF (by decide) (part1 (by kernel_rfl) rfl) (part1 (by kernel_rfl) rfl) (eqInt 9998 _ _ Try.underlying3) (eqF (by decide) (part1 (by kernel_rfl) rfl) (part1 (by kernel_rfl) rfl) (eqInt 9998 _ _ Try.underlying43)
    (eqF (by decide) (partR Try.underlying45 rfl hash_row (x.drop4 ox)) (partR Try.underlying45 rfl hash_row (y.drop4 oy)) (eqHash 9997 ox.block oy.block) (eqF (by decide) (part1 (by kernel_rfl) (x.get36 ox)) (part1 (by kernel_rfl) (y.get36 oy)) (eqNat 9998 _ _ Try.underlying46)
    (eqF (by decide) (partR Try.underlying48 rfl sig_row (x.drop37 ox)) (partR Try.underlying48 rfl sig_row (y.drop37 oy)) (eqSig 9997 _ _ _ _) eqF0))))))).trans ?_
  congr 1
  rw [decide_eq_decide]
  exact Vt.eqv

theorem Pk.eqv {x y : Pk} : (x.seq = y.seq ∧ x.from = y.from ∧ x.data = y.data ∧ x.timeout = y.timeout ∧ True) ↔ x = y := by
  cases x
  cases y
  simp
instance : DecidableEq Pk := fun x y => decidable_of_iff _ Pk.eqv
theorem run_eq_packet (w : World) (x y : Pk) : (Op.equalIn 10000 23 (.agg x.cells.toArray) (.agg y.cells.toArray)).run Try.prog w = .ok (decide (x = y)) w := by
  rw [run_equalIn_struct w 9999 23 _ _ (by kernel_rfl) (by kernel_rfl)]
  unfold Program.fieldsOf
  rw [Try.underlying23]
  refine (eqF (by decide) (part1 (by kernel_rfl) rfl) (part1 (by kernel_rfl) rfl) (eqInt 9998 _ _ Try.underlying3) (eqF (by decide) (part1 (by kernel_rfl) rfl) (part1 (by kernel_rfl) rfl) (eqStr 9998 _ _) (eqF (by decide) (part1 (by kernel_rfl) rfl) (part1 (by kernel_rfl) rfl) (eqStr 9998 _ _) (eqF (by decide) (part1 (by kernel_rfl) rfl) (part1 (by kernel_rfl) rfl) (eqInt 9998 _ _ Try.underlying3) eqF0)))).trans ?_
  congr 1
  rw [decide_eq_decide]
  exact Pk.eqv

theorem Hd.eqv {x y : Hd} : (x.chain = y.chain ∧ x.height = y.height ∧ x.time = y.time ∧ x.last = y.last ∧ x.set = y.set ∧ x.next = y.next ∧ x.data = y.data ∧ x.app = y.app ∧ True) ↔ x = y := by
  cases x
  cases y
  simp
instance : DecidableEq Hd := fun x y => decidable_of_iff _ Hd.eqv
theorem Hd.drops (x : Hd) (ox : x.Ok) : (x.cells.drop 3).take 32 = bv x.last ∧ (x.cells.drop 35).take 32 = bv x.set ∧ (x.cells.drop 67).take 32 = bv x.next ∧ (x.cells.drop 99).take 32 = bv x.data ∧ (x.cells.drop 131).take 32 = bv x.app := by
  have h1 : (bv x.last).length = 32 := by rw [bv_length, ox.last]
  have h2 : (bv x.set).length = 32 := by rw [bv_length, ox.set]
  have h3 : (bv x.next).length = 32 := by rw [bv_length, ox.next]
  have h4 : (bv x.data).length = 32 := by rw [bv_length, ox.data]
  have h5 : (bv x.app).length = 32 := by rw [bv_length, ox.app]
  have e0 : x.cells.drop 3 = bv x.last ++ (bv x.set ++ (bv x.next ++ (bv x.data ++ bv x.app))) := rfl
  have e1 : x.cells.drop 35 = bv x.set ++ (bv x.next ++ (bv x.data ++ bv x.app)) := by rw [show 35 = 3 + 32 by omega, ← List.drop_drop, e0, List.drop_left' h1]
  have e2 : x.cells.drop 67 = bv x.next ++ (bv x.data ++ bv x.app) := by rw [show 67 = 35 + 32 by omega, ← List.drop_drop, e1, List.drop_left' h2]
  have e3 : x.cells.drop 99 = bv x.data ++ bv x.app := by rw [show 99 = 67 + 32 by omega, ← List.drop_drop, e2, List.drop_left' h3]
  have e4 : x.cells.drop 131 = bv x.app := by rw [show 131 = 99 + 32 by omega, ← List.drop_drop, e3, List.drop_left' h4]
  rw [e0, e1, e2, e3, e4]
  exact ⟨List.take_left' h1, List.take_left' h2, List.take_left' h3, List.take_left' h4, List.take_of_length_le (by omega)⟩
theorem Hd.get0 (x : Hd) : x.cells[0]? = some (.string x.chain) ∧ x.cells[1]? = some (.int .i64 x.height) ∧ x.cells[2]? = some (.int .i64 x.time) := ⟨rfl, rfl, rfl⟩
set_option maxHeartbeats 1600000 in
theorem run_eq_header (d : Nat) (w : World) (x y : Hd) (ox : x.Ok) (oy : y.Ok) : (Op.equalIn (d + 3) 54 (.agg x.cells.toArray) (.agg y.cells.toArray)).run Try.prog w = .ok (decide (x = y)) w := by
  obtain ⟨a0, a1, a2, a3, a4⟩ := x.drops ox
  obtain ⟨b0, b1, b2, b3, b4⟩ := y.drops oy
  obtain ⟨g0, g1, g2⟩ := x.get0
  obtain ⟨k0, k1, k2⟩ := y.get0
  rw [run_equalIn_struct w (d + 2) 54 _ _ (by kernel_rfl) (by kernel_rfl)]
  unfold Program.fieldsOf
  rw [Try.underlying54]
  refine (eqF (by decide) (part1 (by kernel_rfl) g0) (part1 (by kernel_rfl) k0) (eqStr (d + 1) _ _) (eqF (by decide) (part1 (by kernel_rfl) g1) (part1 (by kernel_rfl) k1) (eqInt (d + 1) _ _ Try.underlying3) (eqF (by decide) (part1 (by kernel_rfl) g2) (part1 (by kernel_rfl) k2) (eqInt (d + 1) _ _ Try.underlying3)
    (eqF (by decide) (partR Try.underlying45 rfl hash_row a0) (partR Try.underlying45 rfl hash_row b0) (eqHash d ox.last oy.last) (eqF (by decide) (partR Try.underlying45 rfl hash_row a1) (partR Try.underlying45 rfl hash_row b1) (eqHash d ox.set oy.set)
    (eqF (by decide) (partR Try.underlying45 rfl hash_row a2) (partR Try.underlying45 rfl hash_row b2) (eqHash d ox.next oy.next) (eqF (by decide) (partR Try.underlying45 rfl hash_row a3) (partR Try.underlying45 rfl hash_row b3) (eqHash d ox.data oy.data)
    (eqF (by decide) (partR Try.underlying45 rfl hash_row a4) (partR Try.underlying45 rfl hash_row b4) (eqHash d ox.app oy.app) eqF0)))))))).trans ?_
  congr 1
  rw [decide_eq_decide]
  exact Hd.eqv

/-- == of two structs, under a guard or none: by what 'equalIn' answers. -/
theorem wpList_eql_w {ops : Array Oper} {rest : List Oper} {op : Oper} {a : Act} {w : World} {Q : Exit → Act → World → Prop} (t : TypeId) (x y : Operand) (u : TypeId) (ho : op.op = .binOp .eql t x y u) (hw : Region.wanted op (yielded ops a.tmps) = true)
    {xs ys : Array Value} (hx : a.eval x = .agg xs) (hy : a.eval y = .agg ys) (hg : Try.prog.eqGuardType Try.prog.depth t = false) {b : Bool} (hrun : (Op.equalIn 10000 t (.agg xs) (.agg ys)).run Try.prog w = .ok b w)
    (h : wpList Try.prog ops Q rest (a.put op.dst (.bool b)) w) : wpList Try.prog ops Q (op :: rest) a w := by
  unfold wpList
  rw [if_pos hw]
  left
  unfold Oper.wp execOp
  simp only [ho, hx, hy, Sem.run_bind, run_eqGuard_agg w .eql t x y xs ys hg, Result.andThen_ok, run_eql_struct, hrun, Sem.run_pure]
  exact h
theorem wpList_neq_w {ops : Array Oper} {rest : List Oper} {op : Oper} {a : Act} {w : World} {Q : Exit → Act → World → Prop} (t : TypeId) (x y : Operand) (u : TypeId) (ho : op.op = .binOp .neq t x y u) (hw : Region.wanted op (yielded ops a.tmps) = true)
    {xs ys : Array Value} (hx : a.eval x = .agg xs) (hy : a.eval y = .agg ys) (hg : Try.prog.eqGuardType Try.prog.depth t = false) {b : Bool} (hrun : (Op.equalIn 10000 t (.agg xs) (.agg ys)).run Try.prog w = .ok b w)
    (h : wpList Try.prog ops Q rest (a.put op.dst (.bool (!b))) w) : wpList Try.prog ops Q (op :: rest) a w := by
  unfold wpList
  rw [if_pos hw]
  left
  unfold Oper.wp execOp
  simp only [ho, hx, hy, Sem.run_bind, run_eqGuard_agg w .neq t x y xs ys hg, Result.andThen_ok, run_neq_struct, hrun, Sem.run_pure]
  exact h
theorem vote_guard : Try.prog.eqGuardType Try.prog.depth 50 = false := by kernel_rfl
theorem packet_guard : Try.prog.eqGuardType Try.prog.depth 23 = false := by kernel_rfl
theorem header_guard : Try.prog.eqGuardType Try.prog.depth 54 = false := by kernel_rfl
end Go.Proofs.Ytjcfdclgddjaoaa
