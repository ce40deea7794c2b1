import Derived.Test.YtinbjbfgfknpaaaChecked
import Derived.WalkKit
import Derived.WalkLawsBesides
import Derived.Lib.Hide
import Derived.ChangeKeysEq
import Derived.Laws.StructEq
import Derived.Recover
import Derived.Deep.RegionHeld3
import Derived.Test.YtinbjbfgfknpaaaMFormOnly3
import Derived.Test.YtinbjbfgfknpaaaMFormOnly4
import Derived.Test.YtinbjbfgfknpaaaMFormOnly5
import Derived.Test.YtinbjbfgfknpaaaMFormOnly6
import Derived.Test.YtinbjbfgfknpaaaMFormOnly8
import Derived.Test.YtinbjbfgfknpaaaMFormOnly9
/- Package forms: DecodeProof. -/
namespace Go.Proofs.Ytinbjbfgfknpaaa
open Go.RowKit
set_option linter.unusedVariables false
set_option linter.unusedSimpArgs false
set_option maxRecDepth 20000

theorem DecodeProof_any (w : World) (A : Option Addr) (n c : Nat) (bs : List UInt8) (hn : n = bs.length) (hr : Rd w A bs) (hsz : bs.length ≤ 1000000000) : Calls Try.prog 14 #[.slice A n c] w (DecP w pfz (whole (dProof (some bs)))) := by
  have hz := dProof.alloc0 w
  have hzl := dProof.zlen
  have hrow := dProof.row
  have hC := (Chg.refl Non w).alloc (.cells pfz.toArray 59)
  have hb := Hb.new w 59 pfz.toArray
  have H := decoded_Proof (w.alloc (.cells pfz.toArray 59)) A n c bs (dProof (some bs)) hn (hr.chg hC (fun _ _ f => f)) hsz (fun w1 g F S => by
    generalize (w.alloc (.cells pfz.toArray 59)).heap.size = tb at *
    exact proof_r w1 g F tb 0 59 [] [] (.int .i64 0) (some bs) S rfl)
  generalize whole (dProof (some bs)) = r at *
  have hzone := pfz_one
  have HH := Lib.hid H
  have HC := Lib.hid hC
  clear H hC hn hr
  generalize pfz = z at *
  go_enter Try.func14, Try.ntmps14
  go_wp2_with (with_reducible refine wpList_alloc_row rfl _ rfl z hz ?_)
  refine HH.out.mono ?_
  rintro e w1 ⟨h1, h2⟩
  clear HH
  have hb1 := hb.chg h1 (fun f => f)
  have h0 := HC.out.trans h1 (fun _ f => f.elim)
  have hs1 := HC.out.size
  have hss : (w.alloc (.cells z.toArray 59)).heap.size = w.heap.size + 1 := by simp
  obtain ⟨L, k, rfl, hL1, hL2, hk⟩ : ∃ (L : List Value) (k : Int), e = .returned (.tuple #[.agg L.toArray, .int .i64 k]) ∧ L.length = 2 ∧ (∀ v ∈ L, v.oneCell' = true) ∧ (∀ w', Chg (fun j => j = w.heap.size) w1 w' → DecP w z r (.returned (.tuple #[.agg L.toArray, .int .i64 k])) w') := by
    cases r with
    | some x =>
      obtain ⟨nb, ms, hms, g1, rfl, B1, B2⟩ := h2
      refine ⟨_, 0, rfl, rfl, (by intro v hv; simp at hv; rcases hv with rfl | rfl <;> rfl), fun w' k => ⟨h0.trans k (fun j hj => .inr (by omega)), nb, ms, hms, by omega, rfl, B1.chg k (by omega), fun m hm => ((B2 m hm).chg k (fun j hj => by omega)).mono (by omega)⟩⟩
    | none => exact ⟨z, 61, h2, hzl, hzone, fun w' k => ⟨h0.trans k (fun j hj => .inr (by omega)), rfl⟩⟩
  have hLs : L.toArray.size = 2 := by rw [List.size_toArray, hL1]
  have hth := hb1.there0
  rw [hzl] at hth
  have hb2 := hb1.sets0 (L' := L) (by rw [hzl, hL1])
  have HK := Lib.hid hk
  clear h2 hk
  go_wp2_with (with_reducible refine wpList_store_mid rfl 59 _ _ rfl w.heap.size 0 L.toArray rfl rfl (by rw [hLs]; exact hth) (by rw [hLs, hrow]) (one_mem hL2) ?_)
  refine bodyPost_ret ((results_cell_tmp rfl _ _ _).trans ?_) rfl (R := DecP w z r) (v := .tuple #[.agg L.toArray, .int .i64 k]) ?_
  · simp only [asAddr, Sem.run_pure, Result.andThen_ok]
    have hl := load_row hb2 Try.underlying59 rfl (by rw [hrow, hL1])
    simp [hl]
  · exact HK.out _ (Chg.setCells (S := fun j => j = w.heap.size) rfl L _ 0 (Chg.refl _ _))
end Go.Proofs.Ytinbjbfgfknpaaa

/- The things of package forms held against each other by ==. -/
namespace Go.Proofs.Ytinbjbfgfknpaaa
open Go.RowKit
set_option linter.unusedVariables false
set_option linter.unusedSimpArgs false
set_option maxRecDepth 20000

theorem eqF {P : Program} {w : World} {d : Nat} {xs ys : Array Value} {f : Field} {fs : List Field} {a b : Value} {p q : Prop} [Decidable p] [Decidable q] (hn : f.name ≠ "_") (ha : (part f.type xs f.offset).run P w = .ok a w) (hb : (part f.type ys f.offset).run P w = .ok b w)
    (he : (Op.equalIn d f.type a b).run P w = .ok (decide p) w) (ht : (Op.eqFields d xs ys fs).run P w = .ok (decide q) w) : (Op.eqFields d xs ys (f :: fs)).run P w = .ok (decide (p ∧ q)) w := by
  simp only [Op.eqFields, hn, ne_eq, not_false_eq_true, if_true, Sem.run_bind, ha, hb, he, Result.andThen_ok]
  by_cases hp : p
  · simp only [decide_eq_true hp, Bool.not_true, Bool.false_eq_true, if_false]
    rw [ht]
    congr 1
    rw [decide_eq_decide]
    simp [hp]
  · simp only [decide_eq_false hp, Bool.not_false, if_true, Sem.run_pure]
    congr 1
    symm
    rw [decide_eq_false_iff_not]
    exact fun h => hp h.1
theorem eqF0 {P : Program} {w : World} {d : Nat} {xs ys : Array Value} : (Op.eqFields d xs ys []).run P w = .ok (decide True) w := by simp [Op.eqFields]

theorem eqInt {w : World} (d : Nat) {t : TypeId} {k k' : IntKind} (a b : Int) (h : Try.prog.underlying t = some (.int k')) : (Op.equalIn (d + 1) t (.int k a) (.int k b)).run Try.prog w = .ok (decide (a = b)) w := by
  rw [run_equalIn_int w d t k k' a b h]
  congr 1
theorem eqNat {w : World} (d : Nat) {t : TypeId} {k k' : IntKind} (a b : Nat) (h : Try.prog.underlying t = some (.int k')) : (Op.equalIn (d + 1) t (.int k (a : Int)) (.int k (b : Int))).run Try.prog w = .ok (decide (a = b)) w := by
  rw [eqInt d (a : Int) (b : Int) h]
  congr 1
  rw [decide_eq_decide]
  omega
theorem eqStr {w : World} (d : Nat) (a b : ByteArray) : (Op.equalIn (d + 1) 9 (.string a) (.string b)).run Try.prog w = .ok (decide (a = b)) w := by
  rw [run_equalIn_string w d 9 a b Try.underlying9]
  congr 1
  rw [Bool.eq_iff_iff]
  simp only [ByteArray.toList_eq, beq_iff_eq, decide_eq_true_eq, Array.toList_inj]
  exact ⟨fun h => by cases a; cases b; simp_all, fun h => by rw [h]⟩
theorem eqHash {w : World} (d : Nat) {a b : List UInt8} (ha : a.length = 32) (hb : b.length = 32) : (Op.equalIn (d + 2) 26 (.agg (bv a).toArray) (.agg (bv b).toArray)).run Try.prog w = .ok (decide (a = b)) w := by
  obtain ⟨i, hi, _, _, _⟩ := info_parts byt.hi
  rw [run_equalIn_array w (d + 1) (bv a).toArray (bv b).toArray Try.underlying26 hi, byte_cells, run_items w d a b 32 ha hb _ (fun i hi => by simpa using hi)]
  congr 1
  rw [decide_eq_decide]
  constructor
  · intro h
    apply List.ext_getElem?
    intro j
    rcases Nat.lt_or_ge j 32 with hj | hj
    · exact h j (by simpa using hj)
    · rw [List.getElem?_eq_none (by omega), List.getElem?_eq_none (by omega)]
  · rintro rfl _ _
    rfl

/-- A cell of a row. -/
theorem part1 {w : World} {e : TypeId} (he : Try.prog.plainKey e = true) {L : List Value} {off : Nat} {v : Value} (h : L[off]? = some v) : (part e L.toArray off).run Try.prog w = .ok v w := run_part_plain w he (by simpa using h)
/-- A row of a row. -/
theorem partR {w : World} {t : TypeId} {d : TypeDesc} (hu : Try.prog.underlying t = some d) (hd : d.isRow = true) {n : Nat} (hi : (Try.prog.info? t).map (·.size) = some n) {L cs : List Value} {off : Nat} (h : (L.drop off).take n = cs) : (part t L.toArray off).run Try.prog w = .ok (.agg cs.toArray) w := by
  have hagg : (isAgg t).run Try.prog w = .ok true w := by
    unfold isAgg
    rw [Sem.run_bind, run_underlying hu w]
    cases d <;> simp_all
  cases hq : Try.prog.info? t with
  | none => simp [hq] at hi
  | some i =>
    have hs : i.size = n := by simpa [hq] using hi
    have he : L.toArray.extract off (off + n) = cs.toArray := by
      rw [← h]
      simp [List.extract_toArray, List.take_drop, List.extract]
    simp only [part, Sem.run_bind, hagg, Result.andThen_ok, if_true]
    simp [sizeOf, typeInfo, hq, hs, he, Sem.run_bind]
    exact h

theorem sig_row : (Try.prog.info? 29).map (·.size) = some 2 := by kernel_rfl
theorem eqSig {w : World} (d : Nat) (a b c e : Nat) : (Op.equalIn (d + 2) 29 (.agg [Value.int .u64 (a : Int), .int .u64 (b : Int)].toArray) (.agg [Value.int .u64 (c : Int), .int .u64 (e : Int)].toArray)).run Try.prog w = .ok (decide (a = c ∧ b = e ∧ True)) w := by
  rw [run_equalIn_struct w (d + 1) 29 _ _ (by kernel_rfl) (by kernel_rfl)]
  unfold Program.fieldsOf
  rw [Try.underlying29]
  exact eqF (by decide) (part1 (by kernel_rfl) rfl) (part1 (by kernel_rfl) rfl) (eqNat d a c Try.underlying27) (eqF (by decide) (part1 (by kernel_rfl) rfl) (part1 (by kernel_rfl) rfl) (eqNat d b e Try.underlying27) eqF0)

theorem mid_get {p m q : List Value} {n : Nat} (hm : m.length = n) (j : Nat) : (p ++ (m ++ q))[p.length + n + j]? = q[j]? := by
  rw [List.getElem?_append_right (by omega), List.getElem?_append_right (by omega)]
  congr 1
  omega

theorem Vt.eqv {x y : Vt} : (x.chain = y.chain ∧ x.height = y.height ∧ x.round = y.round ∧ x.type = y.type ∧ x.block = y.block ∧ x.key = y.key ∧ (x.r = y.r ∧ x.s = y.s ∧ True) ∧ True) ↔ x = y := by
  cases x
  cases y
  simp
instance : DecidableEq Vt := fun x y => decidable_of_iff _ Vt.eqv
theorem Vt.drop4 (x : Vt) (ox : x.Ok) : (x.cells.drop 4).take 32 = bv x.block := by
  have e : x.cells.drop 4 = bv x.block ++ [.int .u64 (x.key : Int), .int .u64 (x.r : Int), .int .u64 (x.s : Int)] := rfl
  rw [e, List.take_left' (by rw [bv_length, ox.block])]
theorem Vt.drop37 (x : Vt) (ox : x.Ok) : (x.cells.drop 37).take 2 = [Value.int .u64 (x.r : Int), .int .u64 (x.s : Int)] := by
  have e : x.cells.drop 4 = bv x.block ++ [.int .u64 (x.key : Int), .int .u64 (x.r : Int), .int .u64 (x.s : Int)] := rfl
  rw [show 37 = 4 + (32 + 1) by omega, ← List.drop_drop, e, ← List.drop_drop, List.drop_left' (by rw [bv_length, ox.block])]
  rfl
theorem Vt.get36 (x : Vt) (ox : x.Ok) : x.cells[36]? = some (.int .u64 (x.key : Int)) := mid_get (p := [.string x.chain, .int .i64 x.height, .int .i64 x.round, .int .i64 x.type]) (by rw [bv_length, ox.block] : (bv x.block).length = 32) 0
theorem run_eq_vote (w : World) (x y : Vt) (ox : x.Ok) (oy : y.Ok) : (Op.equalIn 10000 31 (.agg x.cells.toArray) (.agg y.cells.toArray)).run Try.prog w = .ok (decide (x = y)) w := by
  rw [run_equalIn_struct w 9999 31 _ _ (by kernel_rfl) (by kernel_rfl)]
  unfold Program.fieldsOf
  rw [Try.underlying31]
  refine (eqF (by decide) (part1 (by kernel_rfl) rfl) (part1 (by kernel_rfl) rfl) (eqStr 9998 _ _) (eqF (by decide) (part1 (by kernel_rfl) rfl) (part1 (by kernel_rfl) rfl) (eqInt 9998 _ _ Try.underlying3) (eqF (by decide) (part1 (by kernel_rfl) rfl) (part1 (by kernel_rfl) rfl) (eqInt 9998 _ _ Try.underlying3) (eqF (by decide) (part1 (by kernel_rfl) rfl) (part1 (by kernel_rfl) rfl) (eqInt 9998 _ _ Try.underlying24)
    (eqF (by decide) (partR Try.underlying26 rfl hash_row (x.drop4 ox)) (partR Try.underlying26 rfl hash_row (y.drop4 oy)) (eqHash 9997 ox.block oy.block) (eqF (by decide) (part1 (by kernel_rfl) (x.get36 ox)) (part1 (by kernel_rfl) (y.get36 oy)) (eqNat 9998 _ _ Try.underlying27)
    (eqF (by decide) (partR Try.underlying29 rfl sig_row (x.drop37 ox)) (partR Try.underlying29 rfl sig_row (y.drop37 oy)) (eqSig 9997 _ _ _ _) eqF0))))))).trans ?_
  congr 1
  rw [decide_eq_decide]
  exact Vt.eqv

theorem Pk.eqv {x y : Pk} : (x.seq = y.seq ∧ x.from = y.from ∧ x.data = y.data ∧ x.timeout = y.timeout ∧ True) ↔ x = y := by
  cases x
  cases y
  simp
instance : DecidableEq Pk := fun x y => decidable_of_iff _ Pk.eqv
theorem run_eq_packet (w : World) (x y : Pk) : (Op.equalIn 10000 53 (.agg x.cells.toArray) (.agg y.cells.toArray)).run Try.prog w = .ok (decide (x = y)) w := by
  rw [run_equalIn_struct w 9999 53 _ _ (by kernel_rfl) (by kernel_rfl)]
  unfold Program.fieldsOf
  rw [Try.underlying53]
  refine (eqF (by decide) (part1 (by kernel_rfl) rfl) (part1 (by kernel_rfl) rfl) (eqInt 9998 _ _ Try.underlying3) (eqF (by decide) (part1 (by kernel_rfl) rfl) (part1 (by kernel_rfl) rfl) (eqStr 9998 _ _) (eqF (by decide) (part1 (by kernel_rfl) rfl) (part1 (by kernel_rfl) rfl) (eqStr 9998 _ _) (eqF (by decide) (part1 (by kernel_rfl) rfl) (part1 (by kernel_rfl) rfl) (eqInt 9998 _ _ Try.underlying3) eqF0)))).trans ?_
  congr 1
  rw [decide_eq_decide]
  exact Pk.eqv

theorem Hd.eqv {x y : Hd} : (x.chain = y.chain ∧ x.height = y.height ∧ x.time = y.time ∧ x.last = y.last ∧ x.set = y.set ∧ x.next = y.next ∧ x.data = y.data ∧ x.app = y.app ∧ True) ↔ x = y := by
  cases x
  cases y
  simp
instance : DecidableEq Hd := fun x y => decidable_of_iff _ Hd.eqv
theorem Hd.drops (x : Hd) (ox : x.Ok) : (x.cells.drop 3).take 32 = bv x.last ∧ (x.cells.drop 35).take 32 = bv x.set ∧ (x.cells.drop 67).take 32 = bv x.next ∧ (x.cells.drop 99).take 32 = bv x.data ∧ (x.cells.drop 131).take 32 = bv x.app := by
  have h1 : (bv x.last).length = 32 := by rw [bv_length, ox.last]
  have h2 : (bv x.set).length = 32 := by rw [bv_length, ox.set]
  have h3 : (bv x.next).length = 32 := by rw [bv_length, ox.next]
  have h4 : (bv x.data).length = 32 := by rw [bv_length, ox.data]
  have h5 : (bv x.app).length = 32 := by rw [bv_length, ox.app]
  have e0 : x.cells.drop 3 = bv x.last ++ (bv x.set ++ (bv x.next ++ (bv x.data ++ bv x.app))) := rfl
  have e1 : x.cells.drop 35 = bv x.set ++ (bv x.next ++ (bv x.data ++ bv x.app)) := by rw [show 35 = 3 + 32 by omega, ← List.drop_drop, e0, List.drop_left' h1]
  have e2 : x.cells.drop 67 = bv x.next ++ (bv x.data ++ bv x.app) := by rw [show 67 = 35 + 32 by omega, ← List.drop_drop, e1, List.drop_left' h2]
  have e3 : x.cells.drop 99 = bv x.data ++ bv x.app := by rw [show 99 = 67 + 32 by omega, ← List.drop_drop, e2, List.drop_left' h3]
  have e4 : x.cells.drop 131 = bv x.app := by rw [show 131 = 99 + 32 by omega, ← List.drop_drop, e3, List.drop_left' h4]
  rw [e0, e1, e2, e3, e4]
  exact ⟨List.take_left' h1, List.take_left' h2, List.take_left' h3, List.take_left' h4, List.take_of_length_le (by omega)⟩
theorem Hd.get0 (x : Hd) : x.cells[0]? = some (.string x.chain) ∧ x.cells[1]? = some (.int .i64 x.height) ∧ x.cells[2]? = some (.int .i64 x.time) := ⟨rfl, rfl, rfl⟩
set_option maxHeartbeats 1600000 in
theorem run_eq_header (d : Nat) (w : World) (x y : Hd) (ox : x.Ok) (oy : y.Ok) : (Op.equalIn (d + 3) 39 (.agg x.cells.toArray) (.agg y.cells.toArray)).run Try.prog w = .ok (decide (x = y)) w := by
  obtain ⟨a0, a1, a2, a3, a4⟩ := x.drops ox
  obtain ⟨b0, b1, b2, b3, b4⟩ := y.drops oy
  obtain ⟨g0, g1, g2⟩ := x.get0
  obtain ⟨k0, k1, k2⟩ := y.get0
  rw [run_equalIn_struct w (d + 2) 39 _ _ (by kernel_rfl) (by kernel_rfl)]
  unfold Program.fieldsOf
  rw [Try.underlying39]
  refine (eqF (by decide) (part1 (by kernel_rfl) g0) (part1 (by kernel_rfl) k0) (eqStr (d + 1) _ _) (eqF (by decide) (part1 (by kernel_rfl) g1) (part1 (by kernel_rfl) k1) (eqInt (d + 1) _ _ Try.underlying3) (eqF (by decide) (part1 (by kernel_rfl) g2) (part1 (by kernel_rfl) k2) (eqInt (d + 1) _ _ Try.underlying3)
    (eqF (by decide) (partR Try.underlying26 rfl hash_row a0) (partR Try.underlying26 rfl hash_row b0) (eqHash d ox.last oy.last) (eqF (by decide) (partR Try.underlying26 rfl hash_row a1) (partR Try.underlying26 rfl hash_row b1) (eqHash d ox.set oy.set)
    (eqF (by decide) (partR Try.underlying26 rfl hash_row a2) (partR Try.underlying26 rfl hash_row b2) (eqHash d ox.next oy.next) (eqF (by decide) (partR Try.underlying26 rfl hash_row a3) (partR Try.underlying26 rfl hash_row b3) (eqHash d ox.data oy.data)
    (eqF (by decide) (partR Try.underlying26 rfl hash_row a4) (partR Try.underlying26 rfl hash_row b4) (eqHash d ox.app oy.app) eqF0)))))))).trans ?_
  congr 1
  rw [decide_eq_decide]
  exact Hd.eqv

/-- == of two structs, under a guard or none: by what 'equalIn' answers. -/
theorem wpList_eql_w {ops : Array Oper} {rest : List Oper} {op : Oper} {a : Act} {w : World} {Q : Exit → Act → World → Prop} (t : TypeId) (x y : Operand) (u : TypeId) (ho : op.op = .binOp .eql t x y u) (hw : Region.wanted op (yielded ops a.tmps) = true)
    {xs ys : Array Value} (hx : a.eval x = .agg xs) (hy : a.eval y = .agg ys) (hg : Try.prog.eqGuardType Try.prog.depth t = false) {b : Bool} (hrun : (Op.equalIn 10000 t (.agg xs) (.agg ys)).run Try.prog w = .ok b w)
    (h : wpList Try.prog ops Q rest (a.put op.dst (.bool b)) w) : wpList Try.prog ops Q (op :: rest) a w := by
  unfold wpList
  rw [if_pos hw]
  left
  unfold Oper.wp execOp
  simp only [ho, hx, hy, Sem.run_bind, run_eqGuard_agg w .eql t x y xs ys hg, Result.andThen_ok, run_eql_struct, hrun, Sem.run_pure]
  exact h
theorem wpList_neq_w {ops : Array Oper} {rest : List Oper} {op : Oper} {a : Act} {w : World} {Q : Exit → Act → World → Prop} (t : TypeId) (x y : Operand) (u : TypeId) (ho : op.op = .binOp .neq t x y u) (hw : Region.wanted op (yielded ops a.tmps) = true)
    {xs ys : Array Value} (hx : a.eval x = .agg xs) (hy : a.eval y = .agg ys) (hg : Try.prog.eqGuardType Try.prog.depth t = false) {b : Bool} (hrun : (Op.equalIn 10000 t (.agg xs) (.agg ys)).run Try.prog w = .ok b w)
    (h : wpList Try.prog ops Q rest (a.put op.dst (.bool (!b))) w) : wpList Try.prog ops Q (op :: rest) a w := by
  unfold wpList
  rw [if_pos hw]
  left
  unfold Oper.wp execOp
  simp only [ho, hx, hy, Sem.run_bind, run_eqGuard_agg w .neq t x y xs ys hg, Result.andThen_ok, run_neq_struct, hrun, Sem.run_pure]
  exact h
theorem vote_guard : Try.prog.eqGuardType Try.prog.depth 31 = false := by kernel_rfl
theorem packet_guard : Try.prog.eqGuardType Try.prog.depth 53 = false := by kernel_rfl
theorem header_guard : Try.prog.eqGuardType Try.prog.depth 39 = false := by kernel_rfl
end Go.Proofs.Ytinbjbfgfknpaaa

/- Things of package forms as arguments: their cells out of a reading. -/
namespace Go.Proofs.Ytinbjbfgfknpaaa
open Go.RowKit
set_option linter.unusedVariables false
set_option linter.unusedSimpArgs false
set_option maxRecDepth 20000

theorem cut (cs : List Value) (a b c : Nat) (h : a + b = c) : cs.drop a = (cs.drop a).take b ++ cs.drop c := by
  subst h
  rw [← List.drop_drop, List.take_append_drop]
theorem okc_i64 {w : World} {n : Nat} {t : TypeId} {cs : List Value} (hu : Try.prog.underlying t = some (.int .i64)) (h : Okc Try.prog w (n + 1) t cs) : ∃ x, cs = [.int .i64 x] ∧ I64 x := by
  unfold Okc at h
  simp only [hu] at h
  obtain ⟨x, h1, h2⟩ := h
  exact ⟨x, h1, (i64_bounds h2).1, (i64_bounds h2).2⟩
theorem okc_u64 {w : World} {n : Nat} {cs : List Value} (h : Okc Try.prog w (n + 1) 27 cs) : ∃ x : Nat, cs = [.int .u64 (x : Int)] ∧ x < 18446744073709551616 := by
  unfold Okc at h
  simp only [Try.underlying27] at h
  obtain ⟨x, h1, h2⟩ := h
  obtain ⟨m, rfl, hm⟩ := u64_nat h2
  exact ⟨m, h1, hm⟩
theorem okc_str {w : World} {n : Nat} {cs : List Value} (h : Okc Try.prog w (n + 1) 9 cs) : ∃ s, cs = [.string s] ∧ s.size ≤ maxLen := by
  unfold Okc at h
  simp only [Try.underlying9] at h
  exact h
theorem okc_hash {w : World} {n : Nat} {cs : List Value} (h : Okc Try.prog w (n + 2) 26 cs) : ∃ hs : List UInt8, cs = bv hs ∧ hs.length = 32 := by
  unfold Okc at h
  simp only [Try.underlying26] at h
  obtain ⟨hl, hb⟩ := h
  rw [hash_cells] at hl
  obtain ⟨hs, rfl⟩ := bytes_of cs (fun i hi => by
    have h1 := hb i (by omega)
    unfold Okc at h1
    simp only [Try.underlying5, byte_cells, Nat.mul_one] at h1
    obtain ⟨x, h2, h3⟩ := h1
    refine ⟨x, ?_, h3⟩
    have : (cs.drop i)[0]? = some (.int .u8 x) := by
      have h4 : ((cs.drop i).take 1)[0]? = some (.int .u8 x) := by rw [h2]; rfl
      rw [List.getElem?_take] at h4
      simpa using h4
    simpa using this)
  exact ⟨hs, rfl, by rw [bv_length] at hl; exact hl⟩
theorem sig_cells : Try.prog.cellsOf 29 = 2 := by kernel_rfl
theorem type_cells : Try.prog.cellsOf 24 = 1 := by kernel_rfl
theorem okc_sig {w : World} {n : Nat} {cs : List Value} (h : Okc Try.prog w (n + 2) 29 cs) : ∃ x y : Nat, cs = [.int .u64 (x : Int), .int .u64 (y : Int)] ∧ x < 18446744073709551616 ∧ y < 18446744073709551616 := by
  unfold Okc at h
  simp only [Try.underlying29] at h
  obtain ⟨hl, hf⟩ := h
  rw [sig_cells] at hl
  have h0 : Okc Try.prog w (n + 1) 27 ((cs.drop 0).take (Try.prog.cellsOf 27)) := hf 0 _ rfl
  have h1 : Okc Try.prog w (n + 1) 27 ((cs.drop 1).take (Try.prog.cellsOf 27)) := hf 1 _ rfl
  rw [u64_cells] at h0 h1
  obtain ⟨x, e0, b0⟩ := okc_u64 h0
  obtain ⟨y, e1, b1⟩ := okc_u64 h1
  have c0 := cut cs 0 1 1 rfl
  have c1 := cut cs 1 1 2 rfl
  rw [e0] at c0
  rw [e1, List.drop_of_length_le (i := 2) (by omega)] at c1
  rw [c1] at c0
  exact ⟨x, y, c0, b0, b1⟩
theorem vote_cells : Try.prog.cellsOf 31 = 39 := by kernel_rfl
theorem vote_of {w : World} {n : Nat} {cs : List Value} (h : Okc Try.prog w (n + 3) 31 cs) : ∃ x : Vt, cs = x.cells ∧ x.Ok := by
  unfold Okc at h
  simp only [Try.underlying31] at h
  obtain ⟨hl, hf⟩ := h
  rw [vote_cells] at hl
  have h0 : Okc Try.prog w (n + 2) 9 ((cs.drop 0).take (Try.prog.cellsOf 9)) := hf 0 _ rfl
  have h1 : Okc Try.prog w (n + 2) 3 ((cs.drop 1).take (Try.prog.cellsOf 3)) := hf 1 _ rfl
  have h2 : Okc Try.prog w (n + 2) 3 ((cs.drop 2).take (Try.prog.cellsOf 3)) := hf 2 _ rfl
  have h3 : Okc Try.prog w (n + 2) 24 ((cs.drop 3).take (Try.prog.cellsOf 24)) := hf 3 _ rfl
  have h4 : Okc Try.prog w (n + 2) 26 ((cs.drop 4).take (Try.prog.cellsOf 26)) := hf 4 _ rfl
  have h5 : Okc Try.prog w (n + 2) 27 ((cs.drop 36).take (Try.prog.cellsOf 27)) := hf 5 _ rfl
  have h6 : Okc Try.prog w (n + 2) 29 ((cs.drop 37).take (Try.prog.cellsOf 29)) := hf 6 _ rfl
  rw [str_cells] at h0
  rw [int_cells] at h1 h2
  rw [type_cells] at h3
  rw [hash_cells] at h4
  rw [u64_cells] at h5
  rw [sig_cells] at h6
  obtain ⟨a0, e0, b0⟩ := okc_str h0
  obtain ⟨a1, e1, b1⟩ := okc_i64 Try.underlying3 h1
  obtain ⟨a2, e2, b2⟩ := okc_i64 Try.underlying3 h2
  obtain ⟨a3, e3, b3⟩ := okc_i64 Try.underlying24 h3
  obtain ⟨a4, e4, b4⟩ := okc_hash h4
  obtain ⟨a5, e5, b5⟩ := okc_u64 h5
  obtain ⟨a6, a7, e6, b6, b7⟩ := okc_sig h6
  refine ⟨⟨a0, a1, a2, a3, a4, a5, a6, a7⟩, ?_, ⟨b0, b1, b2, b3, b4, b5, b6, b7⟩⟩
  have c0 := cut cs 0 1 1 rfl
  have c1 := cut cs 1 1 2 rfl
  have c2 := cut cs 2 1 3 rfl
  have c3 := cut cs 3 1 4 rfl
  have c4 := cut cs 4 32 36 rfl
  have c5 := cut cs 36 1 37 rfl
  have c6 := cut cs 37 2 39 rfl
  rw [e6, List.drop_of_length_le (i := 39) (by omega)] at c6
  rw [e5, c6] at c5
  rw [e4, c5] at c4
  rw [e3, c4] at c3
  rw [e2, c3] at c2
  rw [e1, c2] at c1
  rw [e0, c1] at c0
  exact c0
/-- A struct's cells. -/
theorem agg_arg {w : World} {t : TypeId} {fs : Array Field} {v : Value} (hu : Try.prog.underlying t = some (.struct fs)) (h : Okv Try.prog w t v) : ∃ cs, v = .agg cs ∧ ∀ n, Okc Try.prog w n t cs.toList := by
  obtain ⟨hv, ho⟩ := h
  simp only [hu] at hv
  obtain ⟨cs, rfl⟩ := hv
  exact ⟨cs, rfl, ho⟩
theorem vote_arg {w : World} {v : Value} (h : Okv Try.prog w 31 v) : ∃ x : Vt, v = .agg x.cells.toArray ∧ x.Ok := by
  obtain ⟨cs, rfl, ho⟩ := agg_arg Try.underlying31 h
  obtain ⟨x, hx, ox⟩ := vote_of (ho 3)
  exact ⟨x, by rw [← hx], ox⟩
theorem packet_cells : Try.prog.cellsOf 53 = 4 := by kernel_rfl
theorem packet_of {w : World} {n : Nat} {cs : List Value} (h : Okc Try.prog w (n + 2) 53 cs) : ∃ x : Pk, cs = x.cells ∧ x.Ok := by
  unfold Okc at h
  simp only [Try.underlying53] at h
  obtain ⟨hl, hf⟩ := h
  rw [packet_cells] at hl
  have h0 : Okc Try.prog w (n + 1) 3 ((cs.drop 0).take (Try.prog.cellsOf 3)) := hf 0 _ rfl
  have h1 : Okc Try.prog w (n + 1) 9 ((cs.drop 1).take (Try.prog.cellsOf 9)) := hf 1 _ rfl
  have h2 : Okc Try.prog w (n + 1) 9 ((cs.drop 2).take (Try.prog.cellsOf 9)) := hf 2 _ rfl
  have h3 : Okc Try.prog w (n + 1) 3 ((cs.drop 3).take (Try.prog.cellsOf 3)) := hf 3 _ rfl
  rw [str_cells] at h1 h2
  rw [int_cells] at h0 h3
  obtain ⟨a0, e0, b0⟩ := okc_i64 Try.underlying3 h0
  obtain ⟨a1, e1, b1⟩ := okc_str h1
  obtain ⟨a2, e2, b2⟩ := okc_str h2
  obtain ⟨a3, e3, b3⟩ := okc_i64 Try.underlying3 h3
  refine ⟨⟨a0, a1, a2, a3⟩, ?_, ⟨b0, b1, b2, b3⟩⟩
  have c0 := cut cs 0 1 1 rfl
  have c1 := cut cs 1 1 2 rfl
  have c2 := cut cs 2 1 3 rfl
  have c3 := cut cs 3 1 4 rfl
  rw [e3, List.drop_of_length_le (i := 4) (by omega)] at c3
  rw [e2, c3] at c2
  rw [e1, c2] at c1
  rw [e0, c1] at c0
  exact c0
theorem packet_arg {w : World} {v : Value} (h : Okv Try.prog w 53 v) : ∃ x : Pk, v = .agg x.cells.toArray ∧ x.Ok := by
  obtain ⟨cs, rfl, ho⟩ := agg_arg Try.underlying53 h
  obtain ⟨x, hx, ox⟩ := packet_of (ho 2)
  exact ⟨x, by rw [← hx], ox⟩
end Go.Proofs.Ytinbjbfgfknpaaa

/- Package forms: decoded[api.Light]. -/
namespace Go.Proofs.Ytinbjbfgfknpaaa
open Go.RowKit
set_option linter.unusedVariables false
set_option linter.unusedSimpArgs false
set_option maxRecDepth 20000


def Lt.zero : Lt := ⟨Hd.zero, ⟨0, 0, noH, []⟩, [], []⟩
def ltz : List Value := Lt.zero.cells (.slice none 0 0) (.slice none 0 0) (.slice none 0 0)
theorem Lt.one (x : Lt) (n1 n2 n3 : Nat) : ∀ v ∈ x.cells (sl n1 x.commit.seals.length) (sl n2 x.set.length) (sl n3 x.next.length), v.oneCell' = true := by
  intro v hv
  simp only [Lt.cells, Cm.cells, List.mem_append, List.mem_cons, List.not_mem_nil, or_false] at hv
  rcases hv with h | ((rfl | rfl) | h | rfl) | rfl | rfl <;> first | rfl | exact bv_one _ _ h | exact x.header.one _ h
theorem ltz_one : ∀ v ∈ ltz, v.oneCell' = true := by
  intro v hv
  simp only [ltz, Lt.cells, Cm.cells, List.mem_append, List.mem_cons, List.not_mem_nil, or_false] at hv
  rcases hv with h | ((rfl | rfl) | h | rfl) | rfl | rfl <;> first | rfl | exact bv_one _ _ h | exact Hd.one _ _ h
theorem dLight_len {st : St} {y : Lt × St} (h : dLight st = some y) (a b c : Value) : (y.1.cells a b c).length = 200 := by
  unfold dLight at h
  simp only [Option.bind_eq_some_iff, Option.some.injEq, Prod.exists] at h
  obtain ⟨s1, h1, hd, s2, h2, cm, s3, h3, s, s4, h4, n, s5, h5, rfl⟩ := h
  have e1 := dHeader_len h2
  have e2 := dCommit_len h3 a
  simp only at e1 e2
  simp [Lt.cells, e1, e2]
theorem RTO.chg {w w' : World} {g : Nat} {F : Nat → Prop} {tb : Nat} {t : TypeId} {n : Nat} {p q : List Value} {r : Option (Lt × St)} {e : Ending} (h : RTO w g F tb t n p q r e w') : Chg (Two g tb) w w' := by
  cases r with
  | some x => obtain ⟨_, _, _, _, _, _, _, h1, _⟩ := h; exact h1.chg
  | none => exact h.2.1
/-- What decoding a light block leaves. -/
def DecL (w : World) (z : List Value) (r : Option Lt) (e : Ending) (w' : World) : Prop :=
  Chg Non w w' ∧ match r with
    | some x => ∃ n1 n2 n3, w.heap.size ≤ n1 ∧ w.heap.size ≤ n2 ∧ w.heap.size ≤ n3 ∧ e = .returned (.tuple #[.agg (x.cells (sl n1 x.commit.seals.length) (sl n2 x.set.length) (sl n3 x.next.length)).toArray, .int .i64 0]) ∧
        Hb w' n1 132 (x.commit.seals.flatMap Se.cells).toArray ∧ Hb w' n2 137 (x.set.flatMap Va.cells).toArray ∧ Hb w' n3 137 (x.next.flatMap Va.cells).toArray
    | none => e = .returned (.tuple #[.agg z.toArray, .int .i64 61])

theorem dLight.row : (Try.prog.info? 48).map (·.size) = some 200 := by kernel_rfl
theorem dLight.alloc0 (w : World) : (Instr.alloc 48 true (.tuple #[])).run Try.prog w = .ok (.pointer (some ⟨w.heap.size, 0, none⟩)) (w.alloc (.cells ltz.toArray 48)) := by kernel_rfl
theorem dLight.zlen : ltz.length = 200 := by rfl

theorem catchDP_Light (w : World) (p q : Nat) (L : List Value) (y : Value) (v : Value) (u : TypeId) (older : List PanicEntry) (hp : Hb w p 48 L.toArray) (hL : L.length = 200) (hq : Hb w q 32 #[y]) (hpq : q ≠ p) :
    CallsD Try.prog 49 #[.pointer (some ⟨p, 0, none⟩), .pointer (some ⟨q, 0, none⟩)] (.panicking ({ v := .iface u v, recovered := false } :: older)) w fun e u' w' =>
      e = .returned (.tuple #[]) ∧ u' = .panicking ({ v := .iface u v, recovered := true } :: older) ∧ w' = (((w.alloc (.cells ltz.toArray 48)).setCells p 0 ltz).setCell ⟨q, 0, none⟩ (.int .i64 61)) := by
  have hz := dLight.alloc0 w
  have hzl := dLight.zlen
  have hrow := dLight.row
  have hn := Hb.new w 48 ltz.toArray
  have hp1 := hp.alloc (.cells ltz.toArray 48)
  have hth := hp1.there0
  rw [hL] at hth
  have hq1 := (hq.alloc (.cells ltz.toArray 48)).farCells hpq ltz 0
  have c1 : _ = some y := hq1.cell 0
  have f1 : _ = false := hq1.frozen 0
  refine callsD_of_wpS Try.func49 rfl fun c₀ cs hu => ?_
  apply wpS_seq
  apply wpS_region
  simp [wpOpsS, go_sem, recoverD, hu, Try.ntmps49, Exit.thenS]
  refine wpS_cond (t := true) (by simp [Act.eval, Array.replicate]) ?_
  simp only [if_true]
  refine wpS_of_wp ?_
  have hone : ∀ v ∈ ltz, v.oneCell' = true := ltz_one
  generalize ltz = z at *
  go_wp2_with (first | (with_reducible refine wpList_alloc_row rfl _ rfl z hz ?_) | (with_reducible refine wpList_load_mid rfl 48 _ rfl w.heap.size 0 rfl z _ hn.range0 Try.underlying48 rfl (by rw [hrow, hzl]) ?_) | (with_reducible refine wpList_store_mid rfl 48 _ _ rfl p 0 z.toArray rfl rfl (by rw [List.size_toArray, hzl]; exact hth) (by rw [List.size_toArray, hrow, hzl]) (one_mem hone) ?_))
  exact ⟨rfl, _, rfl, .tuple #[], by simp [results, Try.results49], rfl, rfl, rfl⟩

theorem catchDI_Light (w : World) (p q : Addr) : CallsD Try.prog 49 #[.pointer (some p), .pointer (some q)] .returning w fun e u' w' => e = .returned (.tuple #[]) ∧ u' = .returning ∧ w' = w := by
  refine callsD_of_wpS Try.func49 rfl fun c₀ cs hu => ?_
  apply wpS_seq
  apply wpS_region
  simp [wpOpsS, go_sem, recoverD, hu, Try.ntmps49, Exit.thenS]
  refine wpS_cond (t := false) (by simp [Act.eval, Array.replicate]) ?_
  simp only [Bool.false_eq_true, if_false]
  refine wpS_of_wp (wp_skip ?_)
  cases c₀
  simp_all [bodyPostS, results, Try.results49]

/-- The error's way. -/
theorem decErr_Light (w w2 : World) (h : Chg Non w w2) (L : List Value) (y : Value) (hp : Hb w2 w.heap.size 48 L.toArray) (hL : L.length = 200) (hq : Hb w2 (w.heap.size + 1) 32 #[y]) (r : Option Lt) (hr : r = none) (tmps : Array Value)
    (h4 : tmps.getD 4 undef = .pointer (some ⟨w.heap.size, 0, none⟩)) (h5 : tmps.getD 5 undef = .pointer (some ⟨w.heap.size + 1, 0, none⟩)) :
    Leaves Try.prog Try.f22 tmps (DecL w ltz r) [{ target := .fn (.func 49) #[.pointer (some ⟨w.heap.size, 0, none⟩), .pointer (some ⟨w.heap.size + 1, 0, none⟩)], args := #[] }] (.panicking bad) w2 := by
  subst hr
  refine leaves_cons (f := 49) (args := #[.pointer (some ⟨w.heap.size, 0, none⟩), .pointer (some ⟨w.heap.size + 1, 0, none⟩)]) (by simp) (by simp [go_sem]) ?_
  refine (catchDP_Light w2 w.heap.size (w.heap.size + 1) L _ _ _ _ hp hL hq (by omega)).mono ?_
  rintro e u' w'' ⟨rfl, rfl, rfl⟩
  have hz : ltz.length = 200 := dLight.zlen
  have hb3 := ((hp.alloc (.cells ltz.toArray 48)).sets0 (L' := ltz) (by rw [hL, hz])).far (p := ⟨w.heap.size + 1, 0, none⟩) (by simp) (.int .i64 61)
  have he3 := ((hq.alloc (.cells ltz.toArray 48)).farCells (tb := w.heap.size) (by omega) ltz 0).set 0 (.int .i64 61)
  refine ⟨_, results_two rfl _ _ _ ⟨w.heap.size, 0, none⟩ ⟨w.heap.size + 1, 0, none⟩ _ _ h4 h5 (load_row hb3 Try.underlying48 rfl (by rw [dLight.row, hz])) (load_errno (he3.cell 0)), ?_, rfl⟩
  have K := (Chg.setCells (S := fun k => k = w.heap.size ∨ k = w.heap.size + 1) (.inl rfl) ltz _ 0 ((Chg.refl _ w2).alloc (.cells ltz.toArray 48))).setCell (p := ⟨w.heap.size + 1, 0, none⟩) (.inl (.inr rfl)) (.int .i64 61)
  exact h.trans K (fun j hj => .inr (by omega))

theorem decoded_Light (w : World) (A : Option Addr) (n c : Nat) (bs : List UInt8) (r : Option (Lt × St)) (hn : n = bs.length) (hr : Rd w A bs) (hsz : bs.length ≤ 1000000000) (hlen : ∀ x s, r = some (x, s) → ∀ a b c, (x.cells a b c).length = 200)
    (H : ∀ (w1 : World) (g : Nat) (F : Nat → Prop), Rst w1 g F w.heap.size 48 ltz (some bs) w1 → Calls Try.prog 23 #[.agg #[.pointer none, .pointer (some ⟨g, 0, none⟩)], .pointer (some ⟨w.heap.size, 0, none⟩)] w1 (RTO w1 g F w.heap.size 48 200 [] [] r)) :
    Calls Try.prog 22 #[.slice A n c, .func (.func 23) #[] #[]] w (DecL w ltz (whole r)) := by
  have hmf := mkf
  have hC0 := dw_chg w ltz 48
  have hb0 := dw_b w ltz 48
  have he0 := dw_e w ltz 48
  have hz := dLight.alloc0 w
  have hrow := dLight.row
  have HN := newReader_any (dw w ltz 48) A n c bs hn (hr.chg hC0 (fun _ _ f => f)) hsz
  generalize hR : whole r = R
  have HR := Lib.hid hR
  have HLE := Lib.hid hlen
  have HH := Lib.hid H
  have HNN := Lib.hid HN
  clear hR hlen H HN hn hr
  have hzz := dLight.zlen
  go_enter_defers Try.func22, Try.ntmps22
  go_wp2_with (first | (with_reducible refine wpList_alloc_row rfl _ rfl ltz hz ?_))
  have hdw : dw w ltz 48 = (w.alloc (.cells ltz.toArray 48)).alloc (.cells #[.int .i64 0] 32) := rfl
  rw [← hdw]
  have hds : (dw w ltz 48).heap.size = w.heap.size + 2 := by rw [hdw]; simp
  clear hdw
  generalize dw w ltz 48 = w0 at *
  refine HNN.out.mono ?_
  rintro e w1 ⟨g, F, rfl, hR1, hg, hF, hC1⟩
  have hb1 := hb0.chg hC1 (fun f => f)
  have he1 := he0.chg hC1 (fun f => f)
  have S1 : Rst w1 g F w.heap.size 48 ltz (some bs) w1 := ⟨hR1, hb1, Chg.refl _ _, by omega, fun h => by have := hF _ h; omega⟩
  have H1 := HH.out w1 g F S1
  have hne : ¬ Two g w.heap.size (w.heap.size + 1) := by rintro (h | h) <;> omega
  have hn01 : Chg Non w w1 := hC0.trans hC1 (fun _ f => f.elim)
  have hw1s := hC1.size
  clear HNN hb0 he0 hC0 hC1 HH S1
  go_wp2_with fail
  refine H1.mono ?_
  rintro e w2 h2
  have he2 := he1.chg h2.chg hne
  have hn02 : Chg Non w w2 := hn01.trans h2.chg (fun j hj => .inr (by rcases hj with rfl | rfl <;> omega))
  clear H1 he1 hb1
  rcases h2.cases with ⟨k, rfl, _, L', hL1, hL2⟩ | ⟨⟨x, s⟩, k, rfl, n1, n2, n3, g1, g2, g3, T, B1, B2, B3⟩
  · have hRn : R = none := HR.out.symm.trans (by rw [k]; rfl)
    go_wp2
    refine decErr_Light w w2 hn02 L' _ hL2 hL1 he2 _ rfl _ ?_ ?_ <;> rfl
  · have hLn := HLE.out x s k (sl n1 x.commit.seals.length) (sl n2 x.set.length) (sl n3 x.next.length)
    have hL1 := x.one n1 n2 n3
    have T := T.eq (L' := x.cells (sl n1 x.commit.seals.length) (sl n2 x.set.length) (sl n3 x.next.length)) (by simp)
    have hs1 : w.heap.size + 2 ≤ w1.heap.size := by omega
    have hRx : ∀ h : s = some [], R = some x := fun h => HR.out.symm.trans (by rw [k, h]; rfl)
    generalize hL : x.cells (sl n1 x.commit.seals.length) (sl n2 x.set.length) (sl n3 x.next.length) = L at *
    have HL := Lib.hid hL
    have HRX := Lib.hid hRx
    clear HLE h2 hL hRx
    go_wp2_with fail
    refine (endR_any _ g F s T.rdr).mono ?_
    rintro e w3 ⟨rfl, rfl⟩
    have hb2 : Hb _ w.heap.size 48 L.toArray := T.row
    by_cases hs : s = some []
    · have hRs : R = some x := HRX.out hs
      have hev : endv s = 0 := by unfold endv; rw [if_pos hs]
      have hth := hb2.there0
      rw [hLn] at hth
      have hLs : L.toArray.size = 200 := by rw [List.size_toArray, hLn]
      rw [hev]
      have hb3 := hb2.sets0 (L' := L) rfl
      have he3 := he2.farCells (tb := w.heap.size) (by omega) L 0
      have c3 : _ = some (Value.int .i64 0) := he3.cell 0
      have f3 : _ = false := he3.frozen 0
      have hrg := hb2.range0
      clear hev hs HR
      go_wp2_with (first | (go_at_call 33; refine (insist_yes _).mono ?_; rintro e w5 ⟨rfl, rfl⟩) | (with_reducible refine wpList_load_mid rfl 48 _ rfl w.heap.size 0 rfl L _ hrg Try.underlying48 rfl (by rw [hrow, hLn]) ?_; refine wpList_store_mid rfl 48 _ _ rfl w.heap.size 0 L.toArray rfl rfl (by rw [hLs]; exact hth) (by rw [hLs, hrow]) (one_mem hL1) ?_) | (with_reducible refine wpList_store_mid rfl 48 _ _ rfl w.heap.size 0 L.toArray rfl rfl (by rw [hLs]; exact hth) (by rw [hLs, hrow]) (one_mem hL1) ?_))
      refine leaves_cons (f := 49) (args := #[.pointer (some ⟨w.heap.size, 0, none⟩), .pointer (some ⟨w.heap.size + 1, 0, none⟩)]) (by simp) (by simp [go_sem]) ?_
      refine (catchDI_Light _ ⟨w.heap.size, 0, none⟩ ⟨w.heap.size + 1, 0, none⟩).mono ?_
      rintro e u' w'' ⟨rfl, rfl, rfl⟩
      have hb4 := hb3.far (p := ⟨w.heap.size + 1, 0, none⟩) (by simp) (.int .i64 0)
      have he4 := he3.set 0 (.int .i64 0)
      refine ⟨_, results_two rfl _ _ _ ⟨w.heap.size, 0, none⟩ ⟨w.heap.size + 1, 0, none⟩ _ _ rfl rfl (load_row hb4 Try.underlying48 rfl (by rw [hrow, hLn])) (load_errno (he4.cell 0)), ?_, ?_⟩
      · exact hn02.trans ((Chg.setCells (S := fun k => k = w.heap.size ∨ k = w.heap.size + 1) (.inl rfl) L _ 0 (Chg.refl _ _)).setCell (p := ⟨w.heap.size + 1, 0, none⟩) (.inl (.inr rfl)) (.int .i64 0)) (fun j hj => .inr (by omega))
      · rw [hRs]
        exact ⟨n1, n2, n3, by omega, by omega, by omega, by rw [HL.out]; rfl, (B1.farCells (by omega) L 0).far (p := ⟨w.heap.size + 1, 0, none⟩) (show n1 ≠ w.heap.size + 1 by omega) _, (B2.farCells (by omega) L 0).far (p := ⟨w.heap.size + 1, 0, none⟩) (show n2 ≠ w.heap.size + 1 by omega) _, (B3.farCells (by omega) L 0).far (p := ⟨w.heap.size + 1, 0, none⟩) (show n3 ≠ w.heap.size + 1 by omega) _⟩
    · have hRn : R = none := HR.out.symm.trans (by
        rw [k]
        match s, hs with
        | none, _ => rfl
        | some (_ :: _), _ => rfl)
      have hev : endv s = 21 := by unfold endv; rw [if_neg hs]
      rw [hev]
      clear hev hs HR
      go_wp2_with (go_at_call 33; refine (insist_no _).mono ?_; rintro e w5 ⟨rfl, rfl⟩)
      refine decErr_Light w _ hn02 L _ hb2 hLn he2 _ rfl _ ?_ ?_ <;> rfl
end Go.Proofs.Ytinbjbfgfknpaaa

/- Package forms: list[nuncio/api.Seal], written. -/
namespace Go.Proofs.Ytinbjbfgfknpaaa
open Go.RowKit
set_option linter.unusedVariables false
set_option linter.unusedSimpArgs false
set_option maxRecDepth 20000

set_option maxHeartbeats 1600000 in
theorem listSeal_w (g : Nat) (l : List UInt8) (w : World) (v : Value) (b o : Nat) (A : Option Addr) (n c most : Nat) (ok : Nat → Bool) (bs : Nat → List UInt8) (h : Wri w g v (some l)) (hc : w.cell? ⟨b, o, none⟩ = some (.slice A n c)) (hb : ¬ Wft g v b) (hbl : b < w.heap.size)
    (hn : n ≤ maxLen) (hmost : most ≤ 4096) (hl : l.length ≤ 100000000) (hbs : ∀ i, ok i = true → (bs i).length ≤ 20000)
    (H : ∀ i, i < n → ∃ eb eo, A = some ⟨eb, eo, none⟩ ∧ ∀ (l' : List UInt8) (w' : World) (v' : Value), Wst w g v l' w' v' → l'.length ≤ 300000000 → Calls Try.prog 68 #[.agg #[.pointer (some ⟨g, 0, none⟩), .pointer none], .pointer (some ⟨eb, eo + i * 3, none⟩)] w' (WO w' g v' (ok i) (l' ++ bs i))) :
    Calls Try.prog 67 #[.agg #[.pointer (some ⟨g, 0, none⟩), .pointer none], .pointer (some ⟨b, o, none⟩), .int .i64 (most : Int), .func (.func 68) #[] #[]] w (WO w g v (inR 0 most n && allB ok n) (l ++ (num n ++ jn bs n))) := by
  unfold maxLen at hn
  have S0 := (Wst.here h).non (((Chg.refl Non w).alloc (.cells #[.pointer (some ⟨g, 0, none⟩), .pointer none] 88)).alloc (.cells #[.int .i64 (n : Int)] 3))
  have c0 := (((Chg.refl Non w).alloc (.cells #[.pointer (some ⟨g, 0, none⟩), .pointer none] 88)).alloc (.cells #[.int .i64 (n : Int)] 3)).cell hc (fun f => f)
  have hw := h.nnew (Nat.le_refl w.heap.size)
  have hw1 := h.nnew (show w.heap.size ≤ w.heap.size + 1 by omega)
  have hx0 := ((Hb.new w 88 #[.pointer (some ⟨g, 0, none⟩), .pointer none]).alloc (.cells #[.int .i64 (n : Int)] 3)).cell 0
  have hx1 := ((Hb.new w 88 #[.pointer (some ⟨g, 0, none⟩), .pointer none]).alloc (.cells #[.int .i64 (n : Int)] 3)).cell 1
  have hxn : ((w.alloc (.cells #[.pointer (some ⟨g, 0, none⟩), .pointer none] 88)).alloc (.cells #[.int .i64 (n : Int)] 3)).cell? ⟨w.heap.size + 1, 0, none⟩ = some (.int .i64 (n : Int)) := by
    have := (Hb.new (w.alloc (.cells #[.pointer (some ⟨g, 0, none⟩), .pointer none] 88)) 3 #[.int .i64 (n : Int)]).cell 0
    rwa [show (w.alloc (.cells #[.pointer (some ⟨g, 0, none⟩), .pointer none] 88)).heap.size = w.heap.size + 1 by simp] at this
  have hBl : w.heap.size + 1 < ((w.alloc (.cells #[.pointer (some ⟨g, 0, none⟩), .pointer none] 88)).alloc (.cells #[.int .i64 (n : Int)] 3)).heap.size := by simp
  obtain ⟨B, hB⟩ : ∃ B, B = (w.alloc (.cells #[.pointer (some ⟨g, 0, none⟩), .pointer none] 88)).alloc (.cells #[.int .i64 (n : Int)] 3) := ⟨_, rfl⟩
  generalize hok : (inR 0 most n && allB ok n) = okt
  have HOK := Lib.hid hok
  have HH := Lib.hid H
  clear hok H
  go_enter Try.func67, Try.ntmps67
  go_wp2_with fail
  rw [← hB] at S0 c0 hx0 hx1 hxn hBl ⊢
  clear hB
  have S1 := Wst.here S0.wri
  have N := numberI_w g l B v (w.heap.size + 1) 0 n 0 most S1.wri hxn hw1 ⟨by omega, by omega⟩ (by omega)
  have NN := Lib.hid N
  clear N
  refine NN.out.mono ?_
  rintro e w2 h2
  clear NN
  rcases h2.cases with ⟨k2, he, C⟩ | ⟨k2, he, v2, T2⟩
  · subst he
    obtain rfl : okt = false := HOK.out.symm.trans (by rw [k2]; rfl)
    go_wp2
    exact ⟨rfl, rfl, S0.chg.trans C S0.wft⟩
  · subst he
    have hnm : n ≤ most := by have := (inR_iff.1 k2).2; omega
    have x0 := T2.cell hx0 hw
    have x1 := T2.cell hx1 hw
    have y0 := T2.cell c0 hb
    clear hxn h2
    go_wp2_with fail
    refine (writes_w _ g).mono ?_
    rintro e w3 ⟨rfl, hC3⟩
    have S3 := T2.non hC3
    have z0 := S3.cell hx0 hw
    have z1 := S3.cell hx1 hw
    have z2 := S3.cell c0 hb
    clear x0 x1 y0 T2 hC3
    go_wp2_with fail
    go_loopw [9, 28] (fun x i wr => ∃ (k : Nat) (v' : Value), k ≤ n ∧ i = .int .i64 (k : Int) ∧ allB ok k = true ∧ Wst B g v (l ++ num n ++ jn bs k) wr v') (fun _ i _ => n - (intOf i).toNat)
    case atStart => exact ⟨0, v2, by omega, rfl, rfl, by simpa [jn] using S3⟩
    case round =>
      obtain ⟨k, v', hk, rfl, hall, S⟩ := hrel
      have a0 := S.cell hx0 hw
      have a1 := S.cell hx1 hw
      have a2 := S.cell c0 hb
      have hjl := jn_len hbs k hall
      have hln : (l ++ num n ++ jn bs k).length ≤ 300000000 := by rw [List.length_append, List.length_append, num_length]; have : k * 20000 ≤ 4096 * 20000 := Nat.mul_le_mul_right _ (by omega); omega
      by_cases hlt : k < n
      · obtain ⟨eb, eo, rfl, HE⟩ := HH.out k hlt
        have hwn := S.nw hw (by omega)
        have hbn := S.nw hb (by have := S0.chg.size; omega)
        have D := S.non ((Chg.refl Non wr).drew)
        have HC := HE _ _ v' (S0.trans D) hln
        have HCC := Lib.hid HC
        have e0 := D.cell hx0 hw
        have e1 := D.cell hx1 hw
        have e2 := D.cell c0 hb
        have hki : (k : Int) < (n : Int) := by omega
        have hke : allB ok (k + 1) = ok k := by unfold allB; rw [hall, Bool.true_and]
        clear HE HC
        go_wp2_with fail
        go_region_held (fun w' => w'.cell? ⟨w.heap.size, 0, none⟩ = some (.pointer (some ⟨g, 0, none⟩)) ∧ w'.cell? ⟨w.heap.size, 1, none⟩ = some (.pointer none) ∧ w'.cell? ⟨b, o, none⟩ = some (.slice (some ⟨eb, eo, none⟩) n c)) (first | exact ⟨f0, f1, f2⟩ | exact ⟨e0, e1, e2⟩ | assumption) (first | (go_at_call 68; go_loud (refine HCC.out.mono ?_; rintro e w5 h5; have f0 := h5.chg.cell e0 hwn; have f1 := h5.chg.cell e1 hwn; have f2 := h5.chg.cell e2 hbn; rcases h5.cases with ⟨k5, he, C⟩ | ⟨k5, he, v5, T5⟩; (subst he; obtain rfl : okt = false := HOK.out.symm.trans (by rw [allB_no hlt k5, Bool.and_false]); exact ⟨rfl, rfl, S0.chg.trans (D.chg.trans C D.wft) S0.wft⟩); subst he)) | fail)
        have S5 := D.trans T5
        clear h5 HCC
        go_wp2_with fail
        go_roundw
        case rel => exact ⟨k + 1, v5, by omega, by go_num, by rw [hke, k5], by simpa [jn, List.append_assoc] using S5⟩
        case measure => simp [intOf]; omega
      · obtain rfl : k = n := by omega
        obtain rfl : okt = true := HOK.out.symm.trans (by rw [k2, hall]; rfl)
        go_wp2
        go_end0
        exact ⟨rfl, v', by simpa [List.append_assoc] using S0.trans S⟩
end Go.Proofs.Ytinbjbfgfknpaaa

/- Package forms: list[nuncio/api.Validator], written. -/
namespace Go.Proofs.Ytinbjbfgfknpaaa
open Go.RowKit
set_option linter.unusedVariables false
set_option linter.unusedSimpArgs false
set_option maxRecDepth 20000

set_option maxHeartbeats 1600000 in
theorem listValidator_w (g : Nat) (l : List UInt8) (w : World) (v : Value) (b o : Nat) (A : Option Addr) (n c most : Nat) (ok : Nat → Bool) (bs : Nat → List UInt8) (h : Wri w g v (some l)) (hc : w.cell? ⟨b, o, none⟩ = some (.slice A n c)) (hb : ¬ Wft g v b) (hbl : b < w.heap.size)
    (hn : n ≤ maxLen) (hmost : most ≤ 4096) (hl : l.length ≤ 100000000) (hbs : ∀ i, ok i = true → (bs i).length ≤ 20000)
    (H : ∀ i, i < n → ∃ eb eo, A = some ⟨eb, eo, none⟩ ∧ ∀ (l' : List UInt8) (w' : World) (v' : Value), Wst w g v l' w' v' → l'.length ≤ 300000000 → Calls Try.prog 70 #[.agg #[.pointer (some ⟨g, 0, none⟩), .pointer none], .pointer (some ⟨eb, eo + i * 2, none⟩)] w' (WO w' g v' (ok i) (l' ++ bs i))) :
    Calls Try.prog 69 #[.agg #[.pointer (some ⟨g, 0, none⟩), .pointer none], .pointer (some ⟨b, o, none⟩), .int .i64 (most : Int), .func (.func 70) #[] #[]] w (WO w g v (inR 0 most n && allB ok n) (l ++ (num n ++ jn bs n))) := by
  unfold maxLen at hn
  have S0 := (Wst.here h).non (((Chg.refl Non w).alloc (.cells #[.pointer (some ⟨g, 0, none⟩), .pointer none] 88)).alloc (.cells #[.int .i64 (n : Int)] 3))
  have c0 := (((Chg.refl Non w).alloc (.cells #[.pointer (some ⟨g, 0, none⟩), .pointer none] 88)).alloc (.cells #[.int .i64 (n : Int)] 3)).cell hc (fun f => f)
  have hw := h.nnew (Nat.le_refl w.heap.size)
  have hw1 := h.nnew (show w.heap.size ≤ w.heap.size + 1 by omega)
  have hx0 := ((Hb.new w 88 #[.pointer (some ⟨g, 0, none⟩), .pointer none]).alloc (.cells #[.int .i64 (n : Int)] 3)).cell 0
  have hx1 := ((Hb.new w 88 #[.pointer (some ⟨g, 0, none⟩), .pointer none]).alloc (.cells #[.int .i64 (n : Int)] 3)).cell 1
  have hxn : ((w.alloc (.cells #[.pointer (some ⟨g, 0, none⟩), .pointer none] 88)).alloc (.cells #[.int .i64 (n : Int)] 3)).cell? ⟨w.heap.size + 1, 0, none⟩ = some (.int .i64 (n : Int)) := by
    have := (Hb.new (w.alloc (.cells #[.pointer (some ⟨g, 0, none⟩), .pointer none] 88)) 3 #[.int .i64 (n : Int)]).cell 0
    rwa [show (w.alloc (.cells #[.pointer (some ⟨g, 0, none⟩), .pointer none] 88)).heap.size = w.heap.size + 1 by simp] at this
  have hBl : w.heap.size + 1 < ((w.alloc (.cells #[.pointer (some ⟨g, 0, none⟩), .pointer none] 88)).alloc (.cells #[.int .i64 (n : Int)] 3)).heap.size := by simp
  obtain ⟨B, hB⟩ : ∃ B, B = (w.alloc (.cells #[.pointer (some ⟨g, 0, none⟩), .pointer none] 88)).alloc (.cells #[.int .i64 (n : Int)] 3) := ⟨_, rfl⟩
  generalize hok : (inR 0 most n && allB ok n) = okt
  have HOK := Lib.hid hok
  have HH := Lib.hid H
  clear hok H
  go_enter Try.func69, Try.ntmps69
  go_wp2_with fail
  rw [← hB] at S0 c0 hx0 hx1 hxn hBl ⊢
  clear hB
  have S1 := Wst.here S0.wri
  have N := numberI_w g l B v (w.heap.size + 1) 0 n 0 most S1.wri hxn hw1 ⟨by omega, by omega⟩ (by omega)
  have NN := Lib.hid N
  clear N
  refine NN.out.mono ?_
  rintro e w2 h2
  clear NN
  rcases h2.cases with ⟨k2, he, C⟩ | ⟨k2, he, v2, T2⟩
  · subst he
    obtain rfl : okt = false := HOK.out.symm.trans (by rw [k2]; rfl)
    go_wp2
    exact ⟨rfl, rfl, S0.chg.trans C S0.wft⟩
  · subst he
    have hnm : n ≤ most := by have := (inR_iff.1 k2).2; omega
    have x0 := T2.cell hx0 hw
    have x1 := T2.cell hx1 hw
    have y0 := T2.cell c0 hb
    clear hxn h2
    go_wp2_with fail
    refine (writes_w _ g).mono ?_
    rintro e w3 ⟨rfl, hC3⟩
    have S3 := T2.non hC3
    have z0 := S3.cell hx0 hw
    have z1 := S3.cell hx1 hw
    have z2 := S3.cell c0 hb
    clear x0 x1 y0 T2 hC3
    go_wp2_with fail
    go_loopw [9, 28] (fun x i wr => ∃ (k : Nat) (v' : Value), k ≤ n ∧ i = .int .i64 (k : Int) ∧ allB ok k = true ∧ Wst B g v (l ++ num n ++ jn bs k) wr v') (fun _ i _ => n - (intOf i).toNat)
    case atStart => exact ⟨0, v2, by omega, rfl, rfl, by simpa [jn] using S3⟩
    case round =>
      obtain ⟨k, v', hk, rfl, hall, S⟩ := hrel
      have a0 := S.cell hx0 hw
      have a1 := S.cell hx1 hw
      have a2 := S.cell c0 hb
      have hjl := jn_len hbs k hall
      have hln : (l ++ num n ++ jn bs k).length ≤ 300000000 := by rw [List.length_append, List.length_append, num_length]; have : k * 20000 ≤ 4096 * 20000 := Nat.mul_le_mul_right _ (by omega); omega
      by_cases hlt : k < n
      · obtain ⟨eb, eo, rfl, HE⟩ := HH.out k hlt
        have hwn := S.nw hw (by omega)
        have hbn := S.nw hb (by have := S0.chg.size; omega)
        have D := S.non ((Chg.refl Non wr).drew)
        have HC := HE _ _ v' (S0.trans D) hln
        have HCC := Lib.hid HC
        have e0 := D.cell hx0 hw
        have e1 := D.cell hx1 hw
        have e2 := D.cell c0 hb
        have hki : (k : Int) < (n : Int) := by omega
        have hke : allB ok (k + 1) = ok k := by unfold allB; rw [hall, Bool.true_and]
        clear HE HC
        go_wp2_with fail
        go_region_held (fun w' => w'.cell? ⟨w.heap.size, 0, none⟩ = some (.pointer (some ⟨g, 0, none⟩)) ∧ w'.cell? ⟨w.heap.size, 1, none⟩ = some (.pointer none) ∧ w'.cell? ⟨b, o, none⟩ = some (.slice (some ⟨eb, eo, none⟩) n c)) (first | exact ⟨f0, f1, f2⟩ | exact ⟨e0, e1, e2⟩ | assumption) (first | (go_at_call 70; go_loud (refine HCC.out.mono ?_; rintro e w5 h5; have f0 := h5.chg.cell e0 hwn; have f1 := h5.chg.cell e1 hwn; have f2 := h5.chg.cell e2 hbn; rcases h5.cases with ⟨k5, he, C⟩ | ⟨k5, he, v5, T5⟩; (subst he; obtain rfl : okt = false := HOK.out.symm.trans (by rw [allB_no hlt k5, Bool.and_false]); exact ⟨rfl, rfl, S0.chg.trans (D.chg.trans C D.wft) S0.wft⟩); subst he)) | fail)
        have S5 := D.trans T5
        clear h5 HCC
        go_wp2_with fail
        go_roundw
        case rel => exact ⟨k + 1, v5, by omega, by go_num, by rw [hke, k5], by simpa [jn, List.append_assoc] using S5⟩
        case measure => simp [intOf]; omega
      · obtain rfl : k = n := by omega
        obtain rfl : okt = true := HOK.out.symm.trans (by rw [k2, hall]; rfl)
        go_wp2
        go_end0
        exact ⟨rfl, v', by simpa [List.append_assoc] using S0.trans S⟩
end Go.Proofs.Ytinbjbfgfknpaaa
