import Derived.Test.YteglpgakikigiaaChecked
import Derived.WalkKit
import Derived.Lib.Hide
import Derived.ChangeKeysEq
import Derived.Laws.StructEq
import Derived.WalkLawsBesides
import Derived.Deep.MidRow
import Derived.Recover
import Derived.Test.YteglpgakikigiaaMFormLists3
import Derived.Test.YteglpgakikigiaaMFormLists4
import Derived.Test.YteglpgakikigiaaMFormLists5
import Derived.Test.YteglpgakikigiaaMFormLists6
import Derived.Test.YteglpgakikigiaaMFormLists8
import Derived.Test.YteglpgakikigiaaMFormLists9
import Derived.Test.YteglpgakikigiaaMFormLists10
import Derived.Test.YteglpgakikigiaaMFormLists11
import Derived.Test.YteglpgakikigiaaMFormLists12
/- The things of package forms held against each other by ==. -/
namespace Go.Proofs.Yteglpgakikigiaa
open Go.RowKit
set_option linter.unusedVariables false
set_option linter.unusedSimpArgs false
set_option maxRecDepth 20000

theorem eqF {P : Program} {w : World} {d : Nat} {xs ys : Array Value} {f : Field} {fs : List Field} {a b : Value} {p q : Prop} [Decidable p] [Decidable q] (hn : f.name ≠ "_") (ha : (part f.type xs f.offset).run P w = .ok a w) (hb : (part f.type ys f.offset).run P w = .ok b w)
    (he : (Op.equalIn d f.type a b).run P w = .ok (decide p) w) (ht : (Op.eqFields d xs ys fs).run P w = .ok (decide q) w) : (Op.eqFields d xs ys (f :: fs)).run P w = .ok (decide (p ∧ q)) w := by
  simp only [Op.eqFields, hn, ne_eq, not_false_eq_true, if_true, Sem.run_bind, ha, hb, he, Result.andThen_ok]
  by_cases hp : p
  · simp only [decide_eq_true hp, Bool.not_true, Bool.false_eq_true, if_false]
    rw [ht]
    congr 1
    rw [decide_eq_decide]
    simp [hp]
  · simp only [decide_eq_false hp, Bool.not_false, if_true, Sem.run_pure]
    congr 1
    symm
    rw [decide_eq_false_iff_not]
    exact fun h => hp h.1
theorem eqF0 {P : Program} {w : World} {d : Nat} {xs ys : Array Value} : (Op.eqFields d xs ys []).run P w = .ok (decide True) w := by simp [Op.eqFields]

theorem eqInt {w : World} (d : Nat) {t : TypeId} {k k' : IntKind} (a b : Int) (h : Try.prog.underlying t = some (.int k')) : (Op.equalIn (d + 1) t (.int k a) (.int k b)).run Try.prog w = .ok (decide (a = b)) w := by
  rw [run_equalIn_int w d t k k' a b h]
  congr 1
theorem eqNat {w : World} (d : Nat) {t : TypeId} {k k' : IntKind} (a b : Nat) (h : Try.prog.underlying t = some (.int k')) : (Op.equalIn (d + 1) t (.int k (a : Int)) (.int k (b : Int))).run Try.prog w = .ok (decide (a = b)) w := by
  rw [eqInt d (a : Int) (b : Int) h]
  congr 1
  rw [decide_eq_decide]
  omega
theorem eqStr {w : World} (d : Nat) (a b : ByteArray) : (Op.equalIn (d + 1) 9 (.string a) (.string b)).run Try.prog w = .ok (decide (a = b)) w := by
  rw [run_equalIn_string w d 9 a b Try.underlying9]
  congr 1
  rw [Bool.eq_iff_iff]
  simp only [ByteArray.toList_eq, beq_iff_eq, decide_eq_true_eq, Array.toList_inj]
  exact ⟨fun h => by cases a; cases b; simp_all, fun h => by rw [h]⟩
theorem eqHash {w : World} (d : Nat) {a b : List UInt8} (ha : a.length = 32) (hb : b.length = 32) : (Op.equalIn (d + 2) 29 (.agg (bv a).toArray) (.agg (bv b).toArray)).run Try.prog w = .ok (decide (a = b)) w := by
  obtain ⟨i, hi, _, _, _⟩ := info_parts byt.hi
  rw [run_equalIn_array w (d + 1) (bv a).toArray (bv b).toArray Try.underlying29 hi, byte_cells, run_items w d a b 32 ha hb _ (fun i hi => by simpa using hi)]
  congr 1
  rw [decide_eq_decide]
  constructor
  · intro h
    apply List.ext_getElem?
    intro j
    rcases Nat.lt_or_ge j 32 with hj | hj
    · exact h j (by simpa using hj)
    · rw [List.getElem?_eq_none (by omega), List.getElem?_eq_none (by omega)]
  · rintro rfl _ _
    rfl

/-- A cell of a row. -/
theorem part1 {w : World} {e : TypeId} (he : Try.prog.plainKey e = true) {L : List Value} {off : Nat} {v : Value} (h : L[off]? = some v) : (part e L.toArray off).run Try.prog w = .ok v w := run_part_plain w he (by simpa using h)
/-- A row of a row. -/
theorem partR {w : World} {t : TypeId} {d : TypeDesc} (hu : Try.prog.underlying t = some d) (hd : d.isRow = true) {n : Nat} (hi : (Try.prog.info? t).map (·.size) = some n) {L cs : List Value} {off : Nat} (h : (L.drop off).take n = cs) : (part t L.toArray off).run Try.prog w = .ok (.agg cs.toArray) w := by
  have hagg : (isAgg t).run Try.prog w = .ok true w := by
    unfold isAgg
    rw [Sem.run_bind, run_underlying hu w]
    cases d <;> simp_all
  cases hq : Try.prog.info? t with
  | none => simp [hq] at hi
  | some i =>
    have hs : i.size = n := by simpa [hq] using hi
    have he : L.toArray.extract off (off + n) = cs.toArray := by
      rw [← h]
      simp [List.extract_toArray, List.take_drop, List.extract]
    simp only [part, Sem.run_bind, hagg, Result.andThen_ok, if_true]
    simp [sizeOf, typeInfo, hq, hs, he, Sem.run_bind]
    exact h

theorem sig_row : (Try.prog.info? 73).map (·.size) = some 2 := by kernel_rfl
theorem eqSig {w : World} (d : Nat) (a b c e : Nat) : (Op.equalIn (d + 2) 73 (.agg [Value.int .u64 (a : Int), .int .u64 (b : Int)].toArray) (.agg [Value.int .u64 (c : Int), .int .u64 (e : Int)].toArray)).run Try.prog w = .ok (decide (a = c ∧ b = e ∧ True)) w := by
  rw [run_equalIn_struct w (d + 1) 73 _ _ (by kernel_rfl) (by kernel_rfl)]
  unfold Program.fieldsOf
  rw [Try.underlying73]
  exact eqF (by decide) (part1 (by kernel_rfl) rfl) (part1 (by kernel_rfl) rfl) (eqNat d a c Try.underlying69) (eqF (by decide) (part1 (by kernel_rfl) rfl) (part1 (by kernel_rfl) rfl) (eqNat d b e Try.underlying69) eqF0)

theorem mid_get {p m q : List Value} {n : Nat} (hm : m.length = n) (j : Nat) : (p ++ (m ++ q))[p.length + n + j]? = q[j]? := by
  rw [List.getElem?_append_right (by omega), List.getElem?_append_right (by omega)]
  congr 1
  omega

theorem Vt.eqv {x y : Vt} : (x.chain = y.chain ∧ x.height = y.height ∧ x.round = y.round ∧ x.type = y.type ∧ x.block = y.block ∧ x.key = y.key ∧ (x.r = y.r ∧ x.s = y.s ∧ True) ∧ True) ↔ x = y := by
  cases x
  cases y
  simp
instance : DecidableEq Vt := fun x y => decidable_of_iff _ Vt.eqv
theorem Vt.drop4 (x : Vt) (ox : x.Ok) : (x.cells.drop 4).take 32 = bv x.block := by
  have e : x.cells.drop 4 = bv x.block ++ [.int .u64 (x.key : Int), .int .u64 (x.r : Int), .int .u64 (x.s : Int)] := rfl
  rw [e, List.take_left' (by rw [bv_length, ox.block])]
theorem Vt.drop37 (x : Vt) (ox : x.Ok) : (x.cells.drop 37).take 2 = [Value.int .u64 (x.r : Int), .int .u64 (x.s : Int)] := by
  have e : x.cells.drop 4 = bv x.block ++ [.int .u64 (x.key : Int), .int .u64 (x.r : Int), .int .u64 (x.s : Int)] := rfl
  rw [show 37 = 4 + (32 + 1) by omega, ← List.drop_drop, e, ← List.drop_drop, List.drop_left' (by rw [bv_length, ox.block])]
  rfl
theorem Vt.get36 (x : Vt) (ox : x.Ok) : x.cells[36]? = some (.int .u64 (x.key : Int)) := mid_get (p := [.string x.chain, .int .i64 x.height, .int .i64 x.round, .int .i64 x.type]) (by rw [bv_length, ox.block] : (bv x.block).length = 32) 0
theorem Pk.eqv {x y : Pk} : (x.seq = y.seq ∧ x.from = y.from ∧ x.data = y.data ∧ x.timeout = y.timeout ∧ True) ↔ x = y := by
  cases x
  cases y
  simp
instance : DecidableEq Pk := fun x y => decidable_of_iff _ Pk.eqv
theorem run_eq_packet (w : World) (x y : Pk) : (Op.equalIn 10000 49 (.agg x.cells.toArray) (.agg y.cells.toArray)).run Try.prog w = .ok (decide (x = y)) w := by
  rw [run_equalIn_struct w 9999 49 _ _ (by kernel_rfl) (by kernel_rfl)]
  unfold Program.fieldsOf
  rw [Try.underlying49]
  refine (eqF (by decide) (part1 (by kernel_rfl) rfl) (part1 (by kernel_rfl) rfl) (eqInt 9998 _ _ Try.underlying3) (eqF (by decide) (part1 (by kernel_rfl) rfl) (part1 (by kernel_rfl) rfl) (eqStr 9998 _ _) (eqF (by decide) (part1 (by kernel_rfl) rfl) (part1 (by kernel_rfl) rfl) (eqStr 9998 _ _) (eqF (by decide) (part1 (by kernel_rfl) rfl) (part1 (by kernel_rfl) rfl) (eqInt 9998 _ _ Try.underlying3) eqF0)))).trans ?_
  congr 1
  rw [decide_eq_decide]
  exact Pk.eqv

theorem Hd.eqv {x y : Hd} : (x.chain = y.chain ∧ x.height = y.height ∧ x.time = y.time ∧ x.last = y.last ∧ x.set = y.set ∧ x.next = y.next ∧ x.data = y.data ∧ x.app = y.app ∧ True) ↔ x = y := by
  cases x
  cases y
  simp
instance : DecidableEq Hd := fun x y => decidable_of_iff _ Hd.eqv
theorem Hd.drops (x : Hd) (ox : x.Ok) : (x.cells.drop 3).take 32 = bv x.last ∧ (x.cells.drop 35).take 32 = bv x.set ∧ (x.cells.drop 67).take 32 = bv x.next ∧ (x.cells.drop 99).take 32 = bv x.data ∧ (x.cells.drop 131).take 32 = bv x.app := by
  have h1 : (bv x.last).length = 32 := by rw [bv_length, ox.last]
  have h2 : (bv x.set).length = 32 := by rw [bv_length, ox.set]
  have h3 : (bv x.next).length = 32 := by rw [bv_length, ox.next]
  have h4 : (bv x.data).length = 32 := by rw [bv_length, ox.data]
  have h5 : (bv x.app).length = 32 := by rw [bv_length, ox.app]
  have e0 : x.cells.drop 3 = bv x.last ++ (bv x.set ++ (bv x.next ++ (bv x.data ++ bv x.app))) := rfl
  have e1 : x.cells.drop 35 = bv x.set ++ (bv x.next ++ (bv x.data ++ bv x.app)) := by rw [show 35 = 3 + 32 by omega, ← List.drop_drop, e0, List.drop_left' h1]
  have e2 : x.cells.drop 67 = bv x.next ++ (bv x.data ++ bv x.app) := by rw [show 67 = 35 + 32 by omega, ← List.drop_drop, e1, List.drop_left' h2]
  have e3 : x.cells.drop 99 = bv x.data ++ bv x.app := by rw [show 99 = 67 + 32 by omega, ← List.drop_drop, e2, List.drop_left' h3]
  have e4 : x.cells.drop 131 = bv x.app := by rw [show 131 = 99 + 32 by omega, ← List.drop_drop, e3, List.drop_left' h4]
  rw [e0, e1, e2, e3, e4]
  exact ⟨List.take_left' h1, List.take_left' h2, List.take_left' h3, List.take_left' h4, List.take_of_length_le (by omega)⟩
theorem Hd.get0 (x : Hd) : x.cells[0]? = some (.string x.chain) ∧ x.cells[1]? = some (.int .i64 x.height) ∧ x.cells[2]? = some (.int .i64 x.time) := ⟨rfl, rfl, rfl⟩
set_option maxHeartbeats 1600000 in
theorem run_eq_header (d : Nat) (w : World) (x y : Hd) (ox : x.Ok) (oy : y.Ok) : (Op.equalIn (d + 3) 36 (.agg x.cells.toArray) (.agg y.cells.toArray)).run Try.prog w = .ok (decide (x = y)) w := by
  obtain ⟨a0, a1, a2, a3, a4⟩ := x.drops ox
  obtain ⟨b0, b1, b2, b3, b4⟩ := y.drops oy
  obtain ⟨g0, g1, g2⟩ := x.get0
  obtain ⟨k0, k1, k2⟩ := y.get0
  rw [run_equalIn_struct w (d + 2) 36 _ _ (by kernel_rfl) (by kernel_rfl)]
  unfold Program.fieldsOf
  rw [Try.underlying36]
  refine (eqF (by decide) (part1 (by kernel_rfl) g0) (part1 (by kernel_rfl) k0) (eqStr (d + 1) _ _) (eqF (by decide) (part1 (by kernel_rfl) g1) (part1 (by kernel_rfl) k1) (eqInt (d + 1) _ _ Try.underlying3) (eqF (by decide) (part1 (by kernel_rfl) g2) (part1 (by kernel_rfl) k2) (eqInt (d + 1) _ _ Try.underlying3)
    (eqF (by decide) (partR Try.underlying29 rfl hash_row a0) (partR Try.underlying29 rfl hash_row b0) (eqHash d ox.last oy.last) (eqF (by decide) (partR Try.underlying29 rfl hash_row a1) (partR Try.underlying29 rfl hash_row b1) (eqHash d ox.set oy.set)
    (eqF (by decide) (partR Try.underlying29 rfl hash_row a2) (partR Try.underlying29 rfl hash_row b2) (eqHash d ox.next oy.next) (eqF (by decide) (partR Try.underlying29 rfl hash_row a3) (partR Try.underlying29 rfl hash_row b3) (eqHash d ox.data oy.data)
    (eqF (by decide) (partR Try.underlying29 rfl hash_row a4) (partR Try.underlying29 rfl hash_row b4) (eqHash d ox.app oy.app) eqF0)))))))).trans ?_
  congr 1
  rw [decide_eq_decide]
  exact Hd.eqv

/-- == of two structs, under a guard or none: by what 'equalIn' answers. -/
theorem wpList_eql_w {ops : Array Oper} {rest : List Oper} {op : Oper} {a : Act} {w : World} {Q : Exit → Act → World → Prop} (t : TypeId) (x y : Operand) (u : TypeId) (ho : op.op = .binOp .eql t x y u) (hw : Region.wanted op (yielded ops a.tmps) = true)
    {xs ys : Array Value} (hx : a.eval x = .agg xs) (hy : a.eval y = .agg ys) (hg : Try.prog.eqGuardType Try.prog.depth t = false) {b : Bool} (hrun : (Op.equalIn 10000 t (.agg xs) (.agg ys)).run Try.prog w = .ok b w)
    (h : wpList Try.prog ops Q rest (a.put op.dst (.bool b)) w) : wpList Try.prog ops Q (op :: rest) a w := by
  unfold wpList
  rw [if_pos hw]
  left
  unfold Oper.wp execOp
  simp only [ho, hx, hy, Sem.run_bind, run_eqGuard_agg w .eql t x y xs ys hg, Result.andThen_ok, run_eql_struct, hrun, Sem.run_pure]
  exact h
theorem wpList_neq_w {ops : Array Oper} {rest : List Oper} {op : Oper} {a : Act} {w : World} {Q : Exit → Act → World → Prop} (t : TypeId) (x y : Operand) (u : TypeId) (ho : op.op = .binOp .neq t x y u) (hw : Region.wanted op (yielded ops a.tmps) = true)
    {xs ys : Array Value} (hx : a.eval x = .agg xs) (hy : a.eval y = .agg ys) (hg : Try.prog.eqGuardType Try.prog.depth t = false) {b : Bool} (hrun : (Op.equalIn 10000 t (.agg xs) (.agg ys)).run Try.prog w = .ok b w)
    (h : wpList Try.prog ops Q rest (a.put op.dst (.bool (!b))) w) : wpList Try.prog ops Q (op :: rest) a w := by
  unfold wpList
  rw [if_pos hw]
  left
  unfold Oper.wp execOp
  simp only [ho, hx, hy, Sem.run_bind, run_eqGuard_agg w .neq t x y xs ys hg, Result.andThen_ok, run_neq_struct, hrun, Sem.run_pure]
  exact h
theorem packet_guard : Try.prog.eqGuardType Try.prog.depth 49 = false := by kernel_rfl
theorem header_guard : Try.prog.eqGuardType Try.prog.depth 36 = false := by kernel_rfl
end Go.Proofs.Yteglpgakikigiaa

/- Package forms: EncodePacket, DecodePacket; the live question. -/
namespace Go.Proofs.Yteglpgakikigiaa
open Go.RowKit
set_option linter.unusedVariables false
set_option linter.unusedSimpArgs false
set_option maxRecDepth 20000

theorem Pk.enc_len (x : Pk) (h : x.right = true) (ox : x.Ok) : x.enc.length ≤ 1000 := by
  unfold Pk.right at h
  simp only [Bool.and_eq_true, decide_eq_true_eq] at h
  obtain ⟨_, h2, h3, _⟩ := h
  have := nameOk_size h2
  unfold Pk.enc
  simp [num_length, tx_length]
  have e1 : x.from.data.size = x.from.size := rfl
  have e2 : x.data.data.size = x.data.size := rfl
  omega

theorem EncodePacket_any (w : World) (x : Pk) (ox : x.Ok) : Calls Try.prog 15 #[.agg x.cells.toArray] w (Enc w x.right x.enc) := by
  have hC := (Chg.refl Non w).alloc (.cells x.cells.toArray 49)
  have hb := Hb.new w 49 x.cells.toArray
  have hs : (w.alloc (.cells x.cells.toArray 49)).heap.size = w.heap.size + 1 := by simp
  have H := encoded_Packet (w.alloc (.cells x.cells.toArray 49)) ⟨w.heap.size, 0, none⟩ x.right x.enc (fun h => by have := x.enc_len h ox; omega) (fun w1 g k hg hw => by
    have hb1 := hb.chg k (fun f => f)
    exact packet_w g [] w1 _ w.heap.size 0 x hw hb1.range0 (by rintro (h | h); omega; cases h) (by have := hb1.lt; omega) ox (by simp))
  have HH := Lib.hid H
  have HC := Lib.hid hC
  clear H hC hb hs
  generalize x.cells = cs at *
  go_enter Try.func15, Try.ntmps15
  go_wp2_with fail
  refine HH.out.mono ?_
  rintro e w1 ⟨h1, h2⟩
  clear HH
  have h0 := HC.out.trans h1 (fun _ f => f.elim)
  generalize x.right = ok at *
  cases ok with
  | true =>
    obtain ⟨v, rfl, ho, hl⟩ := h2
    go_wp2
    go_ret2
    exact ⟨h0, v, rfl, ho, fun k hk => by have := hl k hk; have := HC.out.size; omega⟩
  | false =>
    obtain rfl := h2
    go_wp2
    go_ret2
    exact ⟨h0, rfl⟩

theorem dPacket.r (st : St) : ∀ (L : List Value) (s : St), (dPacket st).map (fun y => ([] ++ (y.1.cells ++ []), y.2)) = some (L, s) → L.length = 4 ∧ ∀ v ∈ L, v.oneCell' = true := by
  intro L s h
  obtain ⟨y, hy, h2⟩ := Option.map_eq_some_iff.1 h
  simp only [Prod.mk.injEq, List.nil_append, List.append_nil] at h2
  obtain ⟨rfl, _⟩ := h2
  exact ⟨rfl, y.1.one⟩
theorem DecodePacket_any (w : World) (A : Option Addr) (n c : Nat) (bs : List UInt8) (hn : n = bs.length) (hr : Rd w A bs) (hsz : bs.length ≤ 1000000000) : Calls Try.prog 16 #[.slice A n c] w (Dec w Pk.zero.cells ((whole (dPacket (some bs))).map Pk.cells)) := by
  have hz := dPacket.alloc0 w
  have hzl := dPacket.zlen
  have hrow := dPacket.row
  have hC := (Chg.refl Non w).alloc (.cells Pk.zero.cells.toArray 49)
  have hb := Hb.new w 49 Pk.zero.cells.toArray
  have H := decoded_Packet (w.alloc (.cells Pk.zero.cells.toArray 49)) A n c bs ((dPacket (some bs)).map (fun y => ([] ++ (y.1.cells ++ []), y.2))) hn (hr.chg hC (fun _ _ f => f)) hsz (dPacket.r _) (fun w1 g F S => by
    generalize (w.alloc (.cells Pk.zero.cells.toArray 49)).heap.size = tb at *
    generalize Pk.zero.cells = z at *
    have h := packet_r w1 g F tb 0 49 [] [] z (some bs) (S.eq (by rw [List.append_nil, List.nil_append])) rfl hzl
    rw [List.append_nil, List.nil_append, hzl] at h
    exact h)
  have hw : whole ((dPacket (some bs)).map (fun y => ([] ++ (y.1.cells ++ []), y.2))) = (whole (dPacket (some bs))).map Pk.cells := by
    cases dPacket (some bs) with
    | none => rfl
    | some y =>
      obtain ⟨y, st⟩ := y
      match st with
      | none => rfl
      | some [] => simp [whole]
      | some (_ :: _) => rfl
  have hone : ∀ L, (whole (dPacket (some bs))).map Pk.cells = some L → L.length = 4 ∧ ∀ v ∈ L, v.oneCell' = true := by
    intro L h
    obtain ⟨y, hy, rfl⟩ := Option.map_eq_some_iff.1 h
    exact ⟨rfl, y.one⟩
  rw [hw] at H
  generalize (whole (dPacket (some bs))).map Pk.cells = r at *
  have hzone : ∀ v ∈ Pk.zero.cells, v.oneCell' = true := Pk.zero.one
  have HH := Lib.hid H
  have HC := Lib.hid hC
  clear H hC hw hn hr
  generalize Pk.zero.cells = z at *
  go_enter Try.func16, Try.ntmps16
  go_wp2_with (with_reducible refine wpList_alloc_row rfl _ rfl z hz ?_)
  refine HH.out.mono ?_
  rintro e w1 ⟨h1, h2⟩
  clear HH
  have hb1 := hb.chg h1 (fun f => f)
  have h0 := HC.out.trans h1 (fun _ f => f.elim)
  obtain ⟨L, k, rfl, hL1, hL2, hk⟩ : ∃ (L : List Value) (k : Int), e = .returned (.tuple #[.agg L.toArray, .int .i64 k]) ∧ L.length = 4 ∧ (∀ v ∈ L, v.oneCell' = true) ∧ (match r with | some L => Ending.returned (.tuple #[.agg L.toArray, .int .i64 0]) | none => .returned (.tuple #[.agg z.toArray, .int .i64 61])) = .returned (.tuple #[.agg L.toArray, .int .i64 k]) := by
    cases r with
    | some L => exact ⟨L, 0, h2, (hone L rfl).1, (hone L rfl).2, rfl⟩
    | none => exact ⟨z, 61, h2, hzl, hzone, rfl⟩
  have hLs : L.toArray.size = 4 := by rw [List.size_toArray, hL1]
  have hth := hb1.there0
  rw [hzl] at hth
  have hb2 := hb1.sets0 (L' := L) (by rw [hzl, hL1])
  clear hone h2
  go_wp2_with (with_reducible refine wpList_store_mid rfl 49 _ _ rfl w.heap.size 0 L.toArray rfl rfl (by rw [hLs]; exact hth) (by rw [hLs, hrow]) (one_mem hL2) ?_)
  refine bodyPost_ret ((results_cell_tmp rfl _ _ _).trans ?_) rfl (R := Dec w z r) (v := .tuple #[.agg L.toArray, .int .i64 k]) ?_
  · simp only [asAddr, Sem.run_pure, Result.andThen_ok]
    have hl := load_row hb2 Try.underlying49 rfl (by rw [hrow, hL1])
    simp [hl]
  · refine ⟨Chg.trans h0 (Chg.setCells (S := fun j => j = w.heap.size) rfl L _ 0 (Chg.refl _ _)) (fun j hj => .inr (by omega)), ?_⟩
    rw [← hk]
    rfl

/-- The live question's packet. -/
def AP : Pk := ⟨1, ⟨#[97]⟩, ⟨#[]⟩, 9⟩
theorem AP.ok : AP.Ok := ⟨⟨by decide, by decide⟩, by decide, by decide, ⟨by decide, by decide⟩⟩
theorem AP.is : AP.right = true := by decide
theorem AP.len : AP.enc.length = 29 := by decide
theorem AP.six : AP.enc[7]? = some 6 := by decide
theorem AP.row : AP.cells.toArray = #[.int .i64 1, .string ⟨#[97]⟩, .string ⟨#[]⟩, .int .i64 9] := rfl
theorem AP.back : whole (dPacket (some AP.enc)) = some AP := by
  have h := dPacket_app AP.ok AP.is []
  rw [List.append_nil] at h
  rw [h]
  rfl
theorem alive_any (w : World) : Calls Try.prog 4 #[] w (Zero w (.bool true)) := by
  have H := EncodePacket_any w AP AP.ok
  rw [AP.is, AP.row] at H
  go_enter Try.func4, Try.ntmps4
  go_wp2_with fail
  refine H.mono ?_
  rintro e w1 ⟨h1, v, rfl, ho, hl⟩
  clear H
  obtain ⟨A, c, rfl, hc, hm, hr, _, _⟩ := ho.slice
  obtain ⟨ad, rfl, _⟩ := hr.blk_lt (by rw [AP.len]; omega)
  have H2 := DecodePacket_any w1 (some ad) AP.enc.length c AP.enc rfl hr (by rw [AP.len]; omega)
  rw [AP.back, AP.len] at H2
  have k7 : ∀ w2, Chg Non w1 w2 → w2.cell? (ad.add 7) = some (.int .u8 6) := by
    intro w2 k
    obtain ⟨ad', e, hc7⟩ := (hr.chg k (fun _ _ f => f)) 7 6 AP.six
    injection e with e
    subst e
    exact hc7
  have K7 := Lib.hid k7
  rw [AP.len] at hc ⊢
  clear k7 ho hr hl
  have e7 : ad.add 7 = ⟨ad.block, ad.off + 7, none⟩ := by unfold Addr.add; rw [if_neg (by omega)]
  go_wp2_with fail
  refine H2.mono ?_
  rintro e w2 ⟨h2, he⟩
  have he' : e = .returned (.tuple #[.agg #[.int .i64 1, .string ⟨#[97]⟩, .string ⟨#[]⟩, .int .i64 9], .int .i64 0]) := he
  subst he'
  have hA := (Chg.refl Non w2).alloc (.cells #[.int .i64 0, .string ⟨#[]⟩, .string ⟨#[]⟩, .int .i64 0] 49)
  have c7 := K7.out w2 h2
  rw [e7] at c7
  have hlt : ad.block < w2.heap.size := World.block_lt_of_cell? w2 ⟨ad.block, ad.off + 7, none⟩ c7
  have hne : ¬ ad.block = w2.heap.size := by omega
  clear he H2 K7 e7
  go_wp2
  go_ret
  exact ⟨rfl, (h1.trans h2 (fun _ f => f.elim)).alloc _⟩
end Go.Proofs.Yteglpgakikigiaa

/- Package forms: EncodeVote, DecodeVote, SignBytes. -/
namespace Go.Proofs.Yteglpgakikigiaa
open Go.RowKit
set_option linter.unusedVariables false
set_option linter.unusedSimpArgs false
set_option maxRecDepth 20000

theorem Vt.enc_len (x : Vt) (h : x.right = true) (ox : x.Ok) : x.enc.length ≤ 1000 := by
  unfold Vt.right at h
  simp only [Bool.and_eq_true, decide_eq_true_eq] at h
  have := nameOk_size h.1
  unfold Vt.enc
  simp [num_length, tx_length, be_length, ox.block]
  have e1 : x.chain.data.size = x.chain.size := rfl
  omega
theorem Vt.cells_len (x : Vt) (ox : x.Ok) : x.cells.length = 39 := by
  unfold Vt.cells
  simp [bv_length, ox.block]

theorem dVote_len {st : St} {y : Vt × St} (h : dVote st = some y) : y.1.cells.length = 39 := by
  unfold dVote at h
  simp only [Option.bind_eq_some_iff, Option.some.injEq, Prod.exists] at h
  obtain ⟨s1, h1, c, s2, h2, ht, s3, h3, rd, s4, h4, ty, s5, h5, rfl⟩ := h
  simp [Vt.cells, bv_length, vH_length]
theorem whole_some {α : Type} {r : Option (α × St)} {y : α} (h : whole r = some y) : r = some (y, some []) := by
  match r, h with
  | some (x, some []), h => simp only [whole, Option.some.injEq] at h; rw [h]

theorem dVote.r (st : St) : ∀ (L : List Value) (s : St), (dVote st).map (fun y => ([] ++ (y.1.cells ++ []), y.2)) = some (L, s) → L.length = 39 ∧ ∀ v ∈ L, v.oneCell' = true := by
  intro L s h
  obtain ⟨y, hy, h2⟩ := Option.map_eq_some_iff.1 h
  simp only [Prod.mk.injEq, List.nil_append, List.append_nil] at h2
  obtain ⟨rfl, _⟩ := h2
  exact ⟨dVote_len hy, y.1.one⟩
/-- Without who signs. -/
def Vt.bare (x : Vt) : Vt := { x with key := 0, r := 0, s := 0 }
theorem Vt.bare_ok {x : Vt} (ox : x.Ok) : x.bare.Ok := ⟨ox.chain, ox.height, ox.round, ox.type, ox.block, by show 0 < _; omega, by show 0 < _; omega, by show 0 < _; omega⟩
theorem Vt.bare_row (x : Vt) : x.bare.cells = [.string x.chain, .int .i64 x.height, .int .i64 x.round, .int .i64 x.type] ++ (bv x.block ++ [.int .u64 0, .int .u64 0, .int .u64 0]) := rfl
/-- A row of a vote. -/
def vrow (x : Vt) (a b c : Value) : List Value := ([.string x.chain, .int .i64 x.height, .int .i64 x.round, .int .i64 x.type] ++ bv x.block) ++ [a, b, c]
theorem vrow_cells (x : Vt) : x.cells = vrow x (.int .u64 (x.key : Int)) (.int .u64 (x.r : Int)) (.int .u64 (x.s : Int)) := by unfold Vt.cells vrow; rw [List.append_assoc]
theorem vrow_key {w : World} {n : Nat} {t : TypeId} {x : Vt} (ox : x.Ok) {a b c : Value} (h : Hb w n t (vrow x a b c).toArray) (u : Value) : w.cell? ⟨n, 36, none⟩ = some a ∧ w.frozen? ⟨n, 36, none⟩ = false ∧ Hb (w.setCell ⟨n, 36, none⟩ u) n t (vrow x u b c).toArray := by
  have hl : ([Value.string x.chain, .int .i64 x.height, .int .i64 x.round, .int .i64 x.type] ++ bv x.block).length = 36 := by simp [bv_length, ox.block]
  unfold vrow at h ⊢
  refine ⟨?_, h.frozen _, ?_⟩
  · rw [h.cell, List.getElem?_toArray, ← hl, List.getElem?_append_right (by omega), Nat.sub_self]; rfl
  · have h2 := h.set 36 u
    rw [← hl, row_set, hl] at h2
    exact h2
theorem vrow_sig {w : World} {n : Nat} {t : TypeId} {x : Vt} (ox : x.Ok) {a b c : Value} (h : Hb w n t (vrow x a b c).toArray) (u v : Value) : w.there n 37 2 ∧ w.rangeAt n 37 [b, c] ∧ Hb (w.setCells n 37 [u, v]) n t (vrow x a u v).toArray := by
  have hl : (([Value.string x.chain, .int .i64 x.height, .int .i64 x.round, .int .i64 x.type] ++ bv x.block) ++ [a]).length = 37 := by simp [bv_length, ox.block]
  have e : ∀ y z, vrow x a y z = (([Value.string x.chain, .int .i64 x.height, .int .i64 x.round, .int .i64 x.type] ++ bv x.block) ++ [a]) ++ ([y, z] ++ []) := fun y z => by unfold vrow; simp
  rw [e] at h ⊢
  refine ⟨?_, ?_, ?_⟩
  · intro j hj
    refine ⟨?_, h.frozen _⟩
    rw [h.cell, List.getElem?_toArray, ← hl, List.getElem?_append_right (by omega), Nat.add_sub_cancel_left, List.append_nil, List.getElem?_eq_getElem (by simpa using hj)]
    rfl
  · intro j y hj
    rw [h.cell, List.getElem?_toArray, ← hl, List.getElem?_append_right (by omega), Nat.add_sub_cancel_left, List.append_nil]
    exact hj
  · have h2 := Hb.setCells [u, v] [b, c] _ [] w rfl h
    rw [hl] at h2
    exact h2

end Go.Proofs.Yteglpgakikigiaa

/- Package forms: DecodeCommit. -/
namespace Go.Proofs.Yteglpgakikigiaa
open Go.RowKit
set_option linter.unusedVariables false
set_option linter.unusedSimpArgs false
set_option maxRecDepth 20000

theorem DecodeCommit_any (w : World) (A : Option Addr) (n c : Nat) (bs : List UInt8) (hn : n = bs.length) (hr : Rd w A bs) (hsz : bs.length ≤ 1000000000) : Calls Try.prog 7 #[.slice A n c] w (DecC w cmz (whole (dCommit (some bs)))) := by
  have hz := dCommit.alloc0 w
  have hzl := dCommit.zlen
  have hrow := dCommit.row
  have hC := (Chg.refl Non w).alloc (.cells cmz.toArray 32)
  have hb := Hb.new w 32 cmz.toArray
  have H := decoded_Commit (w.alloc (.cells cmz.toArray 32)) A n c bs (dCommit (some bs)) hn (hr.chg hC (fun _ _ f => f)) hsz (fun x s h a => dCommit_len h a) (fun w1 g F S => by
    generalize (w.alloc (.cells cmz.toArray 32)).heap.size = tb at *
    exact commit_r w1 g F tb 0 32 [] [] (.int .i64 0) (.int .i64 0) (bv noH) (by rw [bv_length]; rfl) (some bs) S rfl)
  have hlen : ∀ x, whole (dCommit (some bs)) = some x → ∀ a, (x.cells a).length = 35 := fun x h a => dCommit_len (whole_some h) a
  generalize whole (dCommit (some bs)) = r at *
  have hzone := cmz_one
  have HH := Lib.hid H
  have HC := Lib.hid hC
  clear H hC hn hr
  generalize cmz = z at *
  go_enter Try.func7, Try.ntmps7
  go_wp2_with (with_reducible refine wpList_alloc_row rfl _ rfl z hz ?_)
  refine HH.out.mono ?_
  rintro e w1 ⟨h1, h2⟩
  clear HH
  have hb1 := hb.chg h1 (fun f => f)
  have h0 := HC.out.trans h1 (fun _ f => f.elim)
  have hs1 := HC.out.size
  have hss : (w.alloc (.cells z.toArray 32)).heap.size = w.heap.size + 1 := by simp
  obtain ⟨L, k, rfl, hL1, hL2, hk⟩ : ∃ (L : List Value) (k : Int), e = .returned (.tuple #[.agg L.toArray, .int .i64 k]) ∧ L.length = 35 ∧ (∀ v ∈ L, v.oneCell' = true) ∧ (∀ w', Chg (fun j => j = w.heap.size) w1 w' → DecC w z r (.returned (.tuple #[.agg L.toArray, .int .i64 k])) w') := by
    cases r with
    | some x =>
      obtain ⟨nb, g1, rfl, B1⟩ := h2
      refine ⟨_, 0, rfl, hlen x rfl _, cm_one _ _ _ _ _ rfl, fun w' k => ⟨h0.trans k (fun j hj => .inr (by omega)), nb, by omega, rfl, B1.chg k (by omega)⟩⟩
    | none => exact ⟨z, 61, h2, hzl, hzone, fun w' k => ⟨h0.trans k (fun j hj => .inr (by omega)), rfl⟩⟩
  have hLs : L.toArray.size = 35 := by rw [List.size_toArray, hL1]
  have hth := hb1.there0
  rw [hzl] at hth
  have hb2 := hb1.sets0 (L' := L) (by rw [hzl, hL1])
  have HK := Lib.hid hk
  clear h2 hk
  go_wp2_with (with_reducible refine wpList_store_mid rfl 32 _ _ rfl w.heap.size 0 L.toArray rfl rfl (by rw [hLs]; exact hth) (by rw [hLs, hrow]) (one_mem hL2) ?_)
  refine bodyPost_ret ((results_cell_tmp rfl _ _ _).trans ?_) rfl (R := DecC w z r) (v := .tuple #[.agg L.toArray, .int .i64 k]) ?_
  · simp only [asAddr, Sem.run_pure, Result.andThen_ok]
    have hl := load_row hb2 Try.underlying32 rfl (by rw [hrow, hL1])
    simp [hl]
  · exact HK.out _ (Chg.setCells (S := fun j => j = w.heap.size) rfl L _ 0 (Chg.refl _ _))
end Go.Proofs.Yteglpgakikigiaa

/- The document's answers for forms: the bytes of a light block. -/
namespace Go.Proofs.Yteglpgakikigiaa
open Go.RowKit
set_option linter.unusedVariables false
set_option linter.unusedSimpArgs false
set_option maxRecDepth 20000

theorem hd_row : (Try.prog.info? 36).map (·.size) = some 163 := by kernel_rfl
theorem setEnc_len {l : List Va} (h : l.length ≤ 64) : (setEnc l).length ≤ 1040 := by
  unfold setEnc encL
  simp only [List.length_append, num_length, vas_enc_len]
  omega
theorem cmEnc_len {x : Cm} (h : x.seals.length ≤ 64) (hb : x.block.length = 32) : x.enc.length ≤ 1600 := by
  unfold Cm.enc encL
  simp only [List.length_append, num_length, ses_enc_len, hb]
  omega
theorem hdEnc_len {x : Hd} (ox : x.Ok) (h : x.chain.size ≤ 4096) : x.enc.length ≤ 5000 := by
  have e : x.chain.data.toList.length = x.chain.size := by rw [Array.length_toList]; rfl
  unfold Hd.enc
  simp only [List.length_append, num_length, tx_length, e, ox.last, ox.set, ox.next, ox.data, ox.app]
  omega
set_option maxHeartbeats 3200000 in
theorem refLight_any (w : World) (x : Lt) (ox : x.Ok) (hch : x.header.chain.size ≤ 4096) (A1 A2 A3 : Option Addr) (c1 c2 c3 : Nat) (hl1 : x.commit.seals.length ≤ 64) (hl2 : x.set.length ≤ 64) (hl3 : x.next.length ≤ 64)
    (M1 : LstM w A1 x.commit.seals Se.cells 3) (M2 : LstM w A2 x.set Va.cells 2) (M3 : LstM w A3 x.next Va.cells 2) :
    Calls Try.prog 29 #[.agg (x.cells (.slice A1 x.commit.seals.length c1) (.slice A2 x.set.length c2) (.slice A3 x.next.length c3)).toArray] w fun e w' => Chg Non w w' ∧ ∃ v, e = .returned (.tuple #[v, .bool x.right]) := by
  have hs2 : setRight x.set = true := inR_iff.2 ⟨by omega, by omega⟩
  have hs3 : setRight x.next = true := inR_iff.2 ⟨by omega, by omega⟩
  have HR : Hid (x.right = (x.header.right && x.commit.right)) := Lib.hid (by unfold Lt.right; rw [hs2, hs3]; simp)
  have hhl : x.header.cells.length = 163 := x.header.cells_len ox.header
  have hcl : (x.commit.cells (.slice A1 x.commit.seals.length c1)).length = 35 := x.commit.cells_len ox.commit _
  have AT : ∀ w1, Hid (w1 = w.alloc (.cells (x.cells (.slice A1 x.commit.seals.length c1) (.slice A2 x.set.length c2) (.slice A3 x.next.length c3)).toArray 38)) → Chg Non w w1 ∧ ∀ w', Chg Non w1 w' → w'.rangeAt w.heap.size 0 x.header.cells ∧ w'.rangeAt w.heap.size 163 (x.commit.cells (.slice A1 x.commit.seals.length c1)) ∧ w'.cell? ⟨w.heap.size, 198, none⟩ = some (.slice A2 x.set.length c2) ∧ w'.cell? ⟨w.heap.size, 199, none⟩ = some (.slice A3 x.next.length c3) := fun w1 e => by
    refine ⟨by rw [e.out]; exact (Chg.refl Non w).alloc _, fun w' k => ?_⟩
    have hb : Hb w1 w.heap.size 38 (x.cells (.slice A1 x.commit.seals.length c1) (.slice A2 x.set.length c2) (.slice A3 x.next.length c3)).toArray := by rw [e.out]; exact Hb.new w _ _
    have r := (hb.chg k (fun f => f)).range0
    unfold Lt.cells at r
    obtain ⟨r1, r⟩ := rangeAt_app r
    rw [hhl] at r
    obtain ⟨r2, r⟩ := rangeAt_app r
    rw [hcl] at r
    obtain ⟨r3, r⟩ := rangeAt_cons r
    exact ⟨r1, r2, r3, (rangeAt_cons r).1⟩
  have HAT := Lib.hid AT
  have HH : Hid (∀ w', Calls Try.prog 57 #[.agg x.header.cells.toArray] w' fun e w'' => Chg Non w' w'' ∧ ∃ v, e = .returned (.tuple #[v, .bool x.header.right]) ∧ Own 5 w'' v x.header.enc) := Lib.hid fun w' => refHeader_any w' x.header ox.header hch
  have HC : Hid (∀ w', Chg Non w w' → Calls Try.prog 24 #[.agg (x.commit.cells (.slice A1 x.commit.seals.length c1)).toArray] w' fun e w'' => Chg Non w' w'' ∧ ∃ v, e = .returned (.tuple #[v, .bool x.commit.right]) ∧ Own 5 w'' v x.commit.enc) := Lib.hid fun w' k => refCommit_any w' x.commit ox.commit A1 c1 hl1 (M1.chg k)
  have HS2 : Hid (∀ w', Chg Non w w' → Calls Try.prog 58 #[.slice A2 x.set.length c2] w' fun e w'' => Chg Non w' w'' ∧ ∃ v, e = .returned (.tuple #[v, .bool true]) ∧ Own 5 w'' v (setEnc x.set)) := Lib.hid fun w' k => refSet_any w' A2 c2 x.set hl2 (M2.chg k) ox.set
  have HS3 : Hid (∀ w', Chg Non w w' → Calls Try.prog 58 #[.slice A3 x.next.length c3] w' fun e w'' => Chg Non w' w'' ∧ ∃ v, e = .returned (.tuple #[v, .bool true]) ∧ Own 5 w'' v (setEnc x.next)) := Lib.hid fun w' k => refSet_any w' A3 c3 x.next hl3 (M3.chg k) ox.next
  have hih : (Try.prog.info? 36).map (·.size) = some x.header.cells.length := by rw [hhl]; exact hd_row
  have hic : (Try.prog.info? 32).map (·.size) = some (x.commit.cells (.slice A1 x.commit.seals.length c1)).length := by rw [hcl]; exact cm_rowU
  have LN1 : Hid (x.header.enc.length ≤ 5000) := Lib.hid (hdEnc_len ox.header hch)
  have LN2 : Hid (x.commit.enc.length ≤ 1600) := Lib.hid (cmEnc_len hl1 ox.commit.block)
  have LN3 : Hid ((setEnc x.set).length ≤ 1040) := Lib.hid (setEnc_len hl2)
  have LN4 : Hid ((setEnc x.next).length ≤ 1040) := Lib.hid (setEnc_len hl3)
  clear AT hs2 hs3 M1 M2 M3 hch hhl hcl ox
  generalize x.cells (.slice A1 x.commit.seals.length c1) (.slice A2 x.set.length c2) (.slice A3 x.next.length c3) = cs at *
  generalize x.commit.cells (.slice A1 x.commit.seals.length c1) = cc at *
  generalize x.header.cells = hc at *
  generalize x.header.right = p at *
  generalize x.commit.right = q at *
  generalize x.right = ok at *
  generalize x.header.enc = e1 at *
  generalize x.commit.enc = e2 at *
  generalize setEnc x.set = e3 at *
  generalize setEnc x.next = e4 at *
  generalize x.set.length = n2 at *
  generalize x.next.length = n3 at *
  go_enter Try.func29, Try.ntmps29
  go_wp2_with (first | (with_reducible refine wpList_box_row rfl _ _ rfl (cs := cs.toArray) rfl ?_; intro w1 hw1; obtain ⟨k1, HA⟩ := HAT.out w1 hw1; have r1 := (HA w1 (Chg.refl _ _)).1) | (with_reducible refine wpList_load_mid rfl 36 _ rfl w.heap.size 0 rfl hc _ r1 Try.underlying36 rfl hih ?_))
  have HAU := Lib.hid HA
  clear hw1 r1 HA HAT
  refine (HH.out _).mono ?_
  rintro e wa ⟨ja, va, rfl, oa⟩
  have Ka := Chg.trans (Chg.refl Non w1) ja (fun _ f => f.elim)
  have ra := (HAU.out wa Ka).2.1
  go_wp2_with (with_reducible refine wpList_load_mid rfl 32 _ rfl w.heap.size 163 rfl cc _ ra Try.underlying32 rfl hic ?_)
  refine (HC.out _ (k1.trans Ka (fun _ f => f.elim))).mono ?_
  rintro e wb ⟨jb, vb, rfl, ob⟩
  have Kb := Ka.trans jb (fun _ f => f.elim)
  have oa := oa.chg jb (fun _ _ f => f)
  have rb := (HAU.out wb Kb).2.2.1
  go_wp2_with fail
  refine (HS2.out _ (k1.trans Kb (fun _ f => f.elim))).mono ?_
  rintro e wc ⟨jc, vc, rfl, oc⟩
  have Kc := Kb.trans jc (fun _ f => f.elim)
  have oa := oa.chg jc (fun _ _ f => f)
  have ob := ob.chg jc (fun _ _ f => f)
  have rc := (HAU.out wc Kc).2.2.2
  go_wp2_with fail
  refine (HS3.out _ (k1.trans Kc (fun _ f => f.elim))).mono ?_
  rintro e wd ⟨jd, vd, rfl, od⟩
  have Kd := Kc.trans jd (fun _ f => f.elim)
  have oa := oa.chg jd (fun _ _ f => f)
  have ob := ob.chg jd (fun _ _ f => f)
  have oc := oc.chg jd (fun _ _ f => f)
  go_wp2_with fail
  refine (refNumber_any _ 5).mono ?_
  rintro e we ⟨ve, rfl, oe, ne, je⟩
  have Ke := Kd.trans je (fun _ f => f.elim)
  obtain ⟨Aa, ca, rfl, Ra⟩ := oa.rd
  obtain ⟨Ab, cb, rfl, Rb⟩ := ob.rd
  obtain ⟨Ac, cd, rfl, Rc⟩ := oc.rd
  obtain ⟨Ad, ce, rfl, Re⟩ := od.rd
  have B5 : Bts wd we ve (num 5) := ⟨oe, ne, je⟩
  have L1 := LN1.out
  have L2 := LN2.out
  have L3 := LN3.out
  have L4 := LN4.out
  have fin : ∀ w', Chg Non wd w' → Chg Non w w' := fun w' k => k1.trans (Kd.trans k (fun _ f => f.elim)) (fun _ f => f.elim)
  have FIN := Lib.hid fin
  clear fin oa ob oc od oe ne je Ke Kd Kc Kb Ka HAU HH HC HS2 HS3 LN1 LN2 LN3 LN4 hih hic ja jb jc jd ra rb rc k1
  cases p <;> cases q
  all_goals
    go_wp2_with (first | (at_builtin; refine wpList_app (v := ve) byt _ rfl _ _ rfl rfl B5.own (A := Aa) (c := ca) rfl rfl (Ra.later B5.chg) (by simp only [List.length_append, num_length]; omega) ?_; intro v6 w6 o6 g6 b6; have B6 := B5.app o6 g6 b6) | (at_builtin; refine wpList_app (v := v6) byt _ rfl _ _ rfl rfl B6.own (A := Ab) (c := cb) rfl rfl (Rb.later B6.chg) (by simp only [List.length_append, num_length]; omega) ?_; intro v7 w7 o7 g7 b7; have B7 := B6.app o7 g7 b7) | (at_builtin; refine wpList_app (v := v7) byt _ rfl _ _ rfl rfl B7.own (A := Ac) (c := cd) rfl rfl (Rc.later B7.chg) (by simp only [List.length_append, num_length]; omega) ?_; intro v8 w8 o8 g8 b8; have B8 := B7.app o8 g8 b8) | (at_builtin; refine wpList_app (v := v8) byt _ rfl _ _ rfl rfl B8.own (A := Ad) (c := ce) rfl rfl (Re.later B8.chg) (by simp only [List.length_append, num_length]; omega) ?_; intro v9 w9 o9 g9 b9; have B9 := B8.app o9 g9 b9))
    go_ret2
    exact ⟨FIN.out _ B9.chg, _, by rw [HR.out]; rfl⟩
end Go.Proofs.Yteglpgakikigiaa

/- The document's answers for forms: ReadCommit. -/
namespace Go.Proofs.Yteglpgakikigiaa
open Go.RowKit
set_option linter.unusedVariables false
set_option linter.unusedSimpArgs false
set_option maxRecDepth 20000

theorem zero_Cm : Try.prog.built 32 [] = some cmz.toArray := by kernel_rfl
theorem own_lst {α : Type} {e : TypeId} {sz : Nat} {cells : α → List Value} {w : World} {l : List α} {A : Option Addr} {n c : Nat} (h : OwnL e sz cells w (.slice A n c) l) (hc : ∀ x ∈ l, (cells x).length = sz) (hpos : 0 < sz) : LstM w A l cells sz := by
  obtain ⟨A', c', e', _, _, M⟩ := h.slice hc hpos
  injection e' with e1
  subst e1
  exact M
/-- What the document's reading of a commit leaves. -/
def RefC (w : World) (z : List Value) (r : Option Cm) (e : Ending) (w' : World) : Prop :=
  Chg Non w w' ∧ match r with
    | some x => ∃ A c, e = .returned (.tuple #[.agg (x.cells (.slice A x.seals.length c)).toArray, .int .i64 0]) ∧ LstM w' A x.seals Se.cells 3
    | none => e = .returned (.tuple #[.agg z.toArray, .int .i64 61])
set_option maxHeartbeats 1600000 in
theorem ReadCommit_any (w : World) (A : Option Addr) (c : Nat) (bs : List UInt8) (hr : Rd w A bs) (hc : bs.length ≤ c) (hcm : c ≤ maxLen) (hA : bs ≠ [] → ∀ j, abl A j → j < w.heap.size) :
    Calls Try.prog 8 #[.slice A bs.length c] w (RefC w cmz (whole (dCommit (some bs)))) := by
  rw [as_whole (rCommit_is (some bs))]
  have ox := rCommit_ok (some bs)
  have hsl := (inR_iff.1 (rCommit_len (some bs))).2
  obtain ⟨hR2, hb2, hk2, hs2⟩ := rdF_new w 32 cmz A c bs hr hc hcm hA
  have HV := readCommit_any _ (w.heap.size + 1) (fun j => j < w.heap.size) (some bs) hR2 (fun j hj => by rw [hs2]; omega)
  have hz := cm_alloc0
  have hzl := cmz_len
  have hrow := cm_rowU
  have hzz := zero_Cm
  have hzone := cmz_one
  generalize (rCommit (some bs)).1 = x at *
  generalize (rCommit (some bs)).2 = s9 at *
  generalize cmz = z at *
  generalize bs.length = n at *
  generalize hrr : (if s9 = some [] ∧ x.right = true then some x else none) = rr
  have HRR := Lib.hid hrr
  clear hrr
  have HZ := Lib.hid hz
  have hz0 := hz w
  have HVV := Lib.hid HV
  have OX := Lib.hid ox
  have hblk := Lib.hid ox.block
  clear HV hz hr hc hA hR2 ox
  go_enter Try.func8, Try.ntmps8
  go_wp2_with (with_reducible refine wpList_alloc_row rfl _ rfl z hz0 ?_)
  generalize (w.alloc (.cells z.toArray 32)).alloc (.cells #[.slice A n c, .bool false] 56) = w2 at *
  refine HVV.out.mono ?_
  rintro e w3 ⟨v, rfl, ho, hv, hR3, hK3⟩
  obtain ⟨A3, c3, rfl, _, _, _⟩ := ho.slice (fun x _ => rfl) (by omega)
  have hb3 := hb2.chg hK3 (fun e => by unfold Eqg at e; omega)
  have hk3 := hk2.trans hK3 (fun j hj => .inr (by unfold Eqg at hj; omega))
  have hw3 := hK3.size
  have hz3 := HZ.out w3
  have hLl : (x.cells (.slice A3 x.seals.length c3)).length = 35 := by simp [Cm.cells, bv_length, hblk.out]
  have hLone : ∀ u ∈ x.cells (.slice A3 x.seals.length c3), u.oneCell' = true := cm_one _ _ _ _ _ rfl
  obtain ⟨K4, hN4, hth4⟩ := storedU w3 32 z (x.cells (.slice A3 x.seals.length c3)) (hzl.trans hLl.symm)
  have hb4 := hb3.chg K4 (fun f => f)
  have ho4 := ho.chg K4 (fun _ _ f => f)
  have hk4 := hk3.trans K4 (fun _ f => f.elim)
  have hR4 := hR3.chg K4 (fun f => f) (fun _ _ f => f)
  have hne : w3.heap.size ≠ w.heap.size := by omega
  have HX : Hid (∀ w', OwnL 75 3 Se.cells w' (.slice A3 x.seals.length c3) x.seals → Calls Try.prog 24 #[.agg (x.cells (.slice A3 x.seals.length c3)).toArray] w' fun e w'' => Chg Non w' w'' ∧ ∃ v, e = .returned (.tuple #[v, .bool x.right])) := Lib.hid fun w' ho => (refCommit_any w' x OX.out A3 c3 (by omega) (own_lst ho (fun x _ => rfl) (by omega))).mono fun e w'' ⟨h1, v, h2, _⟩ => ⟨h1, v, h2⟩
  have HLL : Hid (∀ w', OwnL 75 3 Se.cells w' (.slice A3 x.seals.length c3) x.seals → Chg Non w w' → RefC w z (some x) (.returned (.tuple #[.agg (x.cells (.slice A3 x.seals.length c3)).toArray, .int .i64 0])) w') := Lib.hid fun w' h1 h2 => ⟨h2, A3, c3, rfl, own_lst h1 (fun x _ => rfl) (by omega)⟩
  generalize x.cells (.slice A3 x.seals.length c3) = L at *
  have HO4 := Lib.hid ho4
  generalize x.right = ok at *
  have hLs : L.toArray.size = 35 := by rw [List.size_toArray]; exact hLl
  have hLi : (Try.prog.info? 32).map (·.size) = some L.length := by rw [hLl]; exact hrow
  have hzs : z.toArray.size = 35 := by rw [List.size_toArray]; exact hzl
  rw [hLl] at hth4
  clear hb2 hk2 HVV hb3 hk3 hR3 hK3 K4 hz0 ho hv ho4
  generalize hw4 : (w3.alloc (.cells z.toArray 32)).setCells w3.heap.size 0 L = w4 at *
  have HW4 := Lib.hid hw4
  have r4 := hN4.range0
  clear hw4
  go_wp2_with (first | (with_reducible refine wpList_alloc_row rfl _ rfl z hz3 ?_) | (with_reducible refine wpList_store_mid rfl 32 _ _ rfl w3.heap.size 0 L.toArray rfl rfl (by rw [hLs]; exact hth4) (by rw [hLs, hrow]) (one_mem hLone) ?_; rw [List.toList_toArray, HW4.out]) | (with_reducible refine wpList_load_mid rfl 32 _ rfl w3.heap.size 0 rfl L _ r4 Try.underlying32 rfl hLi ?_))
  clear hz3 hth4 HW4 r4
  generalize w3.heap.size = tb at *
  refine (HX.out _ HO4.out).mono ?_
  rintro e w5 ⟨k5, v, rfl⟩
  have hb5 := hb4.chg k5 (fun f => f)
  have hN5 := hN4.chg k5 (fun f => f)
  have ho5 := HO4.out.chg k5 (fun _ _ f => f)
  have hk5 := hk4.trans k5 (fun _ f => f.elim)
  have hR5 := hR4.chg k5 (fun f => f) (fun _ _ f => f)
  clear hb4 hN4 hk4 hR4 k5 HX HO4
  have HE := ends_any w5 _ _ s9 ok hR5
  have ht5 := hb5.there0
  rw [hzl] at ht5
  have r5 := hN5.range0
  have HB5 := Lib.hid hb5
  have HO5 := Lib.hid ho5
  clear hR5 ho5
  by_cases hok : s9 = some [] ∧ ok = true
  · rw [if_pos hok] at HE
    obtain rfl : rr = some x := HRR.out.symm.trans (if_pos hok)
    clear hok HRR
    have b9 := hb5.sets0 (L' := L) (hzl.trans hLl.symm)
    go_wp2_with fail
    refine HE.mono ?_
    rintro e w6 ⟨rfl, rfl⟩
    clear HE
    go_wp2_with (first | (with_reducible refine wpList_load_mid rfl 32 _ rfl tb 0 rfl L _ r5 Try.underlying32 rfl hLi ?_) | (with_reducible refine wpList_store_mid rfl 32 _ _ rfl w.heap.size 0 L.toArray rfl rfl (by rw [hLs]; exact ht5) (by rw [hLs, hrow]) (one_mem hLone) ?_))
    refine bodyPost_ret ((results_cell_tmp rfl _ _ _).trans ?_) rfl (R := RefC w z (some x)) (v := .tuple #[.agg L.toArray, .int .i64 0]) ?_
    · simp only [asAddr, Sem.run_pure, Result.andThen_ok]
      have hl := load_row b9 Try.underlying32 rfl hLi
      simp [hl]
    · have ks := Chg.setCells (S := fun j => j = w.heap.size) rfl L _ 0 (Chg.refl _ w6)
      exact HLL.out _ (HO5.out.chg ks (fun j hj e => by subst e; exact HO5.out.ne HB5.out (by decide) hj)) (hk5.trans ks (fun j hj => .inr (by omega)))
  · rw [if_neg hok] at HE
    obtain rfl : rr = none := HRR.out.symm.trans (if_neg hok)
    clear hok HRR
    have b9 := hb5.sets0 (L' := z) rfl
    have hzi : (Try.prog.info? 32).map (·.size) = some z.length := by rw [hzl]; exact hrow
    go_wp2_with fail
    refine HE.mono ?_
    rintro e w6 ⟨rfl, rfl⟩
    clear HE
    go_wp2_with (first | (with_reducible refine wpList_build_zero rfl 32 rfl hzz ?_) | (with_reducible refine wpList_store_mid rfl 32 _ _ rfl w.heap.size 0 z.toArray rfl rfl (by rw [hzs]; exact ht5) (by rw [hzs, hrow]) (one_mem hzone) ?_))
    refine bodyPost_ret ((results_cell_tmp rfl _ _ _).trans ?_) rfl (R := RefC w z none) (v := .tuple #[.agg z.toArray, .int .i64 61]) ?_
    · simp only [asAddr, Sem.run_pure, Result.andThen_ok]
      have hl := load_row b9 Try.underlying32 rfl hzi
      simp [hl]
    · exact ⟨hk5.trans (Chg.setCells (S := fun j => j = w.heap.size) rfl z _ 0 (Chg.refl _ _)) (fun j hj => .inr (by omega)), rfl⟩
end Go.Proofs.Yteglpgakikigiaa

/- The document's answers for forms: ReadSet. -/
namespace Go.Proofs.Yteglpgakikigiaa
open Go.RowKit
set_option linter.unusedVariables false
set_option linter.unusedSimpArgs false
set_option maxRecDepth 20000

/-- What the document's reading of validators leaves. -/
def RefS (w : World) (r : Option (List Va)) (e : Ending) (w' : World) : Prop :=
  Chg Non w w' ∧ match r with
    | some l => ∃ A c, e = .returned (.tuple #[.slice A l.length c, .int .i64 0]) ∧ LstM w' A l Va.cells 2
    | none => e = .returned (.tuple #[.slice none 0 0, .int .i64 61])
theorem rdF_new1 (w : World) (A : Option Addr) (c : Nat) (bs : List UInt8) (hr : Rd w A bs) (hc : bs.length ≤ c) (hcm : c ≤ maxLen) (hA : bs ≠ [] → ∀ j, abl A j → j < w.heap.size) :
    RdF (w.alloc (.cells #[.slice A bs.length c, .bool false] 56)) w.heap.size (fun j => j < w.heap.size) (some bs) := by
  have k := (Chg.refl Non w).alloc (.cells #[.slice A bs.length c, .bool false] 56)
  exact ⟨by omega, A, c, Hb.new w _ _, hr.chg k (fun _ _ f => f), hc, hcm, hA⟩
set_option maxHeartbeats 1600000 in
theorem ReadSet_any (w : World) (A : Option Addr) (c : Nat) (bs : List UInt8) (hr : Rd w A bs) (hc : bs.length ≤ c) (hcm : c ≤ maxLen) (hA : bs ≠ [] → ∀ j, abl A j → j < w.heap.size) :
    Calls Try.prog 6 #[.slice A bs.length c] w (RefS w (whole (dSet (some bs)))) := by
  rw [as_whole (rSet_is (some bs))]
  have hR2 := rdF_new1 w A c bs hr hc hcm hA
  have hk2 := (Chg.refl Non w).alloc (.cells #[.slice A bs.length c, .bool false] 56)
  have hs2 : (w.alloc (.cells #[.slice A bs.length c, .bool false] 56)).heap.size = w.heap.size + 1 := by simp
  have HV := readSet_any _ w.heap.size (fun j => j < w.heap.size) (some bs) hR2 (fun j hj => by rw [hs2]; omega)
  generalize (rSet (some bs)).1 = l at *
  generalize (rSet (some bs)).2 = s9 at *
  generalize bs.length = n at *
  generalize hrr : (if s9 = some [] ∧ true = true then some l else none) = rr
  have HRR := Lib.hid hrr
  have HVV := Lib.hid HV
  clear hrr HV hr hc hA hR2
  go_enter Try.func6, Try.ntmps6
  go_wp2_with fail
  generalize w.alloc (.cells #[.slice A n c, .bool false] 56) = w2 at *
  refine HVV.out.mono ?_
  rintro e w3 ⟨v, rfl, ho, hv, hR3, hK3⟩
  have hk3 := hk2.trans hK3 (fun j hj => .inr (by unfold Eqg at hj; omega))
  have HE := ends_any w3 _ _ s9 true hR3
  obtain ⟨A3, c3, rfl, _, _, M⟩ := ho.slice (fun x _ => rfl) (by omega)
  clear HVV hk2 hK3 hR3 ho hv
  by_cases hok : s9 = some []
  · rw [if_pos ⟨hok, rfl⟩] at HE
    obtain rfl : rr = some l := by have h := HRR.out; simp [hok] at h; exact h.symm
    clear hok HRR
    have HM := Lib.hid M
    clear M
    have HLL : Hid (∀ w', LstM w' A3 l Va.cells 2 → Chg Non w w' → RefS w (some l) (.returned (.tuple #[.slice A3 l.length c3, .int .i64 0])) w') := Lib.hid fun w' h1 h2 => ⟨h2, A3, c3, rfl, h1⟩
    generalize l.length = ln at *
    go_wp2_with fail
    refine HE.mono ?_
    rintro e w6 ⟨rfl, rfl⟩
    go_wp2_with fail
    go_ret2
    exact HLL.out _ HM.out hk3
  · rw [if_neg (fun h => hok h.1)] at HE
    obtain rfl : rr = none := by have h := HRR.out; simp [hok] at h; exact h.symm
    clear hok HRR M
    generalize l.length = ln at *
    go_wp2_with fail
    refine HE.mono ?_
    rintro e w6 ⟨rfl, rfl⟩
    go_wp2_with fail
    go_ret2
    exact ⟨hk3, rfl⟩
end Go.Proofs.Yteglpgakikigiaa

/- Package forms: decoded[nuncio/api.Header]. -/
namespace Go.Proofs.Yteglpgakikigiaa
open Go.RowKit
set_option linter.unusedVariables false
set_option linter.unusedSimpArgs false
set_option maxRecDepth 20000


theorem dHeader.row : (Try.prog.info? 36).map (·.size) = some 163 := by kernel_rfl
theorem dHeader.alloc0 (w : World) : (Instr.alloc 36 true (.tuple #[])).run Try.prog w = .ok (.pointer (some ⟨w.heap.size, 0, none⟩)) (w.alloc (.cells (Hd.zero.cells).toArray 36)) := by kernel_rfl
theorem dHeader.zlen : (Hd.zero.cells).length = 163 := by rfl

end Go.Proofs.Yteglpgakikigiaa
