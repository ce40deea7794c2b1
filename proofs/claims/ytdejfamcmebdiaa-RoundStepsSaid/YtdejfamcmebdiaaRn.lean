/- States, inputs and outputs of package round, and of the document's answer, as cells: hashes held against each other, rows in a block, rows built. -/
import Derived.Test.YtdejfamcmebdiaaChecked
import Derived.WalkKit
import Derived.WalkLawsBesides
import Derived.Lib.Hide
import Derived.ChangeKeysEq
import Derived.Laws.StructEq
import Derived.Deep.MidRow
import Derived.Test.YtdejfamcmebdiaaGw
import Derived.Test.YtdejfamcmebdiaaRm
namespace Go.Proofs.Ytdejfamcmebdiaa
open Go.RowKit mach
set_option linter.unusedVariables false
set_option linter.unusedSimpArgs false
set_option maxRecDepth 20000

/-! ### Hashes -/
theorem byte_cells : Try.prog.cellsOf 5 = 1 := by kernel_rfl
theorem hash_cells : Try.prog.cellsOf 23 = 32 := by kernel_rfl
theorem hash_row : (Try.prog.info? 23).map (·.size) = some 32 := by kernel_rfl
theorem run_part_byte (w : World) (a : List UInt8) (i : Nat) (hi : i < a.length) : (part 5 (bv a).toArray (i * 1)).run Try.prog w = .ok (.int .u8 (a[i].toNat : Int)) w := by
  have h : (bv a).toArray[i]? = some (.int .u8 (a[i].toNat : Int)) := by
    rw [List.getElem?_toArray]; exact bv_get a i _ (List.getElem?_eq_getElem hi)
  have hagg : (isAgg 5).run Try.prog w = .ok false w := by
    unfold isAgg
    rw [Sem.run_bind, run_underlying Try.underlying5 w]
    rfl
  simp [part, Sem.run_bind, hagg, h]
theorem u8_eq (x y : UInt8) : ((x.toNat : Int) == (y.toNat : Int)) = decide (x = y) := by
  rw [Bool.eq_iff_iff]
  simp only [beq_iff_eq, decide_eq_true_eq]
  exact ⟨fun h => UInt8.toNat_inj.1 (by omega), fun h => by rw [h]⟩
theorem run_items (w : World) (d : Nat) (a b : List UInt8) (n : Nat) (ha : a.length = n) (hb : b.length = n) : ∀ (is : List Nat), (∀ i ∈ is, i < n) →
    (Op.eqItems (d + 1) 5 1 (bv a).toArray (bv b).toArray is).run Try.prog w = .ok (decide (∀ i ∈ is, a[i]? = b[i]?)) w := by
  intro is
  induction is with
  | nil => intro _; simp [Op.eqItems]
  | cons i is ih =>
    intro h
    have hi : i < n := h i (by simp)
    have hih := ih (fun j hj => h j (by simp [hj]))
    have e1 : a[i]? = some (a[i]'(by omega)) := List.getElem?_eq_getElem (by omega)
    have e2 : b[i]? = some (b[i]'(by omega)) := List.getElem?_eq_getElem (by omega)
    simp only [Op.eqItems, Sem.run_bind, run_part_byte w a i (by omega), run_part_byte w b i (by omega), Result.andThen_ok, run_equalIn_int w d 5 .u8 .u8 _ _ Try.underlying5, u8_eq]
    by_cases hx : a[i]'(by omega) = b[i]'(by omega)
    · rw [decide_eq_true hx]
      simp only [Bool.not_true, Bool.false_eq_true, if_false]
      rw [hih]
      congr 1
      rw [decide_eq_decide]
      simp [e1, e2, hx]
    · rw [decide_eq_false hx]
      simp only [Bool.not_false, if_true, Sem.run_pure]
      congr 1
      symm
      rw [decide_eq_false_iff_not]
      intro h2
      have := h2 i (by simp)
      rw [e1, e2] at this
      injection this with this
      exact hx this
theorem byte_info : (Try.prog.info? 5).isSome = true := by kernel_rfl
theorem eqHash (w : World) (d : Nat) {a b : List UInt8} (ha : a.length = 32) (hb : b.length = 32) : (Op.equalIn (d + 2) 23 (.agg (bv a).toArray) (.agg (bv b).toArray)).run Try.prog w = .ok (decide (a = b)) w := by
  obtain ⟨i, hi⟩ := Option.isSome_iff_exists.1 byte_info
  rw [run_equalIn_array w (d + 1) (bv a).toArray (bv b).toArray Try.underlying23 hi, byte_cells, run_items w d a b 32 ha hb _ (fun i hi => by simpa using hi)]
  congr 1
  rw [decide_eq_decide]
  constructor
  · intro h
    apply List.ext_getElem?
    intro j
    rcases Nat.lt_or_ge j 32 with hj | hj
    · exact h j (by simpa using hj)
    · rw [List.getElem?_eq_none (by omega), List.getElem?_eq_none (by omega)]
  · rintro rfl _ _
    rfl
theorem run_eq_hash (w : World) {a b : List UInt8} (ha : a.length = 32) (hb : b.length = 32) : (Op.equalIn 10000 23 (.agg (bv a).toArray) (.agg (bv b).toArray)).run Try.prog w = .ok (decide (a = b)) w := eqHash w 9998 ha hb
theorem hash_guard : Try.prog.eqGuardType Try.prog.depth 23 = false := by kernel_rfl
theorem zero_length : zero.length = 32 := rfl
theorem built_zero : Try.prog.built 23 [] = some (bv zero).toArray := by kernel_rfl
theorem bytes_of : ∀ (cs : List Value), (∀ (i : Nat), i < cs.length → ∃ x, cs[i]? = some (.int .u8 x) ∧ (Lit.int .u8 x).wf = true) → ∃ h : List UInt8, cs = bv h
  | [], _ => ⟨[], rfl⟩
  | c :: cs, hc => by
    obtain ⟨h, rfl⟩ := bytes_of cs (fun i hi => by obtain ⟨x, h1, h2⟩ := hc (i + 1) (by simp; omega); exact ⟨x, by simpa using h1, h2⟩)
    obtain ⟨x, h1, h2⟩ := hc 0 (by simp)
    simp only [List.getElem?_cons_zero, Option.some.injEq] at h1
    subst h1
    have hmin : IntKind.u8.min = 0 := rfl
    have hmax : IntKind.u8.max = 255 := rfl
    simp only [Lit.wf, Bool.and_eq_true, decide_eq_true_eq, hmin, hmax] at h2
    refine ⟨UInt8.ofNat x.toNat :: h, ?_⟩
    simp only [bv, List.map_cons, List.cons.injEq, and_true, Value.int.injEq, true_and]
    rw [UInt8.toNat_ofNat']
    omega
theorem okc_hash {w : World} {n : Nat} {cs : List Value} (h : Okc Try.prog w (n + 2) 23 cs) : ∃ hs : List UInt8, cs = bv hs ∧ hs.length = 32 := by
  unfold Okc at h
  simp only [Try.underlying23] at h
  obtain ⟨hl, hb⟩ := h
  rw [hash_cells] at hl
  obtain ⟨hs, rfl⟩ := bytes_of cs (fun i hi => by
    have h1 := hb i (by omega)
    unfold Okc at h1
    simp only [Try.underlying5, byte_cells, Nat.mul_one] at h1
    obtain ⟨x, h2, h3⟩ := h1
    refine ⟨x, ?_, h3⟩
    have : (cs.drop i)[0]? = some (.int .u8 x) := by
      have h4 : ((cs.drop i).take 1)[0]? = some (.int .u8 x) := by rw [h2]; rfl
      rw [List.getElem?_take] at h4
      simpa using h4
    simpa using this)
  exact ⟨hs, rfl, by rw [bv_length] at hl; exact hl⟩
theorem okc_bool {w : World} {n : Nat} {cs : List Value} (h : Okc Try.prog w (n + 1) 4 cs) : ∃ b, cs = [.bool b] := by
  unfold Okc at h
  simp only [Try.underlying4] at h
  exact h

/-! ### Cells -/
def mach.State.cells (s : State) : List Value := .int .i64 s.round :: .int .i64 s.step :: (bv s.locked ++ (.int .i64 s.lockedR :: (bv s.valid ++ (.int .i64 s.validR :: (bv s.block ++ [.int .i64 s.waits, .int .i64 s.waited])))))
def mach.In.cells (i : In) : List Value := .int .i64 i.kind :: .int .i64 i.round :: (bv i.block ++ (.int .i64 i.valid :: .bool i.good :: bv i.own))
def mach.Out.cells (o : Out) : List Value := .int .i64 o.kind :: .int .i64 o.round :: (bv o.block ++ [.int .i64 o.valid])
structure mach.State.Ok (s : State) : Prop where
  l : s.locked.length = 32
  v : s.valid.length = 32
  b : s.block.length = 32
structure mach.In.Ok (i : In) : Prop where
  b : i.block.length = 32
  o : i.own.length = 32
  r1 : -9223372036854775808 ≤ i.round
  r2 : i.round ≤ 9223372036854775807
structure mach.Out.Ok (o : Out) : Prop where
  b : o.block.length = 32
theorem mach.State.Ok.len {s : State} (h : s.Ok) : s.cells.length = 102 := by simp [State.cells, bv_length, h.l, h.v, h.b]
theorem mach.In.Ok.len {i : In} (h : i.Ok) : i.cells.length = 68 := by simp [In.cells, bv_length, h.b, h.o]
theorem mach.Out.Ok.len {o : Out} (h : o.Ok) : o.cells.length = 35 := by simp [Out.cells, bv_length, h.b]
theorem mach.State.one (s : State) : ∀ v ∈ s.cells, v.oneCell' = true := by
  intro v hv
  simp only [State.cells, List.mem_cons, List.mem_append, List.not_mem_nil, or_false] at hv
  rcases hv with rfl | rfl | hv | rfl | hv | rfl | hv | rfl | rfl
  · rfl
  · rfl
  · exact bv_one _ v hv
  · rfl
  · exact bv_one _ v hv
  · rfl
  · exact bv_one _ v hv
  · rfl
  · rfl
def s0 : State := ⟨0, 0, zero, 0, zero, 0, zero, 0, 0⟩
def o0 : Out := ⟨0, 0, zero, 0⟩
def i0 : In := ⟨0, 0, zero, 0, false, zero⟩
theorem s0_ok : s0.Ok := ⟨rfl, rfl, rfl⟩
theorem start_ok : mach.State.Ok mach.start := ⟨rfl, rfl, rfl⟩

theorem Chg.setCells {S : Nat → Prop} {a : World} {tb : Nat} (hs : S tb ∨ a.heap.size ≤ tb) : ∀ (vs : List Value) (b : World) (o : Nat), Chg S a b → Chg S a (b.setCells tb o vs)
  | [], _, _, h => h
  | v :: vs, b, o, h => Chg.setCells hs vs _ _ (h.setCell (p := ⟨tb, o, none⟩) hs v)
theorem row_set (p : List Value) (x u : Value) (q : List Value) : (p ++ x :: q).toArray.setIfInBounds p.length u = (p ++ u :: q).toArray := by simp
theorem Hb.setCells {t : TypeId} {tb : Nat} : ∀ (new old p q : List Value) (w : World), old.length = new.length → Hb w tb t (p ++ (old ++ q)).toArray → Hb (w.setCells tb p.length new) tb t (p ++ (new ++ q)).toArray
  | [], old, p, q, w, hl, h => by
    obtain rfl : old = [] := List.eq_nil_of_length_eq_zero hl
    exact h
  | v :: vs, [], p, q, w, hl, h => by simp at hl
  | v :: vs, x :: old, p, q, w, hl, h => by
    have h1 : Hb (w.setCell ⟨tb, p.length, none⟩ v) tb t ((p ++ [v]) ++ (old ++ q)).toArray := by
      have h2 := h.set p.length v
      rw [List.cons_append, row_set] at h2
      simpa using h2
    have h3 := Hb.setCells vs old (p ++ [v]) q _ (by simpa using hl) h1
    rw [List.length_append, List.length_singleton] at h3
    simpa [World.setCells] using h3
theorem Hb.sets0 {w : World} {b : Nat} {t : TypeId} {L L' : List Value} (h : Hb w b t L.toArray) (hl : L.length = L'.length) : Hb (w.setCells b 0 L') b t L'.toArray := by
  have := Hb.setCells L' L [] [] w hl (by simpa using h)
  simpa using this
theorem Hb.farCells {w : World} {b tb : Nat} {t : TypeId} {cs : Array Value} (h : Hb w b t cs) (hne : b ≠ tb) (vs : List Value) (o : Nat) : Hb (w.setCells tb o vs) b t cs :=
  h.chg (Chg.setCells (S := fun k => k = tb) (.inl rfl) vs w o (Chg.refl _ w)) hne
theorem one_mem {L : List Value} (h : ∀ v ∈ L, v.oneCell' = true) : L.toArray.all (·.oneCell') = true := all_oneCell_toArray h
theorem load_row {w : World} {b : Nat} {t ty : TypeId} {L : List Value} {d : TypeDesc} (h : Hb w b t L.toArray) (hu : Try.prog.underlying ty = some d) (hd : d.isRow = true) (hi : (Try.prog.info? ty).map (·.size) = some L.length) : (loadVar ty ⟨b, 0, none⟩).run Try.prog w = .ok (.agg L.toArray) w :=
  run_loadVar_mid w b 0 ty L d h.range0 hu hd hi
/-- A range within a block. -/
theorem Hb.mid {w : World} {b : Nat} {t : TypeId} {L p m q : List Value} (h : Hb w b t L.toArray) (e : L = p ++ (m ++ q)) {o : Nat} (ho : o = p.length) : w.rangeAt b o m ∧ w.there b o m.length := by
  subst e
  subst ho
  refine ⟨fun j u hu => ?_, fun j hj => ⟨?_, h.frozen _⟩⟩
  · rw [h.cell, List.getElem?_toArray, List.getElem?_append_right (by omega), Nat.add_sub_cancel_left, List.getElem?_append_left (List.getElem?_eq_some_iff.1 hu).1]
    exact hu
  · rw [h.cell, List.getElem?_toArray, List.getElem?_append_right (by omega), Nat.add_sub_cancel_left, List.getElem?_append_left hj, List.getElem?_eq_getElem hj]
    rfl
theorem Hb.at1 {w : World} {b : Nat} {t : TypeId} {L p q : List Value} {x : Value} (h : Hb w b t L.toArray) (e : L = p ++ x :: q) {o : Nat} (ho : o = p.length) : w.cell? ⟨b, o, none⟩ = some x := by
  subst e
  subst ho
  rw [h.cell]
  simp
theorem Hb.put1 {w : World} {b : Nat} {t : TypeId} {L L' p q : List Value} {x u : Value} (h : Hb w b t L.toArray) (e : L = p ++ x :: q) (e' : L' = p ++ u :: q) {o : Nat} (ho : o = p.length) : Hb (w.setCell ⟨b, o, none⟩ u) b t L'.toArray := by
  subst e
  subst e'
  subst ho
  rw [← row_set p x u q]
  exact h.set _ _
theorem Hb.putM {w : World} {b : Nat} {t : TypeId} {L L' p q old new : List Value} (h : Hb w b t L.toArray) (e : L = p ++ (old ++ q)) (e' : L' = p ++ (new ++ q)) (hl : old.length = new.length) {o : Nat} (ho : o = p.length) : Hb (w.setCells b o new) b t L'.toArray := by
  subst e
  subst e'
  subst ho
  exact h.setCells new old p q w hl

section
variable {w : World} {b : Nat} {t : TypeId} {s : State} (h : Hb w b t s.cells.toArray) (ok : s.Ok)
include h
theorem sb0 : w.cell? ⟨b, 0, none⟩ = some (.int .i64 s.round) := h.at1 (p := []) rfl rfl
theorem sb1 : w.cell? ⟨b, 1, none⟩ = some (.int .i64 s.step) := h.at1 (p := [_]) rfl rfl
include ok
theorem sb2 : w.rangeAt b 2 (bv s.locked) ∧ w.there b 2 32 := by
  have := h.mid (p := [.int .i64 s.round, .int .i64 s.step]) (m := bv s.locked) rfl rfl
  rwa [bv_length, ok.l] at this
theorem sb34 : w.cell? ⟨b, 34, none⟩ = some (.int .i64 s.lockedR) := h.at1 (p := [.int .i64 s.round, .int .i64 s.step] ++ bv s.locked) (by simp [State.cells]; rfl) (by simp [bv_length, ok.l])
theorem sb35 : w.rangeAt b 35 (bv s.valid) ∧ w.there b 35 32 := by
  have := h.mid (p := [.int .i64 s.round, .int .i64 s.step] ++ bv s.locked ++ [.int .i64 s.lockedR]) (m := bv s.valid) (q := .int .i64 s.validR :: (bv s.block ++ [.int .i64 s.waits, .int .i64 s.waited])) (by simp [State.cells]) (o := 35) (by simp [bv_length, ok.l])
  rwa [bv_length, ok.v] at this
theorem sb67 : w.cell? ⟨b, 67, none⟩ = some (.int .i64 s.validR) := h.at1 (p := [.int .i64 s.round, .int .i64 s.step] ++ bv s.locked ++ [.int .i64 s.lockedR] ++ bv s.valid) (q := bv s.block ++ [.int .i64 s.waits, .int .i64 s.waited]) (by simp [State.cells]) (by simp [bv_length, ok.l, ok.v])
theorem sb68 : w.rangeAt b 68 (bv s.block) ∧ w.there b 68 32 := by
  have := h.mid (p := [.int .i64 s.round, .int .i64 s.step] ++ bv s.locked ++ [.int .i64 s.lockedR] ++ bv s.valid ++ [.int .i64 s.validR]) (m := bv s.block) (q := [.int .i64 s.waits, .int .i64 s.waited]) (by simp [State.cells]) (o := 68) (by simp [bv_length, ok.l, ok.v])
  rwa [bv_length, ok.b] at this
theorem sb100 : w.cell? ⟨b, 100, none⟩ = some (.int .i64 s.waits) := h.at1 (p := [.int .i64 s.round, .int .i64 s.step] ++ bv s.locked ++ [.int .i64 s.lockedR] ++ bv s.valid ++ [.int .i64 s.validR] ++ bv s.block) (q := [.int .i64 s.waited]) (by simp [State.cells]) (by simp [bv_length, ok.l, ok.v, ok.b])
theorem sb101 : w.cell? ⟨b, 101, none⟩ = some (.int .i64 s.waited) := h.at1 (p := [.int .i64 s.round, .int .i64 s.step] ++ bv s.locked ++ [.int .i64 s.lockedR] ++ bv s.valid ++ [.int .i64 s.validR] ++ bv s.block ++ [.int .i64 s.waits]) (q := []) (by simp [State.cells]) (by simp [bv_length, ok.l, ok.v, ok.b])
omit ok in
theorem ss0 (x : Int) : Hb (w.setCell ⟨b, 0, none⟩ (.int .i64 x)) b t ({ s with round := x } : State).cells.toArray := h.put1 (p := []) rfl rfl rfl
omit ok in
theorem ss1 (x : Int) : Hb (w.setCell ⟨b, 1, none⟩ (.int .i64 x)) b t ({ s with step := x } : State).cells.toArray := h.put1 (p := [_]) rfl rfl rfl
theorem ss2 (x : Hash) (hx : x.length = 32) : Hb (w.setCells b 2 (bv x)) b t ({ s with locked := x } : State).cells.toArray := h.putM (p := [_, _]) rfl rfl (by simp [bv_length, hx, ok.l]) rfl
theorem ss34 (x : Int) : Hb (w.setCell ⟨b, 34, none⟩ (.int .i64 x)) b t ({ s with lockedR := x } : State).cells.toArray := h.put1 (p := [.int .i64 s.round, .int .i64 s.step] ++ bv s.locked) (q := bv s.valid ++ (.int .i64 s.validR :: (bv s.block ++ [.int .i64 s.waits, .int .i64 s.waited]))) (x := .int .i64 s.lockedR) (by simp [State.cells]) (by simp [State.cells]) (by simp [bv_length, ok.l])
theorem ss35 (x : Hash) (hx : x.length = 32) : Hb (w.setCells b 35 (bv x)) b t ({ s with valid := x } : State).cells.toArray := h.putM (p := [.int .i64 s.round, .int .i64 s.step] ++ bv s.locked ++ [.int .i64 s.lockedR]) (q := .int .i64 s.validR :: (bv s.block ++ [.int .i64 s.waits, .int .i64 s.waited])) (old := bv s.valid) (by simp [State.cells]) (by simp [State.cells]) (by simp [bv_length, hx, ok.v]) (by simp [bv_length, ok.l])
theorem ss67 (x : Int) : Hb (w.setCell ⟨b, 67, none⟩ (.int .i64 x)) b t ({ s with validR := x } : State).cells.toArray := h.put1 (p := [.int .i64 s.round, .int .i64 s.step] ++ bv s.locked ++ [.int .i64 s.lockedR] ++ bv s.valid) (q := bv s.block ++ [.int .i64 s.waits, .int .i64 s.waited]) (x := .int .i64 s.validR) (by simp [State.cells]) (by simp [State.cells]) (by simp [bv_length, ok.l, ok.v])
theorem ss68 (x : Hash) (hx : x.length = 32) : Hb (w.setCells b 68 (bv x)) b t ({ s with block := x } : State).cells.toArray := h.putM (p := [.int .i64 s.round, .int .i64 s.step] ++ bv s.locked ++ [.int .i64 s.lockedR] ++ bv s.valid ++ [.int .i64 s.validR]) (q := [.int .i64 s.waits, .int .i64 s.waited]) (old := bv s.block) (by simp [State.cells]) (by simp [State.cells]) (by simp [bv_length, hx, ok.b]) (by simp [bv_length, ok.l, ok.v])
theorem ss100 (x : Int) : Hb (w.setCell ⟨b, 100, none⟩ (.int .i64 x)) b t ({ s with waits := x } : State).cells.toArray := h.put1 (p := [.int .i64 s.round, .int .i64 s.step] ++ bv s.locked ++ [.int .i64 s.lockedR] ++ bv s.valid ++ [.int .i64 s.validR] ++ bv s.block) (q := [.int .i64 s.waited]) (x := .int .i64 s.waits) (by simp [State.cells]) (by simp [State.cells]) (by simp [bv_length, ok.l, ok.v, ok.b])
theorem ss101 (x : Int) : Hb (w.setCell ⟨b, 101, none⟩ (.int .i64 x)) b t ({ s with waited := x } : State).cells.toArray := h.put1 (p := [.int .i64 s.round, .int .i64 s.step] ++ bv s.locked ++ [.int .i64 s.lockedR] ++ bv s.valid ++ [.int .i64 s.validR] ++ bv s.block ++ [.int .i64 s.waits]) (q := []) (x := .int .i64 s.waited) (by simp [State.cells]) (by simp [State.cells]) (by simp [bv_length, ok.l, ok.v, ok.b])
end
section
variable {w : World} {b o : Nat} {i : In} (h : w.rangeAt b o i.cells) (ok : i.Ok)
include h
theorem ib0 : w.cell? ⟨b, o, none⟩ = some (.int .i64 i.kind) := h 0 _ rfl
theorem ib1 : w.cell? ⟨b, o + 1, none⟩ = some (.int .i64 i.round) := h 1 _ rfl
theorem ib2 : w.rangeAt b (o + 2) (bv i.block) := by
  have := (rangeAt_app (p := [.int .i64 i.kind, .int .i64 i.round]) (q := bv i.block ++ (.int .i64 i.valid :: .bool i.good :: bv i.own)) h).2
  exact (rangeAt_app this).1
include ok
theorem ib34r : w.rangeAt b (o + 34) (.int .i64 i.valid :: .bool i.good :: bv i.own) := by
  have := (rangeAt_app (p := [.int .i64 i.kind, .int .i64 i.round] ++ bv i.block) (q := .int .i64 i.valid :: .bool i.good :: bv i.own) (by simpa [In.cells] using h)).2
  simpa [bv_length, ok.b] using this
theorem ib34 : w.cell? ⟨b, o + 34, none⟩ = some (.int .i64 i.valid) := ib34r h ok 0 _ rfl
theorem ib35 : w.cell? ⟨b, o + 35, none⟩ = some (.bool i.good) := ib34r h ok 1 _ rfl
theorem ib36 : w.rangeAt b (o + 36) (bv i.own) := (rangeAt_app (p := [.int .i64 i.valid, .bool i.good]) (ib34r h ok)).2
end
section
variable {w : World} {b : Nat} {x : Out} (h : w.rangeAt b 0 x.cells) (ok : x.Ok)
include h
theorem ob0 : w.cell? ⟨b, 0, none⟩ = some (.int .i64 x.kind) := h 0 _ rfl
theorem ob1 : w.cell? ⟨b, 1, none⟩ = some (.int .i64 x.round) := h 1 _ rfl
theorem ob2 : w.rangeAt b 2 (bv x.block) := by
  have := (rangeAt_app (p := [.int .i64 x.kind, .int .i64 x.round]) (q := bv x.block ++ [.int .i64 x.valid]) h).2
  exact (rangeAt_app this).1
include ok
theorem ob34 : w.cell? ⟨b, 34, none⟩ = some (.int .i64 x.valid) := by
  have := (rangeAt_app (p := [.int .i64 x.kind, .int .i64 x.round] ++ bv x.block) (q := [.int .i64 x.valid]) (by simpa [Out.cells] using h)).2
  have h2 := this 0 _ rfl
  simpa [bv_length, ok.b] using h2
end

/-! ### Rows built -/
theorem fill_seg (off : Nat) : ∀ (new old p q : List Value) (k : Nat), off + k = p.length → old.length = new.length → (new.zipIdx k).foldl (fun (cs : Array Value) (x : Value × Nat) => cs.setIfInBounds (off + x.2) x.1) (p ++ (old ++ q)).toArray = (p ++ (new ++ q)).toArray
  | [], old, p, q, k, hk, hl => by
    obtain rfl : old = [] := List.eq_nil_of_length_eq_zero hl
    rfl
  | v :: vs, [], p, q, k, hk, hl => by simp at hl
  | v :: vs, x :: old, p, q, k, hk, hl => by
    rw [List.zipIdx_cons, List.foldl_cons]
    simp only
    rw [hk, List.cons_append, row_set]
    have h3 := fill_seg off vs old (p ++ [v]) q (k + 1) (by simp; omega) (by simpa using hl)
    simpa using h3
theorem fill_step {place : Nat → Option (Nat × Nat)} {i : Nat} {v : Value} {rest : List (Nat × Value)} {a b : List Value} (p old new q : List Value) (hp : place i = some (p.length, new.length)) (hv : v.cells = new.toArray) (hl : old.length = new.length) (ha : a = p ++ (old ++ q)) (hb : b = p ++ (new ++ q)) :
    Instr.fill place a.toArray ((i, v) :: rest) = Instr.fill place b.toArray rest := by
  subst ha
  subst hb
  conv => lhs; unfold Instr.fill
  simp only [hp, hv]
  rw [if_neg (by simp [hl])]
  congr 1
  have h := fill_seg p.length new old p q 0 (by omega) hl
  have e : (new.toArray.zipIdx.foldl (fun (cs : Array Value) (x : Value × Nat) => cs.setIfInBounds (p.length + x.2) x.1) (p ++ (old ++ q)).toArray) = new.zipIdx.foldl (fun (cs : Array Value) (x : Value × Nat) => cs.setIfInBounds (p.length + x.2) x.1) (p ++ (old ++ q)).toArray := by simp
  rw [← h, ← e]
theorem agg_cells (l : List Value) : (Value.agg l.toArray).cells = l.toArray := rfl
def plO : Array (Nat × Nat) := #[(0, 1), (1, 1), (2, 32), (34, 1)]
def plS : Array (Nat × Nat) := #[(0, 1), (1, 1), (2, 32), (34, 1), (35, 32), (67, 1), (68, 32), (100, 1), (101, 1)]
def plI : Array (Nat × Nat) := #[(0, 1), (1, 1), (2, 32), (34, 1), (35, 1), (36, 32)]
section
variable (place : Nat → Option (Nat × Nat)) (rest : List (Nat × Value))
theorem fo0 (hp : place 0 = some (0, 1)) (o : Out) (x : Int) : Instr.fill place o.cells.toArray ((0, .int .i64 x) :: rest) = Instr.fill place ({ o with kind := x } : Out).cells.toArray rest :=
  fill_step [] [.int .i64 o.kind] [.int .i64 x] _ hp rfl rfl rfl rfl
theorem fo1 (hp : place 1 = some (1, 1)) (o : Out) (x : Int) : Instr.fill place o.cells.toArray ((1, .int .i64 x) :: rest) = Instr.fill place ({ o with round := x } : Out).cells.toArray rest :=
  fill_step [.int .i64 o.kind] [.int .i64 o.round] [.int .i64 x] _ hp rfl rfl rfl rfl
theorem fo2 (hp : place 2 = some (2, 32)) (o : Out) (x : Hash) (ho : o.block.length = 32) (hx : x.length = 32) : Instr.fill place o.cells.toArray ((2, .agg (bv x).toArray) :: rest) = Instr.fill place ({ o with block := x } : Out).cells.toArray rest :=
  fill_step [_, _] (bv o.block) (bv x) _ (by rw [hp, bv_length, hx]; rfl) rfl (by rw [bv_length, bv_length, ho, hx]) rfl rfl
theorem fo3 (hp : place 3 = some (34, 1)) (o : Out) (x : Int) (ho : o.block.length = 32) : Instr.fill place o.cells.toArray ((3, .int .i64 x) :: rest) = Instr.fill place ({ o with valid := x } : Out).cells.toArray rest :=
  fill_step ([.int .i64 o.kind, .int .i64 o.round] ++ bv o.block) [.int .i64 o.valid] [.int .i64 x] [] (by rw [hp]; simp [bv_length, ho]) rfl rfl (by simp [Out.cells]) (by simp [Out.cells])
theorem fi0 (hp : place 0 = some (0, 1)) (o : In) (x : Int) : Instr.fill place o.cells.toArray ((0, .int .i64 x) :: rest) = Instr.fill place ({ o with kind := x } : In).cells.toArray rest :=
  fill_step [] [.int .i64 o.kind] [.int .i64 x] _ hp rfl rfl rfl rfl
theorem fi1 (hp : place 1 = some (1, 1)) (o : In) (x : Int) : Instr.fill place o.cells.toArray ((1, .int .i64 x) :: rest) = Instr.fill place ({ o with round := x } : In).cells.toArray rest :=
  fill_step [.int .i64 o.kind] [.int .i64 o.round] [.int .i64 x] _ hp rfl rfl rfl rfl
theorem fi2 (hp : place 2 = some (2, 32)) (o : In) (x : Hash) (ho : o.block.length = 32) (hx : x.length = 32) : Instr.fill place o.cells.toArray ((2, .agg (bv x).toArray) :: rest) = Instr.fill place ({ o with block := x } : In).cells.toArray rest :=
  fill_step [_, _] (bv o.block) (bv x) _ (by rw [hp, bv_length, hx]; rfl) rfl (by rw [bv_length, bv_length, ho, hx]) rfl rfl
theorem fi3 (hp : place 3 = some (34, 1)) (o : In) (x : Int) (ho : o.block.length = 32) : Instr.fill place o.cells.toArray ((3, .int .i64 x) :: rest) = Instr.fill place ({ o with valid := x } : In).cells.toArray rest :=
  fill_step ([.int .i64 o.kind, .int .i64 o.round] ++ bv o.block) [.int .i64 o.valid] [.int .i64 x] (.bool o.good :: bv o.own) (by rw [hp]; simp [bv_length, ho]) rfl rfl (by simp [In.cells]) (by simp [In.cells])
theorem fi4 (hp : place 4 = some (35, 1)) (o : In) (x : Bool) (ho : o.block.length = 32) : Instr.fill place o.cells.toArray ((4, .bool x) :: rest) = Instr.fill place ({ o with good := x } : In).cells.toArray rest :=
  fill_step ([.int .i64 o.kind, .int .i64 o.round] ++ bv o.block ++ [.int .i64 o.valid]) [.bool o.good] [.bool x] (bv o.own) (by rw [hp]; simp [bv_length, ho]) rfl rfl (by simp [In.cells]) (by simp [In.cells])
theorem fi5 (hp : place 5 = some (36, 32)) (o : In) (x : Hash) (ho : o.block.length = 32) (h2 : o.own.length = 32) (hx : x.length = 32) : Instr.fill place o.cells.toArray ((5, .agg (bv x).toArray) :: rest) = Instr.fill place ({ o with own := x } : In).cells.toArray rest :=
  fill_step ([.int .i64 o.kind, .int .i64 o.round] ++ bv o.block ++ [.int .i64 o.valid, .bool o.good]) (bv o.own) (bv x) [] (by rw [hp]; simp [bv_length, ho, hx]) rfl (by simp [bv_length, h2, hx]) (by simp [In.cells]) (by simp [In.cells])
theorem fs0 (hp : place 0 = some (0, 1)) (s : State) (x : Int) : Instr.fill place s.cells.toArray ((0, .int .i64 x) :: rest) = Instr.fill place ({ s with round := x } : State).cells.toArray rest :=
  fill_step [] [.int .i64 s.round] [.int .i64 x] _ hp rfl rfl rfl rfl
theorem fs1 (hp : place 1 = some (1, 1)) (s : State) (x : Int) : Instr.fill place s.cells.toArray ((1, .int .i64 x) :: rest) = Instr.fill place ({ s with step := x } : State).cells.toArray rest :=
  fill_step [.int .i64 s.round] [.int .i64 s.step] [.int .i64 x] _ hp rfl rfl rfl rfl
theorem fs2 (hp : place 2 = some (2, 32)) (s : State) (ok : s.Ok) (x : Hash) (hx : x.length = 32) : Instr.fill place s.cells.toArray ((2, .agg (bv x).toArray) :: rest) = Instr.fill place ({ s with locked := x } : State).cells.toArray rest :=
  fill_step [_, _] (bv s.locked) (bv x) _ (by rw [hp, bv_length, hx]; rfl) rfl (by rw [bv_length, bv_length, ok.l, hx]) rfl rfl
theorem fs3 (hp : place 3 = some (34, 1)) (s : State) (ok : s.Ok) (x : Int) : Instr.fill place s.cells.toArray ((3, .int .i64 x) :: rest) = Instr.fill place ({ s with lockedR := x } : State).cells.toArray rest :=
  fill_step ([.int .i64 s.round, .int .i64 s.step] ++ bv s.locked) [.int .i64 s.lockedR] [.int .i64 x] (bv s.valid ++ (.int .i64 s.validR :: (bv s.block ++ [.int .i64 s.waits, .int .i64 s.waited]))) (by rw [hp]; simp [bv_length, ok.l]) rfl rfl (by simp [State.cells]) (by simp [State.cells])
theorem fs4 (hp : place 4 = some (35, 32)) (s : State) (ok : s.Ok) (x : Hash) (hx : x.length = 32) : Instr.fill place s.cells.toArray ((4, .agg (bv x).toArray) :: rest) = Instr.fill place ({ s with valid := x } : State).cells.toArray rest :=
  fill_step ([.int .i64 s.round, .int .i64 s.step] ++ bv s.locked ++ [.int .i64 s.lockedR]) (bv s.valid) (bv x) (.int .i64 s.validR :: (bv s.block ++ [.int .i64 s.waits, .int .i64 s.waited])) (by rw [hp]; simp [bv_length, ok.l, hx]) rfl (by simp [bv_length, ok.v, hx]) (by simp [State.cells]) (by simp [State.cells])
theorem fs5 (hp : place 5 = some (67, 1)) (s : State) (ok : s.Ok) (x : Int) : Instr.fill place s.cells.toArray ((5, .int .i64 x) :: rest) = Instr.fill place ({ s with validR := x } : State).cells.toArray rest :=
  fill_step ([.int .i64 s.round, .int .i64 s.step] ++ bv s.locked ++ [.int .i64 s.lockedR] ++ bv s.valid) [.int .i64 s.validR] [.int .i64 x] (bv s.block ++ [.int .i64 s.waits, .int .i64 s.waited]) (by rw [hp]; simp [bv_length, ok.l, ok.v]) rfl rfl (by simp [State.cells]) (by simp [State.cells])
theorem fs6 (hp : place 6 = some (68, 32)) (s : State) (ok : s.Ok) (x : Hash) (hx : x.length = 32) : Instr.fill place s.cells.toArray ((6, .agg (bv x).toArray) :: rest) = Instr.fill place ({ s with block := x } : State).cells.toArray rest :=
  fill_step ([.int .i64 s.round, .int .i64 s.step] ++ bv s.locked ++ [.int .i64 s.lockedR] ++ bv s.valid ++ [.int .i64 s.validR]) (bv s.block) (bv x) [.int .i64 s.waits, .int .i64 s.waited] (by rw [hp]; simp [bv_length, ok.l, ok.v, hx]) rfl (by simp [bv_length, ok.b, hx]) (by simp [State.cells]) (by simp [State.cells])
theorem fs7 (hp : place 7 = some (100, 1)) (s : State) (ok : s.Ok) (x : Int) : Instr.fill place s.cells.toArray ((7, .int .i64 x) :: rest) = Instr.fill place ({ s with waits := x } : State).cells.toArray rest :=
  fill_step ([.int .i64 s.round, .int .i64 s.step] ++ bv s.locked ++ [.int .i64 s.lockedR] ++ bv s.valid ++ [.int .i64 s.validR] ++ bv s.block) [.int .i64 s.waits] [.int .i64 x] [.int .i64 s.waited] (by rw [hp]; simp [bv_length, ok.l, ok.v, ok.b]) rfl rfl (by simp [State.cells]) (by simp [State.cells])
theorem fs8 (hp : place 8 = some (101, 1)) (s : State) (ok : s.Ok) (x : Int) : Instr.fill place s.cells.toArray ((8, .int .i64 x) :: rest) = Instr.fill place ({ s with waited := x } : State).cells.toArray rest :=
  fill_step ([.int .i64 s.round, .int .i64 s.step] ++ bv s.locked ++ [.int .i64 s.lockedR] ++ bv s.valid ++ [.int .i64 s.validR] ++ bv s.block ++ [.int .i64 s.waits]) [.int .i64 s.waited] [.int .i64 x] [] (by rw [hp]; simp [bv_length, ok.l, ok.v, ok.b]) rfl rfl (by simp [State.cells]) (by simp [State.cells])
end
theorem built_o2 (k r : Int) : Try.prog.built 45 [(0, .int .i64 k), (1, .int .i64 r)] = some (Out.cells ⟨k, r, zero, 0⟩).toArray := by
  have e : Try.prog.built 45 [(0, .int .i64 k), (1, .int .i64 r)] = Instr.fill (plO[·]?) o0.cells.toArray [(0, .int .i64 k), (1, .int .i64 r)] := by kernel_rfl
  rw [e, fo0 _ _ rfl, fo1 _ _ rfl]
  rfl
theorem built_o3 (k r : Int) (h : Hash) (hh : h.length = 32) : Try.prog.built 45 [(0, .int .i64 k), (1, .int .i64 r), (2, .agg (bv h).toArray)] = some (Out.cells ⟨k, r, h, 0⟩).toArray := by
  have e : Try.prog.built 45 [(0, .int .i64 k), (1, .int .i64 r), (2, .agg (bv h).toArray)] = Instr.fill (plO[·]?) o0.cells.toArray [(0, .int .i64 k), (1, .int .i64 r), (2, .agg (bv h).toArray)] := by kernel_rfl
  rw [e, fo0 _ _ rfl, fo1 _ _ rfl, fo2 _ _ rfl _ _ rfl hh]
  rfl
theorem built_o4 (k r v : Int) (h : Hash) (hh : h.length = 32) : Try.prog.built 45 [(0, .int .i64 k), (1, .int .i64 r), (2, .agg (bv h).toArray), (3, .int .i64 v)] = some (Out.cells ⟨k, r, h, v⟩).toArray := by
  have e : Try.prog.built 45 [(0, .int .i64 k), (1, .int .i64 r), (2, .agg (bv h).toArray), (3, .int .i64 v)] = Instr.fill (plO[·]?) o0.cells.toArray [(0, .int .i64 k), (1, .int .i64 r), (2, .agg (bv h).toArray), (3, .int .i64 v)] := by kernel_rfl
  rw [e, fo0 _ _ rfl, fo1 _ _ rfl, fo2 _ _ rfl _ _ rfl hh, fo3 _ _ rfl _ _ hh]
  rfl
/-- What is said, and the state behind it, as a call leaves them. -/
def Outs (t : TypeId) (w : World) (n : Nat) (v : Value) : List Out → Prop
  | [] => v = .slice none 0 0
  | [o] => ∃ g, v = .slice (some ⟨g, 0, none⟩) 1 1 ∧ n ≤ g ∧ Hb w g t o.cells.toArray ∧ o.Ok
  | _ => False
theorem Outs.chg {t : TypeId} {w w' : World} {n : Nat} {v : Value} {l : List Out} (h : Outs t w n v l) (k : Chg Non w w') : Outs t w' n v l := by
  match l, h with
  | [], h => exact h
  | [o], ⟨g, h1, h2, h3, h4⟩ => exact ⟨g, h1, h2, h3.chg k (fun f => f), h4⟩
theorem Outs.mono {t : TypeId} {w : World} {n n' : Nat} {v : Value} {l : List Out} (h : Outs t w n v l) (k : n' ≤ n) : Outs t w n' v l := by
  match l, h with
  | [], h => exact h
  | [o], ⟨g, h1, h2, h3, h4⟩ => exact ⟨g, h1, Nat.le_trans k h2, h3, h4⟩
theorem Outs.far {t : TypeId} {w w' : World} {n : Nat} {v : Value} {l : List Out} {S : Nat → Prop} (h : Outs t w n v l) (k : Chg S w w') (hS : ∀ j, S j → j < n) : Outs t w' n v l := by
  match l, h with
  | [], h => exact h
  | [o], ⟨g, h1, h2, h3, h4⟩ => exact ⟨g, h1, h2, h3.chg k (fun f => by have := hS _ f; omega), h4⟩
def Did (t : TypeId) (w : World) (r : State × List Out) (e : Ending) (w' : World) : Prop :=
  Chg Non w w' ∧ r.1.Ok ∧ ∃ v, e = .returned (.tuple #[.agg r.1.cells.toArray, v]) ∧ Outs t w' w.heap.size v r.2
end Go.Proofs.Ytdejfamcmebdiaa
