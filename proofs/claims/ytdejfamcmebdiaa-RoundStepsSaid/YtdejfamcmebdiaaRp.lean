/- The ways of package round's functions: what a function begins with, and the region that says one thing and answers a state. -/
import Derived.Test.YtdejfamcmebdiaaRn
import Derived.Test.YtdejfamcmebdiaaRo
import Derived.Laws.ResultCell
namespace Go.Proofs.Ytdejfamcmebdiaa
open Go.RowKit mach
set_option linter.unusedVariables false
set_option linter.unusedSimpArgs false
set_option maxRecDepth 20000

theorem wpList_alloc_named {ops : Array Oper} {rest : List Oper} {o : Oper} {a : Act} {w : World} {Q : Exit → Act → World → Prop} (hgd : o.guard = none) (ty : TypeId) (ho : o.op = .alloc ty) (z : List Value)
    (hz : ∀ w : World, (Instr.alloc ty true (.tuple #[])).run Try.prog w = .ok (.pointer (some ⟨w.heap.size, 0, none⟩)) (w.alloc (.cells z.toArray ty)))
    (hK : ∀ w1, Hid (w1 = w.alloc (.cells z.toArray ty)) → wpList Try.prog ops Q rest (a.put o.dst (.pointer (some ⟨w.heap.size, 0, none⟩))) w1) : wpList Try.prog ops Q (o :: rest) a w :=
  wpList_alloc_row hgd ty ho z (hz w) (hK _ (Lib.hid rfl))
theorem z_S (w : World) : (Instr.alloc 25 true (.tuple #[])).run Try.prog w = .ok (.pointer (some ⟨w.heap.size, 0, none⟩)) (w.alloc (.cells s0.cells.toArray 25)) := by kernel_rfl
theorem row_S : (Try.prog.info? 25).map (·.size) = some 102 := by kernel_rfl
theorem row_I : (Try.prog.info? 27).map (·.size) = some 68 := by kernel_rfl
theorem row_O : (Try.prog.info? 45).map (·.size) = some 35 := by kernel_rfl
theorem rowS {s : State} (h : s.Ok) : (Try.prog.info? 25).map (·.size) = some s.cells.length := by rw [h.len]; exact row_S
theorem rowI {i : In} (h : i.Ok) : (Try.prog.info? 27).map (·.size) = some i.cells.length := by rw [h.len]; exact row_I
theorem rowH {x : Hash} (h : x.length = 32) : (Try.prog.info? 23).map (·.size) = some (bv x).length := by rw [bv_length, h]; exact hash_row

/-- Behind a function's beginning: its two arguments, and the answer's state, in blocks of their own. -/
structure Fr (tS tX : TypeId) (W : World) (b0 b1 b2 : Nat) (w : World) (s : State) (X : List Value) : Prop where
  s : Hb w b0 tS s.cells.toArray
  x : Hb w b1 tX X.toArray
  r : Hb w b2 tS s0.cells.toArray
  k : Chg Non W w
  n0 : W.heap.size ≤ b0
  lt1 : b0 < b1
  lt2 : b1 < b2
theorem pro {tS tX : TypeId} {W w1 w2 w : World} {s : State} {X : List Value} (h1 : w1 = W.alloc (.cells s.cells.toArray tS)) (h2 : w2 = w1.alloc (.cells X.toArray tX)) (h3 : w = w2.alloc (.cells s0.cells.toArray tS)) : Fr tS tX W W.heap.size w1.heap.size w2.heap.size w s X := by
  subst h3
  have e1 : w1.heap.size = W.heap.size + 1 := by rw [h1]; simp
  have e2 : w2.heap.size = w1.heap.size + 1 := by rw [h2]; simp
  refine ⟨?_, ?_, Hb.new _ _ _, ?_, by omega, by omega, by omega⟩
  · rw [h2, h1]
    exact ((Hb.new W _ _).alloc _).alloc _
  · have := Hb.new w1 tX X.toArray
    rw [← h2] at this
    exact this.alloc _
  · rw [h2, h1]
    exact (((Chg.refl Non W).alloc _).alloc _).alloc _
section
variable {tS tX : TypeId} {W w w' : World} {b0 b1 b2 : Nat} {s s' : State} {X : List Value}
theorem Fr.chg (F : Fr tS tX W b0 b1 b2 w s X) (k : Chg Non w w') : Fr tS tX W b0 b1 b2 w' s X := ⟨F.s.chg k (fun f => f), F.x.chg k (fun f => f), F.r.chg k (fun f => f), F.k.trans k (fun _ f => .inl f), F.n0, F.lt1, F.lt2⟩
theorem Fr.to (F : Fr tS tX W b0 b1 b2 w s X) (k : Chg (fun j => j = b0) w w') (h : Hb w' b0 tS s'.cells.toArray) : Fr tS tX W b0 b1 b2 w' s' X :=
  ⟨h, F.x.chg k (by have := F.lt1; show ¬ (b1 = b0); omega), F.r.chg k (by have := F.lt1; have := F.lt2; show ¬ (b2 = b0); omega), F.k.trans k (fun j hj => .inr (by have := F.n0; have : j = b0 := hj; omega)), F.n0, F.lt1, F.lt2⟩
theorem Fr.put (F : Fr tS tX W b0 b1 b2 w s X) {off : Nat} {v : Value} (h : Hb (w.setCell ⟨b0, off, none⟩ v) b0 tS s'.cells.toArray) : Fr tS tX W b0 b1 b2 (w.setCell ⟨b0, off, none⟩ v) s' X := F.to ((Chg.refl (fun j => j = b0) w).setCell (p := ⟨b0, off, none⟩) (.inl rfl) v) h
theorem Fr.puts (F : Fr tS tX W b0 b1 b2 w s X) {off : Nat} {vs : List Value} (h : Hb (w.setCells b0 off vs) b0 tS s'.cells.toArray) : Fr tS tX W b0 b1 b2 (w.setCells b0 off vs) s' X := F.to (Chg.setCells (S := fun j => j = b0) (.inl rfl) vs _ _ (Chg.refl _ w)) h
/-- The answer's state is another block. -/
theorem Fr.held (F : Fr tS tX W b0 b1 b2 w s X) (k : Chg (fun j => j = b2) w w') : Hb w' b0 tS s.cells.toArray ∧ Hb w' b1 tX X.toArray := ⟨F.s.chg k (by have := F.lt1; have := F.lt2; show ¬ (b0 = b2); omega), F.x.chg k (by have := F.lt2; show ¬ (b1 = b2); omega)⟩
end
section
variable {w : World} {b : Nat} {t : TypeId} {i : In} (h : Hb w b t i.cells.toArray) (ok : i.Ok)
include h
theorem jb0 : w.cell? ⟨b, 0, none⟩ = some (.int .i64 i.kind) := ib0 h.range0
theorem jb1 : w.cell? ⟨b, 1, none⟩ = some (.int .i64 i.round) := by simpa using ib1 h.range0
theorem jb2 : w.rangeAt b 2 (bv i.block) := by simpa using ib2 h.range0
include ok
theorem jb34 : w.cell? ⟨b, 34, none⟩ = some (.int .i64 i.valid) := by simpa using ib34 h.range0 ok
theorem jb35 : w.cell? ⟨b, 35, none⟩ = some (.bool i.good) := by simpa using ib35 h.range0 ok
theorem jb36 : w.rangeAt b 36 (bv i.own) := by simpa using ib36 h.range0 ok
end

theorem run_build1 (w : World) {t e : TypeId} {i : TypeInfo} {z : Value} {sz : Nat} (ht : Try.prog.underlying t = some (.slice e)) (hi : Try.prog.info? e = some i) (hz : i.zero = some z) (hs : i.size = sz) (hpos : 0 < sz) (hsz : sz ≤ 1000) (cs : List Value) (hcs : cs.length = sz) :
    (Instr.buildSlice t 1 #[(0, .agg cs.toArray)]).run Try.prog w = .ok (.slice (some ⟨w.heap.size, 0, none⟩) 1 1) (w.alloc (.cells cs.toArray e)) := by
  subst hs
  have hsz0 : ¬ (1 * i.size = 0) := by omega
  have hbig : ¬ (1 * i.size > 2 ^ 24) := by omega
  have hfill : ∀ b : List Value, b.length = i.size → Instr.fill (fun j => some (j * i.size, i.size)) b.toArray [(0, .agg cs.toArray)] = some cs.toArray := fun b hb => by
    rw [fill_step (a := b) (b := cs) [] b cs [] (by simp [hcs]) rfl (by omega) (by simp) (by simp)]
    rfl
  have hf := hfill ((List.range (1 * i.size)).map (z.cells[· % z.cells.size]!)) (by simp)
  have e1 : ((List.range (1 * i.size)).map (z.cells[· % z.cells.size]!)).toArray = (Array.range (1 * i.size)).map (z.cells[· % z.cells.size]!) := by
    apply Array.ext'
    simp
  rw [e1] at hf
  unfold Instr.buildSlice
  simp only [Sem.run_bind, run_underlying ht, sizeOf, typeInfo, hi, Result.andThen_ok, Sem.run_pure, if_neg hbig, if_neg hsz0, zeroValue, hz]
  rw [Nat.one_mul] at hf
  simp [hi, hz, newRow]
  rw [if_neg (by omega), if_neg (by omega), hf]
  simp
theorem zero_O : ((Try.prog.info? 45).bind (·.zero)).isSome = true := by kernel_rfl
theorem info_O : ∃ i z, Try.prog.info? 45 = some i ∧ i.zero = some z ∧ i.size = 35 := by
  obtain ⟨z, hz⟩ := Option.isSome_iff_exists.1 zero_O
  have hr := row_O
  cases hi : Try.prog.info? 45 with
  | none => rw [hi] at hz; cases hz
  | some i =>
    rw [hi] at hz hr
    exact ⟨i, z, rfl, hz, by simpa using hr⟩
theorem run_bsO (w : World) (o : Out) (ok : o.Ok) : (Instr.buildSlice 28 1 #[(0, .agg o.cells.toArray)]).run Try.prog w = .ok (.slice (some ⟨w.heap.size, 0, none⟩) 1 1) (w.alloc (.cells o.cells.toArray 45)) := by
  obtain ⟨i, z, h1, h2, h3⟩ := info_O
  exact run_build1 w Try.underlying28 h1 h2 h3 (by omega) (by omega) _ ok.len

/-- A list of one is built, a state stored, in either order; then the list is answered. -/
theorem outs_two {ops : Array Oper} {Q : Exit → Act → World → Prop} {S : World → Prop} {n : Nat} {L : Array Bool} {a : Act} {w : World} {x y z : Oper} {dx dz : Tmp} {px qp qv : Operand} {o : Out} {s s' : State} {rb : Nat}
    (hx : ops[n]? = some x) (hy : ops[n + 1]? = some y) (hz : ops[n + 2]? = some z) (hg : x.guard = none) (hg' : y.guard = none) (hg2 : z.guard = none)
    (hr : Region.ready .any ops L = [n, n + 1]) (hr1 : Region.ready .any ops (L.setIfInBounds n true) = [n + 1]) (hr2 : Region.ready .any ops (L.setIfInBounds (n + 1) true) = [n])
    (hr3 : Region.ready .any ops ((L.setIfInBounds n true).setIfInBounds (n + 1) true) = [n + 2]) (hr4 : Region.ready .any ops (((L.setIfInBounds n true).setIfInBounds (n + 1) true).setIfInBounds (n + 2) true) = [])
    (ox : x.op = .buildSlice 28 1 #[(0, px)]) (ody : x.dst = some dx) (hpx : a.eval px = .agg o.cells.toArray) (oko : o.Ok)
    (oy : y.op = .store 25 qp qv) (ydst : y.dst = none) (hqp : a.eval qp = .pointer (some ⟨rb, 0, none⟩)) (hqv : a.eval qv = .agg s.cells.toArray) (oks : s.Ok)
    (hqp' : ∀ v, (a.put (some dx) v).eval qp = .pointer (some ⟨rb, 0, none⟩)) (hqv' : ∀ v, (a.put (some dx) v).eval qv = .agg s.cells.toArray)
    (oz : z.op = .assign (.tmp dx)) (zdst : z.dst = some dz) (hdx : ∀ v, (a.put (some dx) v).eval (.tmp dx) = v)
    (hb : Hb w rb 25 s'.cells.toArray) (oks' : s'.Ok) (hS : ∀ w', Chg (fun j => j = rb) w w' → S w')
    (h : ∀ w' g, Chg (fun j => j = rb) w w' → Hb w' rb 25 s.cells.toArray → w.heap.size ≤ g → Hb w' g 45 o.cells.toArray →
      Q .normal ((a.put (some dx) (.slice (some ⟨g, 0, none⟩) 1 1)).put (some dz) (.slice (some ⟨g, 0, none⟩) 1 1)) w') : wpAnyH Try.prog .any ops Q S 3 L a w := by
  have hrow := rowS oks
  have hlen : s.cells.toArray.size = 102 := by rw [List.size_toArray, oks.len]
  have hstore : ∀ (a' : Act) (w' : World) (K : Act → World → Prop) (sx : State), Hb w' rb 25 sx.cells.toArray → sx.Ok → a'.eval qp = .pointer (some ⟨rb, 0, none⟩) → a'.eval qv = .agg s.cells.toArray → K a' (w'.setCells rb 0 s.cells) → y.wp Try.prog a' w' K Q := fun a' w' K sx hbx okx e1 e2 hK => by
    refine wp_store_mid 25 qp qv oy rb 0 s.cells.toArray e1 e2 ?_ ?_ (one_mem s.one) ?_
    · rw [hlen, ← okx.len]; exact hbx.there0
    · rw [hlen]; exact row_S
    · rw [ydst]; exact hK
  have hbs : ∀ (w' : World) (K : Act → World → Prop), K (a.put (some dx) (.slice (some ⟨w'.heap.size, 0, none⟩) 1 1)) (w'.alloc (.cells o.cells.toArray 45)) → x.wp Try.prog a w' K Q := fun w' K hK => by
    unfold Oper.wp execOp
    have e : #[(0, px)].map (fun (i, x) => (i, a.eval x)) = #[((0 : Nat), Value.agg o.cells.toArray)] := by simp [hpx]
    simp only [ox, e, Sem.run_bind, Sem.run_pure, run_bsO w' o oko, Result.andThen_ok]
    rw [ody.symm] at hK
    exact hK
  have hasg : ∀ (v : Value) (w' : World) (K : Act → World → Prop), K ((a.put (some dx) v).put (some dz) v) w' → z.wp Try.prog (a.put (some dx) v) w' K Q := fun v w' K hK => by
    unfold Oper.wp execOp
    simp only [oz, hdx, Sem.run_bind, Sem.run_pure]
    rw [zdst.symm] at hK
    exact hK
  have c0 := Chg.refl (fun j => j = rb) w
  have hlt := hb.lt
  refine held_two hx hy hr hg hg' (hbs _ _ ?_) (hstore _ _ _ s' hb oks' hqp hqv ?_)
  · have c1 := c0.alloc (.cells o.cells.toArray 45)
    have c2 := Chg.setCells (S := fun j => j = rb) (tb := rb) (.inl rfl) s.cells _ 0 c1
    refine ⟨hS _ c1, held_one hy hr1 hg' (hstore _ _ _ s' (hb.alloc _) oks' (hqp' _) (hqv' _) ⟨hS _ c2, held_one hz hr3 hg2 (hasg _ _ _ ⟨hS _ c2, wpAnyH_done hr4 ?_ _⟩)⟩)⟩
    refine h _ _ c2 ((hb.alloc _).sets0 (by rw [oks.len, oks'.len])) (Nat.le_refl _) ((Hb.new w _ _).farCells (by omega) _ _)
  · have c1 := Chg.setCells (S := fun j => j = rb) (tb := rb) (.inl rfl) s.cells _ 0 c0
    have c2 := c1.alloc (.cells o.cells.toArray 45)
    refine ⟨hS _ c1, held_one hx hr2 hg (hbs _ _ ⟨hS _ c2, held_one hz (by rw [Array.setIfInBounds_comm _ _ (by omega)]; exact hr3) hg2 (hasg _ _ _ ⟨hS _ c2, wpAnyH_done (by rw [Array.setIfInBounds_comm (i := n + 1) (j := n) _ _ (by omega)]; exact hr4) ?_ _⟩)⟩)⟩
    refine h _ _ c2 ((hb.sets0 (by rw [oks.len, oks'.len])).alloc _) c1.size (Hb.new _ _ _)
theorem ret_did {fn : Func} {p u : Tmp} {R : Ending → World → Prop} {a : Act} {w : World} {g : Nat} {t : TypeId} {s : State} {v : Value} (hf : fn.results = #[.cell p 25, .tmp u]) (hp : a.tmps.getD p undef = .pointer (some ⟨g, 0, none⟩)) (hu : a.tmps.getD u undef = v)
    (hb : Hb w g t s.cells.toArray) (ok : s.Ok) (hd : a.defers = []) (hR : R (.returned (.tuple #[.agg s.cells.toArray, v])) w) : bodyPost Try.prog fn R .ret a w := by
  refine bodyPost_ret ((results_cell_tmp hf _ _ _).trans ?_) hd hR
  rw [hp, hu]
  simp only [asAddr, Sem.run_pure, Result.andThen_ok]
  rw [load_row hb Try.underlying25 rfl (rowS ok)]
  rfl
/-- A state is stored whole. -/
theorem wpList_store_S {ops : Array Oper} {rest : List Oper} {op : Oper} {a : Act} {w : World} {Q : Exit → Act → World → Prop} (hgd : op.guard = none) (x y : Operand) (ho : op.op = .store 25 x y)
    (b : Nat) (s s' : State) (hx : a.eval x = .pointer (some ⟨b, 0, none⟩)) (hy : a.eval y = .agg s.cells.toArray) (hb : Hb w b 25 s'.cells.toArray) (ok : s.Ok) (ok' : s'.Ok)
    (hK : ∀ w1, Hb w1 b 25 s.cells.toArray → Chg (fun j => j = b) w w1 → wpList Try.prog ops Q rest (a.put op.dst undef) w1) : wpList Try.prog ops Q (op :: rest) a w := by
  have hlen : s.cells.toArray.size = 102 := by rw [List.size_toArray, ok.len]
  refine wpList_store_mid hgd 25 x y ho b 0 s.cells.toArray hx hy ?_ ?_ (one_mem s.one) ?_
  · rw [hlen, ← ok'.len]; exact hb.there0
  · rw [hlen]; exact row_S
  · exact hK _ (hb.sets0 (by rw [ok.len, ok'.len])) (Chg.setCells (S := fun j => j = b) (.inl rfl) _ _ _ (Chg.refl _ w))
/-- A hash is stored. -/
theorem wpList_store_H {ops : Array Oper} {rest : List Oper} {op : Oper} {a : Act} {w : World} {Q : Exit → Act → World → Prop} (hgd : op.guard = none) (x y : Operand) (ho : op.op = .store 23 x y)
    (b off : Nat) (h : Hash) (hl : h.length = 32) (hx : a.eval x = .pointer (some ⟨b, off, none⟩)) (hy : a.eval y = .agg (bv h).toArray) (ht : w.there b off 32)
    (hK : wpList Try.prog ops Q rest (a.put op.dst undef) (w.setCells b off (bv h))) : wpList Try.prog ops Q (op :: rest) a w := by
  have hlen : (bv h).toArray.size = 32 := by rw [List.size_toArray, bv_length, hl]
  refine wpList_store_mid hgd 23 x y ho b off (bv h).toArray hx hy ?_ ?_ (one_mem (bv_one h)) ?_
  · rw [hlen]; exact ht
  · rw [hlen]; exact hash_row
  · exact hK
/-- Behind what a function reads ahead of its last region: one thing is said. -/
theorem out_end {ops : Array Oper} {Q' : Exit → Act → World → Prop} {fn : Func} {K : Act → World → Prop} {n : Nat} {L : Array Bool} {a : Act} {W w : World} {b0 b1 b2 : Nat} {tX : TypeId} {X : List Value} {x y z : Oper} {dx dz : Tmp} {px qp qv : Operand} {o : Out} {s : State} {r : State × List Out}
    (F : Fr 25 tX W b0 b1 b2 w s X) (oks : s.Ok) (oko : o.Ok) (hres : r = (s, [o])) {p : Tmp} (hfn : fn.results = #[.cell p 25, .tmp dz])
    {Q2 : Exit → Act → World → Prop} (ha : ∀ (a : Act) (w : World), Code.wp Try.prog Code.ret Q2 a w → K a w) (hq : ∀ (a : Act) (w : World), bodyPost Try.prog fn (Did 45 W r) .ret a w → Q2 .ret a w)
    (hx : ops[n]? = some x) (hy : ops[n + 1]? = some y) (hz : ops[n + 2]? = some z) (hg : x.guard = none) (hg' : y.guard = none) (hg2 : z.guard = none)
    (hr : Region.ready .any ops L = [n, n + 1]) (hr1 : Region.ready .any ops (L.setIfInBounds n true) = [n + 1]) (hr2 : Region.ready .any ops (L.setIfInBounds (n + 1) true) = [n])
    (hr3 : Region.ready .any ops ((L.setIfInBounds n true).setIfInBounds (n + 1) true) = [n + 2]) (hr4 : Region.ready .any ops (((L.setIfInBounds n true).setIfInBounds (n + 1) true).setIfInBounds (n + 2) true) = [])
    (ox : x.op = .buildSlice 28 1 #[(0, px)]) (ody : x.dst = some dx) (hpx : a.eval px = .agg o.cells.toArray)
    (oy : y.op = .store 25 qp qv) (ydst : y.dst = none) (hqp : a.eval qp = .pointer (some ⟨b2, 0, none⟩)) (hqv : a.eval qv = .agg s.cells.toArray)
    (hqp' : ∀ v, (a.put (some dx) v).eval qp = .pointer (some ⟨b2, 0, none⟩)) (hqv' : ∀ v, (a.put (some dx) v).eval qv = .agg s.cells.toArray)
    (oz : z.op = .assign (.tmp dx)) (zdst : z.dst = some dz) (hdx : ∀ v, (a.put (some dx) v).eval (.tmp dx) = v)
    (hp : ∀ v, ((a.put (some dx) v).put (some dz) v).tmps.getD p undef = .pointer (some ⟨b2, 0, none⟩)) (hu : ∀ v, ((a.put (some dx) v).put (some dz) v).tmps.getD dz undef = v) (hd : a.defers = []) :
    wpAnyH Try.prog .any ops (NoPanic (Exit.then K Q')) (fun w' => Chg (fun j => j = b2) w w') 3 L a w.drew := by
  refine outs_two hx hy hz hg hg' hg2 hr hr1 hr2 hr3 hr4 ox ody hpx oko oy ydst hqp hqv oks hqp' hqv' oz zdst hdx F.r s0_ok (fun w' k => ⟨k.os, k.tape, k.output, k.size, k.block⟩) ?_
  intro w5 g k5 h5 hg5 o5
  refine ha _ _ (wp_ret (hq _ _ ?_))
  refine ret_did hfn (hp _) (hu _) h5 oks hd ?_
  rw [hres]
  have k5' : Chg (fun j => j = b2) w w5 := ⟨k5.os, k5.tape, k5.output, k5.size, k5.block⟩
  have hg5' : w.heap.size ≤ g := hg5
  refine ⟨F.k.trans k5' (fun j hj => .inr ?_), oks, _, rfl, g, rfl, Nat.le_trans F.k.size hg5', o5, oko⟩
  have : j = b2 := hj
  have := F.n0
  have := F.lt1
  have := F.lt2
  omega
/-- A state is answered, and what a list says. -/
theorem ret_end {fn : Func} {p u : Tmp} {a : Act} {W w w1 : World} {b0 b1 b2 : Nat} {tX : TypeId} {X : List Value} {s s1 : State} {v : Value} {l : List Out} {r : State × List Out} (hf : fn.results = #[.cell p 25, .tmp u]) (hp : a.tmps.getD p undef = .pointer (some ⟨b2, 0, none⟩)) (hu : a.tmps.getD u undef = v)
    (F : Fr 25 tX W b0 b1 b2 w s X) (hb : Hb w1 b2 25 s1.cells.toArray) (k : Chg (fun j => j = b2) w w1) (ok : s1.Ok) (hd : a.defers = []) (ho : l = [] ∧ v = .slice none 0 0 ∨ ∃ o g, l = [o] ∧ v = .slice (some ⟨g, 0, none⟩) 1 1 ∧ b2 < g ∧ Hb w g 45 o.cells.toArray ∧ o.Ok) (hr : r = (s1, l)) :
    bodyPost Try.prog fn (Did 45 W r) .ret a w1 := by
  have hn := F.n0
  have h1 := F.lt1
  have h2 := F.lt2
  refine ret_did hf hp hu hb ok hd ?_
  rw [hr]
  refine ⟨F.k.trans k (fun j hj => .inr (by have : j = b2 := hj; omega)), ok, v, rfl, ?_⟩
  rcases ho with ⟨rfl, rfl⟩ | ⟨o, g, rfl, rfl, hg, hh, oko⟩
  · rfl
  · exact ⟨g, rfl, by omega, hh.chg k (by show ¬ (g = b2); omega), oko⟩
theorem run_store_int (w : World) (ad : Addr) (v old : Value) (x : Int) (hv : v = .int .i64 x) (hc : w.cell? ad = some old) (hf : w.frozen? ad = false) : (Instr.storeAt 3 (.pointer (some ad)) v).run Try.prog w = .ok () (w.setCell ad v) := by
  subst hv
  go_simp
/-- A hash and a number are stored into the state, one behind the other, in a region that draws. -/
theorem two_stores {ops : Array Oper} {Q : Exit → Act → World → Prop} {S : World → Prop} {n : Nat} {L : Array Bool} {a : Act} {w : World} {x y z : Oper} {dy : Tmp} {px qx ry qz : Operand} {b0 off off2 k : Nat} {h : Hash} {v : Int} {old : Value} {tS : TypeId}
    (hx : ops[n]? = some x) (hy : ops[n + 1]? = some y) (hz : ops[n + 2]? = some z) (hg : x.guard = none) (hg' : y.guard = none) (hg2 : z.guard = none)
    (hr : Region.ready .any ops L = [n]) (hr1 : Region.ready .any ops (L.setIfInBounds n true) = [n + 1])
    (hr3 : Region.ready .any ops ((L.setIfInBounds n true).setIfInBounds (n + 1) true) = [n + 2]) (hr4 : Region.ready .any ops (((L.setIfInBounds n true).setIfInBounds (n + 1) true).setIfInBounds (n + 2) true) = [])
    (ox : x.op = .store 23 px qx) (xdst : x.dst = none) (hpx : a.eval px = .pointer (some ⟨b0, off, none⟩)) (hqx : a.eval qx = .agg (bv h).toArray) (hl : h.length = 32) (hth : w.there b0 off 32)
    (oy : y.op = .fieldAddr tS ry k) (ydst : y.dst = some dy) (hry : ∀ w', (Instr.fieldAt tS (a.eval ry) k).run Try.prog w' = .ok (.pointer (some ⟨b0, off2, none⟩)) w')
    (oz : z.op = .store 3 (.tmp dy) qz) (zdst : z.dst = none) (hdy : (a.put (some dy) (.pointer (some ⟨b0, off2, none⟩))).eval (.tmp dy) = .pointer (some ⟨b0, off2, none⟩)) (hqz : (a.put (some dy) (.pointer (some ⟨b0, off2, none⟩))).eval qz = .int .i64 v)
    (hc : (w.setCells b0 off (bv h)).cell? ⟨b0, off2, none⟩ = some old) (hf : (w.setCells b0 off (bv h)).frozen? ⟨b0, off2, none⟩ = false)
    (hS : ∀ w', Chg (fun j => j = b0) w w' → S w')
    (hQ : Q .normal (a.put (some dy) (.pointer (some ⟨b0, off2, none⟩))) ((w.setCells b0 off (bv h)).setCell ⟨b0, off2, none⟩ (.int .i64 v))) : wpAnyH Try.prog .any ops Q S 3 L a w := by
  have hlen : (bv h).toArray.size = 32 := by rw [List.size_toArray, bv_length, hl]
  have c1 : Chg (fun j => j = b0) w (w.setCells b0 off (bv h)) := Chg.setCells (S := fun j => j = b0) (.inl rfl) _ _ _ (Chg.refl _ w)
  have c2 := c1.setCell (p := ⟨b0, off2, none⟩) (.inl rfl) (.int .i64 v)
  refine held_one hx hr hg (wp_store_mid 23 px qx ox b0 off (bv h).toArray hpx hqx (by rw [hlen]; exact hth) (by rw [hlen]; exact hash_row) (one_mem (bv_one h)) ?_)
  rw [xdst]
  refine ⟨hS _ c1, held_one hy hr1 hg' ?_⟩
  have e0 : a.put none undef = a := rfl
  rw [e0]
  have e1 : (execOp a.eval y).run Try.prog (w.setCells b0 off (bv h)) = .ok (.value (.pointer (some ⟨b0, off2, none⟩))) (w.setCells b0 off (bv h)) := by
    unfold execOp
    simp only [oy, Sem.run_bind, hry, Result.andThen_ok, Sem.run_pure]
  unfold Oper.wp
  simp only [List.toList_toArray, e1, Oper.upon_value, ydst]
  refine ⟨hS _ c1, held_one hz hr3 hg2 ?_⟩
  have e2 : (execOp (a.put (some dy) (.pointer (some ⟨b0, off2, none⟩))).eval z).run Try.prog (w.setCells b0 off (bv h)) = .ok .skip ((w.setCells b0 off (bv h)).setCell ⟨b0, off2, none⟩ (.int .i64 v)) := by
    unfold execOp
    simp only [oz, hdy, hqz, Sem.run_bind, run_store_int _ _ _ _ _ rfl hc hf, Result.andThen_ok, Sem.run_pure]
  unfold Oper.wp
  simp only [e2, Oper.upon_skip, zdst]
  exact ⟨hS _ c2, wpAnyH_done hr4 hQ _⟩
theorem Fr.drew {tS tX : TypeId} {W w : World} {b0 b1 b2 : Nat} {s : State} {X : List Value} (F : Fr tS tX W b0 b1 b2 w s X) : Fr tS tX W b0 b1 b2 w.drew s X := F.chg ((Chg.refl Non w).drew)
end Go.Proofs.Ytdejfamcmebdiaa
