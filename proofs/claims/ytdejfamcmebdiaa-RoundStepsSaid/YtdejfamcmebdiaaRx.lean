/- The document's answer for layer 12: New, empty, one, voted; told. -/
import Derived.Test.YtdejfamcmebdiaaRg
namespace Go.Proofs.Ytdejfamcmebdiaa
open Go.RowKit mach
set_option linter.unusedVariables false
set_option linter.unusedSimpArgs false
set_option maxRecDepth 20000

theorem z_R (w : World) : (Instr.alloc 31 true (.tuple #[])).run Try.prog w = .ok (.pointer (some ⟨w.heap.size, 0, none⟩)) (w.alloc (.cells s0.cells.toArray 31)) := by kernel_rfl
theorem row_R : (Try.prog.info? 31).map (·.size) = some 102 := by kernel_rfl
theorem row_RI : (Try.prog.info? 36).map (·.size) = some 68 := by kernel_rfl
theorem row_RO : (Try.prog.info? 51).map (·.size) = some 35 := by kernel_rfl
theorem rowR {s : State} (h : s.Ok) : (Try.prog.info? 31).map (·.size) = some s.cells.length := by rw [h.len]; exact row_R
theorem rowRI {i : In} (h : i.Ok) : (Try.prog.info? 36).map (·.size) = some i.cells.length := by rw [h.len]; exact row_RI
theorem built_r4 (k r v : Int) (h : Hash) (hh : h.length = 32) : Try.prog.built 51 [(0, .int .i64 k), (1, .int .i64 r), (2, .agg (bv h).toArray), (3, .int .i64 v)] = some (Out.cells ⟨k, r, h, v⟩).toArray := by
  have e : Try.prog.built 51 [(0, .int .i64 k), (1, .int .i64 r), (2, .agg (bv h).toArray), (3, .int .i64 v)] = Instr.fill (plO[·]?) o0.cells.toArray [(0, .int .i64 k), (1, .int .i64 r), (2, .agg (bv h).toArray), (3, .int .i64 v)] := by kernel_rfl
  rw [e, fo0 _ _ rfl, fo1 _ _ rfl, fo2 _ _ rfl _ _ rfl hh, fo3 _ _ rfl _ _ hh]
  rfl
theorem built_RS (s : State) (ok : s.Ok) : Try.prog.built 31 [(0, .int .i64 s.round), (1, .int .i64 s.step), (2, .agg (bv s.locked).toArray), (3, .int .i64 s.lockedR), (4, .agg (bv s.valid).toArray), (5, .int .i64 s.validR), (6, .agg (bv s.block).toArray), (7, .int .i64 s.waits), (8, .int .i64 s.waited)] = some s.cells.toArray := by
  have e : Try.prog.built 31 [(0, .int .i64 s.round), (1, .int .i64 s.step), (2, .agg (bv s.locked).toArray), (3, .int .i64 s.lockedR), (4, .agg (bv s.valid).toArray), (5, .int .i64 s.validR), (6, .agg (bv s.block).toArray), (7, .int .i64 s.waits), (8, .int .i64 s.waited)] = Instr.fill (plS[·]?) s0.cells.toArray [(0, .int .i64 s.round), (1, .int .i64 s.step), (2, .agg (bv s.locked).toArray), (3, .int .i64 s.lockedR), (4, .agg (bv s.valid).toArray), (5, .int .i64 s.validR), (6, .agg (bv s.block).toArray), (7, .int .i64 s.waits), (8, .int .i64 s.waited)] := by kernel_rfl
  rw [e]
  refine (fs0 _ _ rfl s0 s.round).trans ?_
  refine (fs1 _ _ rfl ({ s0 with round := s.round } : State) s.step).trans ?_
  refine (fs2 _ _ rfl ({ s0 with round := s.round, step := s.step } : State) ⟨rfl, rfl, rfl⟩ s.locked ok.l).trans ?_
  refine (fs3 _ _ rfl ({ s0 with round := s.round, step := s.step, locked := s.locked } : State) ⟨ok.l, rfl, rfl⟩ s.lockedR).trans ?_
  refine (fs4 _ _ rfl ({ s0 with round := s.round, step := s.step, locked := s.locked, lockedR := s.lockedR } : State) ⟨ok.l, rfl, rfl⟩ s.valid ok.v).trans ?_
  refine (fs5 _ _ rfl ({ s0 with round := s.round, step := s.step, locked := s.locked, lockedR := s.lockedR, valid := s.valid } : State) ⟨ok.l, ok.v, rfl⟩ s.validR).trans ?_
  refine (fs6 _ _ rfl ({ s0 with round := s.round, step := s.step, locked := s.locked, lockedR := s.lockedR, valid := s.valid, validR := s.validR } : State) ⟨ok.l, ok.v, rfl⟩ s.block ok.b).trans ?_
  refine (fs7 _ _ rfl ({ s0 with round := s.round, step := s.step, locked := s.locked, lockedR := s.lockedR, valid := s.valid, validR := s.validR, block := s.block } : State) ⟨ok.l, ok.v, ok.b⟩ s.waits).trans ?_
  refine (fs8 _ _ rfl ({ s0 with round := s.round, step := s.step, locked := s.locked, lockedR := s.lockedR, valid := s.valid, validR := s.validR, block := s.block, waits := s.waits } : State) ⟨ok.l, ok.v, ok.b⟩ s.waited).trans ?_
  rfl
theorem built_RI (i : In) (oi : i.Ok) : Try.prog.built 36 [(0, .int .i64 i.kind), (1, .int .i64 i.round), (2, .agg (bv i.block).toArray), (3, .int .i64 i.valid), (4, .bool i.good), (5, .agg (bv i.own).toArray)] = some i.cells.toArray := by
  have e : Try.prog.built 36 [(0, .int .i64 i.kind), (1, .int .i64 i.round), (2, .agg (bv i.block).toArray), (3, .int .i64 i.valid), (4, .bool i.good), (5, .agg (bv i.own).toArray)] = Instr.fill (plI[·]?) i0.cells.toArray [(0, .int .i64 i.kind), (1, .int .i64 i.round), (2, .agg (bv i.block).toArray), (3, .int .i64 i.valid), (4, .bool i.good), (5, .agg (bv i.own).toArray)] := by kernel_rfl
  rw [e]
  refine (fi0 _ _ rfl i0 i.kind).trans ?_
  refine (fi1 _ _ rfl ({ i0 with kind := i.kind } : In) i.round).trans ?_
  refine (fi2 _ _ rfl ({ i0 with kind := i.kind, round := i.round } : In) i.block rfl oi.b).trans ?_
  refine (fi3 _ _ rfl ({ i0 with kind := i.kind, round := i.round, block := i.block } : In) i.valid oi.b).trans ?_
  refine (fi4 _ _ rfl ({ i0 with kind := i.kind, round := i.round, block := i.block, valid := i.valid } : In) i.good oi.b).trans ?_
  refine (fi5 _ _ rfl ({ i0 with kind := i.kind, round := i.round, block := i.block, valid := i.valid, good := i.good } : In) i.own oi.b rfl oi.o).trans ?_
  rfl
theorem built_rstart : Try.prog.built 31 [(0, .int .i64 (-1)), (3, .int .i64 (-1)), (5, .int .i64 (-1)), (7, .int .i64 (-1)), (8, .int .i64 (-1))] = some mach.start.cells.toArray := by kernel_rfl
theorem ret_R {fn : Func} {p : Tmp} {R : Ending → World → Prop} {a : Act} {w : World} {g : Nat} {t : TypeId} {s : State} (hf : fn.results = #[.cell p 31]) (hp : a.tmps.getD p undef = .pointer (some ⟨g, 0, none⟩))
    (hb : Hb w g t s.cells.toArray) (ok : s.Ok) (hd : a.defers = []) (hR : R (.returned (.agg s.cells.toArray)) w) : bodyPost Try.prog fn R .ret a w :=
  bodyPost_ret (results_cell_row hf _ _ g t _ (0, 0) _ hp hb Try.underlying31 rfl (by rw [row_R]; simp [ok.len])) hd hR
def Gives (w : World) (s : State) (e : Ending) (w' : World) : Prop := e = .returned (.agg s.cells.toArray) ∧ Chg Non w w'
theorem rNew_any (w : World) : Calls Try.prog 16 #[] w (Gives w mach.start) := by
  go_enter Try.func16, Try.ntmps16
  go_wp2_with (first
    | (with_reducible refine wpList_alloc_named rfl _ rfl s0.cells z_R ?_; intro w1 hw1; have hb1 : Hb w1 w.heap.size 31 s0.cells.toArray := (by rw [hw1.out]; exact Hb.new _ _ _); have k1 : Chg Non w w1 := (by rw [hw1.out]; exact (Chg.refl _ _).alloc _))
    | (with_reducible refine wpList_build_parts rfl _ _ rfl [(0, .int .i64 (-1)), (3, .int .i64 (-1)), (5, .int .i64 (-1)), (7, .int .i64 (-1)), (8, .int .i64 (-1))] rfl built_rstart ?_)
    | (with_reducible refine wpList_store_R rfl 31 _ _ rfl w.heap.size mach.start.cells s0.cells 102 rfl rfl hb1 start_ok.len s0_ok.len row_R mach.start.one ?_; intro w2 h2 k2))
  exact ret_R rfl rfl h2 start_ok rfl ⟨rfl, k1.trans k2 (fun j hj => .inr (by have : j = w.heap.size := hj; omega))⟩
set_option maxHeartbeats 1600000 in
theorem told_any (w : World) (s : State) (ok : s.Ok) : Calls Try.prog 12 #[.agg s.cells.toArray] w (Gives w s) := by
  have hbu := built_RS s ok
  go_enter Try.func12, Try.ntmps12
  go_wp2_with (first
    | (with_reducible refine wpList_box_row rfl _ _ rfl (cs := s.cells.toArray) rfl ?_; intro w1 hw1; have hb0 : Hb w1 w.heap.size 25 s.cells.toArray := (by rw [hw1.out]; exact Hb.new _ _ _); have k1 : Chg Non w w1 := (by rw [hw1.out]; exact (Chg.refl _ _).alloc _))
    | (with_reducible refine wpList_alloc_named rfl _ rfl s0.cells z_R ?_; intro w2 hw2; have hb2 : Hb w2 w1.heap.size 31 s0.cells.toArray := (by rw [hw2.out]; exact Hb.new _ _ _); have k2 : Chg Non w1 w2 := (by rw [hw2.out]; exact (Chg.refl _ _).alloc _); have h0 := Lib.hid (hb0.chg k2 (fun f => f)); have c0 := sb0 h0.out; have c1 := sb1 h0.out; have c34 := sb34 h0.out ok; have c67 := sb67 h0.out ok; have c100 := sb100 h0.out ok; have c101 := sb101 h0.out ok; clear hw2)
    | (with_reducible refine wpList_load_mid rfl 23 _ rfl w.heap.size 2 rfl (bv s.locked) _ (sb2 h0.out ok).1 Try.underlying23 rfl (rowH ok.l) ?_)
    | (with_reducible refine wpList_load_mid rfl 23 _ rfl w.heap.size 35 rfl (bv s.valid) _ (sb35 h0.out ok).1 Try.underlying23 rfl (rowH ok.v) ?_)
    | (with_reducible refine wpList_load_mid rfl 23 _ rfl w.heap.size 68 rfl (bv s.block) _ (sb68 h0.out ok).1 Try.underlying23 rfl (rowH ok.b) ?_)
    | (with_reducible refine wpList_build_parts rfl _ _ rfl [(0, .int .i64 s.round), (1, .int .i64 s.step), (2, .agg (bv s.locked).toArray), (3, .int .i64 s.lockedR), (4, .agg (bv s.valid).toArray), (5, .int .i64 s.validR), (6, .agg (bv s.block).toArray), (7, .int .i64 s.waits), (8, .int .i64 s.waited)] rfl hbu ?_)
    | (with_reducible refine wpList_store_R rfl 31 _ _ rfl w1.heap.size s.cells s0.cells 102 rfl rfl hb2 ok.len s0_ok.len row_R s.one ?_; intro w3 h3 k3))
  exact ret_R rfl rfl h3 ok rfl ⟨rfl, (k1.trans k2 (fun _ f => .inl f)).trans k3 (fun j hj => .inr (by have : j = w1.heap.size := hj; have := k1.size; omega))⟩
theorem empty_any (w : World) (h : Hash) (hl : h.length = 32) : Calls Try.prog 20 #[.agg (bv h).toArray] w (Asks w (decide (h = zero))) := by
  have hr := rowH hl
  have EQ := Lib.hid (run_eq_hash · hl zero_length)
  go_enter Try.func20, Try.ntmps20
  go_wp2_with (first
    | (with_reducible refine wpList_box_row rfl _ _ rfl (cs := (bv h).toArray) rfl ?_; intro w1 hw1; have hb1 : Hb w1 w.heap.size 23 (bv h).toArray := (by rw [hw1.out]; exact Hb.new _ _ _); have rg := hb1.range0)
    | (with_reducible refine wpList_load_mid rfl 23 _ rfl w.heap.size 0 rfl (bv h) _ rg Try.underlying23 rfl hr ?_)
    | (with_reducible refine wpList_build_zero rfl 23 rfl built_zero ?_)
    | (with_reducible refine wpList_eql_w 23 _ _ _ rfl rfl (xs := (bv h).toArray) (ys := (bv zero).toArray) rfl rfl hash_guard (EQ.out w1) ?_))
  go_ret
  exact ⟨rfl, by rw [hw1.out]; exact (Chg.refl Non w).alloc _⟩
theorem zero_RO : ((Try.prog.info? 51).bind (·.zero)).isSome = true := by kernel_rfl
theorem run_bsR (w : World) (o : Out) (ok : o.Ok) : (Instr.buildSlice 32 1 #[(0, .agg o.cells.toArray)]).run Try.prog w = .ok (.slice (some ⟨w.heap.size, 0, none⟩) 1 1) (w.alloc (.cells o.cells.toArray 51)) := by
  obtain ⟨z, hz⟩ := Option.isSome_iff_exists.1 zero_RO
  have hr := row_RO
  cases hi : Try.prog.info? 51 with
  | none => rw [hi] at hz; cases hz
  | some i =>
    rw [hi] at hz hr
    exact run_build1 w Try.underlying32 hi hz (by simpa using hr) (by omega) (by omega) _ ok.len
theorem wpList_bsR {ops : Array Oper} {rest : List Oper} {op : Oper} {a : Act} {w : World} {Q : Exit → Act → World → Prop} (hgd : op.guard = none) (x : Operand) (ho : op.op = .buildSlice 32 1 #[(0, x)]) (o : Out) (hx : a.eval x = .agg o.cells.toArray) (ok : o.Ok)
    (hK : ∀ w1, Hid (w1 = w.alloc (.cells o.cells.toArray 51)) → wpList Try.prog ops Q rest (a.put op.dst (.slice (some ⟨w.heap.size, 0, none⟩) 1 1)) w1) : wpList Try.prog ops Q (op :: rest) a w := by
  refine wpList_plain hgd fun K hK' => ?_
  unfold Oper.wp execOp
  have e : #[(0, x)].map (fun (i, x) => (i, a.eval x)) = #[((0 : Nat), Value.agg o.cells.toArray)] := by simp [hx]
  simp only [ho, e, Sem.run_bind, Sem.run_pure, run_bsR w o ok, Result.andThen_ok]
  exact hK' _ _ (hK _ (Lib.hid rfl))
/-- One thing said. -/
def One (w : World) (o : Out) (e : Ending) (w' : World) : Prop := Chg Non w w' ∧ ∃ g, e = .returned (.slice (some ⟨g, 0, none⟩) 1 1) ∧ w.heap.size ≤ g ∧ Hb w' g 51 o.cells.toArray
theorem one_any (w : World) (k r v : Int) (h : Hash) (hl : h.length = 32) : Calls Try.prog 21 #[.int .i64 k, .int .i64 r, .agg (bv h).toArray, .int .i64 v] w (One w ⟨k, r, h, v⟩) := by
  have hr := rowH hl
  have hbu := built_r4 k r v h hl
  go_enter Try.func21, Try.ntmps21
  go_wp2_with (first
    | (with_reducible refine wpList_box_row rfl _ _ rfl (cs := (bv h).toArray) rfl ?_; intro w1 hw1; have hb1 : Hb w1 w.heap.size 23 (bv h).toArray := (by rw [hw1.out]; exact Hb.new _ _ _); have rg := hb1.range0; have k1 : Chg Non w w1 := (by rw [hw1.out]; exact (Chg.refl _ _).alloc _))
    | (with_reducible refine wpList_load_mid rfl 23 _ rfl w.heap.size 0 rfl (bv h) _ rg Try.underlying23 rfl hr ?_)
    | (with_reducible refine wpList_build_parts rfl _ _ rfl [(0, .int .i64 k), (1, .int .i64 r), (2, .agg (bv h).toArray), (3, .int .i64 v)] rfl hbu ?_)
    | (with_reducible refine wpList_bsR rfl _ rfl ⟨k, r, h, v⟩ rfl ⟨hl⟩ ?_; intro w2 hw2))
  go_ret
  refine ⟨by rw [hw2.out]; exact k1.alloc _, _, rfl, k1.size, by rw [hw2.out]; exact Hb.new _ _ _⟩
theorem ent_one (args : Array Value) (w : World) : (callFunc 21 args).run Try.prog w = .ok (.enter 21 args) w := enters_of Try.func21 (by kernel_rfl) rfl args w
theorem ent_voted (args : Array Value) (w : World) : (callFunc 22 args).run Try.prog w = .ok (.enter 22 args) w := enters_of Try.func22 (by kernel_rfl) rfl args w
theorem ret_didR {fn : Func} {p u : Tmp} {R : Ending → World → Prop} {a : Act} {w : World} {g : Nat} {t : TypeId} {s : State} {v : Value} (hf : fn.results = #[.cell p 31, .tmp u]) (hp : a.tmps.getD p undef = .pointer (some ⟨g, 0, none⟩)) (hu : a.tmps.getD u undef = v)
    (hb : Hb w g t s.cells.toArray) (ok : s.Ok) (hd : a.defers = []) (hR : R (.returned (.tuple #[.agg s.cells.toArray, v])) w) : bodyPost Try.prog fn R .ret a w := by
  refine bodyPost_ret ((results_cell_tmp hf _ _ _).trans ?_) hd hR
  rw [hp, hu]
  simp only [asAddr, Sem.run_pure, Result.andThen_ok]
  rw [load_row hb Try.underlying31 rfl (rowR ok)]
  rfl
/-- Behind what the document's answer reads ahead of its last region: one thing is said by a call, and the state stored, in either order. -/
theorem one_end {ops : Array Oper} {Q' : Exit → Act → World → Prop} {fn : Func} {K : Act → World → Prop} {n nt : Nat} {L : Array Bool} {a : Act} {W w : World} {b0 b1 b2 : Nat} {tX : TypeId} {X : List Value} {x y z : Oper} {dx dz p dv : Tmp} {xs : Array Operand} {ts : Array TypeId} {k r v : Int} {h : Hash} {s : State} {rr : State × List Out}
    (F : Fr 31 tX W b0 b1 b2 w s X) (oks : s.Ok) (hl : h.length = 32) (hres : rr = (s, [⟨k, r, h, v⟩])) (hfn : fn.results = #[.cell p 31, .tmp dz])
    {Q2 : Exit → Act → World → Prop} (ha : ∀ (a : Act) (w : World), Code.wp Try.prog Code.ret Q2 a w → K a w) (hq : ∀ (a : Act) (w : World), bodyPost Try.prog fn (Did 51 W rr) .ret a w → Q2 .ret a w)
    (hx : ops[n]? = some x) (hy : ops[n + 1]? = some y) (hz : ops[n + 2]? = some z) (hg : x.guard = none) (hg' : y.guard = none) (hg2 : z.guard = none)
    (hr : Region.ready .any ops L = [n]) (hr1 : Region.ready .any ops (L.setIfInBounds n true) = [n + 1])
    (hr3 : Region.ready .any ops ((L.setIfInBounds n true).setIfInBounds (n + 1) true) = [n + 2]) (hr4 : Region.ready .any ops (((L.setIfInBounds n true).setIfInBounds (n + 1) true).setIfInBounds (n + 2) true) = [])
    (ox : x.op = .call { callee := .value (.func 21), args := xs, argTypes := ts }) (xdst : x.dst = some dx) (hxs : xs.toList.map a.eval = [.int .i64 k, .int .i64 r, .agg (bv h).toArray, .int .i64 v])
    (oy : y.op = .store 31 (.tmp p) (.tmp dv)) (ydst : y.dst = none) (oz : z.op = .assign (.tmp dx)) (zdst : z.dst = some dz)
    (hn : a.tmps.size = nt) (hlt : decide (dx < nt ∧ dz < nt) = true) (hne : decide (dx ≠ p ∧ dx ≠ dv ∧ dz ≠ p) = true)
    (hqp : a.eval (.tmp p) = .pointer (some ⟨b2, 0, none⟩)) (hqv : a.eval (.tmp dv) = .agg s.cells.toArray) (hd : a.defers = []) :
    wpAnyH Try.prog .any ops (NoPanic (Exit.then K Q')) (fun w' => Chg (fun j => j = b2) w w') 3 L a w.drew := by
  obtain ⟨lx, lz⟩ := of_decide_eq_true hlt
  obtain ⟨n1, n2, n3⟩ := of_decide_eq_true hne
  have hlen : s.cells.toArray.size = 102 := by rw [List.size_toArray, oks.len]
  have D0 : Chg (fun j => j = b2) w w.drew := (Chg.refl _ w).drew
  have hstore : ∀ (a' : Act) (w' : World) (K' : Act → World → Prop) (Q : Exit → Act → World → Prop), Hb w' b2 31 s0.cells.toArray → a'.eval (.tmp p) = .pointer (some ⟨b2, 0, none⟩) → a'.eval (.tmp dv) = .agg s.cells.toArray → K' a' (w'.setCells b2 0 s.cells) → y.wp Try.prog a' w' K' Q := fun a' w' K' Q hbx e1 e2 hK => by
    refine wp_store_mid 31 (.tmp p) (.tmp dv) oy b2 0 s.cells.toArray e1 e2 ?_ ?_ (one_mem s.one) ?_
    · rw [hlen]; exact hbx.there0
    · rw [hlen]; exact row_R
    · rw [ydst]; exact hK
  have hcall : ∀ (w' : World) (K' : Act → World → Prop) (Q : Exit → Act → World → Prop), (∀ g w'', Chg Non w' w'' → w'.heap.size ≤ g → Hb w'' g 51 (Out.cells ⟨k, r, h, v⟩).toArray → K' (a.put (some dx) (.slice (some ⟨g, 0, none⟩) 1 1)) w'') → x.wp Try.prog a w' K' Q := fun w' K' Q hK => by
    refine wp_call 21 xs ts ox hxs ent_one (one_any w' k r v h hl) ?_
    rintro e w'' ⟨kk, g, rfl, hgg, hh⟩
    exact ⟨_, rfl, by rw [xdst]; exact hK g w'' kk hgg hh⟩
  have hasg : ∀ (u : Value) (w' : World) (K' : Act → World → Prop) (Q : Exit → Act → World → Prop), K' ((a.put (some dx) u).put (some dz) u) w' → z.wp Try.prog (a.put (some dx) u) w' K' Q := fun u w' K' Q hK => by
    have hdx : (a.put (some dx) u).eval (.tmp dx) = u := eval_same (by rw [hn]; exact lx)
    unfold Oper.wp execOp
    simp only [oz, hdx, Sem.run_bind, Sem.run_pure]
    rw [zdst.symm] at hK
    exact hK
  have fin : ∀ g w5, Chg (fun j => j = b2) w w5 → Hb w5 b2 31 s.cells.toArray → w.heap.size ≤ g → Hb w5 g 51 (Out.cells ⟨k, r, h, v⟩).toArray → K ((a.put (some dx) (.slice (some ⟨g, 0, none⟩) 1 1)).put (some dz) (.slice (some ⟨g, 0, none⟩) 1 1)) w5 := fun g w5 k5 h5 hg5 o5 => by
    refine ha _ _ (wp_ret (hq _ _ ?_))
    have e1 : ((a.put (some dx) (.slice (some ⟨g, 0, none⟩) 1 1)).put (some dz) (.slice (some ⟨g, 0, none⟩) 1 1)).eval (.tmp p) = .pointer (some ⟨b2, 0, none⟩) := by rw [eval_far n3, eval_far n1, hqp]
    have e2 : ((a.put (some dx) (.slice (some ⟨g, 0, none⟩) 1 1)).put (some dz) (.slice (some ⟨g, 0, none⟩) 1 1)).eval (.tmp dz) = .slice (some ⟨g, 0, none⟩) 1 1 := eval_same (by rw [size_put, hn]; exact lz)
    refine ret_didR hfn e1 e2 h5 oks hd ?_
    rw [hres]
    refine ⟨F.k.trans k5 (fun j hj => .inr ?_), oks, _, rfl, g, rfl, Nat.le_trans F.k.size hg5, o5, ⟨hl⟩⟩
    have : j = b2 := hj
    have := F.n0
    have := F.lt1
    have := F.lt2
    omega
  have c0 := F.r.chg ((Chg.refl Non w).drew) (fun f => f)
  have hlt2 := F.r.lt
  refine held_one hx hr hg (hcall _ _ _ fun g w1 k1 hg1 h1 => ?_)
  have d1 : Chg (fun j => j = b2) w w1 := D0.trans k1 (fun _ f => f.elim)
  have d2 : Chg (fun j => j = b2) w (w1.setCells b2 0 s.cells) := Chg.setCells (S := fun j => j = b2) (.inl rfl) s.cells _ 0 d1
  refine ⟨d1, held_one hy hr1 hg' (hstore _ _ _ _ (c0.chg k1 (fun f => f)) (by rw [eval_far n1, hqp]) (by rw [eval_far n2, hqv]) ⟨d2, held_one hz hr3 hg2 (hasg _ _ _ _ ⟨d2, wpAnyH_done hr4 (NoPanic.normal ?_) _⟩)⟩)⟩
  have hg1' : w.heap.size ≤ g := hg1
  exact fin g _ d2 ((c0.chg k1 (fun f => f)).sets0 (by rw [oks.len]; rfl)) hg1' (h1.farCells (by omega) _ _)
/-- Behind what is read ahead of a call of 'voted' in a region that draws: its answer is handed on. -/
theorem voted_end {ops : Array Oper} {Q' : Exit → Act → World → Prop} {fn : Func} {K : Act → World → Prop} {n nt : Nat} {L : Array Bool} {a : Act} {W w : World} {b0 b1 b2 : Nat} {tX : TypeId} {X : List Value} {x e0 e1 y z : Oper} {d5 d7 d8 dz p : Tmp} {xs : Array Operand} {ts : Array TypeId} {s s1 : State} {l1 : List Out} {vl : List Value} {rr : State × List Out}
    (F : Fr 31 tX W b0 b1 b2 w s X) (hres : rr = (s1, l1)) (hfn : fn.results = #[.cell p 31, .tmp dz])
    {Q2 : Exit → Act → World → Prop} (ha : ∀ (a : Act) (w : World), Code.wp Try.prog Code.ret Q2 a w → K a w) (hq : ∀ (a : Act) (w : World), bodyPost Try.prog fn (Did 51 W rr) .ret a w → Q2 .ret a w)
    (hx : ops[n]? = some x) (h0 : ops[n + 1]? = some e0) (h1 : ops[n + 2]? = some e1) (hy : ops[n + 3]? = some y) (hz : ops[n + 4]? = some z) (hg : x.guard = none) (hg0 : e0.guard = none) (hg1 : e1.guard = none) (hg' : y.guard = none) (hg2 : z.guard = none)
    (hs : Region.noSelect ops = true) (hr : Region.ready .any ops L = [n]) (hB : lexI .any ops [n + 1, n + 2] (L.setIfInBounds n true) = true) (hr3 : Region.ready .any ops (listedI [n + 1, n + 2] (L.setIfInBounds n true)) = [n + 3])
    (hr4 : Region.ready .any ops ((listedI [n + 1, n + 2] (L.setIfInBounds n true)).setIfInBounds (n + 3) true) = [n + 4]) (hr5 : Region.ready .any ops (((listedI [n + 1, n + 2] (L.setIfInBounds n true)).setIfInBounds (n + 3) true).setIfInBounds (n + 4) true) = [])
    (ox : x.op = .call { callee := .value (.func 22), args := xs, argTypes := ts }) (xdst : x.dst = some d5) (hxs : xs.toList.map a.eval = vl) (HV : Calls Try.prog 22 vl.toArray w.drew (Did 51 w.drew (s1, l1)))
    (o0 : e0.op = .extract (.tmp d5) 0) (q0 : e0.dst = some d7) (o1 : e1.op = .extract (.tmp d5) 1) (q1 : e1.dst = some d8)
    (oy : y.op = .store 31 (.tmp p) (.tmp d7)) (ydst : y.dst = none) (oz : z.op = .assign (.tmp d8)) (zdst : z.dst = some dz)
    (hn : a.tmps.size = nt) (hlt : decide (d5 < nt ∧ d7 < nt ∧ d8 < nt ∧ dz < nt) = true) (hne : decide (d5 ≠ p ∧ d7 ≠ p ∧ d8 ≠ p ∧ dz ≠ p ∧ d7 ≠ d5 ∧ d8 ≠ d7) = true)
    (hqp : a.eval (.tmp p) = .pointer (some ⟨b2, 0, none⟩)) (hd : a.defers = []) :
    wpAnyH Try.prog .any ops (NoPanic (Exit.then K Q')) (fun w' => Chg (fun j => j = b2) w w') 5 L a w.drew := by
  obtain ⟨l5, l7, l8, lz⟩ := of_decide_eq_true hlt
  obtain ⟨n5, n7, n8, nz, n75, n87⟩ := of_decide_eq_true hne
  have D0 : Chg (fun j => j = b2) w w.drew := (Chg.refl _ w).drew
  have hlt2 := F.r.lt
  refine held_one hx hr hg (wp_call 22 xs ts ox hxs ent_voted HV ?_)
  rintro e w1 ⟨k1, ok1, v, rfl, oo⟩
  have hlen : s1.cells.toArray.size = 102 := by rw [List.size_toArray, ok1.len]
  have d1 : Chg (fun j => j = b2) w w1 := D0.trans k1 (fun _ f => f.elim)
  refine ⟨_, rfl, d1, ?_⟩
  rw [xdst]
  refine heads (g := 2) hs (fun _ _ _ _ _ h => h) [n + 1, n + 2] _ _ w1 hB rfl d1 ?_
  obtain ⟨a5, ha5⟩ : ∃ a5, a.put (some d5) (.tuple #[.agg s1.cells.toArray, v]) = a5 := ⟨_, rfl⟩
  have z5 : a5.tmps.size = nt := by rw [← ha5, size_put, hn]
  have v5 : a5.eval (.tmp d5) = .tuple #[.agg s1.cells.toArray, v] := by rw [← ha5]; exact eval_same (by rw [hn]; exact l5)
  have vp5 : a5.eval (.tmp p) = .pointer (some ⟨b2, 0, none⟩) := by rw [← ha5, eval_far n5, hqp]
  have df5 : a5.defers = [] := by rw [← ha5]; exact hd
  refine headI_run (v := .agg s1.cells.toArray) (by simpa using h0) (by simp [Region.wanted, hg0]) (fun w' _ => by unfold execOp; rw [ha5]; simp only [o0, v5]; go_simp) ?_
  rw [q0]
  have v7 : (a5.put (some d7) (.agg s1.cells.toArray)).eval (.tmp d5) = .tuple #[.agg s1.cells.toArray, v] := by rw [eval_far n75, v5]
  refine headI_run (v := v) (by simpa using h1) (by simp [Region.wanted, hg1]) (fun w' _ => by unfold execOp; rw [ha5]; simp only [o1, v7]; go_simp) ?_
  rw [q1]
  refine headI_nil ?_
  obtain ⟨a8, ha8⟩ : ∃ a8, (a5.put (some d7) (.agg s1.cells.toArray)).put (some d8) v = a8 := ⟨_, rfl⟩
  have evp : a8.eval (.tmp p) = .pointer (some ⟨b2, 0, none⟩) := by rw [← ha8, eval_far n8, eval_far n7, vp5]
  have ev7 : a8.eval (.tmp d7) = .agg s1.cells.toArray := by rw [← ha8, eval_far n87]; exact eval_same (by rw [z5]; exact l7)
  have ev8 : a8.eval (.tmp d8) = v := by rw [← ha8]; exact eval_same (by rw [size_put, z5]; exact l8)
  have z8 : a8.tmps.size = nt := by rw [← ha8, size_put, size_put, z5]
  have df8 : a8.defers = [] := by rw [← ha8]; exact df5
  rw [ha5, ha8]
  have c1 := (F.r.chg ((Chg.refl Non w).drew) (fun f => f)).chg k1 (fun f => f)
  refine held_one hy hr3 hg' (wp_store_mid 31 (.tmp p) (.tmp d7) oy b2 0 s1.cells.toArray evp ev7 (by rw [hlen]; exact c1.there0) (by rw [hlen]; exact row_R) (one_mem s1.one) ?_)
  rw [ydst]
  have d2 : Chg (fun j => j = b2) w (w1.setCells b2 0 s1.cells.toArray.toList) := Chg.setCells (S := fun j => j = b2) (.inl rfl) _ _ _ d1
  refine ⟨d2, held_one hz hr4 hg2 ?_⟩
  have e10 : (execOp a8.eval z).run Try.prog (w1.setCells b2 0 s1.cells.toArray.toList) = .ok (.value v) (w1.setCells b2 0 s1.cells.toArray.toList) := by
    unfold execOp
    simp only [oz, ev8, Sem.run_pure]
  unfold Oper.wp
  have e0' : ∀ x : Act, x.put none undef = x := fun _ => rfl
  rw [e0', e10, Oper.upon_value, zdst]
  refine ⟨d2, wpAnyH_done hr5 (NoPanic.normal (ha _ _ (wp_ret (hq _ _ ?_)))) _⟩
  have e1 : (a8.put (some dz) v).eval (.tmp p) = .pointer (some ⟨b2, 0, none⟩) := by rw [eval_far nz, evp]
  have e2 : (a8.put (some dz) v).eval (.tmp dz) = v := eval_same (by rw [z8]; exact lz)
  refine ret_didR hfn e1 e2 (c1.sets0 (L' := s1.cells.toArray.toList) (by rw [List.toList_toArray, ok1.len]; rfl)) ok1 df8 ?_
  rw [hres]
  have hn0 := F.n0
  have h01 := F.lt1
  have h12 := F.lt2
  refine ⟨F.k.trans d2 (fun j hj => .inr (by have : j = b2 := hj; omega)), ok1, v, rfl, ?_⟩
  refine Outs.mono (Outs.far oo (Chg.setCells (S := fun j => j = b2) (.inl rfl) _ _ _ (Chg.refl _ w1)) (fun j hj => ?_)) (Nat.le_trans F.k.size (Nat.le_refl _))
  have : j = b2 := hj
  have : w.drew.heap.size = w.heap.size := rfl
  omega
/-- A state is answered, and what a list says. -/
theorem ret_endR {fn : Func} {p u : Tmp} {a : Act} {W w w1 : World} {b0 b1 b2 : Nat} {tX : TypeId} {X : List Value} {s s1 : State} {v : Value} {l : List Out} {r : State × List Out} (hf : fn.results = #[.cell p 31, .tmp u]) (hp : a.tmps.getD p undef = .pointer (some ⟨b2, 0, none⟩)) (hu : a.tmps.getD u undef = v)
    (F : Fr 31 tX W b0 b1 b2 w s X) (hb : Hb w1 b2 31 s1.cells.toArray) (k : Chg (fun j => j = b2) w w1) (ok : s1.Ok) (hd : a.defers = []) (ho : l = [] ∧ v = .slice none 0 0 ∨ ∃ o g, l = [o] ∧ v = .slice (some ⟨g, 0, none⟩) 1 1 ∧ b2 < g ∧ Hb w g 51 o.cells.toArray ∧ o.Ok) (hr : r = (s1, l)) :
    bodyPost Try.prog fn (Did 51 W r) .ret a w1 := by
  have hn := F.n0
  have h1 := F.lt1
  have h2 := F.lt2
  refine ret_didR hf hp hu hb ok hd ?_
  rw [hr]
  refine ⟨F.k.trans k (fun j hj => .inr (by have : j = b2 := hj; omega)), ok, v, rfl, ?_⟩
  rcases ho with ⟨rfl, rfl⟩ | ⟨o, g, rfl, rfl, hg, hh, oko⟩
  · rfl
  · exact ⟨g, rfl, by omega, hh.chg k (by show ¬ (g = b2); omega), oko⟩
def votedM (s : State) (r : Int) (b : Hash) (may : Bool) : State × List Out := ({ s with step := 2 }, [⟨2, r, if may = true then b else zero, 0⟩])
set_option maxHeartbeats 1600000 in
theorem voted_any (w : World) (s : State) (ok : s.Ok) (r : Int) (b : Hash) (hb : b.length = 32) (may : Bool) : Calls Try.prog 22 #[.agg s.cells.toArray, .int .i64 r, .agg (bv b).toArray, .bool may] w (Did 51 w (votedM s r b may)) := by
  have ok2 : ({ s with step := 2 } : State).Ok := ⟨ok.l, ok.v, ok.b⟩
  cases may with
  | true =>
    go_enter Try.func22, Try.ntmps22
    go_wp2_with (first
      | (with_reducible refine wpList_box_row rfl _ _ rfl (cs := s.cells.toArray) rfl ?_; intro w1 hw1)
      | (with_reducible refine wpList_box_row rfl _ _ rfl (cs := (bv b).toArray) rfl ?_; intro w2 hw2)
      | (with_reducible refine wpList_alloc_named rfl _ rfl s0.cells z_R ?_; intro w3 hw3; have F := Lib.hid (pro hw1.out hw2.out hw3.out); clear hw1 hw2 hw3; have c1 := sb1 F.out.s; have f1 := F.out.s.frozen 1))
    have F4 := F.out.put (ss1 F.out.s 2)
    rename_i ha
    refine wp_region_lexH 3 3 #[true, true, true, false, false, false] (by kernel_rfl) (by kernel_rfl) (by kernel_rfl) (by kernel_rfl) (by kernel_rfl) (fun w' => Chg (fun j => j = w2.heap.size) (w3.setCell ⟨w.heap.size, 1, none⟩ (.int .i64 2)) w') ((Chg.refl _ _).drew) ?_
    refine head_load rfl _ _ rfl w.heap.size 0 rfl ({ s with step := 2 } : State).cells _ (fun w' k => (F4.held k).1.range0) Try.underlying31 rfl (rowR ok2) ?_
    simp only [Act.put, List.setIfInBounds_toArray, List.set_cons_zero, List.set_cons_succ]
    refine head_run rfl (fun w' k => by go_simp; rfl) ?_
    simp only [Act.put, List.setIfInBounds_toArray, List.set_cons_zero, List.set_cons_succ]
    refine head_load rfl _ _ rfl w1.heap.size 0 rfl (bv b) _ (fun w' k => (F4.held k).2.range0) Try.underlying23 rfl (rowH hb) ?_
    simp only [Act.put, List.setIfInBounds_toArray, List.set_cons_zero, List.set_cons_succ]
    refine head_nil ?_
    exact one_end (n := 3) (nt := 18) (k := 2) (r := r) (v := 0) (h := b) (s := { s with step := 2 }) F4 ok2 hb rfl rfl ha (fun a w h => h) rfl rfl rfl rfl rfl rfl (by kernel_rfl) (by kernel_rfl) (by kernel_rfl) (by kernel_rfl) rfl rfl rfl rfl rfl rfl rfl rfl (by decide) (by decide) rfl rfl rfl
  | false =>
    go_enter Try.func22, Try.ntmps22
    go_wp2_with (first
      | (with_reducible refine wpList_box_row rfl _ _ rfl (cs := s.cells.toArray) rfl ?_; intro w1 hw1)
      | (with_reducible refine wpList_box_row rfl _ _ rfl (cs := (bv b).toArray) rfl ?_; intro w2 hw2)
      | (with_reducible refine wpList_alloc_named rfl _ rfl s0.cells z_R ?_; intro w3 hw3; have F := Lib.hid (pro hw1.out hw2.out hw3.out); clear hw1 hw2 hw3; have c1 := sb1 F.out.s; have f1 := F.out.s.frozen 1; have F4 := Lib.hid (F.out.put (ss1 F.out.s 2)))
      | (with_reducible refine wpList_build_zero rfl 23 rfl built_zero ?_)
      | ((with_reducible refine wpList_store_R rfl 23 _ _ rfl w1.heap.size (bv zero) (bv b) 32 rfl rfl F4.out.x rfl (by rw [bv_length, hb]) hash_row (bv_one _) ?_); go_loud (intro w5 h5 k5; have F5 := Lib.hid (Fr.mk (F4.out.s.chg k5 (by have := F4.out.lt1; show ¬ (w.heap.size = w1.heap.size); omega)) h5 (F4.out.r.chg k5 (by have := F4.out.lt2; show ¬ (w2.heap.size = w1.heap.size); omega)) (F4.out.k.trans k5 (fun j hj => .inr (by have : j = w1.heap.size := hj; have := F4.out.lt1; have := F4.out.n0; omega))) F4.out.n0 F4.out.lt1 F4.out.lt2))))
    rename_i ha
    refine wp_region_lexH 3 3 #[true, true, true, false, false, false] (by kernel_rfl) (by kernel_rfl) (by kernel_rfl) (by kernel_rfl) (by kernel_rfl) (fun w' => Chg (fun j => j = w2.heap.size) w5 w') ((Chg.refl _ _).drew) ?_
    refine head_load rfl _ _ rfl w.heap.size 0 rfl ({ s with step := 2 } : State).cells _ (fun w' k => (F5.out.held k).1.range0) Try.underlying31 rfl (rowR ok2) ?_
    simp only [Act.put, List.setIfInBounds_toArray, List.set_cons_zero, List.set_cons_succ]
    refine head_run rfl (fun w' k => by go_simp; rfl) ?_
    simp only [Act.put, List.setIfInBounds_toArray, List.set_cons_zero, List.set_cons_succ]
    refine head_load rfl _ _ rfl w1.heap.size 0 rfl (bv zero) _ (fun w' k => (F5.out.held k).2.range0) Try.underlying23 rfl (rowH zero_length) ?_
    simp only [Act.put, List.setIfInBounds_toArray, List.set_cons_zero, List.set_cons_succ]
    refine head_nil ?_
    exact one_end (n := 3) (nt := 18) (k := 2) (r := r) (v := 0) (h := zero) (s := { s with step := 2 }) F5.out ok2 zero_length rfl rfl ha (fun a w h => h) rfl rfl rfl rfl rfl rfl (by kernel_rfl) (by kernel_rfl) (by kernel_rfl) (by kernel_rfl) rfl rfl rfl rfl rfl rfl rfl rfl (by decide) (by decide) rfl rfl rfl
end Go.Proofs.Ytdejfamcmebdiaa
