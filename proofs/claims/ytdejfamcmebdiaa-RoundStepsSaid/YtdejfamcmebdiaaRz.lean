/- The law's question whether two lists of outputs are one; regions of several calls; two states of the document's held against each other. -/
import Derived.Test.YtdejfamcmebdiaaRy
namespace Go.Proofs.Ytdejfamcmebdiaa
open Go.RowKit mach
set_option linter.unusedVariables false
set_option linter.unusedSimpArgs false
set_option maxRecDepth 20000

set_option maxHeartbeats 3200000 in
theorem said_any (w : World) (n m : Nat) (v u : Value) (l : List Out) (h1 : Outs 45 w n v l) (h2 : Outs 51 w m u l) : Calls Try.prog 13 #[v, u] w (Asks w true) := by
  match l, h1, h2 with
  | [], h1, h2 =>
    obtain rfl : v = .slice none 0 0 := h1
    obtain rfl : u = .slice none 0 0 := h2
    go_enter Try.func13, Try.ntmps13
    go_wp2_with fail
    go_loopw [5] (fun i wr => i = .int .i64 0 ∧ wr = w) (fun _ _ => 0)
    case atStart => exact ⟨rfl, rfl⟩
    case round =>
      obtain ⟨rfl, rfl⟩ := hrel
      go_wp2
      go_ret
      exact ⟨by first | rfl | simp, Chg.refl _ _⟩
  | [o], ⟨g, e1, _, hh1, ok⟩, ⟨g', e2, _, hh2, _⟩ =>
    subst e1
    subst e2
    have H1 := Lib.hid hh1
    have H2 := Lib.hid hh2
    clear hh1 hh2
    go_enter Try.func13, Try.ntmps13
    go_wp2_with fail
    go_loopw [5] (fun i wr => ∃ j : Nat, (j = 0 ∨ j = 1) ∧ i = .int .i64 (j : Int) ∧ Hid (Chg Non w wr)) (fun i _ => 1 - (intOf i).toNat)
    case atStart => exact ⟨0, .inl rfl, rfl, Lib.hid (Chg.refl _ _)⟩
    case round =>
      obtain ⟨j, hj, rfl, KC⟩ := hrel
      rcases hj with rfl | rfl
      · have G1 := Lib.hid (H1.out.chg KC.out (fun f => f))
        have G2 := Lib.hid (H2.out.chg KC.out (fun f => f))
        have a0 : wr.drew.cell? ⟨g, 0, none⟩ = some (.int .i64 o.kind) := ob0 G1.out.range0
        have a1 : wr.drew.cell? ⟨g, 1, none⟩ = some (.int .i64 o.round) := ob1 G1.out.range0
        have a34 : wr.drew.cell? ⟨g, 34, none⟩ = some (.int .i64 o.valid) := ob34 G1.out.range0 ok
        have b0 : wr.drew.cell? ⟨g', 0, none⟩ = some (.int .i64 o.kind) := ob0 G2.out.range0
        have b1 : wr.drew.cell? ⟨g', 1, none⟩ = some (.int .i64 o.round) := ob1 G2.out.range0
        have b34 : wr.drew.cell? ⟨g', 34, none⟩ = some (.int .i64 o.valid) := ob34 G2.out.range0 ok
        have r2 : wr.drew.rangeAt g 2 (bv o.block) := ob2 G1.out.range0
        have q2 : wr.drew.rangeAt g' 2 (bv o.block) := ob2 G2.out.range0
        go_wp2_with fail
        rename_i ha
        refine wp_region_lexH 50 0 #[true, true, true, true, true, true, true, true, true, true, true, true, true, true, true, true, true, true, true, true, true, true, true, true, true, true, true, true, true, true, true, true, true, true, true, true, true, true, true, true, true, true, true, true, true, true, true, true, true, true] (by kernel_rfl) (by kernel_rfl) (by kernel_rfl) (by kernel_rfl) (by kernel_rfl) (fun w' => w' = wr.drew) rfl ?_
        refine head_run rfl (fun w' kk => by subst kk; go_simp; rfl) ?_
        simp only [Act.put, List.setIfInBounds_toArray, List.set_cons_zero, List.set_cons_succ]
        refine head_run rfl (fun w' kk => by subst kk; go_simp; rfl) ?_
        simp only [Act.put, List.setIfInBounds_toArray, List.set_cons_zero, List.set_cons_succ]
        refine head_run rfl (fun w' kk => by subst kk; go_simp; rfl) ?_
        simp only [Act.put, List.setIfInBounds_toArray, List.set_cons_zero, List.set_cons_succ]
        refine head_run rfl (fun w' kk => by subst kk; go_simp; rfl) ?_
        simp only [Act.put, List.setIfInBounds_toArray, List.set_cons_zero, List.set_cons_succ]
        refine head_run rfl (fun w' kk => by subst kk; go_simp; rfl) ?_
        simp only [Act.put, List.setIfInBounds_toArray, List.set_cons_zero, List.set_cons_succ]
        refine head_run rfl (fun w' kk => by subst kk; go_simp; rfl) ?_
        simp only [Act.put, List.setIfInBounds_toArray, List.set_cons_zero, List.set_cons_succ]
        refine head_run rfl (fun w' kk => by subst kk; go_simp; rfl) ?_
        simp only [Act.put, List.setIfInBounds_toArray, List.set_cons_zero, List.set_cons_succ]
        refine head_run rfl (fun w' kk => by subst kk; go_simp; rfl) ?_
        simp only [Act.put, List.setIfInBounds_toArray, List.set_cons_zero, List.set_cons_succ]
        refine head_run rfl (fun w' kk => by subst kk; go_simp; rfl) ?_
        simp only [Act.put, List.setIfInBounds_toArray, List.set_cons_zero, List.set_cons_succ]
        refine head_run rfl (fun w' kk => by subst kk; go_simp; rfl) ?_
        simp only [Act.put, List.setIfInBounds_toArray, List.set_cons_zero, List.set_cons_succ]
        refine head_run rfl (fun w' kk => by subst kk; go_simp; rfl) ?_
        simp only [Act.put, List.setIfInBounds_toArray, List.set_cons_zero, List.set_cons_succ]
        refine head_run rfl (fun w' kk => by subst kk; go_simp; rfl) ?_
        simp only [Act.put, List.setIfInBounds_toArray, List.set_cons_zero, List.set_cons_succ]
        refine head_run rfl (fun w' kk => by subst kk; go_simp; rfl) ?_
        simp only [Act.put, List.setIfInBounds_toArray, List.set_cons_zero, List.set_cons_succ]
        refine head_run rfl (fun w' kk => by subst kk; go_simp; rfl) ?_
        simp only [Act.put, List.setIfInBounds_toArray, List.set_cons_zero, List.set_cons_succ]
        refine head_run rfl (fun w' kk => by subst kk; go_simp; rfl) ?_
        simp only [Act.put, List.setIfInBounds_toArray, List.set_cons_zero, List.set_cons_succ]
        refine head_run rfl (fun w' kk => by subst kk; go_simp; rfl) ?_
        simp only [Act.put, List.setIfInBounds_toArray, List.set_cons_zero, List.set_cons_succ]
        refine head_run rfl (fun w' kk => by subst kk; go_simp; rfl) ?_
        simp only [Act.put, List.setIfInBounds_toArray, List.set_cons_zero, List.set_cons_succ]
        refine head_run rfl (fun w' kk => by subst kk; go_simp; rfl) ?_
        simp only [Act.put, List.setIfInBounds_toArray, List.set_cons_zero, List.set_cons_succ]
        refine head_run rfl (fun w' kk => by subst kk; go_simp; rfl) ?_
        simp only [Act.put, List.setIfInBounds_toArray, List.set_cons_zero, List.set_cons_succ]
        refine head_run rfl (fun w' kk => by subst kk; go_simp; rfl) ?_
        simp only [Act.put, List.setIfInBounds_toArray, List.set_cons_zero, List.set_cons_succ]
        refine head_run rfl (fun w' kk => by subst kk; go_simp; rfl) ?_
        simp only [Act.put, List.setIfInBounds_toArray, List.set_cons_zero, List.set_cons_succ]
        refine head_run rfl (fun w' kk => by subst kk; go_simp; rfl) ?_
        simp only [Act.put, List.setIfInBounds_toArray, List.set_cons_zero, List.set_cons_succ]
        refine head_run rfl (fun w' kk => by subst kk; go_simp; rfl) ?_
        simp only [Act.put, List.setIfInBounds_toArray, List.set_cons_zero, List.set_cons_succ]
        refine head_run rfl (fun w' kk => by subst kk; go_simp; rfl) ?_
        simp only [Act.put, List.setIfInBounds_toArray, List.set_cons_zero, List.set_cons_succ]
        refine head_run rfl (fun w' kk => by subst kk; go_simp; rfl) ?_
        simp only [Act.put, List.setIfInBounds_toArray, List.set_cons_zero, List.set_cons_succ]
        refine head_run rfl (fun w' kk => by subst kk; go_simp; rfl) ?_
        simp only [Act.put, List.setIfInBounds_toArray, List.set_cons_zero, List.set_cons_succ]
        refine head_run rfl (fun w' kk => by subst kk; go_simp; rfl) ?_
        simp only [Act.put, List.setIfInBounds_toArray, List.set_cons_zero, List.set_cons_succ]
        refine head_run rfl (fun w' kk => by subst kk; go_simp; rfl) ?_
        simp only [Act.put, List.setIfInBounds_toArray, List.set_cons_zero, List.set_cons_succ]
        refine head_run rfl (fun w' kk => by subst kk; go_simp; rfl) ?_
        simp only [Act.put, List.setIfInBounds_toArray, List.set_cons_zero, List.set_cons_succ]
        refine head_load rfl _ _ rfl g 2 rfl (bv o.block) _ (fun w' kk => by subst kk; exact r2) Try.underlying23 rfl (rowH ok.b) ?_
        simp only [Act.put, List.setIfInBounds_toArray, List.set_cons_zero, List.set_cons_succ]
        refine head_run rfl (fun w' kk => by subst kk; go_simp; rfl) ?_
        simp only [Act.put, List.setIfInBounds_toArray, List.set_cons_zero, List.set_cons_succ]
        refine head_run rfl (fun w' kk => by subst kk; go_simp; rfl) ?_
        simp only [Act.put, List.setIfInBounds_toArray, List.set_cons_zero, List.set_cons_succ]
        refine head_run rfl (fun w' kk => by subst kk; go_simp; rfl) ?_
        simp only [Act.put, List.setIfInBounds_toArray, List.set_cons_zero, List.set_cons_succ]
        refine head_run rfl (fun w' kk => by subst kk; go_simp; rfl) ?_
        simp only [Act.put, List.setIfInBounds_toArray, List.set_cons_zero, List.set_cons_succ]
        refine head_load rfl _ _ rfl g' 2 rfl (bv o.block) _ (fun w' kk => by subst kk; exact q2) Try.underlying23 rfl (rowH ok.b) ?_
        simp only [Act.put, List.setIfInBounds_toArray, List.set_cons_zero, List.set_cons_succ]
        refine head_neqH rfl _ _ _ rfl o.block o.block rfl rfl ok.b ok.b (b := true) (by simp) ?_
        simp only [Act.put, List.setIfInBounds_toArray, List.set_cons_zero, List.set_cons_succ]
        refine head_run rfl (fun w' kk => by subst kk; go_simp; rfl) ?_
        simp only [Act.put, List.setIfInBounds_toArray, List.set_cons_zero, List.set_cons_succ]
        refine head_run rfl (fun w' kk => by subst kk; go_simp; rfl) ?_
        simp only [Act.put, List.setIfInBounds_toArray, List.set_cons_zero, List.set_cons_succ]
        refine head_run rfl (fun w' kk => by subst kk; go_simp; rfl) ?_
        simp only [Act.put, List.setIfInBounds_toArray, List.set_cons_zero, List.set_cons_succ]
        refine head_run rfl (fun w' kk => by subst kk; go_simp; rfl) ?_
        simp only [Act.put, List.setIfInBounds_toArray, List.set_cons_zero, List.set_cons_succ]
        refine head_run rfl (fun w' kk => by subst kk; go_simp; rfl) ?_
        simp only [Act.put, List.setIfInBounds_toArray, List.set_cons_zero, List.set_cons_succ]
        refine head_run rfl (fun w' kk => by subst kk; go_simp; rfl) ?_
        simp only [Act.put, List.setIfInBounds_toArray, List.set_cons_zero, List.set_cons_succ]
        refine head_run rfl (fun w' kk => by subst kk; go_simp; rfl) ?_
        simp only [Act.put, List.setIfInBounds_toArray, List.set_cons_zero, List.set_cons_succ]
        refine head_run rfl (fun w' kk => by subst kk; go_simp; rfl) ?_
        simp only [Act.put, List.setIfInBounds_toArray, List.set_cons_zero, List.set_cons_succ]
        refine head_run rfl (fun w' kk => by subst kk; go_simp; rfl) ?_
        simp only [Act.put, List.setIfInBounds_toArray, List.set_cons_zero, List.set_cons_succ]
        refine head_run rfl (fun w' kk => by subst kk; go_simp; rfl) ?_
        simp only [Act.put, List.setIfInBounds_toArray, List.set_cons_zero, List.set_cons_succ]
        refine head_run rfl (fun w' kk => by subst kk; go_simp; rfl) ?_
        simp only [Act.put, List.setIfInBounds_toArray, List.set_cons_zero, List.set_cons_succ]
        refine head_run rfl (fun w' kk => by subst kk; go_simp; rfl) ?_
        simp only [Act.put, List.setIfInBounds_toArray, List.set_cons_zero, List.set_cons_succ]
        refine head_run rfl (fun w' kk => by subst kk; go_simp; rfl) ?_
        simp only [Act.put, List.setIfInBounds_toArray, List.set_cons_zero, List.set_cons_succ]
        refine head_run rfl (fun w' kk => by subst kk; go_simp; rfl) ?_
        simp only [Act.put, List.setIfInBounds_toArray, List.set_cons_zero, List.set_cons_succ]
        refine head_nil ?_
        refine wpAnyH_done (by kernel_rfl) ?_ _
        refine ha _ _ ?_
        go_wp2_with fail
        go_roundw
        case rel => exact ⟨1, .inr rfl, by go_num, Lib.hid (KC.out.drew)⟩
        case measure => simp [intOf]
      · go_wp2
        go_ret
        exact ⟨by first | rfl | simp, KC.out⟩

section
variable {P : Program} {ops : Array Oper} {Q : Exit → Act → World → Prop} {md : Region.Mode} {S : World → Prop}
theorem held_w {n fuel : Nat} {x : Oper} {L L' : Array Bool} {a : Act} {w : World} (hx : ops.toList[n]? = some x) (hr : Region.ready md ops L = [n]) (hw : Region.wanted x (yielded ops a.tmps) = true) (hL : L.setIfInBounds n true = L')
    (h : x.wp P a w (fun a' w' => S w' ∧ wpAnyH P md ops Q S fuel L' a' w') Q) : wpAnyH P md ops Q S (fuel + 1) L a w := by
  refine wpAnyH_all hr (by simp) fun i hi => ?_
  have hi' : i = n := by simpa using hi
  subst hi'
  have hx' : ops[i]? = some x := by simpa using hx
  unfold wpOp
  simp only [hx']
  rw [if_pos hw, hL]
  exact .inl h
theorem held_w2 {n m fuel : Nat} {x y : Oper} {L L1 L2 : Array Bool} {a : Act} {w : World} (hx : ops.toList[n]? = some x) (hy : ops.toList[m]? = some y) (hr : Region.ready md ops L = [n, m]) (hw : Region.wanted x (yielded ops a.tmps) = true) (hw' : Region.wanted y (yielded ops a.tmps) = true) (hL : L.setIfInBounds n true = L1) (hL' : L.setIfInBounds m true = L2)
    (h : x.wp P a w (fun a' w' => S w' ∧ wpAnyH P md ops Q S fuel L1 a' w') Q) (h' : y.wp P a w (fun a' w' => S w' ∧ wpAnyH P md ops Q S fuel L2 a' w') Q) : wpAnyH P md ops Q S (fuel + 1) L a w := by
  refine wpAnyH_all hr (by simp) fun i hi => ?_
  simp only [List.mem_cons, List.not_mem_nil, or_false] at hi
  have hx' : ops[n]? = some x := by simpa using hx
  have hy' : ops[m]? = some y := by simpa using hy
  unfold wpOp
  rcases hi with rfl | rfl
  · simp only [hx']
    rw [if_pos hw, hL]
    exact .inl h
  · simp only [hy']
    rw [if_pos hw', hL']
    exact .inl h'
theorem wp_alloc {o : Oper} {a : Act} {w : World} {K : Act → World → Prop} (ty : TypeId) (ho : o.op = .alloc ty) (z : List Value) (hz : (Instr.alloc ty true (.tuple #[])).run P w = .ok (.pointer (some ⟨w.heap.size, 0, none⟩)) (w.alloc (.cells z.toArray ty)))
    (h : K (a.put o.dst (.pointer (some ⟨w.heap.size, 0, none⟩))) (w.alloc (.cells z.toArray ty))) : o.wp P a w K Q := by
  unfold Oper.wp execOp
  simp only [ho, Sem.run_bind, Sem.run_pure, Result.andThen_ok, hz]
  exact h
theorem headI_build {o : Oper} {j : Nat} {is : List Nat} {a : Act} {K : Act → Prop} (hk : ops.toList[j]? = some o) (hw : Region.wanted o (yielded ops a.tmps) = true) (ty : TypeId) (parts : Array (Nat × Operand)) (ho : o.op = .build ty parts)
    (vs : List (Nat × Value)) (hx : (parts.toList.map fun (i, x) => (i, a.eval x)) = vs) {cs : Array Value} (hb : P.built ty vs = some cs) (h : HeadI P ops S is (a.put o.dst (.agg cs)) K) : HeadI P ops S (j :: is) a K := by
  refine headI_run (v := .agg cs) hk hw (fun w _ => ?_) h
  have hr := run_build (P := P) w ty (parts.map fun (i, x) => (i, a.eval x)) cs (by rw [Array.toList_map, hx]; exact hb)
  unfold execOp
  simp only [ho, Sem.run_bind, Sem.run_pure, hr, Result.andThen_ok]
end
theorem guard_R : Try.prog.eqGuardType Try.prog.depth 31 = false := by kernel_rfl
theorem run_eq_R (w : World) (s : State) (ok : s.Ok) : (Op.equalIn 10000 31 (.agg s.cells.toArray) (.agg s.cells.toArray)).run Try.prog w = .ok true w :=
  eqState w 9997 s ok _ rfl (by kernel_rfl) (fun w xs ys => run_equalIn_struct w 9999 31 xs ys (by kernel_rfl) (by kernel_rfl))
theorem headI_eqR {ops : Array Oper} {S : World → Prop} {o : Oper} {j : Nat} {is : List Nat} {a : Act} {K : Act → Prop} (hk : ops.toList[j]? = some o) (hw : Region.wanted o (yielded ops a.tmps) = true) (x y : Operand) (u : TypeId) (ho : o.op = .binOp .eql 31 x y u)
    (s : State) (ok : s.Ok) (hx : a.eval x = .agg s.cells.toArray) (hy : a.eval y = .agg s.cells.toArray) (h : HeadI Try.prog ops S is (a.put o.dst (.bool true)) K) : HeadI Try.prog ops S (j :: is) a K := by
  refine headI_run (v := .bool true) hk hw (fun w _ => ?_) h
  unfold execOp
  simp only [ho, hx, hy, Sem.run_bind, run_eqGuard_agg w .eql 31 x y _ _ guard_R, Result.andThen_ok, run_eql_struct, run_eq_R w s ok, Sem.run_pure]
theorem ent_told (args : Array Value) (w : World) : (callFunc 12 args).run Try.prog w = .ok (.enter 12 args) w := enters_of Try.func12 (by kernel_rfl) rfl args w
theorem ent_rStep (args : Array Value) (w : World) : (callFunc 11 args).run Try.prog w = .ok (.enter 11 args) w := enters_of Try.func11 (by kernel_rfl) rfl args w
theorem ent_alive (args : Array Value) (w : World) : (callFunc 14 args).run Try.prog w = .ok (.enter 14 args) w := enters_of Try.func14 (by kernel_rfl) rfl args w
theorem ent_New (args : Array Value) (w : World) : (callFunc 15 args).run Try.prog w = .ok (.enter 15 args) w := enters_of Try.func15 (by kernel_rfl) rfl args w
theorem ent_rNew (args : Array Value) (w : World) : (callFunc 16 args).run Try.prog w = .ok (.enter 16 args) w := enters_of Try.func16 (by kernel_rfl) rfl args w
end Go.Proofs.Ytdejfamcmebdiaa
