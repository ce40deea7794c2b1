/- The region 's, out = round.Step(s, l[i])': its reads first, then the state, the call, what comes of it. -/
import Derived.Shelf.Abstract
import Derived.Test.YtdejfamcmebdiaaRf
namespace Go.Proofs.Ytdejfamcmebdiaa
open Go.RowKit mach
set_option linter.unusedVariables false
set_option linter.unusedSimpArgs false
set_option maxRecDepth 20000

section
variable {P : Program} {ops : Array Oper} {Q : Exit → Act → World → Prop} {md : Region.Mode} {S : World → Prop}
/-- Operations that yield, in an order of one's own. -/
def HeadI (P : Program) (ops : Array Oper) (S : World → Prop) : List Nat → Act → (Act → Prop) → Prop
  | [], a, K => K a
  | k :: is, a, K => ∃ o, ops[k]? = some o ∧ ∃ v, YieldsIf P ops S o v a ∧ HeadI P ops S is (a.put o.dst v) K
def lexI (md : Region.Mode) (ops : Array Oper) : List Nat → Array Bool → Bool
  | [], _ => true
  | k :: is, listed => (Region.ready md ops listed).contains k && Region.free md ops listed k && lexI md ops is (listed.setIfInBounds k true)
def listedI : List Nat → Array Bool → Array Bool
  | [], l => l
  | k :: is, l => listedI is (l.setIfInBounds k true)
theorem heads {g : Nat} {L' : Array Bool} (hs : Region.noSelect ops = true) (hQ : ∀ c a d v w, Q (.panic c) (a.put d v) w → Q (.panic c) a w) : ∀ (is : List Nat) (L : Array Bool) (a : Act) (w : World),
    lexI md ops is L = true → listedI is L = L' → S w → HeadI P ops S is a (fun a' => wpAnyH P md ops Q S g L' a' w) → wpAnyH P md ops Q S (is.length + g) L a w
  | [], L, a, w, _, hL, _, h => by
    rw [List.length_nil, Nat.zero_add]
    have : L = L' := hL
    rw [this]
    exact h
  | k :: is, L, a, w, hB, hL, hS, h => by
    simp only [lexI, Bool.and_eq_true] at hB
    obtain ⟨⟨hr, hf⟩, hB'⟩ := hB
    obtain ⟨o, h0, v, hy, hK⟩ := h
    rw [List.length_cons, show is.length + 1 + g = (is.length + g) + 1 by omega]
    exact wpAnyH_take h0 hs hf hr (fun c a w => hQ c a _ v w) hy hS (heads hs hQ is _ _ w hB' hL hS hK)
theorem headI_run {o : Oper} {k : Nat} {is : List Nat} {a : Act} {K : Act → Prop} {v : Value} (hk : ops.toList[k]? = some o) (hw : Region.wanted o (yielded ops a.tmps) = true) (hr : ∀ w, S w → (execOp a.eval o).run P w = .ok (.value v) w) (h : HeadI P ops S is (a.put o.dst v) K) : HeadI P ops S (k :: is) a K := ⟨o, by simpa using hk, v, .inl ⟨hw, hr⟩, h⟩
theorem headI_load {o : Oper} {k : Nat} {is : List Nat} {a : Act} {K : Act → Prop} (hk : ops.toList[k]? = some o) (hw : Region.wanted o (yielded ops a.tmps) = true) (ty : TypeId) (x : Operand) (ho : o.op = .load ty x)
    (b off : Nat) (hx : a.eval x = .pointer (some ⟨b, off, none⟩)) (cs : List Value) (d : TypeDesc) (hS : ∀ w, S w → w.rangeAt b off cs)
    (hu : P.underlying ty = some d) (hd : d.isRow = true) (hi : (P.info? ty).map (·.size) = some cs.length) (h : HeadI P ops S is (a.put o.dst (.agg cs.toArray)) K) : HeadI P ops S (k :: is) a K :=
  ⟨o, by simpa using hk, _, yieldsIf_load_mid hw ty x ho b off hx cs d hS hu hd hi, h⟩
theorem headI_nil {a : Act} {K : Act → Prop} (h : K a) : HeadI P ops S [] a K := h
/-- The beginning. -/
theorem wp_region_heads {id : Nat} {a : Act} {w : World} {l : List Oper} (is : List Nat) (g : Nat) (L : Array Bool) (hm : P.follows .mixedOrders = true) (hs : Region.noSelect l.toArray = true) (hB : lexI .any l.toArray is (Array.replicate l.toArray.size false) = true) (hn : decide (l.length = is.length + g) = true)
    (hL : listedI is (Array.replicate l.toArray.size false) = L) (S : World → Prop) (hS : S w.drew)
    (h : HeadI P l.toArray S is a (fun a' => wpAnyH P .any l.toArray (NoPanic Q) S g L a' w.drew)) : (Code.region id l.toArray true).wp P Q a w := by
  have hn' : l.length = is.length + g := of_decide_eq_true hn
  refine wp_region_noPanic (wp_region_held (S := S) hm ?_)
  have := heads (md := .any) (Q := NoPanic Q) (g := g) hs (fun _ _ _ _ _ h => h) is (Array.replicate l.toArray.size false) a w.drew hB hL hS h
  rw [← hn'] at this
  rw [List.size_toArray] at this ⊢
  exact this
theorem wp_call {o : Oper} {a : Act} {w : World} {K : Act → World → Prop} (f : FuncId) (xs : Array Operand) (ts : Array TypeId)
    (ho : o.op = .call { callee := .value (.func f), args := xs, argTypes := ts }) {vl : List Value} (hx : xs.toList.map a.eval = vl) (he : ∀ args w, (callFunc f args).run P w = .ok (.enter f args) w)
    {post : Ending → World → Prop} (H : Calls P f vl.toArray w post) (h : ∀ e w', post e w' → ∃ r, e = .returned r ∧ K (a.put o.dst r) w') : o.wp P a w K Q := by
  have hx : xs.map a.eval = vl.toArray := Array.ext' (by rw [Array.toList_map]; exact hx)
  unfold Oper.wp execOp
  simp only [ho, resolve, invoke, Sem.run_bind, Sem.run_pure, Result.andThen_ok, hx]
  have hf : a.eval (Operand.func f) = .func (.func f) #[] #[] := rfl
  simp only [hf, Deferred.ofValue, Sem.run_pure, Result.andThen_ok, Array.append_empty, he]
  simp [Oper.upon, he]
  refine H.mono fun e w' hp => ?_
  obtain ⟨r, rfl, hk⟩ := h e w' hp
  exact hk
end
theorem ent_Step (args : Array Value) (w : World) : (callFunc 10 args).run Try.prog w = .ok (.enter 10 args) w := enters_of Try.func10 (by kernel_rfl) rfl args w

theorem eval_same {a : Act} {d : Tmp} {v : Value} (h : d < a.tmps.size) : (a.put (some d) v).eval (.tmp d) = v := by
  show (a.tmps.setIfInBounds d v).getD d undef = v
  simp [Array.getD, h]
theorem eval_far {a : Act} {d d' : Tmp} {v : Value} (h : d' ≠ d) : (a.put (some d') v).eval (.tmp d) = a.eval (.tmp d) := by
  show (a.tmps.setIfInBounds d' v).getD d undef = a.tmps.getD d undef
  rw [Array.getD_eq_getD_getElem?, Array.getD_eq_getD_getElem?, Array.getElem?_setIfInBounds_ne h]
theorem size_put {a : Act} {d : Tmp} {v : Value} : (a.put (some d) v).tmps.size = a.tmps.size := by
  show (a.tmps.setIfInBounds d v).size = a.tmps.size
  simp
/-- The tail of the region: the state is read, the machine asked, its answer stored. -/
theorem step_tail {ops : Array Oper} {Q : Exit → Act → World → Prop} {L : Array Bool} {a : Act} {w : World} {o0 o5 o6 o7 o8 o9 o10 : Oper} {d0 d4 d5 d6 d7 d8 d10 dp : Tmp} {b : Nat} {s : State} {i : In} {ts : Array TypeId}
    (h0 : ops[0]? = some o0) (h5 : ops[5]? = some o5) (h6 : ops[6]? = some o6) (h7 : ops[7]? = some o7) (h8 : ops[8]? = some o8) (h9 : ops[9]? = some o9) (h10 : ops[10]? = some o10)
    (g0 : o0.guard = none) (g5 : o5.guard = none) (g6 : o6.guard = none) (g7 : o7.guard = none) (g8 : o8.guard = none) (g9 : o9.guard = none) (g10 : o10.guard = none)
    (hs : Region.noSelect ops = true)
    (r0 : Region.ready .any ops L = [0]) (r5 : Region.ready .any ops (L.setIfInBounds 0 true) = [5])
    (hB : lexI .any ops [6, 7, 8] ((L.setIfInBounds 0 true).setIfInBounds 5 true) = true)
    (r9 : Region.ready .any ops (listedI [6, 7, 8] ((L.setIfInBounds 0 true).setIfInBounds 5 true)) = [9])
    (r10 : Region.ready .any ops ((listedI [6, 7, 8] ((L.setIfInBounds 0 true).setIfInBounds 5 true)).setIfInBounds 9 true) = [10])
    (r11 : Region.ready .any ops (((listedI [6, 7, 8] ((L.setIfInBounds 0 true).setIfInBounds 5 true)).setIfInBounds 9 true).setIfInBounds 10 true) = [])
    (p0 : o0.op = .load 25 (.tmp dp)) (q0 : o0.dst = some d0)
    (p5 : o5.op = .call { callee := .value (.func 10), args := #[.tmp d0, .tmp d4], argTypes := ts }) (q5 : o5.dst = some d5)
    (p6 : o6.op = .move (.tmp d5)) (q6 : o6.dst = some d6) (p7 : o7.op = .extract (.tmp d6) 0) (q7 : o7.dst = some d7) (p8 : o8.op = .extract (.tmp d6) 1) (q8 : o8.dst = some d8)
    (p9 : o9.op = .store 25 (.tmp dp) (.tmp d7)) (q9 : o9.dst = none) (p10 : o10.op = .assign (.tmp d8)) (q10 : o10.dst = some d10)
    {n : Nat} (hn : a.tmps.size = n) (hlt : decide (d0 < n ∧ d5 < n ∧ d6 < n ∧ d7 < n ∧ d8 < n) = true) (hne : decide (d0 ≠ d4 ∧ d0 ≠ dp ∧ d5 ≠ dp ∧ d6 ≠ dp ∧ d7 ≠ dp ∧ d8 ≠ dp ∧ d7 ≠ d6 ∧ d8 ≠ d7) = true)
    (e0 : a.eval (.tmp dp) = .pointer (some ⟨b, 0, none⟩)) (e4 : a.eval (.tmp d4) = .agg i.cells.toArray)
    (hb : Hb w b 25 s.cells.toArray) (ok : s.Ok) (oi : i.Ok)
    (h : ∀ w' s1 v l1, stepM s i = (s1, l1) → Chg (fun j => j = b) w w' → s1.Ok → Hb w' b 25 s1.cells.toArray → Outs 45 w' w.heap.size v l1 →
      Q .normal ((((((a.put (some d0) (.agg s.cells.toArray)).put (some d5) (.tuple #[.agg s1.cells.toArray, v])).put (some d6) (.tuple #[.agg s1.cells.toArray, v])).put (some d7) (.agg s1.cells.toArray)).put (some d8) v).put (some d10) v) w') :
    wpAnyH Try.prog .any ops (NoPanic Q) (fun w' => Chg (fun j => j = b) w w') 7 L a w := by
  obtain ⟨l0, l5, l6, l7, l8⟩ := of_decide_eq_true hlt
  obtain ⟨n04, n0, n5, n6, n7, n8, n76, n87⟩ := of_decide_eq_true hne
  refine held_one h0 r0 g0 (wp_load_mid 25 (.tmp dp) p0 b 0 e0 s.cells _ hb.range0 Try.underlying25 rfl (rowS ok) ?_)
  rw [q0]
  have e5 : [Operand.tmp d0, .tmp d4].map (a.put (some d0) (.agg s.cells.toArray)).eval = [.agg s.cells.toArray, .agg i.cells.toArray] := by
    simp only [List.map_cons, List.map_nil, eval_same (hn ▸ l0), eval_far n04, e4]
  refine ⟨Chg.refl _ w, held_one h5 r5 g5 (wp_call 10 #[.tmp d0, .tmp d4] ts p5 e5 ent_Step (StepM_any w s i ok oi) ?_)⟩
  rintro e w1 ⟨k1, ok1, v, rfl, o1⟩
  refine ⟨_, rfl, k1.mono (fun j f => f.elim), ?_⟩
  rw [q5]
  have hr : stepM s i = ((stepM s i).1, (stepM s i).2) := rfl
  generalize (stepM s i).1 = s1 at *
  generalize (stepM s i).2 = l1 at *
  have S1 : Chg (fun j => j = b) w w1 := k1.mono (fun j f => f.elim)
  refine heads (g := 2) hs (fun _ _ _ _ _ h => h) [6, 7, 8] _ _ w1 hB rfl S1 ?_
  obtain ⟨a5, ha5⟩ : ∃ a5, (a.put (some d0) (.agg s.cells.toArray)).put (some d5) (.tuple #[.agg s1.cells.toArray, v]) = a5 := ⟨_, rfl⟩
  have z5 : a5.tmps.size = n := by rw [← ha5, size_put, size_put, hn]
  have v5 : a5.eval (.tmp d5) = .tuple #[.agg s1.cells.toArray, v] := by rw [← ha5]; exact eval_same (by rw [size_put, hn]; exact l5)
  have vp5 : a5.eval (.tmp dp) = .pointer (some ⟨b, 0, none⟩) := by rw [← ha5, eval_far n5, eval_far n0, e0]
  refine headI_run (v := .tuple #[.agg s1.cells.toArray, v]) (by simpa using h6) (by simp [Region.wanted, g6]) (fun w' _ => by unfold execOp; rw [ha5]; simp only [p6, v5, Sem.run_pure]) ?_
  rw [q6]
  have v6 : (a5.put (some d6) (.tuple #[.agg s1.cells.toArray, v])).eval (.tmp d6) = .tuple #[.agg s1.cells.toArray, v] := eval_same (by rw [z5]; exact l6)
  refine headI_run (v := .agg s1.cells.toArray) (by simpa using h7) (by simp [Region.wanted, g7]) (fun w' _ => by unfold execOp; rw [ha5]; simp only [p7, v6]; go_simp) ?_
  rw [q7]
  have v7 : ((a5.put (some d6) (.tuple #[.agg s1.cells.toArray, v])).put (some d7) (.agg s1.cells.toArray)).eval (.tmp d6) = .tuple #[.agg s1.cells.toArray, v] := by rw [eval_far n76, v6]
  refine headI_run (v := v) (by simpa using h8) (by simp [Region.wanted, g8]) (fun w' _ => by unfold execOp; rw [ha5]; simp only [p8, v7]; go_simp) ?_
  rw [q8]
  refine headI_nil ?_
  have hb1 := hb.chg k1 (fun f => f)
  have hlen : s1.cells.toArray.size = 102 := by rw [List.size_toArray, ok1.len]
  obtain ⟨a8, ha8⟩ : ∃ a8, ((a5.put (some d6) (.tuple #[.agg s1.cells.toArray, v])).put (some d7) (.agg s1.cells.toArray)).put (some d8) v = a8 := ⟨_, rfl⟩
  have evp : a8.eval (.tmp dp) = .pointer (some ⟨b, 0, none⟩) := by rw [← ha8, eval_far n8, eval_far n7, eval_far n6, vp5]
  have ev7 : a8.eval (.tmp d7) = .agg s1.cells.toArray := by rw [← ha8, eval_far n87]; exact eval_same (by rw [size_put, z5]; exact l7)
  have ev8 : a8.eval (.tmp d8) = v := by rw [← ha8]; exact eval_same (by rw [size_put, size_put, z5]; exact l8)
  rw [ha5, ha8]
  refine held_one h9 r9 g9 (wp_store_mid 25 (.tmp dp) (.tmp d7) p9 b 0 s1.cells.toArray evp ev7 (by rw [hlen, ← ok.len]; exact hb1.there0) (by rw [hlen]; exact row_S) (one_mem s1.one) ?_)
  rw [q9]
  have S2 : Chg (fun j => j = b) w (w1.setCells b 0 s1.cells.toArray.toList) := Chg.setCells (S := fun j => j = b) (.inl rfl) _ _ _ S1
  refine ⟨S2, held_one h10 r10 g10 ?_⟩
  have e10 : (execOp a8.eval o10).run Try.prog (w1.setCells b 0 s1.cells.toArray.toList) = .ok (.value v) (w1.setCells b 0 s1.cells.toArray.toList) := by
    unfold execOp
    simp only [p10, ev8, Sem.run_pure]
  unfold Oper.wp
  have e0' : ∀ x : Act, x.put none undef = x := fun _ => rfl
  rw [e0', e10, Oper.upon_value, q10]
  have H := h (w1.setCells b 0 s1.cells.toArray.toList) s1 v l1 hr S2 ok1
  rw [ha5, ha8] at H
  refine ⟨S2, wpAnyH_done r11 (NoPanic.normal (H ?_ ?_)) _⟩
  · rw [List.toList_toArray]
    exact hb1.sets0 (by rw [ok.len, ok1.len])
  · rw [List.toList_toArray]
    refine Outs.far o1 (Chg.setCells (S := fun j => j = b) (.inl rfl) _ _ _ (Chg.refl _ w1)) (fun j hj => ?_)
    have : j = b := hj
    have := hb.lt
    omega
theorem mach.Out.one (o : Out) : ∀ v ∈ o.cells, v.oneCell' = true := by
  intro v hv
  simp only [Out.cells, List.mem_cons, List.mem_append, List.not_mem_nil, or_false] at hv
  rcases hv with rfl | rfl | hv | rfl
  · rfl
  · rfl
  · exact bv_one _ v hv
  · rfl
theorem mach.In.one (i : In) : ∀ v ∈ i.cells, v.oneCell' = true := by
  intro v hv
  simp only [In.cells, List.mem_cons, List.mem_append, List.not_mem_nil, or_false] at hv
  rcases hv with rfl | rfl | hv | rfl | rfl | hv
  · rfl
  · rfl
  · exact bv_one _ v hv
  · rfl
  · rfl
  · exact bv_one _ v hv
theorem rowO {o : Out} (h : o.Ok) : (Try.prog.info? 45).map (·.size) = some o.cells.length := by rw [h.len]; exact row_O
theorem z_O (w : World) : (Instr.alloc 45 true (.tuple #[])).run Try.prog w = .ok (.pointer (some ⟨w.heap.size, 0, none⟩)) (w.alloc (.cells o0.cells.toArray 45)) := by kernel_rfl
theorem z_I (w : World) : (Instr.alloc 27 true (.tuple #[])).run Try.prog w = .ok (.pointer (some ⟨w.heap.size, 0, none⟩)) (w.alloc (.cells i0.cells.toArray 27)) := by kernel_rfl
theorem z_H (w : World) : (Instr.alloc 23 true (.tuple #[])).run Try.prog w = .ok (.pointer (some ⟨w.heap.size, 0, none⟩)) (w.alloc (.cells (bv zero).toArray 23)) := by kernel_rfl
/-- A row is stored whole. -/
theorem wpList_store_R {ops : Array Oper} {rest : List Oper} {op : Oper} {a : Act} {w : World} {Q : Exit → Act → World → Prop} (hgd : op.guard = none) (ty : TypeId) (x y : Operand) (ho : op.op = .store ty x y)
    (b : Nat) (L L' : List Value) (n : Nat) (hx : a.eval x = .pointer (some ⟨b, 0, none⟩)) (hy : a.eval y = .agg L.toArray) (hb : Hb w b ty L'.toArray) (hl : L.length = n) (hl' : L'.length = n) (hi : (Try.prog.info? ty).map (·.size) = some n) (h1 : ∀ v ∈ L, v.oneCell' = true)
    (hK : ∀ w1, Hb w1 b ty L.toArray → Chg (fun j => j = b) w w1 → wpList Try.prog ops Q rest (a.put op.dst undef) w1) : wpList Try.prog ops Q (op :: rest) a w := by
  have hlen : L.toArray.size = n := by rw [List.size_toArray, hl]
  refine wpList_store_mid hgd ty x y ho b 0 L.toArray hx hy ?_ ?_ (one_mem h1) ?_
  · rw [hlen, ← hl']; exact hb.there0
  · rw [hlen]; exact hi
  · exact hK _ (hb.sets0 (by rw [hl, hl'])) (Chg.setCells (S := fun j => j = b) (.inl rfl) _ _ _ (Chg.refl _ w))
/-- Two hashes held against each other, among a region's reads. -/
theorem head_neqH {ops : Array Oper} {S : World → Prop} {o : Oper} {l : List Oper} {a : Act} {K : Act → Prop} (hw : Region.wanted o (yielded ops a.tmps) = true) (x y : Operand) (u : TypeId) (ho : o.op = .binOp .neq 23 x y u)
    (h1 h2 : Hash) (hx : a.eval x = .agg (bv h1).toArray) (hy : a.eval y = .agg (bv h2).toArray) (l1 : h1.length = 32) (l2 : h2.length = 32) {b : Bool} (hb : decide (h1 = h2) = b) (h : HeadH Try.prog ops S l (a.put o.dst (.bool (!b))) K) : HeadH Try.prog ops S (o :: l) a K := by
  refine head_run (v := .bool (!b)) hw (fun w _ => ?_) h
  have hr := run_eq_hash w l1 l2
  rw [hb] at hr
  unfold execOp
  simp only [ho, hx, hy, Sem.run_bind, run_eqGuard_agg w .neq 23 x y _ _ hash_guard, Result.andThen_ok, run_neq_struct, hr, Sem.run_pure]
theorem head_eqlH {ops : Array Oper} {S : World → Prop} {o : Oper} {l : List Oper} {a : Act} {K : Act → Prop} (hw : Region.wanted o (yielded ops a.tmps) = true) (x y : Operand) (u : TypeId) (ho : o.op = .binOp .eql 23 x y u)
    (h1 h2 : Hash) (hx : a.eval x = .agg (bv h1).toArray) (hy : a.eval y = .agg (bv h2).toArray) (l1 : h1.length = 32) (l2 : h2.length = 32) {b : Bool} (hb : decide (h1 = h2) = b) (h : HeadH Try.prog ops S l (a.put o.dst (.bool b)) K) : HeadH Try.prog ops S (o :: l) a K := by
  refine head_run (v := .bool b) hw (fun w _ => ?_) h
  have hr := run_eq_hash w l1 l2
  rw [hb] at hr
  unfold execOp
  simp only [ho, hx, hy, Sem.run_bind, run_eqGuard_agg w .eql 23 x y _ _ hash_guard, Result.andThen_ok, run_eql_struct, hr, Sem.run_pure]
theorem wpList_build_zero_w {ops : Array Oper} {rest : List Oper} {o : Oper} {a : Act} {w : World} {Q : Exit → Act → World → Prop} (hw : Region.wanted o (yielded ops a.tmps) = true) (ty : TypeId) (ho : o.op = .build ty #[]) {cs : Array Value} (hb : Try.prog.built ty [] = some cs)
    (h : wpList Try.prog ops Q rest (a.put o.dst (.agg cs)) w) : wpList Try.prog ops Q (o :: rest) a w := by
  unfold wpList
  rw [if_pos hw]
  left
  have hr := run_build (P := Try.prog) w ty ((#[] : Array (Nat × Operand)).map fun (i, x) => (i, a.eval x)) cs (by simpa using hb)
  unfold Oper.wp execOp
  simp only [ho, Sem.run_bind, Sem.run_pure, hr, Result.andThen_ok]
  exact h
end Go.Proofs.Ytdejfamcmebdiaa
