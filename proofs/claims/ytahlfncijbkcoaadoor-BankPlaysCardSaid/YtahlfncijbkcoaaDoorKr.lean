/- Regions that draw their order: what only reads goes first, in an order of one's own, under a condition on the world; then one operation behind the other. -/
import Derived.Test.YtahlfncijbkcoaaDoorChecked
import Derived.WalkKit
import Derived.WalkLawsBesides
import Derived.OrdersHeld
import Derived.Deep.MidRow
import Derived.Laws.Tables
import Derived.Deep.RegionHeld3
import Derived.Shelf.Abstract
import Derived.Lib.Hide
import Derived.Test.YtahlfncijbkcoaaDoorKd
namespace Go.Proofs.YtahlfncijbkcoaaDoor
open Go.RowKit
set_option linter.unusedVariables false
set_option linter.unusedSimpArgs false
set_option maxRecDepth 20000

section
variable {P : Program} {ops : Array Oper} {Q : Exit → Act → World → Prop} {md : Region.Mode} {S : World → Prop}
/-- Operations that yield, in an order of one's own. -/
def HeadI (P : Program) (ops : Array Oper) (S : World → Prop) : List Nat → Act → (Act → Prop) → Prop
  | [], a, K => K a
  | k :: is, a, K => ∃ o, ops[k]? = some o ∧ ∃ v, YieldsIf P ops S o v a ∧ HeadI P ops S is (a.put o.dst v) K
def lexI (md : Region.Mode) (ops : Array Oper) : List Nat → Array Bool → Bool
  | [], _ => true
  | k :: is, listed => (Region.ready md ops listed).contains k && Region.free md ops listed k && lexI md ops is (listed.setIfInBounds k true)
def listedI : List Nat → Array Bool → Array Bool
  | [], l => l
  | k :: is, l => listedI is (l.setIfInBounds k true)
theorem heads {g : Nat} {L' : Array Bool} (hs : Region.noSelect ops = true) (hQ : ∀ c a d v w, Q (.panic c) (a.put d v) w → Q (.panic c) a w) : ∀ (is : List Nat) (L : Array Bool) (a : Act) (w : World),
    lexI md ops is L = true → listedI is L = L' → S w → HeadI P ops S is a (fun a' => wpAnyH P md ops Q S g L' a' w) → wpAnyH P md ops Q S (is.length + g) L a w
  | [], L, a, w, _, hL, _, h => by
    rw [List.length_nil, Nat.zero_add]
    have : L = L' := hL
    rw [this]
    exact h
  | k :: is, L, a, w, hB, hL, hS, h => by
    simp only [lexI, Bool.and_eq_true] at hB
    obtain ⟨⟨hr, hf⟩, hB'⟩ := hB
    obtain ⟨o, h0, v, hy, hK⟩ := h
    rw [List.length_cons, show is.length + 1 + g = (is.length + g) + 1 by omega]
    exact wpAnyH_take h0 hs hf hr (fun c a w => hQ c a _ v w) hy hS (heads hs hQ is _ _ w hB' hL hS hK)
theorem headI_run {o : Oper} {k : Nat} {is : List Nat} {a : Act} {K : Act → Prop} {v : Value} (hk : ops.toList[k]? = some o) (hw : Region.wanted o (yielded ops a.tmps) = true) (hr : ∀ w, S w → (execOp a.eval o).run P w = .ok (.value v) w) (h : HeadI P ops S is (a.put o.dst v) K) : HeadI P ops S (k :: is) a K := ⟨o, by simpa using hk, v, .inl ⟨hw, hr⟩, h⟩
theorem headI_load {o : Oper} {k : Nat} {is : List Nat} {a : Act} {K : Act → Prop} (hk : ops.toList[k]? = some o) (hw : Region.wanted o (yielded ops a.tmps) = true) (ty : TypeId) (x : Operand) (ho : o.op = .load ty x)
    (b off : Nat) (hx : a.eval x = .pointer (some ⟨b, off, none⟩)) (cs : List Value) (d : TypeDesc) (hS : ∀ w, S w → w.rangeAt b off cs)
    (hu : P.underlying ty = some d) (hd : d.isRow = true) (hi : (P.info? ty).map (·.size) = some cs.length) (h : HeadI P ops S is (a.put o.dst (.agg cs.toArray)) K) : HeadI P ops S (k :: is) a K :=
  ⟨o, by simpa using hk, _, yieldsIf_load_mid hw ty x ho b off hx cs d hS hu hd hi, h⟩
theorem headI_nil {a : Act} {K : Act → Prop} (h : K a) : HeadI P ops S [] a K := h
/-- The beginning. -/
theorem wp_region_heads {id : Nat} {a : Act} {w : World} {l : List Oper} (is : List Nat) (g : Nat) (L : Array Bool) (hm : P.follows .mixedOrders = true) (hs : Region.noSelect l.toArray = true) (hB : lexI .any l.toArray is (Array.replicate l.toArray.size false) = true) (hn : decide (l.length = is.length + g) = true)
    (hL : listedI is (Array.replicate l.toArray.size false) = L) (S : World → Prop) (hS : S w.drew)
    (h : HeadI P l.toArray S is a (fun a' => wpAnyH P .any l.toArray (NoPanic Q) S g L a' w.drew)) : (Code.region id l.toArray true).wp P Q a w := by
  have hn' : l.length = is.length + g := of_decide_eq_true hn
  refine wp_region_noPanic (wp_region_held (S := S) hm ?_)
  have := heads (md := .any) (Q := NoPanic Q) (g := g) hs (fun _ _ _ _ _ h => h) is (Array.replicate l.toArray.size false) a w.drew hB hL hS h
  rw [← hn'] at this
  rw [List.size_toArray] at this ⊢
  exact this
theorem wp_call {o : Oper} {a : Act} {w : World} {K : Act → World → Prop} (f : FuncId) (xs : Array Operand) (ts : Array TypeId)
    (ho : o.op = .call { callee := .value (.func f), args := xs, argTypes := ts }) {vl : List Value} (hx : xs.toList.map a.eval = vl) (he : ∀ args w, (callFunc f args).run P w = .ok (.enter f args) w)
    {post : Ending → World → Prop} (H : Calls P f vl.toArray w post) (h : ∀ e w', post e w' → ∃ r, e = .returned r ∧ K (a.put o.dst r) w') : o.wp P a w K Q := by
  have hx : xs.map a.eval = vl.toArray := Array.ext' (by rw [Array.toList_map]; exact hx)
  unfold Oper.wp execOp
  simp only [ho, resolve, invoke, Sem.run_bind, Sem.run_pure, Result.andThen_ok, hx]
  have hf : a.eval (Operand.func f) = .func (.func f) #[] #[] := rfl
  simp only [hf, Deferred.ofValue, Sem.run_pure, Result.andThen_ok, Array.append_empty, he]
  simp [Oper.upon, he]
  refine H.mono fun e w' hp => ?_
  obtain ⟨r, rfl, hk⟩ := h e w' hp
  exact hk
theorem held_w {n fuel : Nat} {x : Oper} {L L' : Array Bool} {a : Act} {w : World} (hx : ops.toList[n]? = some x) (hr : Region.ready md ops L = [n]) (hw : Region.wanted x (yielded ops a.tmps) = true) (hL : L.setIfInBounds n true = L')
    (h : x.wp P a w (fun a' w' => S w' ∧ wpAnyH P md ops Q S fuel L' a' w') Q) : wpAnyH P md ops Q S (fuel + 1) L a w := by
  refine wpAnyH_all hr (by simp) fun i hi => ?_
  have hi' : i = n := by simpa using hi
  subst hi'
  have hx' : ops[i]? = some x := by simpa using hx
  unfold wpOp
  simp only [hx']
  rw [if_pos hw, hL]
  exact .inl h
theorem held_w2 {n m fuel : Nat} {x y : Oper} {L L1 L2 : Array Bool} {a : Act} {w : World} (hx : ops.toList[n]? = some x) (hy : ops.toList[m]? = some y) (hr : Region.ready md ops L = [n, m]) (hw : Region.wanted x (yielded ops a.tmps) = true) (hw' : Region.wanted y (yielded ops a.tmps) = true) (hL : L.setIfInBounds n true = L1) (hL' : L.setIfInBounds m true = L2)
    (h : x.wp P a w (fun a' w' => S w' ∧ wpAnyH P md ops Q S fuel L1 a' w') Q) (h' : y.wp P a w (fun a' w' => S w' ∧ wpAnyH P md ops Q S fuel L2 a' w') Q) : wpAnyH P md ops Q S (fuel + 1) L a w := by
  refine wpAnyH_all hr (by simp) fun i hi => ?_
  simp only [List.mem_cons, List.not_mem_nil, or_false] at hi
  have hx' : ops[n]? = some x := by simpa using hx
  have hy' : ops[m]? = some y := by simpa using hy
  unfold wpOp
  rcases hi with rfl | rfl
  · simp only [hx']
    rw [if_pos hw, hL]
    exact .inl h
  · simp only [hy']
    rw [if_pos hw', hL']
    exact .inl h'
theorem wp_alloc {o : Oper} {a : Act} {w : World} {K : Act → World → Prop} (ty : TypeId) (ho : o.op = .alloc ty) (z : List Value) (hz : (Instr.alloc ty true (.tuple #[])).run P w = .ok (.pointer (some ⟨w.heap.size, 0, none⟩)) (w.alloc (.cells z.toArray ty)))
    (h : K (a.put o.dst (.pointer (some ⟨w.heap.size, 0, none⟩))) (w.alloc (.cells z.toArray ty))) : o.wp P a w K Q := by
  unfold Oper.wp execOp
  simp only [ho, Sem.run_bind, Sem.run_pure, Result.andThen_ok, hz]
  exact h
theorem headI_build {o : Oper} {j : Nat} {is : List Nat} {a : Act} {K : Act → Prop} (hk : ops.toList[j]? = some o) (hw : Region.wanted o (yielded ops a.tmps) = true) (ty : TypeId) (parts : Array (Nat × Operand)) (ho : o.op = .build ty parts)
    (vs : List (Nat × Value)) (hx : (parts.toList.map fun (i, x) => (i, a.eval x)) = vs) {cs : Array Value} (hb : P.built ty vs = some cs) (h : HeadI P ops S is (a.put o.dst (.agg cs)) K) : HeadI P ops S (j :: is) a K := by
  refine headI_run (v := .agg cs) hk hw (fun w _ => ?_) h
  have hr := run_build (P := P) w ty (parts.map fun (i, x) => (i, a.eval x)) cs (by rw [Array.toList_map, hx]; exact hb)
  unfold execOp
  simp only [ho, Sem.run_bind, Sem.run_pure, hr, Result.andThen_ok]
end
section
variable {ops : Array Oper} {Q : Exit → Act → World → Prop} {md : Region.Mode} {S : World → Prop}
theorem headI_look {o : Oper} {j : Nat} {is : List Nat} {a : Act} {K : Act → Prop} (t : TypeId) (hk : ops.toList[j]? = some o) (hw : Region.wanted o (yielded ops a.tmps) = true) (x y : Operand) (ho : o.op = Op.lookup t x y false) {m k : Value} (hx : a.eval x = m) (hy : a.eval y = k) {v : Value}
    (hS : ∀ w, S w → (Instr.lookup t m k false).run Tryd.prog w = .ok v w) (h : HeadI Tryd.prog ops S is (a.put o.dst v) K) : HeadI Tryd.prog ops S (j :: is) a K := by
  refine headI_run hk hw (fun w hs => ?_) h
  have hrun := hS w hs
  unfold execOp
  simp only [ho, hx, hy, Sem.run_bind, Sem.run_pure, hrun, Result.andThen_ok]
theorem wp_val {o : Oper} {a : Act} {w : World} {K : Act → World → Prop} {v : Value} (hr : (execOp a.eval o).run Tryd.prog w = .ok (.value v) w) (h : K (a.put o.dst v) w) : o.wp Tryd.prog a w K Q := by
  unfold Oper.wp
  rw [hr, Oper.upon_value]
  exact h
theorem wp_look {o : Oper} {a : Act} {w : World} {K : Act → World → Prop} (t : TypeId) (x y : Operand) (ho : o.op = Op.lookup t x y false) {m k : Value} (hx : a.eval x = m) (hy : a.eval y = k) {v : Value} (hrun : (Instr.lookup t m k false).run Tryd.prog w = .ok v w) (h : K (a.put o.dst v) w) : o.wp Tryd.prog a w K Q := by
  refine wp_val (v := v) ?_ h
  unfold execOp
  simp only [ho, hx, hy, Sem.run_bind, Sem.run_pure, hrun, Result.andThen_ok]
end
end Go.Proofs.YtahlfncijbkcoaaDoor
