/- Regions that draw their order: what only reads goes first, in the text's order, under a condition on the world; then two operations in either order. Nothing here knows the program. -/
import Derived.WalkKit
import Derived.WalkLawsBesides
import Derived.OrdersHeld
import Derived.Deep.MidRow
import Derived.Laws.Tables
import Derived.Deep.RegionHeld3
namespace Go.Proofs.Ytdejfamcmebdiaa
set_option linter.unusedVariables false
set_option linter.unusedSimpArgs false

section
variable {P : Program} {ops : Array Oper} {Q : Exit → Act → World → Prop} {md : Region.Mode} {S : World → Prop}
/-- Operations that yield, one behind the other. -/
def HeadH (P : Program) (ops : Array Oper) (S : World → Prop) : List Oper → Act → (Act → Prop) → Prop
  | [], a, K => K a
  | o :: l, a, K => ∃ v, YieldsIf P ops S o v a ∧ HeadH P ops S l (a.put o.dst v) K
def lexH (md : Region.Mode) (ops : Array Oper) : Nat → Nat → Array Bool → Bool
  | 0, _, _ => true
  | f + 1, k, listed => (Region.ready md ops listed).contains k && Region.free md ops listed k && lexH md ops f (k + 1) (listed.setIfInBounds k true)
def listedN : Nat → Nat → Array Bool → Array Bool
  | 0, _, l => l
  | f + 1, k, l => listedN f (k + 1) (l.setIfInBounds k true)
theorem head_held {g : Nat} (hs : Region.noSelect ops = true) (hQ : ∀ c a d v w, Q (.panic c) (a.put d v) w → Q (.panic c) a w) : ∀ (l : List Oper) (k : Nat) (listed : Array Bool) (a : Act) (w : World),
    (∀ j, j < l.length → l[j]? = ops[k + j]?) → lexH md ops l.length k listed = true → S w →
    HeadH P ops S l a (fun a' => wpAnyH P md ops Q S g (listedN l.length k listed) a' w) → wpAnyH P md ops Q S (l.length + g) listed a w
  | [], k, listed, a, w, _, _, _, h => by
    rw [List.length_nil, Nat.zero_add]
    exact h
  | o :: l, k, listed, a, w, hl, hB, hS, h => by
    have h0 : ops[k]? = some o := by simpa using (hl 0 (by simp)).symm
    simp only [List.length_cons, lexH, Bool.and_eq_true] at hB
    obtain ⟨⟨hr, hf⟩, hB'⟩ := hB
    obtain ⟨v, hy, hK⟩ := h
    rw [List.length_cons, show l.length + 1 + g = (l.length + g) + 1 by omega]
    exact wpAnyH_take h0 hs hf hr (fun c a w => hQ c a _ v w) hy hS (head_held hs hQ l (k + 1) _ _ w (fun j hj => by have := hl (j + 1) (by simp; omega); simpa [Nat.add_assoc, Nat.add_comm 1 j] using this) hB' hS hK)
/-- The beginning of a region that draws: its first n operations only read; and it does not panic. -/
theorem wp_region_lexH {id : Nat} {a : Act} {w : World} {l : List Oper} (n g : Nat) (L : Array Bool) (hm : P.follows .mixedOrders = true) (hs : Region.noSelect l.toArray = true) (hB : lexH .any l.toArray n 0 (Array.replicate l.toArray.size false) = true) (hn : decide (l.length = n + g) = true)
    (hL : listedN n 0 (Array.replicate l.toArray.size false) = L) (S : World → Prop) (hS : S w.drew)
    (h : HeadH P l.toArray S (l.take n) a (fun a' => wpAnyH P .any l.toArray (NoPanic Q) S g L a' w.drew)) : (Code.region id l.toArray true).wp P Q a w := by
  have hn' : l.length = n + g := of_decide_eq_true hn
  have htl : (l.take n).length = n := by simp; omega
  refine wp_region_noPanic (wp_region_held (S := S) hm ?_)
  have := head_held (md := .any) (Q := NoPanic Q) (g := g) hs (fun _ _ _ _ _ h => h) (l.take n) 0 (Array.replicate l.toArray.size false) a w.drew (fun j hj => by
    have hj' : j < n := by rw [htl] at hj; exact hj
    simp [hj']) (by rw [htl]; exact hB) hS (by rw [htl, hL]; exact h)
  rw [htl, ← hn'] at this
  rw [List.size_toArray] at this ⊢
  exact this
/-- One operation alone may come up. -/
theorem held_one {n fuel : Nat} {x : Oper} {listed : Array Bool} {a : Act} {w : World} (hx : ops[n]? = some x) (hr : Region.ready md ops listed = [n]) (hg : x.guard = none)
    (h : x.wp P a w (fun a' w' => S w' ∧ wpAnyH P md ops Q S fuel (listed.setIfInBounds n true) a' w') Q) : wpAnyH P md ops Q S (fuel + 1) listed a w := by
  refine wpAnyH_all hr (by simp) fun i hi => ?_
  have hi' : i = n := by simpa using hi
  subst hi'
  unfold wpOp
  simp only [hx]
  rw [if_pos (by simp [Region.wanted, hg])]
  exact .inl h
/-- Two may. -/
theorem held_two {n m fuel : Nat} {x y : Oper} {listed : Array Bool} {a : Act} {w : World} (hx : ops[n]? = some x) (hy : ops[m]? = some y) (hr : Region.ready md ops listed = [n, m]) (hg : x.guard = none) (hg' : y.guard = none)
    (h : x.wp P a w (fun a' w' => S w' ∧ wpAnyH P md ops Q S fuel (listed.setIfInBounds n true) a' w') Q)
    (h' : y.wp P a w (fun a' w' => S w' ∧ wpAnyH P md ops Q S fuel (listed.setIfInBounds m true) a' w') Q) : wpAnyH P md ops Q S (fuel + 1) listed a w := by
  refine wpAnyH_all hr (by simp) fun i hi => ?_
  simp only [List.mem_cons, List.not_mem_nil, or_false] at hi
  unfold wpOp
  rcases hi with rfl | rfl
  · simp only [hx]
    rw [if_pos (by simp [Region.wanted, hg])]
    exact .inl h
  · simp only [hy]
    rw [if_pos (by simp [Region.wanted, hg'])]
    exact .inl h'
/-- The heads' ways. -/
theorem head_run {o : Oper} {l : List Oper} {a : Act} {K : Act → Prop} {v : Value} (hw : Region.wanted o (yielded ops a.tmps) = true) (hr : ∀ w, S w → (execOp a.eval o).run P w = .ok (.value v) w) (h : HeadH P ops S l (a.put o.dst v) K) : HeadH P ops S (o :: l) a K := ⟨v, .inl ⟨hw, hr⟩, h⟩
theorem head_skip {o : Oper} {l : List Oper} {a : Act} {K : Act → Prop} (hw : Region.wanted o (yielded ops a.tmps) = false) (h : HeadH P ops S l (a.put o.dst undef) K) : HeadH P ops S (o :: l) a K := ⟨undef, .inr ⟨hw, rfl⟩, h⟩
theorem head_nil {a : Act} {K : Act → Prop} (h : K a) : HeadH P ops S [] a K := h
theorem head_load {o : Oper} {l : List Oper} {a : Act} {K : Act → Prop} (hw : Region.wanted o (yielded ops a.tmps) = true) (ty : TypeId) (x : Operand) (ho : o.op = .load ty x)
    (b off : Nat) (hx : a.eval x = .pointer (some ⟨b, off, none⟩)) (cs : List Value) (d : TypeDesc) (hS : ∀ w, S w → w.rangeAt b off cs)
    (hu : P.underlying ty = some d) (hd : d.isRow = true) (hi : (P.info? ty).map (·.size) = some cs.length) (h : HeadH P ops S l (a.put o.dst (.agg cs.toArray)) K) : HeadH P ops S (o :: l) a K :=
  ⟨_, yieldsIf_load_mid hw ty x ho b off hx cs d hS hu hd hi, h⟩
theorem head_build {o : Oper} {l : List Oper} {a : Act} {K : Act → Prop} (hw : Region.wanted o (yielded ops a.tmps) = true) (ty : TypeId) (parts : Array (Nat × Operand)) (ho : o.op = .build ty parts)
    {vs : List (Nat × Value)} (hx : (parts.toList.map fun (i, x) => (i, a.eval x)) = vs) {cs : Array Value} (hb : P.built ty vs = some cs) (h : HeadH P ops S l (a.put o.dst (.agg cs)) K) : HeadH P ops S (o :: l) a K := by
  refine ⟨.agg cs, .inl ⟨hw, fun w _ => ?_⟩, h⟩
  have hr := run_build (P := P) w ty (parts.map fun (i, x) => (i, a.eval x)) cs (by rw [Array.toList_map, hx]; exact hb)
  unfold execOp
  simp only [ho, Sem.run_bind, Sem.run_pure, hr, Result.andThen_ok]
end
end Go.Proofs.Ytdejfamcmebdiaa
