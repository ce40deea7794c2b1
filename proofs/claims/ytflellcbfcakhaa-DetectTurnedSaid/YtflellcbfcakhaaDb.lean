/- Maps from integers to ints, by what they say of each key; where a witness shows a height, and where it parts from a trace. -/
import Derived.Test.YtflellcbfcakhaaChecked
import Derived.WalkKit
import Derived.Lib.Hide
import Derived.Maps.OwnOps
import Derived.Maps.OwnSet
import Derived.Maps.RangeWalk
import Derived.Test.YtflellcbfcakhaaDa
namespace Go.Proofs.Ytflellcbfcakhaa
open Go.RowKit
set_option linter.unusedVariables false
set_option linter.unusedSimpArgs false
set_option maxRecDepth 20000

/-! ### Maps -/
theorem int_zero (w : World) : (zeroValue 3).run Try.prog w = .ok (.int .i64 0) w := by kernel_rfl
theorem lit_key (q : IntKind) (k : Int) : WideAt.IsKeyLit (.int q k) := trivial
theorem lit_ne {q : IntKind} {a b : Int} (h : a ≠ b) : Lit.int q a ≠ .int q b := fun e => h (by injection e)
/-- What the datum says of each key. -/
def Says (q : IntKind) (D : DataW Unit) (m : Int → Option Int) : Prop :=
  ∀ k, Maps.has D (.int q k) = (m k).isSome ∧ ∀ zd, D.atKey (.int q k) zd = (match m k with | some c => .lit (.int .i64 c) | none => zd)
/-- Block b is a map of at most n entries that says m. -/
def MapI (q : IntKind) (kt : TypeId) (w : World) (b n : Nat) (m : Int → Option Int) : Prop :=
  ∃ D : DataW Unit, w.ownsMap Try.prog kt (plainElem Try.prog 3) b n D ∧ Says q D m
def updM (m : Int → Option Int) (k c : Int) : Int → Option Int := fun j => if j = k then some c else m j
theorem updM_same (m : Int → Option Int) (k c : Int) : updM m k c k = some c := by simp [updM]
theorem updM_other (m : Int → Option Int) {k j : Int} (c : Int) (h : j ≠ k) : updM m k c j = m j := by simp [updM, h]
theorem Says.put {q : IntKind} {D : DataW Unit} {m : Int → Option Int} (h : Says q D m) (hD : Maps.IsMap D) (k c : Int) : Says q (D.put (.int q k) (.lit (.int .i64 c))) (updM m k c) := by
  intro j
  by_cases e : j = k
  · subst e
    refine ⟨by rw [Maps.has_put_same hD (lit_key q j), updM_same]; rfl, fun zd => ?_⟩
    rw [Maps.atKey_put_same hD (lit_key q j), updM_same]
  · obtain ⟨h1, h2⟩ := h j
    refine ⟨by rw [Maps.has_put_other (lit_ne e), updM_other m c e]; exact h1, fun zd => ?_⟩
    rw [Maps.atKey_put_other (lit_ne e), updM_other m c e]
    exact h2 zd

section
variable {q : IntKind} {kt : TypeId} {w : World} {b n : Nat} {m : Int → Option Int}
theorem MapI.made (q : IntKind) (kt : TypeId) (w : World) : MapI q kt (w.alloc (.map #[] 0)) w.heap.size 0 (fun _ => none) :=
  ⟨.map [], World.ownsMap_made w _ _ _, fun k => ⟨rfl, fun zd => rfl⟩⟩
theorem MapI.lt (h : MapI q kt w b n m) : b < w.heap.size := by
  obtain ⟨D, h, _⟩ := h
  exact h.lt
theorem MapI.mono (h : MapI q kt w b n m) {n' : Nat} (hn : n ≤ n') : MapI q kt w b n' m := by
  obtain ⟨D, h, r⟩ := h
  exact ⟨D, h.mono hn, r⟩
theorem MapI.chg {S : Nat → Prop} {w' : World} (h : MapI q kt w b n m) (k : Chg S w w') (hb : ¬ S b) : MapI q kt w' b n m := by
  have hlt := h.lt
  obtain ⟨D, ⟨es, clock, h1, r⟩, s⟩ := h
  exact ⟨D, ⟨es, clock, (k.block b hlt hb).trans h1, r⟩, s⟩
theorem wpList_look_ok {ops : Array Oper} {rest : List Oper} {o : Oper} {a : Act} {Q : Exit → Act → World → Prop} (hg : o.guard = none) (x y : Operand) (t : TypeId) (ho : o.op = Op.lookup t x y true)
    (ht : Try.prog.underlying t = some (.map kt 3)) (hk : Try.prog.underlying kt = some (.int q)) (hx : a.eval x = .map (some b)) (h : MapI q kt w b n m) {k : Int} (hy : a.eval y = .int q k) (hw : (Lit.int q k).wf = true)
    (hK : wpList Try.prog ops Q rest (a.put o.dst (.tuple #[.int .i64 ((m k).getD 0), .bool (m k).isSome])) w) : wpList Try.prog ops Q (o :: rest) a w := by
  obtain ⟨D, hown, hs⟩ := h
  obtain ⟨s1, s2⟩ := hs k
  refine wpList_lookup_own_ok w hg x y t ho kt 3 (Maps.int_keyed hk) ht _ (int_zero w) (.lit (.int .i64 0)) [] (plainElem_int Try.underlying3 (by decide)) b n D hx hown _ _ hy (Maps.keyOf_int_mk hk hw) fun v ps hv => ?_
  obtain ⟨c, rfl, hc, _⟩ := plainElem_int_inv Try.underlying3 hv
  simp only [Prod.mk.injEq] at hc
  have hc1 := hc.1
  rw [s2] at hc1
  rw [s1]
  have : c = (m k).getD 0 := by
    cases hm : m k with
    | none => rw [hm] at hc1; simp only [DataW.lit.injEq, Lit.int.injEq] at hc1; rw [← hc1.2]; rfl
    | some d => rw [hm] at hc1; simp only [DataW.lit.injEq, Lit.int.injEq] at hc1; rw [← hc1.2]; rfl
  rw [this]
  exact hK
theorem wpList_look {ops : Array Oper} {rest : List Oper} {o : Oper} {a : Act} {Q : Exit → Act → World → Prop} (hg : o.guard = none) (x y : Operand) (t : TypeId) (ho : o.op = Op.lookup t x y false)
    (ht : Try.prog.underlying t = some (.map kt 3)) (hk : Try.prog.underlying kt = some (.int q)) (hx : a.eval x = .map (some b)) (h : MapI q kt w b n m) {k : Int} (hy : a.eval y = .int q k) (hw : (Lit.int q k).wf = true)
    (hK : wpList Try.prog ops Q rest (a.put o.dst (.int .i64 ((m k).getD 0))) w) : wpList Try.prog ops Q (o :: rest) a w := by
  obtain ⟨D, hown, hs⟩ := h
  obtain ⟨s1, s2⟩ := hs k
  refine wpList_lookup_own_int w hg x y t ho kt 3 .i64 (Maps.int_keyed hk) ht Try.underlying3 (int_zero w) b n D hx hown _ _ hy (Maps.keyOf_int_mk hk hw) fun c hc _ => ?_
  rw [s2] at hc
  have : c = (m k).getD 0 := by
    cases hm : m k with
    | none => rw [hm] at hc; simp only [DataW.lit.injEq, Lit.int.injEq] at hc; rw [← hc.2]; rfl
    | some d => rw [hm] at hc; simp only [DataW.lit.injEq, Lit.int.injEq] at hc; rw [← hc.2]; rfl
  rw [this]
  exact hK
theorem wpList_look_ok' {ops : Array Oper} {rest : List Oper} {o : Oper} {a : Act} {Q : Exit → Act → World → Prop} (hg : o.guard = none) (x y : Operand) (t : TypeId) (ho : o.op = Op.lookup t x y true)
    (ht : Try.prog.underlying t = some (.map kt 3)) (hk : Try.prog.underlying kt = some (.int q)) (hx : a.eval x = .map (some b)) (h : MapI q kt w b n m) {k : Int} (hy : a.eval y = .int q k) (hw : (Lit.int q k).wf = true)
    {c : Int} {bb : Bool} (hc : (m k).getD 0 = c) (hb : (m k).isSome = bb) (hK : wpList Try.prog ops Q rest (a.put o.dst (.tuple #[.int .i64 c, .bool bb])) w) : wpList Try.prog ops Q (o :: rest) a w := by
  refine wpList_look_ok hg x y t ho ht hk hx h hy hw ?_
  rw [hc, hb]
  exact hK
theorem wpList_look' {ops : Array Oper} {rest : List Oper} {o : Oper} {a : Act} {Q : Exit → Act → World → Prop} (hg : o.guard = none) (x y : Operand) (t : TypeId) (ho : o.op = Op.lookup t x y false)
    (ht : Try.prog.underlying t = some (.map kt 3)) (hk : Try.prog.underlying kt = some (.int q)) (hx : a.eval x = .map (some b)) (h : MapI q kt w b n m) {k : Int} (hy : a.eval y = .int q k) (hw : (Lit.int q k).wf = true)
    {c : Int} (hc : (m k).getD 0 = c) (hK : wpList Try.prog ops Q rest (a.put o.dst (.int .i64 c)) w) : wpList Try.prog ops Q (o :: rest) a w := by
  refine wpList_look hg x y t ho ht hk hx h hy hw ?_
  rw [hc]
  exact hK
theorem wpList_put {ops : Array Oper} {rest : List Oper} {o : Oper} {a : Act} {Q : Exit → Act → World → Prop} (hg : o.guard = none) (x y z : Operand) (t : TypeId) (ho : o.op = Op.mapUpdate t x y z)
    (ht : Try.prog.underlying t = some (.map kt 3)) (hk : Try.prog.underlying kt = some (.int q)) (hx : a.eval x = .map (some b)) (h : MapI q kt w b n m) (hn : n < maxLen) {k c : Int} (hy : a.eval y = .int q k) (hw : (Lit.int q k).wf = true)
    (hz : a.eval z = .int .i64 c) (hc : (Lit.int .i64 c).wf = true)
    (hK : ∀ w', MapI q kt w' b (n + 1) (updM m k c) → Chg (· = b) w w' → w'.heap.size = w.heap.size → wpList Try.prog ops Q rest (a.put o.dst undef) w') : wpList Try.prog ops Q (o :: rest) a w := by
  obtain ⟨D, hown, hs⟩ := h
  refine wpList_plain hg fun K' hK' => ?_
  obtain ⟨w', hrun, h2, h3⟩ := hown.store (Maps.int_keyed hk) ht hn (Maps.keyOf_int_mk hk hw) (plainElem_int Try.underlying3 hc)
  have hg2 := h3.grown
  have hsz : w'.heap.size = w.heap.size := by
    obtain ⟨es, cl, es', cl', hb, rfl⟩ := h3
    simp [Go.ChangeMaps.setBlock]
  unfold Oper.wp execOp
  simp only [ho, hx, hy, hz, Sem.run_bind, Sem.run_pure, hrun, Result.andThen_ok]
  exact hK' _ _ (hK w' ⟨_, h2, hs.put hown.isMap k c⟩ ((Chg.refl _ w).grown hg2 (fun j hj => .inl (by injection hj with hj; exact hj.symm))) hsz)
end
theorem i64_wf {n : Int} (h : I64 n) : (Lit.int .i64 n).wf = true := by
  have hmin : IntKind.i64.min = -9223372036854775808 := rfl
  have hmax : IntKind.i64.max = 9223372036854775807 := rfl
  simp only [Lit.wf, Bool.and_eq_true, decide_eq_true_eq, hmin, hmax]
  exact ⟨h.l, h.h⟩
theorem u64_wf {n : Nat} (h : n < 18446744073709551616) : (Lit.int .u64 (n : Int)).wf = true := by
  have hmin : IntKind.u64.min = 0 := rfl
  have hmax : IntKind.u64.max = 18446744073709551615 := rfl
  simp only [Lit.wf, Bool.and_eq_true, decide_eq_true_eq, hmin, hmax]
  omega

/-! ### Where a witness shows a height -/
def fstOf (l : List Li) (h : Int) : Option Nat := l.findIdx? fun x => decide (x.hd.height = h)
theorem take_one {α : Type} {l : List α} {k : Nat} {x : α} (h : l[k]? = some x) : l.take (k + 1) = l.take k ++ [x] := by
  rw [List.take_add_one, h]
  rfl
theorem drop_one {α : Type} {l : List α} {k : Nat} {x : α} (h : l[k]? = some x) : l.drop k = x :: l.drop (k + 1) := by
  obtain ⟨hk, e⟩ := List.getElem?_eq_some_iff.1 h
  rw [List.drop_eq_getElem_cons hk, e]
theorem fst_snoc (l : List Li) (x : Li) (h : Int) : fstOf (l ++ [x]) h = (fstOf l h).or (if x.hd.height = h then some l.length else none) := by
  unfold fstOf
  rw [List.findIdx?_append]
  congr 1
  by_cases e : x.hd.height = h <;> simp [List.findIdx?_cons, e]
theorem fst_found {l : List Li} {h : Int} {k : Nat} {x : Li} (h0 : fstOf (l.take k) h = none) (hx : l[k]? = some x) (e : x.hd.height = h) : fstOf l h = some k := by
  have hk := (List.getElem?_eq_some_iff.1 hx).1
  have e1 : l = l.take k ++ (x :: l.drop (k + 1)) := by rw [← drop_one hx, List.take_append_drop]
  unfold fstOf at h0 ⊢
  rw [e1, List.findIdx?_append, h0]
  simp [List.findIdx?_cons, e]
  omega
theorem fst_some {l : List Li} {h : Int} {k : Nat} (hk : fstOf l h = some k) : ∃ x, l[k]? = some x ∧ x.hd.height = h := by
  unfold fstOf at hk
  obtain ⟨h1, h2, _⟩ := List.findIdx?_eq_some_iff_getElem.1 hk
  exact ⟨l[k], List.getElem?_eq_getElem h1, by simpa using h2⟩
theorem fst_none {l : List Li} {h : Int} : fstOf l h = none ↔ ∀ x ∈ l, x.hd.height ≠ h := by
  unfold fstOf
  rw [List.findIdx?_eq_none_iff]
  simp
/-- The header that a witness shows of a height. -/
def shw (wi : List Li) (h : Int) : Option Hd := (fstOf wi h).bind fun k => (wi[k]?).map (·.hd)
theorem shw_none {wi : List Li} {h : Int} (hn : fstOf wi h = none) : shw wi h = none := by
  unfold shw
  rw [hn]
  rfl
theorem shw_some {wi : List Li} {h : Int} {k : Nat} {x : Li} (hk : fstOf wi h = some k) (hx : wi[k]? = some x) : shw wi h = some x.hd := by
  unfold shw
  rw [hk]
  simp [hx]
theorem shw_height {wi : List Li} {h : Int} {y : Hd} (hs : shw wi h = some y) : y.height = h ∧ ∃ x ∈ wi, x.hd = y := by
  unfold shw at hs
  cases hk : fstOf wi h with
  | none => rw [hk] at hs; cases hs
  | some k =>
    obtain ⟨x, hx, e⟩ := fst_some hk
    rw [hk] at hs
    simp [hx] at hs
    subst hs
    exact ⟨e, x, List.mem_of_getElem? hx, rfl⟩
/-- Does a witness show another header of the block's height? -/
def prt (wi : List Li) (x : Li) : Bool := match shw wi x.hd.height with | some y => decide (y ≠ x.hd) | none => false
def dv (tr wi : List Li) : Int × Int :=
  match tr with
  | [] => (0, 1)
  | r :: t => if shw wi r.hd.height = some r.hd then (match t.findIdx? (prt wi) with | some i => (((i + 1 : Nat) : Int), 0) | none => (0, 171)) else (0, 191)
theorem dv_nil (wi : List Li) : dv [] wi = (0, 1) := rfl
theorem dv_root {tr wi : List Li} {r : Li} (hr : tr[0]? = some r) (h : ¬ shw wi r.hd.height = some r.hd) : dv tr wi = (0, 191) := by
  cases tr with
  | nil => cases hr
  | cons x t =>
    simp only [List.getElem?_cons_zero, Option.some.injEq] at hr
    subst hr
    show (if shw wi x.hd.height = some x.hd then _ else _) = _
    rw [if_neg h]
theorem dv_found {tr wi : List Li} {r : Li} (hr : tr[0]? = some r) (h : shw wi r.hd.height = some r.hd) {k : Nat} {x : Li} (h0 : ∀ y ∈ (tr.drop 1).take k, prt wi y = false) (hx : tr[k + 1]? = some x) (hp : prt wi x = true) : dv tr wi = (((k + 1 : Nat) : Int), 0) := by
  cases tr with
  | nil => cases hr
  | cons z t =>
    simp only [List.getElem?_cons_zero, Option.some.injEq] at hr
    subst hr
    simp only [List.getElem?_cons_succ] at hx
    have hi : t.findIdx? (prt wi) = some k := by
      obtain ⟨hk, e⟩ := List.getElem?_eq_some_iff.1 hx
      refine List.findIdx?_eq_some_iff_getElem.2 ⟨hk, by rw [e]; exact hp, fun j hj => ?_⟩
      have hjl : j < t.length := by omega
      rw [h0 t[j] (by
        rw [List.drop_one, List.tail_cons]
        exact List.mem_of_getElem? (i := j) (by rw [List.getElem?_take_of_lt hj, List.getElem?_eq_getElem hjl]))]
      simp
    show (if shw wi z.hd.height = some z.hd then _ else _) = _
    rw [if_pos h, hi]
theorem dv_none {tr wi : List Li} {r : Li} (hr : tr[0]? = some r) (h : shw wi r.hd.height = some r.hd) (h0 : ∀ y ∈ tr.drop 1, prt wi y = false) : dv tr wi = (0, 171) := by
  cases tr with
  | nil => cases hr
  | cons z t =>
    simp only [List.getElem?_cons_zero, Option.some.injEq] at hr
    subst hr
    have hi : t.findIdx? (prt wi) = none := by
      rw [List.findIdx?_eq_none_iff]
      intro y hy
      rw [h0 y (by simpa using hy)]
    show (if shw wi z.hd.height = some z.hd then _ else _) = _
    rw [if_pos h, hi]
end Go.Proofs.Ytflellcbfcakhaa
