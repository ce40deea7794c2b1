/- Entries. -/
import Derived.Test.YtahlfncijbkcoaaDoorChecked
import Derived.WalkKit
import Derived.WalkLawsBesides
import Derived.OwnWalk
import Derived.Lib.Hide
import Derived.Maps.RangeWalk
import Derived.Maps.AppendAt
import Derived.Deep.MidRow
import Derived.Test.YtahlfncijbkcoaaDoorKu
namespace Go.Proofs.YtahlfncijbkcoaaDoor
open Go.RowKit
set_option linter.unusedVariables false
set_option linter.unusedSimpArgs false
set_option maxRecDepth 20000

/-! ### The steps -/
section
variable {ops : Array Oper} {rest : List Oper} {o : Oper} {a : Act} {Q : Exit → Act → World → Prop} {w : World} {b n : Nat} {F : Key → Nat}
theorem wpList_lenH (hg : o.guard = none) (x : Operand) (ho : o.op = Op.call { callee := Callee.builtin Builtin.len, args := #[x], argTypes := #[43] }) (hx : a.eval x = .map (some b)) (h : MapK holT w b n F)
    (hK : ∀ c : Nat, c ≤ n → wpList Tryd.prog ops Q rest (a.put o.dst (.int .i64 (c : Int))) w) : wpList Tryd.prog ops Q (o :: rest) a w := by
  obtain ⟨D, hown, hs⟩ := h
  exact wpList_len_own w hg x _ ho _ _ map_hol _ b n D hx hown (hK _ hown.size_le)
theorem wpList_makeE (hg : o.guard = none) (x : Operand) (ho : o.op = Op.makeSlice 38 (.const (.int .i64 0)) x) {c : Nat} (hx : a.eval x = .int .i64 (c : Int)) (hc : c ≤ 1000000)
    (hK : ∀ v w', Hid (OwnE w' v []) → Chg Non w w' → Hid (∀ j, vbl v j → w.heap.size ≤ j) → wpList Tryd.prog ops Q rest (a.put o.dst v) w') : wpList Tryd.prog ops Q (o :: rest) a w := by
  obtain ⟨v, w', hrun, h1, h2, h3⟩ := make_entries w c hc
  refine wpList_plain hg fun K' hK' => ?_
  have h0 : a.eval (.const (.int .i64 0)) = .int .i64 0 := rfl
  unfold Oper.wp execOp
  simp only [ho, h0, hx, Sem.run_bind, Sem.run_pure, hrun, Result.andThen_ok]
  exact hK' _ _ (hK v w' (Lib.hid h1) h2 (Lib.hid h3))
theorem wpList_nextH {D : DataW Unit} {r cnt : Nat} {left : Lit → Bool} (hg : o.guard = none) (it : Operand) (ho : o.op = Op.next it false) (hit : a.eval it = .pointer (some ⟨r, 0, none⟩))
    (h : w.ranges Tryd.prog 51 (plainElem Tryd.prog 30) b r n D left cnt) (hs : SaysK holT D F)
    (hDone : cnt = 0 → (∀ kl, left kl = false) → wpList Tryd.prog ops Q rest (a.put o.dst (.tuple #[.bool false])) w)
    (hMore : ∀ (s d : ByteArray) (c : Nat) (w' : World) (cnt' : Nat), s.size ≤ maxLen → d.size ≤ maxLen → F (s, d) = c → 0 < c → c < 18446744073709551616 → left (holT.lit (s, d)) = true →
      w'.ranges Tryd.prog 51 (plainElem Tryd.prog 30) b r n D (fun z => left z && !z.sameKey (holT.lit (s, d))) cnt' → cnt' < cnt → w.grownBy w' (some r) → w'.heap.size = w.heap.size →
      (Instr.entry (.pointer (some ⟨r, 0, none⟩))).run Tryd.prog w' = .ok (.tuple #[.agg #[.string s, .string d], .int .u64 (c : Int)]) w' → wpList Tryd.prog ops Q rest (a.put o.dst (.tuple #[.bool true, .agg #[.string s, .string d], .int .u64 (c : Int)])) w') :
    wpList Tryd.prog ops Q (o :: rest) a w := by
  refine wpList_next_ranges w hg it ho 51 holT.keyed (plainElem Tryd.prog 30) (fun k : Key => Value.agg #[.string k.1, .string k.2]) (Value.int .u64) (fun key kl hk => by obtain ⟨k, rfl, _⟩ := holT.inv key kl hk; exact ⟨k, rfl⟩) (fun v y hv => by obtain ⟨c, rfl, _⟩ := plainElem_int_inv Tryd.underlying30 hv; exact ⟨c, rfl⟩)
    b r n D left cnt hit h hDone ?_
  intro x c kl y w' cnt' hkey hl hv hat hrg hlt hg' hsz hen
  obtain ⟨k, ek, hok, rfl⟩ := holT.inv _ _ hkey
  have : k = x := (holT.inj x k ek).symm
  subst this
  obtain ⟨c', ec, hy, hwf⟩ := plainElem_int_inv Tryd.underlying30 hv
  injection ec with _ ec
  subst ec
  obtain ⟨m, rfl, hm⟩ := u64_nat hwf
  obtain ⟨h1, h2⟩ := hs k hok
  have hhas : Maps.has D (holT.lit k) = true := Maps.has_true_of_atKey hat
  rw [hhas] at h1
  have hp : 0 < F k := by simpa using h1.symm
  have hF : F k = m := by
    have e1 := h2 (.lit (.int .u64 0))
    rw [hat, if_pos hp, hy] at e1
    simp only [DataW.lit.injEq, Lit.int.injEq, true_and] at e1
    omega
  obtain ⟨s, d⟩ := k
  exact hMore s d m w' cnt' hok.1 hok.2 hF (by omega) hm hl hrg hlt hg' hsz hen
end
section
variable {ops : Array Oper} {Q : Exit → Act → World → Prop} {md : Region.Mode} {S : World → Prop}
theorem str_add (t : TypeId) (p q : ByteArray) (h : p.size + q.size ≤ 100000) (w : World) : (binOp .add t (.string p) (.string q)).run Tryd.prog w = .ok (.string (p ++ q)) w := by
  have h' : ¬ (((p.size + q.size : Nat) : Int) > IntKind.i64.max) := by
    have : IntKind.i64.max = 9223372036854775807 := rfl
    omega
  rw [binOp_string_add]
  unfold Op.stringOp
  simp only [if_neg h', Sem.run_pure]
theorem headI_add {o : Oper} {j : Nat} {is : List Nat} {a : Act} {K : Act → Prop} (hk : ops.toList[j]? = some o) (hw : Region.wanted o (yielded ops a.tmps) = true) (t u : TypeId) (x y : Operand) (ho : o.op = Op.binOp .add t x y u) {p q : ByteArray} (hx : a.eval x = .string p) (hy : a.eval y = .string q) (hl : p.size + q.size ≤ 100000)
    (h : HeadI Tryd.prog ops S is (a.put o.dst (.string (p ++ q))) K) : HeadI Tryd.prog ops S (j :: is) a K := by
  refine headI_run hk hw (fun w hs => ?_) h
  have hrun := str_add t p q hl w
  have hq : (eqGuard .add t x y (.string p) (.string q)).run Tryd.prog w = .ok () w := by first | rfl | (unfold eqGuard; simp)
  unfold execOp
  simp only [ho, hx, hy, Sem.run_bind, Sem.run_pure, hq, hrun, Result.andThen_ok]
theorem wp_step {o : Oper} {a : Act} {w w' : World} {K : Act → World → Prop} {v : Value} (hr : (execOp a.eval o).run Tryd.prog w = .ok (.value v) w') (h : K (a.put o.dst v) w') : o.wp Tryd.prog a w K Q := by
  unfold Oper.wp
  rw [hr, Oper.upon_value]
  exact h
theorem wp_built {o : Oper} {a : Act} {w : World} {K : Act → World → Prop} (ty : TypeId) (parts : Array (Nat × Operand)) (ho : o.op = .build ty parts) (vs : List (Nat × Value)) (hx : (parts.toList.map fun (i, x) => (i, a.eval x)) = vs) {cs : Array Value} (hb : Tryd.prog.built ty vs = some cs) (h : K (a.put o.dst (.agg cs)) w) : o.wp Tryd.prog a w K Q := by
  have hr := run_build (P := Tryd.prog) w ty (parts.map fun (i, x) => (i, a.eval x)) cs (by rw [Array.toList_map, hx]; exact hb)
  refine wp_step (v := .agg cs) (w' := w) ?_ h
  unfold execOp
  simp only [ho, Sem.run_bind, Sem.run_pure, hr, Result.andThen_ok]
theorem wp_row1 {o : Oper} {a : Act} {w : World} {K : Act → World → Prop} (x : Operand) (ho : o.op = .buildSlice 38 1 #[(0, x)]) (y : En) (hx : a.eval x = .agg y.cells.toArray)
    (h : K (a.put o.dst (.slice (some ⟨w.heap.size, 0, none⟩) 1 1)) (w.alloc (.cells y.cells.toArray 54))) : o.wp Tryd.prog a w K Q := by
  obtain ⟨i, z, hi, hz, hzs, hs, hb⟩ := entry_parts
  have hrun := run_build1 w Tryd.underlying38 hi hz hs (by omega) (by omega) y.cells rfl
  refine wp_step ?_ h
  unfold execOp
  simp only [ho, Sem.run_bind, Sem.run_pure, Result.andThen_ok, List.map_toArray, List.map_cons, List.map_nil, hx, hrun]
theorem wp_app {o : Oper} {a : Act} {w : World} {K : Act → World → Prop} (sl x : Operand) (ho : o.op = .call { callee := .builtin .append, args := #[sl, x], argTypes := #[38, 38] }) {v : Value} {es : List En} (hv : a.eval sl = v) (hown : OwnE w v es) (y : En) {nb : Nat} (hx : a.eval x = .slice (some ⟨nb, 0, none⟩) 1 1) (hb : Hb w nb 54 y.cells.toArray) (hlen : es.length ≤ 1000)
    (h : ∀ v' w', Hid (OwnE w' v' (es ++ [y])) → Chg (vbl v) w w' → (∀ j, vbl v' j → vbl v j ∨ w.heap.size ≤ j) → K (a.put o.dst v') w') : o.wp Tryd.prog a w K Q := by
  obtain ⟨i, z, hi, hz, hzs, hs, hbb⟩ := entry_parts
  obtain ⟨v', w', hrun, h2, h3, h4⟩ := run_app1 w o.type 38 Tryd.underlying38 hi hz hs hbb hzs (by omega) (by omega) hown.1 y rfl y.one (c := 1) hb hlen
  refine wp_step (v := v') (w' := w') ?_ (h v' w' (Lib.hid ⟨h2, ?_⟩) (chg_grown h3) ?_)
  · unfold execOp
    simp only [ho, resolve, invoke, builtin, Sem.run_bind, Sem.run_pure, Result.andThen_ok, List.map_toArray, List.map_cons, List.map_nil, hv, hx, hrun]
  · obtain ⟨g, hg⟩ := hown.2
    rcases h4 with h4 | h4
    · exact ⟨g, h4.trans hg⟩
    · exact ⟨_, h4⟩
  · intro j hj
    rcases h4 with h4 | h4
    · exact .inl (h4.symm.trans hj)
    · right
      have : some w.heap.size = some j := h4.symm.trans hj
      injection this with this
      omega
end

/-! ### What was met -/
structure MetK (F : Key → Nat) (left : Lit → Bool) (l : List (Key × Nat)) : Prop where
  nodup : l.Pairwise (fun x y => x.1 ≠ y.1)
  mem : ∀ k n, (k, n) ∈ l ↔ F k = n ∧ 0 < n ∧ holT.Ok k ∧ left (holT.lit k) = false
theorem MetK.start {F : Key → Nat} {left : Lit → Bool} (h : ∀ k, holT.Ok k → left (holT.lit k) = decide (0 < F k)) : MetK F left [] :=
  ⟨List.Pairwise.nil, fun k n => ⟨fun h => (by cases h), fun ⟨h1, h2, h3, h4⟩ => by rw [h k h3] at h4; simp only [decide_eq_false_iff_not] at h4; omega⟩⟩
theorem MetK.more {F : Key → Nat} {left : Lit → Bool} {l : List (Key × Nat)} (h : MetK F left l) {x : Key} {c : Nat} (hx : holT.Ok x) (hF : F x = c) (hc : 0 < c) (hl : left (holT.lit x) = true) : MetK F (fun z => left z && !z.sameKey (holT.lit x)) (l ++ [(x, c)]) := by
  have hn : ∀ m, (x, m) ∉ l := fun m hm => by have := ((h.mem x m).1 hm).2.2.2; rw [hl] at this; cases this
  have hkl : WideAt.IsKeyLit (holT.lit x) := holT.keyed.key (holT.of x hx)
  refine ⟨?_, fun k m => ?_⟩
  · rw [List.pairwise_append]
    refine ⟨h.nodup, by simp, fun a ha b hb => ?_⟩
    rw [List.mem_singleton] at hb
    subst hb
    intro e
    obtain ⟨a1, a2⟩ := a
    dsimp only at e
    subst e
    exact hn a2 ha
  · rw [List.mem_append, List.mem_singleton, h.mem k m]
    by_cases e : k = x
    · subst e
      have e1 : (left (holT.lit k) && !(holT.lit k).sameKey (holT.lit k)) = false := by rw [WideAt.sameKey_self hkl]; simp
      constructor
      · rintro (⟨_, _, _, h4⟩ | h1)
        · rw [hl] at h4; cases h4
        · injection h1 with _ h1
          subst h1
          exact ⟨hF, hc, hx, e1⟩
      · rintro ⟨h1, _⟩
        right
        rw [← h1, hF]
    · have e1 : holT.Ok k → (left (holT.lit k) && !(holT.lit k).sameKey (holT.lit x)) = left (holT.lit k) := fun hk => by
        rw [Maps.sameKey_ne (fun q => e (holT.lit_inj hk hx q))]
        simp
      constructor
      · rintro (⟨h1, h2, h3, h4⟩ | h1)
        · exact ⟨h1, h2, h3, by rw [e1 h3]; exact h4⟩
        · injection h1 with h1 _
          exact absurd h1 e
      · rintro ⟨h1, h2, h3, h4⟩
        left
        exact ⟨h1, h2, h3, by rw [← e1 h3]; exact h4⟩
theorem MetK.all {F : Key → Nat} {left : Lit → Bool} {l : List (Key × Nat)} (h : MetK F left l) (hF : Fine F) (hl : ∀ kl, left kl = false) : Lsg F l := by
  refine ⟨h.nodup, fun k n => ?_⟩
  rw [h.mem k n]
  constructor
  · rintro ⟨h1, h2, _⟩
    exact ⟨h1, h2⟩
  · rintro ⟨h1, h2⟩
    obtain ⟨e1, e2⟩ := hF k (by omega)
    have := accOk_size e1
    have := denOk_size e2
    exact ⟨h1, h2, ⟨by unfold maxLen; omega, by unfold maxLen; omega⟩, hl _⟩
end Go.Proofs.YtahlfncijbkcoaaDoor
