import Derived.Test.YteglpgakikigiaaChecked
import Derived.WalkKit
import Derived.WalkLawsBesides
import Derived.Lib.Hide
import Derived.Recover
import Derived.Deep.RegionHeld3
import Derived.Test.YteglpgakikigiaaMFormLists5
import Derived.Test.YteglpgakikigiaaMFormLists6
import Derived.Test.YteglpgakikigiaaMFormLists8
/- A proof that the document's reader reads, part by part: words. -/
namespace Go.Proofs.Yteglpgakikigiaa
open Go.RowKit
set_option linter.unusedVariables false
set_option linter.unusedSimpArgs false
set_option maxRecDepth 20000

theorem step_build1 (w : World) {ops : Array Oper} {o : Oper} {a : Act} {K : Act → World → Prop} {Q : Exit → Act → World → Prop} {E : Prop} {t e : TypeId} {i : TypeInfo} {z : Value} {sz : Nat} (hgd : o.guard = none) (x : Operand)
    (ho : o.op = .buildSlice t 1 #[(0, x)]) (ht : Try.prog.underlying t = some (.slice e)) (hi : Try.prog.info? e = some i) (hz : i.zero = some z) (hs : i.size = sz) (hpos : 0 < sz) (hsz : sz ≤ 1000) (cs : List Value) (hx : a.eval x = .agg cs.toArray) (hcs : cs.length = sz)
    (h : K (a.put o.dst (.slice (some ⟨w.heap.size, 0, none⟩) 1 1)) (w.alloc (.cells cs.toArray e))) :
    if Region.wanted o (yielded ops a.tmps) = true then Oper.wp Try.prog o a w K Q else E := by
  have hw : Region.wanted o (yielded ops a.tmps) = true := by simp [Region.wanted, hgd]
  rw [if_pos hw]
  have hrun := run_build1 w ht hi hz hs hpos hsz cs hcs
  unfold Oper.wp execOp
  simp only [ho, Sem.run_bind, Sem.run_pure, Result.andThen_ok, List.map_toArray, List.map_cons, List.map_nil, hx, hrun]
  exact h
theorem wpList_build1 (w : World) {ops : Array Oper} {rest : List Oper} {o : Oper} {a : Act} {Q : Exit → Act → World → Prop} {t e : TypeId} {i : TypeInfo} {z : Value} {sz : Nat} (hgd : o.guard = none) (x : Operand)
    (ho : o.op = .buildSlice t 1 #[(0, x)]) (ht : Try.prog.underlying t = some (.slice e)) (hi : Try.prog.info? e = some i) (hz : i.zero = some z) (hs : i.size = sz) (hpos : 0 < sz) (hsz : sz ≤ 1000) (cs : List Value) (hx : a.eval x = .agg cs.toArray) (hcs : cs.length = sz)
    (h : wpList Try.prog ops Q rest (a.put o.dst (.slice (some ⟨w.heap.size, 0, none⟩) 1 1)) (w.alloc (.cells cs.toArray e))) : wpList Try.prog ops Q (o :: rest) a w := by
  refine wpList_plain hgd fun K hK => ?_
  have hrun := run_build1 w ht hi hz hs hpos hsz cs hcs
  unfold Oper.wp execOp
  simp only [ho, Sem.run_bind, Sem.run_pure, Result.andThen_ok, List.map_toArray, List.map_cons, List.map_nil, hx, hrun]
  exact hK _ _ h
theorem step_app1 {α : Type} (w : World) {ops : Array Oper} {o : Oper} {a : Act} {K : Act → World → Prop} {Q : Exit → Act → World → Prop} {E : Prop} {t e : TypeId} {i : TypeInfo} {z : Value} {sz by' : Nat} {cells : α → List Value} (hgd : o.guard = none) (sl x : Operand)
    (ho : o.op = .call { callee := .builtin .append, args := #[sl, x], argTypes := #[t, t] }) (ht : Try.prog.underlying t = some (.slice e)) (hi : Try.prog.info? e = some i) (hz : i.zero = some z) (hs : i.size = sz) (hby : i.bytes = by') (hzs : z.cells.size = sz) (hpos : 0 < sz) (hbb : by' ≤ 1000)
    {v : Value} {l : List α} (hv : a.eval sl = v) (hown : OwnL e sz cells w v l) (y : α) (hy : (cells y).length = sz) (h1 : ∀ u ∈ cells y, u.oneCell' = true) {nb : Nat} (hx : a.eval x = .slice (some ⟨nb, 0, none⟩) 1 1) (hb : Hb w nb e (cells y).toArray) (hlen : l.length ≤ 1000)
    (h : ∀ v' w', OwnL e sz cells w' v' (l ++ [y]) → w.grownBy w' v.ownBlock → (v'.ownBlock = v.ownBlock ∨ v'.ownBlock = some w.heap.size) → K (a.put o.dst v') w') :
    if Region.wanted o (yielded ops a.tmps) = true then Oper.wp Try.prog o a w K Q else E := by
  have hw : Region.wanted o (yielded ops a.tmps) = true := by simp [Region.wanted, hgd]
  rw [if_pos hw]
  obtain ⟨v', w', hrun, h2, h3, h4⟩ := run_app1 w o.type t ht hi hz hs hby hzs hpos hbb hown y hy h1 (c := 1) hb hlen
  unfold Oper.wp execOp
  simp only [ho, resolve, invoke, builtin, Sem.run_bind, Sem.run_pure, Result.andThen_ok, List.map_toArray, List.map_cons, List.map_nil, hv, hx, hrun]
  exact h v' w' h2 h3 h4
theorem wpList_app1 {α : Type} (w : World) {ops : Array Oper} {rest : List Oper} {o : Oper} {a : Act} {Q : Exit → Act → World → Prop} {t e : TypeId} {i : TypeInfo} {z : Value} {sz by' : Nat} {cells : α → List Value} (hgd : o.guard = none) (sl x : Operand)
    (ho : o.op = .call { callee := .builtin .append, args := #[sl, x], argTypes := #[t, t] }) (ht : Try.prog.underlying t = some (.slice e)) (hi : Try.prog.info? e = some i) (hz : i.zero = some z) (hs : i.size = sz) (hby : i.bytes = by') (hzs : z.cells.size = sz) (hpos : 0 < sz) (hbb : by' ≤ 1000)
    {v : Value} {l : List α} (hv : a.eval sl = v) (hown : OwnL e sz cells w v l) (y : α) (hy : (cells y).length = sz) (h1 : ∀ u ∈ cells y, u.oneCell' = true) {nb : Nat} (hx : a.eval x = .slice (some ⟨nb, 0, none⟩) 1 1) (hb : Hb w nb e (cells y).toArray) (hlen : l.length ≤ 1000)
    (h : ∀ v' w', OwnL e sz cells w' v' (l ++ [y]) → w.grownBy w' v.ownBlock → (v'.ownBlock = v.ownBlock ∨ v'.ownBlock = some w.heap.size) → wpList Try.prog ops Q rest (a.put o.dst v') w') : wpList Try.prog ops Q (o :: rest) a w := by
  refine wpList_plain hgd fun K hK => ?_
  obtain ⟨v', w', hrun, h2, h3, h4⟩ := run_app1 w o.type t ht hi hz hs hby hzs hpos hbb hown y hy h1 (c := 1) hb hlen
  unfold Oper.wp execOp
  simp only [ho, resolve, invoke, builtin, Sem.run_bind, Sem.run_pure, Result.andThen_ok, List.map_toArray, List.map_cons, List.map_nil, hv, hx, hrun]
  exact hK _ _ (h v' w' h2 h3 h4)
theorem hash_parts : ∃ i z, Try.prog.info? 29 = some i ∧ i.zero = some z ∧ z.cells.size = 32 ∧ i.size = 32 ∧ i.bytes = 32 := by
  have h : (Try.prog.info? 29).map (fun i => (i.zero.map (·.cells.size), i.size, i.bytes)) = some (some 32, 32, 32) := by kernel_rfl
  cases hi : Try.prog.info? 29 with
  | none => rw [hi] at h; cases h
  | some i =>
    rw [hi] at h
    simp only [Option.map_some, Option.some.injEq, Prod.mk.injEq] at h
    obtain ⟨h1, h2, h3⟩ := h
    cases hz : i.zero with
    | none => rw [hz] at h1; cases h1
    | some z =>
      rw [hz] at h1
      simp only [Option.map_some, Option.some.injEq] at h1
      exact ⟨i, z, rfl, hz, h1, h2, h3⟩
theorem ent_hash (args : Array Value) (w : World) : (callFunc 49 args).run Try.prog w = .ok (.enter 49 args) w := enters_of Try.func49 (by kernel_rfl) rfl args w
/-- A part's path as a value. -/
def Pm.pathV (m : Pm) : Value := .slice m.A m.part.path.length m.c
section
variable {w wr w' : World} {g rb pb : Nat} {F : Nat → Prop} {Z : List Value} {size : Int} {B : Nat} {st st' : St} {vp : Value} {ms : List Pm}
end
theorem OwnL.blk {α : Type} {e : TypeId} {sz : Nat} {cells : α → List Value} {w : World} {v : Value} {l : List α} (h : OwnL e sz cells w v l) {j : Nat} (hj : vbl v j) : ∃ cs, Hb w j e cs := by
  rcases h.2 with ⟨rfl, _⟩ | ⟨g, cap, cur, rfl, _, hg, _⟩
  · cases hj
  · have : some g = some j := hj
    injection this with this
    subst this
    exact ⟨cur, hg⟩
end Go.Proofs.Yteglpgakikigiaa

/- What the document's reader reads of sets, commits and light blocks, right or not: plain mathematics. -/
namespace Go.Proofs.Yteglpgakikigiaa
open Go.RowKit
set_option linter.unusedVariables false
set_option linter.unusedSimpArgs false
set_option maxRecDepth 20000

/-- What is decoded is what was read, if that is right. -/
def As {α : Type} (d : Option (α × St)) (r : α × St) (ok : Bool) : Prop := (d = some r ∧ ok = true) ∨ (d = none ∧ (r.2 = none ∨ ok = false))
theorem as_whole {α : Type} {d : Option (α × St)} {r : α × St} {ok : Bool} (h : As d r ok) : whole d = if r.2 = some [] ∧ ok = true then some r.1 else none := by
  rcases h with ⟨h1, h2⟩ | ⟨h1, h2⟩
  · rw [h1, h2]
    obtain ⟨x, s⟩ := r
    match s with
    | none => rfl
    | some [] => simp [whole]
    | some (_ :: _) => simp [whole]
  · rw [h1]
    rcases h2 with h2 | h2
    · rw [h2]; simp [whole]
    · rw [h2]; simp [whole]
/-- So many elements. -/
def rK {α : Type} (f : St → α × St) (st : St) : Nat → List α × St
  | 0 => ([], st)
  | k + 1 => ((rK f st k).1 ++ [(f (rK f st k).2).1], (f (rK f st k).2).2)
theorem rK_len {α : Type} (f : St → α × St) (st : St) : ∀ k, (rK f st k).1.length = k
  | 0 => rfl
  | k + 1 => by unfold rK; rw [List.length_append, rK_len f st k]; rfl
theorem rK_none {α : Type} {f : St → α × St} (h : (f none).2 = none) : ∀ k, (rK f none k).2 = none
  | 0 => rfl
  | k + 1 => by unfold rK; simp only; rw [rK_none h k]; exact h
theorem rK_mem {α : Type} {f : St → α × St} {p : α → Prop} (h : ∀ st, p (f st).1) (st : St) : ∀ k, ∀ x ∈ (rK f st k).1, p x
  | 0, x, hx => by simp [rK] at hx
  | k + 1, x, hx => by
    unfold rK at hx
    rcases List.mem_append.1 hx with hx | hx
    · exact rK_mem h st k x hx
    · rw [List.mem_singleton.1 hx]; exact h _
theorem rK_is {α : Type} {f : St → α × St} {d : St → Option (α × St)} (h : ∀ st, d st = some (f st)) (st : St) : ∀ k, dK d st k = some (rK f st k)
  | 0 => rfl
  | k + 1 => by
    unfold dK
    rw [rK_is h st k, Option.bind_some, h]
    rfl
/-- A counted list. -/
def rList {α : Type} (f : St → α × St) (most : Int) (st : St) : List α × St := rK f (nC most st) (vC most st).toNat
theorem rList_is {α : Type} {f : St → α × St} {d : St → Option (α × St)} (h : ∀ st, d st = some (f st)) (h0 : (f none).2 = none) {most : Int} (hm : 0 ≤ most) (st : St) : As (dList d most st) (rList f most st) true := by
  unfold dList rList
  by_cases h2 : inR 0 most (vN st) = true
  · obtain ⟨c1, c2⟩ := count_in hm h2
    have e : dNum 0 most st = some (vN st, nW st) := by unfold dNum; rw [if_pos h2]
    rw [e, Option.bind_some, c1, c2]
    exact .inl ⟨rK_is h _ _, rfl⟩
  · obtain ⟨c1, c2⟩ := count_out hm h2
    have e : dNum 0 most st = none := by unfold dNum; rw [if_neg h2]
    rw [e, c2]
    exact .inr ⟨rfl, .inl (rK_none h0 _)⟩
theorem rList_len {α : Type} (f : St → α × St) (most : Int) (hm : 0 ≤ most) (st : St) : inR 0 most ((rList f most st).1.length : Int) = true := by
  unfold rList
  rw [rK_len]
  have := vC_range most st hm
  exact inR_iff.2 ⟨by omega, by omega⟩
theorem rList_none {α : Type} {f : St → α × St} (h0 : (f none).2 = none) (most : Int) : (rList f most none).2 = none := rK_none h0 _
def rVa (st : St) : Va × St := (⟨vW st, vN (nW st)⟩, nW (nW st))
theorem rVa_is (st : St) : dVa st = some (rVa st) := by
  unfold dVa dNum
  rw [if_pos (inR_iff.2 (vN_bounds _))]
  rfl
theorem rVa_ok (st : St) : (rVa st).1.Ok := ⟨vW_lt _, (vN_64 _).l, (vN_64 _).h⟩
def rSe (st : St) : Se × St := (⟨vW st, vW (nW st), vW (nW (nW st))⟩, nW (nW (nW st)))
theorem rSe_is (st : St) : dSe st = some (rSe st) := rfl
theorem rSe_ok (st : St) : (rSe st).1.Ok := ⟨vW_lt _, vW_lt _, vW_lt _⟩
def rSet (st : St) : List Va × St := rList rVa 64 (rBeg 3 st)
theorem rSet_none : (rSet none).2 = none := rList_none (f := rVa) rfl 64
theorem rSet_right (st : St) : setRight (rSet st).1 = true := rList_len rVa 64 (by omega) _
theorem rSet_ok (st : St) : ∀ x ∈ (rSet st).1, x.Ok := rK_mem rVa_ok _ _
theorem rSet_is (st : St) : As (dSet st) (rSet st) true := by
  unfold dSet rSet rBeg dBegin
  by_cases h0 : vN st = 3
  · rw [if_pos h0, if_pos h0, Option.bind_some]
    exact rList_is rVa_is rfl (by omega) _
  · rw [if_neg h0, if_neg h0]
    exact .inr ⟨rfl, .inl (rList_none (f := rVa) rfl 64)⟩
def rCommit (st : St) : Cm × St :=
  (⟨vN (rBeg 4 st), vN (nW (rBeg 4 st)), vH (nW (nW (rBeg 4 st))), (rList rSe 64 (nH (nW (nW (rBeg 4 st))))).1⟩, (rList rSe 64 (nH (nW (nW (rBeg 4 st))))).2)
theorem rCommit_none : (rCommit none).2 = none := rList_none (f := rSe) rfl 64
theorem rCommit_ok (st : St) : (rCommit st).1.Ok := ⟨vN_64 _, vN_64 _, vH_length _, rK_mem rSe_ok _ _⟩
theorem rCommit_len (st : St) : inR 0 64 ((rCommit st).1.seals.length : Int) = true := rList_len rSe 64 (by omega) _
theorem rCommit_is (st : St) : As (dCommit st) (rCommit st) (rCommit st).1.right := by
  have hlen := rCommit_len st
  have hR : (rCommit st).1.right = (inR 1 1099511627776 (vN (rBeg 4 st)) && inR 0 1048576 (vN (nW (rBeg 4 st)))) := by
    unfold Cm.right
    rw [hlen]
    simp [rCommit]
  rw [hR]
  unfold dCommit dBegin
  by_cases h0 : vN st = 4
  · have eb : rBeg 4 st = nW st := by unfold rBeg; rw [if_pos h0]
    unfold rCommit
    rw [if_pos h0, Option.bind_some, eb]
    by_cases h1 : inR 1 1099511627776 (vN (nW st)) = true
    · have e1 : dNum 1 1099511627776 (nW st) = some (vN (nW st), nW (nW st)) := by unfold dNum; rw [if_pos h1]
      rw [e1, Option.bind_some, h1]
      simp only
      by_cases h2 : inR 0 1048576 (vN (nW (nW st))) = true
      · have e2 : dNum 0 1048576 (nW (nW st)) = some (vN (nW (nW st)), nW (nW (nW st))) := by unfold dNum; rw [if_pos h2]
        rw [e2, Option.bind_some, h2]
        simp only
        rcases rList_is rSe_is rfl (most := 64) (by omega) (nH (nW (nW (nW st)))) with ⟨h3, _⟩ | ⟨h3, h4⟩
        · rw [h3, Option.bind_some]
          exact .inl ⟨rfl, rfl⟩
        · rw [h3]
          refine .inr ⟨rfl, .inl ?_⟩
          rcases h4 with h4 | h4
          · exact h4
          · cases h4
      · have e2 : dNum 0 1048576 (nW (nW st)) = none := by unfold dNum; rw [if_neg h2]
        rw [e2]
        exact .inr ⟨rfl, .inr (by simpa using h2)⟩
    · have e1 : dNum 1 1099511627776 (nW st) = none := by unfold dNum; rw [if_neg h1]
      rw [e1]
      exact .inr ⟨rfl, .inr (by simp [show inR 1 1099511627776 (vN (nW st)) = false by simpa using h1])⟩
  · rw [if_neg h0]
    refine .inr ⟨rfl, .inl ?_⟩
    unfold rCommit rBeg
    rw [if_neg h0]
    exact rList_none (f := rSe) rfl 64
theorem rHeader_none : (rHeader none).2 = none := rfl
theorem rHeader_as (st : St) : As (dHeader st) (rHeader st) (rHeader st).1.right := by
  have hR : (rHeader st).1.right = (nameOk ⟨(vT (rBeg 2 st)).toArray⟩ && (inR 1 1099511627776 (vN (nT (rBeg 2 st))) && inR 0 1099511627776 (vN (nW (nT (rBeg 2 st)))))) := rfl
  rw [hR]
  unfold dHeader dBegin
  by_cases h0 : vN st = 2
  · have eb : rBeg 2 st = nW st := by unfold rBeg; rw [if_pos h0]
    unfold rHeader
    rw [if_pos h0, Option.bind_some, eb]
    unfold dName dNum
    by_cases h1 : nameOk ⟨(vT (nW st)).toArray⟩ = true
    · rw [if_pos h1, Option.bind_some, h1]
      simp only
      by_cases h2 : inR 1 1099511627776 (vN (nT (nW st))) = true
      · rw [if_pos h2, Option.bind_some, h2]
        simp only
        by_cases h3 : inR 0 1099511627776 (vN (nW (nT (nW st)))) = true
        · rw [if_pos h3, Option.bind_some, h3]
          exact .inl ⟨rfl, rfl⟩
        · rw [if_neg h3]
          exact .inr ⟨rfl, .inr (by simpa using h3)⟩
      · rw [if_neg h2]
        exact .inr ⟨rfl, .inr (by simp [show inR 1 1099511627776 (vN (nT (nW st))) = false by simpa using h2])⟩
    · rw [if_neg h1]
      exact .inr ⟨rfl, .inr (by simp [show nameOk ⟨(vT (nW st)).toArray⟩ = false by simpa using h1])⟩
  · rw [if_neg h0]
    refine .inr ⟨rfl, .inl ?_⟩
    unfold rHeader rBeg
    rw [if_neg h0]
    rfl
def rLight (st : St) : Lt × St :=
  (⟨(rHeader (rBeg 5 st)).1, (rCommit (rHeader (rBeg 5 st)).2).1, (rSet (rCommit (rHeader (rBeg 5 st)).2).2).1, (rSet (rSet (rCommit (rHeader (rBeg 5 st)).2).2).2).1⟩, (rSet (rSet (rCommit (rHeader (rBeg 5 st)).2).2).2).2)
theorem rLight_ok (st : St) : (rLight st).1.Ok := ⟨rHeader_ok _, rCommit_ok _, rSet_ok _, rSet_ok _⟩
theorem rLight_is (st : St) : As (dLight st) (rLight st) (rLight st).1.right := by
  have hR : (rLight st).1.right = ((rHeader (rBeg 5 st)).1.right && (rCommit (rHeader (rBeg 5 st)).2).1.right) := by
    unfold Lt.right rLight
    simp only
    rw [rSet_right, rSet_right]
    simp
  rw [hR]
  unfold dLight dBegin
  by_cases h0 : vN st = 5
  · have eb : rBeg 5 st = nW st := by unfold rBeg; rw [if_pos h0]
    unfold rLight
    rw [if_pos h0, Option.bind_some, eb]
    rcases rHeader_as (nW st) with ⟨h1, h2⟩ | ⟨h1, h2⟩
    · rw [h1, Option.bind_some, h2]
      rcases rCommit_is (rHeader (nW st)).2 with ⟨h3, h4⟩ | ⟨h3, h4⟩
      · rw [h3, Option.bind_some, h4]
        rcases rSet_is (rCommit (rHeader (nW st)).2).2 with ⟨h5, _⟩ | ⟨h5, h6⟩
        · rw [h5, Option.bind_some]
          rcases rSet_is (rSet (rCommit (rHeader (nW st)).2).2).2 with ⟨h7, _⟩ | ⟨h7, h8⟩
          · rw [h7, Option.bind_some]
            exact .inl ⟨rfl, rfl⟩
          · rw [h7]
            refine .inr ⟨rfl, .inl ?_⟩
            rcases h8 with h8 | h8
            · exact h8
            · cases h8
        · rw [h5]
          refine .inr ⟨rfl, .inl ?_⟩
          rcases h6 with h6 | h6
          · simp only; rw [h6]; exact rSet_none
          · cases h6
      · rw [h3]
        refine .inr ⟨rfl, ?_⟩
        rcases h4 with h4 | h4
        · left; simp only; rw [h4, rSet_none]; exact rSet_none
        · right; rw [h4]; simp
    · rw [h1]
      refine .inr ⟨rfl, ?_⟩
      rcases h2 with h2 | h2
      · left; simp only; rw [h2, rCommit_none, rSet_none]; exact rSet_none
      · right; rw [h2]; simp
  · rw [if_neg h0]
    refine .inr ⟨rfl, .inl ?_⟩
    unfold rLight rBeg
    rw [if_neg h0]
    simp only
    rw [rHeader_none, rCommit_none, rSet_none]
    exact rSet_none
end Go.Proofs.Yteglpgakikigiaa

/- The document's answers for forms: readSet. -/
namespace Go.Proofs.Yteglpgakikigiaa
open Go.RowKit
set_option linter.unusedVariables false
set_option linter.unusedSimpArgs false
set_option maxRecDepth 20000

theorem va_parts : ∃ i z, Try.prog.info? 71 = some i ∧ i.zero = some z ∧ z.cells.size = 2 ∧ i.size = 2 ∧ i.bytes = 16 := by
  have h : (Try.prog.info? 71).map (fun i => (i.zero.map (·.cells.size), i.size, i.bytes)) = some (some 2, 2, 16) := by kernel_rfl
  cases hi : Try.prog.info? 71 with
  | none => rw [hi] at h; cases h
  | some i =>
    rw [hi] at h
    simp only [Option.map_some, Option.some.injEq, Prod.mk.injEq] at h
    obtain ⟨h1, h2, h3⟩ := h
    cases hz : i.zero with
    | none => rw [hz] at h1; cases h1
    | some z =>
      rw [hz] at h1
      simp only [Option.map_some, Option.some.injEq] at h1
      exact ⟨i, z, rfl, hz, h1, h2, h3⟩
/-- What the reading of a list leaves: a slice of the call's own. -/
def Gots (w : World) (g : Nat) (F : Nat → Prop) (l : List Va) (st : St) (e : Ending) (w' : World) : Prop :=
  ∃ v, e = .returned v ∧ OwnL 71 2 Va.cells w' v l ∧ (∀ j, vbl v j → w.heap.size ≤ j) ∧ RdF w' g F st ∧ Chg (Eqg g) w w'
set_option maxHeartbeats 3200000 in
theorem readSet_any (w : World) (g : Nat) (F : Nat → Prop) (st : St) (h : RdF w g F st) (hFs : ∀ j, F j → j < w.heap.size) :
    Calls Try.prog 19 #[.pointer (some ⟨g, 0, none⟩)] w (Gots w g F (rSet st).1 (rSet st).2) := by
  have HN := refRNumber w g F st h hFs
  have hgl := h.lt
  have hs0 : rBeg 3 st = if vN st = 3 then nW st else none := rfl
  have hR : Hid (rSet st = rK rVa (nC 64 (rBeg 3 st)) (vC 64 (rBeg 3 st)).toNat) := Lib.hid rfl
  generalize rSet st = rr at *
  generalize rBeg 3 st = s1 at *
  generalize nW st = s0 at *
  generalize vN st = m at *
  obtain ⟨iv, zv, j1, j2, j3, j4, j5⟩ := va_parts
  have IV := Lib.hid (And.intro j1 (And.intro j2 (And.intro j3 (And.intro j4 j5))))
  have HH := Lib.hid HN
  have HFS := Lib.hid hFs
  clear HN h hFs j1 j2 j3 j4 j5
  by_cases hk : m = 3
  · rw [if_pos hk] at hs0
    subst hs0
    subst hk
    go_enter Try.func19, Try.ntmps19
    go_wp2_with fail
    refine HH.out.mono ?_
    rintro e w1 ⟨rfl, hR1, hK⟩
    obtain ⟨A9, m9, c9, hblk⟩ := hR1.blk
    have q1 : w1.cell? ⟨g, 1, none⟩ = some (.bool s1.isNone) := hblk.cell 1
    have q2 : w1.frozen? ⟨g, 1, none⟩ = false := hblk.frozen 1
    clear HH hblk
    go_wp2_with fail
    have hR2 := hR1.same
    have kk := (Chg.refl (Eqg g) w1).setCell (p := ⟨g, 1, none⟩) (.inl rfl) (.bool s1.isNone)
    have hk2 := hK.trans kk (fun j hj => .inl hj)
    clear hK kk hR1 q1 q2
    generalize w1.setCell ⟨g, 1, none⟩ (.bool s1.isNone) = w2 at *
    have hw2 := hk2.size
    refine (refRCount w2 _ _ (s1) 64 hR2 (fun j hj => Nat.lt_of_lt_of_le (HFS.out j hj) hw2)).mono ?_
    rintro e w3 ⟨rfl, hR3, hK3⟩
    have hk3 := hk2.trans hK3 (fun j hj => .inl hj)
    have hvr := vC_range 64 (s1) (by omega)
    have hrr := hR.out
    generalize nC 64 (s1) = s2 at *
    generalize vC 64 (s1) = nv at *
    obtain ⟨N, rfl⟩ : ∃ N : Nat, nv = (N : Int) := ⟨nv.toNat, by omega⟩
    rw [Int.toNat_natCast] at hrr
    have HRR := Lib.hid hrr
    have hN2 : N ≤ 64 := by omega
    have HR3 := Lib.hid hR3
    have HK3 := Lib.hid hk3
    clear hvr hrr hR hR2 hk2 hR3 hK3 hk3 hw2
    go_wp2_with fail
    go_loopw [4, 5, 6] (fun l i k wr => ∃ q : Nat, q ≤ N ∧ i = .int .i64 (q : Int) ∧ Hid (RdF wr g F (rK rVa s2 q).2) ∧ Hid (OwnL 71 2 Va.cells wr l (rK rVa s2 q).1) ∧ Hid (∀ j, vbl l j → w.heap.size ≤ j) ∧ Hid (Chg (Eqg g) w wr)) (fun _ i _ _ => N - (intOf i).toNat)
    case atStart => exact ⟨0, by omega, rfl, HR3, Lib.hid (OwnL.nil _), Lib.hid (fun j hj => by cases hj), HK3⟩
    case round =>
      obtain ⟨q, hq, rfl, HR, HO, HV, HC⟩ := hrel
      clear HR3 HK3
      by_cases hlt : q < N
      · have hqi : (q : Int) < (N : Int) := by omega
        have HNX : Hid (rK rVa s2 (q + 1) = ((rK rVa s2 q).1 ++ [(⟨vW (rK rVa s2 q).2, vN (nW (rK rVa s2 q).2)⟩ : Va)], nW (nW (rK rVa s2 q).2))) := Lib.hid rfl
        have hll : Hid ((rK rVa s2 q).1.length ≤ 64) := Lib.hid (by rw [rK_len]; omega)
        generalize (rK rVa s2 q).2 = sq at *
        generalize (rK rVa s2 q).1 = lq at *
        go_wp2_with fail
        refine (refRWord wr _ _ sq HR.out (fun j hj => Nat.lt_of_lt_of_le (HFS.out j hj) HC.out.size)).mono ?_
        rintro e w7 ⟨rfl, hR7, hK7⟩
        have hC7 := HC.out.trans hK7 (fun j hj => .inl hj)
        have hO7 := HO.out.chg hK7 (fun j hj e => by have := HV.out j hj; unfold Eqg at e; omega)
        go_wp2_with fail
        refine (refRNumber w7 _ _ (nW sq) hR7 (fun j hj => Nat.lt_of_lt_of_le (HFS.out j hj) hC7.size)).mono ?_
        rintro e w8 ⟨rfl, hR8, hK8⟩
        have hC8 := hC7.trans hK8 (fun j hj => .inl hj)
        have hO8 := hO7.chg hK8 (fun j hj e => by have := HV.out j hj; unfold Eqg at e; omega)
        have ka := (Chg.refl Non w8).alloc (.cells #[.int .u64 (vW sq : Int), .int .i64 (vN (nW sq))] 71)
        have hO9 := hO8.chg ka (fun _ _ f => f)
        have hR9 := hR8.chg ka (fun f => f) (fun _ _ f => f)
        have hC9 := hC8.trans ka (fun _ f => f.elim)
        have hnb : Hb _ w8.heap.size 71 (Va.cells ⟨vW sq, vN (nW sq)⟩).toArray := Hb.new w8 71 #[.int .u64 (vW sq : Int), .int .i64 (vN (nW sq))]
        have hone : ∀ u ∈ Va.cells ⟨vW sq, vN (nW sq)⟩, u.oneCell' = true := by intro v hv; simp [Va.cells] at hv; rcases hv with rfl | rfl <;> rfl
        clear hR7 hK7 hC7 hO7 hR8 hK8 hO8
        go_wp2_with (at_builtin; refine wpList_app1 (v := u4) _ rfl _ _ rfl Try.underlying24 IV.out.1 IV.out.2.1 IV.out.2.2.2.1 IV.out.2.2.2.2 IV.out.2.2.1 (by omega) (by omega) rfl hO9 (⟨vW sq, vN (nW sq)⟩ : Va) rfl hone rfl hnb (by have := hll.out; omega) ?_; intro v9 w9 o9 g9 b9)
        have k9 := (Chg.refl (fun j => vbl u4 j) _).grown g9 (fun k hk => .inl hk)
        have R9 := hR9.chg k9 (fun e => by have := HV.out _ e; omega) (fun j hj e => by have := HV.out _ e; have := HFS.out j hj; omega)
        have C9 := hC9.trans k9 (fun j hj => .inr (HV.out j hj))
        have V9 : ∀ j, vbl v9 j → w.heap.size ≤ j := fun j hj => by
          rcases b9 with b9 | b9
          · exact HV.out j (by unfold vbl at hj ⊢; rw [← b9]; exact hj)
          · unfold vbl at hj; rw [b9] at hj; injection hj with hj; have := hC9.size; omega
        have HR9 := Lib.hid R9
        have HO9 := Lib.hid o9
        have HV9 := Lib.hid V9
        have HC9 := Lib.hid C9
        clear R9 o9 V9 C9 k9 g9 b9 hR9 hO9 hC9 hnb hone ka hC8
        go_roundw
        case rel => exact ⟨q + 1, by omega, by go_num, Lib.hid (by rw [HNX.out]; exact HR9.out), Lib.hid (by rw [HNX.out]; exact HO9.out), HV9, HC9⟩
        case measure => simp [intOf]; omega
      · obtain rfl : q = N := by omega
        go_wp2_with fail
        go_ret
        exact ⟨_, rfl, by rw [HRR.out]; exact HO.out, HV.out, by rw [HRR.out]; exact HR.out, HC.out⟩
  · rw [if_neg hk] at hs0
    subst hs0
    go_enter Try.func19, Try.ntmps19
    go_wp2_with fail
    refine HH.out.mono ?_
    rintro e w1 ⟨rfl, hR1, hK⟩
    obtain ⟨A9, m9, c9, hblk⟩ := hR1.blk
    have q1 : w1.cell? ⟨g, 1, none⟩ = some (.bool s0.isNone) := hblk.cell 1
    have q2 : w1.frozen? ⟨g, 1, none⟩ = false := hblk.frozen 1
    clear HH hblk
    go_wp2_with fail
    have hR2 := hR1.brk
    have kk := (Chg.refl (Eqg g) w1).setCell (p := ⟨g, 1, none⟩) (.inl rfl) (.bool true)
    have hk2 := hK.trans kk (fun j hj => .inl hj)
    clear hK kk hR1 q1 q2
    generalize w1.setCell ⟨g, 1, none⟩ (.bool true) = w2 at *
    have hw2 := hk2.size
    refine (refRCount w2 _ _ (none) 64 hR2 (fun j hj => Nat.lt_of_lt_of_le (HFS.out j hj) hw2)).mono ?_
    rintro e w3 ⟨rfl, hR3, hK3⟩
    have hk3 := hk2.trans hK3 (fun j hj => .inl hj)
    have hvr := vC_range 64 (none) (by omega)
    have hrr := hR.out
    generalize nC 64 (none) = s2 at *
    generalize vC 64 (none) = nv at *
    obtain ⟨N, rfl⟩ : ∃ N : Nat, nv = (N : Int) := ⟨nv.toNat, by omega⟩
    rw [Int.toNat_natCast] at hrr
    have HRR := Lib.hid hrr
    have hN2 : N ≤ 64 := by omega
    have HR3 := Lib.hid hR3
    have HK3 := Lib.hid hk3
    clear hvr hrr hR hR2 hk2 hR3 hK3 hk3 hw2
    go_wp2_with fail
    go_loopw [4, 5, 6] (fun l i k wr => ∃ q : Nat, q ≤ N ∧ i = .int .i64 (q : Int) ∧ Hid (RdF wr g F (rK rVa s2 q).2) ∧ Hid (OwnL 71 2 Va.cells wr l (rK rVa s2 q).1) ∧ Hid (∀ j, vbl l j → w.heap.size ≤ j) ∧ Hid (Chg (Eqg g) w wr)) (fun _ i _ _ => N - (intOf i).toNat)
    case atStart => exact ⟨0, by omega, rfl, HR3, Lib.hid (OwnL.nil _), Lib.hid (fun j hj => by cases hj), HK3⟩
    case round =>
      obtain ⟨q, hq, rfl, HR, HO, HV, HC⟩ := hrel
      clear HR3 HK3
      by_cases hlt : q < N
      · have hqi : (q : Int) < (N : Int) := by omega
        have HNX : Hid (rK rVa s2 (q + 1) = ((rK rVa s2 q).1 ++ [(⟨vW (rK rVa s2 q).2, vN (nW (rK rVa s2 q).2)⟩ : Va)], nW (nW (rK rVa s2 q).2))) := Lib.hid rfl
        have hll : Hid ((rK rVa s2 q).1.length ≤ 64) := Lib.hid (by rw [rK_len]; omega)
        generalize (rK rVa s2 q).2 = sq at *
        generalize (rK rVa s2 q).1 = lq at *
        go_wp2_with fail
        refine (refRWord wr _ _ sq HR.out (fun j hj => Nat.lt_of_lt_of_le (HFS.out j hj) HC.out.size)).mono ?_
        rintro e w7 ⟨rfl, hR7, hK7⟩
        have hC7 := HC.out.trans hK7 (fun j hj => .inl hj)
        have hO7 := HO.out.chg hK7 (fun j hj e => by have := HV.out j hj; unfold Eqg at e; omega)
        go_wp2_with fail
        refine (refRNumber w7 _ _ (nW sq) hR7 (fun j hj => Nat.lt_of_lt_of_le (HFS.out j hj) hC7.size)).mono ?_
        rintro e w8 ⟨rfl, hR8, hK8⟩
        have hC8 := hC7.trans hK8 (fun j hj => .inl hj)
        have hO8 := hO7.chg hK8 (fun j hj e => by have := HV.out j hj; unfold Eqg at e; omega)
        have ka := (Chg.refl Non w8).alloc (.cells #[.int .u64 (vW sq : Int), .int .i64 (vN (nW sq))] 71)
        have hO9 := hO8.chg ka (fun _ _ f => f)
        have hR9 := hR8.chg ka (fun f => f) (fun _ _ f => f)
        have hC9 := hC8.trans ka (fun _ f => f.elim)
        have hnb : Hb _ w8.heap.size 71 (Va.cells ⟨vW sq, vN (nW sq)⟩).toArray := Hb.new w8 71 #[.int .u64 (vW sq : Int), .int .i64 (vN (nW sq))]
        have hone : ∀ u ∈ Va.cells ⟨vW sq, vN (nW sq)⟩, u.oneCell' = true := by intro v hv; simp [Va.cells] at hv; rcases hv with rfl | rfl <;> rfl
        clear hR7 hK7 hC7 hO7 hR8 hK8 hO8
        go_wp2_with (at_builtin; refine wpList_app1 (v := u4) _ rfl _ _ rfl Try.underlying24 IV.out.1 IV.out.2.1 IV.out.2.2.2.1 IV.out.2.2.2.2 IV.out.2.2.1 (by omega) (by omega) rfl hO9 (⟨vW sq, vN (nW sq)⟩ : Va) rfl hone rfl hnb (by have := hll.out; omega) ?_; intro v9 w9 o9 g9 b9)
        have k9 := (Chg.refl (fun j => vbl u4 j) _).grown g9 (fun k hk => .inl hk)
        have R9 := hR9.chg k9 (fun e => by have := HV.out _ e; omega) (fun j hj e => by have := HV.out _ e; have := HFS.out j hj; omega)
        have C9 := hC9.trans k9 (fun j hj => .inr (HV.out j hj))
        have V9 : ∀ j, vbl v9 j → w.heap.size ≤ j := fun j hj => by
          rcases b9 with b9 | b9
          · exact HV.out j (by unfold vbl at hj ⊢; rw [← b9]; exact hj)
          · unfold vbl at hj; rw [b9] at hj; injection hj with hj; have := hC9.size; omega
        have HR9 := Lib.hid R9
        have HO9 := Lib.hid o9
        have HV9 := Lib.hid V9
        have HC9 := Lib.hid C9
        clear R9 o9 V9 C9 k9 g9 b9 hR9 hO9 hC9 hnb hone ka hC8
        go_roundw
        case rel => exact ⟨q + 1, by omega, by go_num, Lib.hid (by rw [HNX.out]; exact HR9.out), Lib.hid (by rw [HNX.out]; exact HO9.out), HV9, HC9⟩
        case measure => simp [intOf]; omega
      · obtain rfl : q = N := by omega
        go_wp2_with fail
        go_ret
        exact ⟨_, rfl, by rw [HRR.out]; exact HO.out, HV.out, by rw [HRR.out]; exact HR.out, HC.out⟩
end Go.Proofs.Yteglpgakikigiaa

/- Package forms: decoded[api.Light]. -/
namespace Go.Proofs.Yteglpgakikigiaa
open Go.RowKit
set_option linter.unusedVariables false
set_option linter.unusedSimpArgs false
set_option maxRecDepth 20000


def Lt.zero : Lt := ⟨Hd.zero, ⟨0, 0, noH, []⟩, [], []⟩
def ltz : List Value := Lt.zero.cells (.slice none 0 0) (.slice none 0 0) (.slice none 0 0)
theorem Lt.one (x : Lt) (n1 n2 n3 : Nat) : ∀ v ∈ x.cells (sl n1 x.commit.seals.length) (sl n2 x.set.length) (sl n3 x.next.length), v.oneCell' = true := by
  intro v hv
  simp only [Lt.cells, Cm.cells, List.mem_append, List.mem_cons, List.not_mem_nil, or_false] at hv
  rcases hv with h | ((rfl | rfl) | h | rfl) | rfl | rfl <;> first | rfl | exact bv_one _ _ h | exact x.header.one _ h
theorem ltz_one : ∀ v ∈ ltz, v.oneCell' = true := by
  intro v hv
  simp only [ltz, Lt.cells, Cm.cells, List.mem_append, List.mem_cons, List.not_mem_nil, or_false] at hv
  rcases hv with h | ((rfl | rfl) | h | rfl) | rfl | rfl <;> first | rfl | exact bv_one _ _ h | exact Hd.one _ _ h
theorem dLight_len {st : St} {y : Lt × St} (h : dLight st = some y) (a b c : Value) : (y.1.cells a b c).length = 200 := by
  unfold dLight at h
  simp only [Option.bind_eq_some_iff, Option.some.injEq, Prod.exists] at h
  obtain ⟨s1, h1, hd, s2, h2, cm, s3, h3, s, s4, h4, n, s5, h5, rfl⟩ := h
  have e1 := dHeader_len h2
  have e2 := dCommit_len h3 a
  simp only at e1 e2
  simp [Lt.cells, e1, e2]
theorem RTO.chg {w w' : World} {g : Nat} {F : Nat → Prop} {tb : Nat} {t : TypeId} {n : Nat} {p q : List Value} {r : Option (Lt × St)} {e : Ending} (h : RTO w g F tb t n p q r e w') : Chg (Two g tb) w w' := by
  cases r with
  | some x => obtain ⟨_, _, _, _, _, _, _, h1, _⟩ := h; exact h1.chg
  | none => exact h.2.1
/-- What decoding a light block leaves. -/
def DecL (w : World) (z : List Value) (r : Option Lt) (e : Ending) (w' : World) : Prop :=
  Chg Non w w' ∧ match r with
    | some x => ∃ n1 n2 n3, w.heap.size ≤ n1 ∧ w.heap.size ≤ n2 ∧ w.heap.size ≤ n3 ∧ e = .returned (.tuple #[.agg (x.cells (sl n1 x.commit.seals.length) (sl n2 x.set.length) (sl n3 x.next.length)).toArray, .int .i64 0]) ∧
        Hb w' n1 75 (x.commit.seals.flatMap Se.cells).toArray ∧ Hb w' n2 71 (x.set.flatMap Va.cells).toArray ∧ Hb w' n3 71 (x.next.flatMap Va.cells).toArray
    | none => e = .returned (.tuple #[.agg z.toArray, .int .i64 61])

theorem dLight.row : (Try.prog.info? 38).map (·.size) = some 200 := by kernel_rfl
theorem dLight.alloc0 (w : World) : (Instr.alloc 38 true (.tuple #[])).run Try.prog w = .ok (.pointer (some ⟨w.heap.size, 0, none⟩)) (w.alloc (.cells ltz.toArray 38)) := by kernel_rfl
theorem dLight.zlen : ltz.length = 200 := by rfl

theorem catchDP_Light (w : World) (p q : Nat) (L : List Value) (y : Value) (v : Value) (u : TypeId) (older : List PanicEntry) (hp : Hb w p 38 L.toArray) (hL : L.length = 200) (hq : Hb w q 25 #[y]) (hpq : q ≠ p) :
    CallsD Try.prog 54 #[.pointer (some ⟨p, 0, none⟩), .pointer (some ⟨q, 0, none⟩)] (.panicking ({ v := .iface u v, recovered := false } :: older)) w fun e u' w' =>
      e = .returned (.tuple #[]) ∧ u' = .panicking ({ v := .iface u v, recovered := true } :: older) ∧ w' = (((w.alloc (.cells ltz.toArray 38)).setCells p 0 ltz).setCell ⟨q, 0, none⟩ (.int .i64 61)) := by
  have hz := dLight.alloc0 w
  have hzl := dLight.zlen
  have hrow := dLight.row
  have hn := Hb.new w 38 ltz.toArray
  have hp1 := hp.alloc (.cells ltz.toArray 38)
  have hth := hp1.there0
  rw [hL] at hth
  have hq1 := (hq.alloc (.cells ltz.toArray 38)).farCells hpq ltz 0
  have c1 : _ = some y := hq1.cell 0
  have f1 : _ = false := hq1.frozen 0
  refine callsD_of_wpS Try.func54 rfl fun c₀ cs hu => ?_
  apply wpS_seq
  apply wpS_region
  simp [wpOpsS, go_sem, recoverD, hu, Try.ntmps54, Exit.thenS]
  refine wpS_cond (t := true) (by simp [Act.eval, Array.replicate]) ?_
  simp only [if_true]
  refine wpS_of_wp ?_
  have hone : ∀ v ∈ ltz, v.oneCell' = true := ltz_one
  generalize ltz = z at *
  go_wp2_with (first | (with_reducible refine wpList_alloc_row rfl _ rfl z hz ?_) | (with_reducible refine wpList_load_mid rfl 38 _ rfl w.heap.size 0 rfl z _ hn.range0 Try.underlying38 rfl (by rw [hrow, hzl]) ?_) | (with_reducible refine wpList_store_mid rfl 38 _ _ rfl p 0 z.toArray rfl rfl (by rw [List.size_toArray, hzl]; exact hth) (by rw [List.size_toArray, hrow, hzl]) (one_mem hone) ?_))
  exact ⟨rfl, _, rfl, .tuple #[], by simp [results, Try.results54], rfl, rfl, rfl⟩

theorem catchDI_Light (w : World) (p q : Addr) : CallsD Try.prog 54 #[.pointer (some p), .pointer (some q)] .returning w fun e u' w' => e = .returned (.tuple #[]) ∧ u' = .returning ∧ w' = w := by
  refine callsD_of_wpS Try.func54 rfl fun c₀ cs hu => ?_
  apply wpS_seq
  apply wpS_region
  simp [wpOpsS, go_sem, recoverD, hu, Try.ntmps54, Exit.thenS]
  refine wpS_cond (t := false) (by simp [Act.eval, Array.replicate]) ?_
  simp only [Bool.false_eq_true, if_false]
  refine wpS_of_wp (wp_skip ?_)
  cases c₀
  simp_all [bodyPostS, results, Try.results54]

/-- The error's way. -/
theorem decErr_Light (w w2 : World) (h : Chg Non w w2) (L : List Value) (y : Value) (hp : Hb w2 w.heap.size 38 L.toArray) (hL : L.length = 200) (hq : Hb w2 (w.heap.size + 1) 25 #[y]) (r : Option Lt) (hr : r = none) (tmps : Array Value)
    (h4 : tmps.getD 4 undef = .pointer (some ⟨w.heap.size, 0, none⟩)) (h5 : tmps.getD 5 undef = .pointer (some ⟨w.heap.size + 1, 0, none⟩)) :
    Leaves Try.prog Try.f25 tmps (DecL w ltz r) [{ target := .fn (.func 54) #[.pointer (some ⟨w.heap.size, 0, none⟩), .pointer (some ⟨w.heap.size + 1, 0, none⟩)], args := #[] }] (.panicking bad) w2 := by
  subst hr
  refine leaves_cons (f := 54) (args := #[.pointer (some ⟨w.heap.size, 0, none⟩), .pointer (some ⟨w.heap.size + 1, 0, none⟩)]) (by simp) (by simp [go_sem]) ?_
  refine (catchDP_Light w2 w.heap.size (w.heap.size + 1) L _ _ _ _ hp hL hq (by omega)).mono ?_
  rintro e u' w'' ⟨rfl, rfl, rfl⟩
  have hz : ltz.length = 200 := dLight.zlen
  have hb3 := ((hp.alloc (.cells ltz.toArray 38)).sets0 (L' := ltz) (by rw [hL, hz])).far (p := ⟨w.heap.size + 1, 0, none⟩) (by simp) (.int .i64 61)
  have he3 := ((hq.alloc (.cells ltz.toArray 38)).farCells (tb := w.heap.size) (by omega) ltz 0).set 0 (.int .i64 61)
  refine ⟨_, results_two rfl _ _ _ ⟨w.heap.size, 0, none⟩ ⟨w.heap.size + 1, 0, none⟩ _ _ h4 h5 (load_row hb3 Try.underlying38 rfl (by rw [dLight.row, hz])) (load_errno (he3.cell 0)), ?_, rfl⟩
  have K := (Chg.setCells (S := fun k => k = w.heap.size ∨ k = w.heap.size + 1) (.inl rfl) ltz _ 0 ((Chg.refl _ w2).alloc (.cells ltz.toArray 38))).setCell (p := ⟨w.heap.size + 1, 0, none⟩) (.inl (.inr rfl)) (.int .i64 61)
  exact h.trans K (fun j hj => .inr (by omega))

theorem decoded_Light (w : World) (A : Option Addr) (n c : Nat) (bs : List UInt8) (r : Option (Lt × St)) (hn : n = bs.length) (hr : Rd w A bs) (hsz : bs.length ≤ 1000000000) (hlen : ∀ x s, r = some (x, s) → ∀ a b c, (x.cells a b c).length = 200)
    (H : ∀ (w1 : World) (g : Nat) (F : Nat → Prop), Rst w1 g F w.heap.size 38 ltz (some bs) w1 → Calls Try.prog 26 #[.agg #[.pointer none, .pointer (some ⟨g, 0, none⟩)], .pointer (some ⟨w.heap.size, 0, none⟩)] w1 (RTO w1 g F w.heap.size 38 200 [] [] r)) :
    Calls Try.prog 25 #[.slice A n c, .func (.func 26) #[] #[]] w (DecL w ltz (whole r)) := by
  have hmf := mkf
  have hC0 := dw_chg w ltz 38
  have hb0 := dw_b w ltz 38
  have he0 := dw_e w ltz 38
  have hz := dLight.alloc0 w
  have hrow := dLight.row
  have HN := newReader_any (dw w ltz 38) A n c bs hn (hr.chg hC0 (fun _ _ f => f)) hsz
  generalize hR : whole r = R
  have HR := Lib.hid hR
  have HLE := Lib.hid hlen
  have HH := Lib.hid H
  have HNN := Lib.hid HN
  clear hR hlen H HN hn hr
  have hzz := dLight.zlen
  go_enter_defers Try.func25, Try.ntmps25
  go_wp2_with (first | (with_reducible refine wpList_alloc_row rfl _ rfl ltz hz ?_))
  have hdw : dw w ltz 38 = (w.alloc (.cells ltz.toArray 38)).alloc (.cells #[.int .i64 0] 25) := rfl
  rw [← hdw]
  have hds : (dw w ltz 38).heap.size = w.heap.size + 2 := by rw [hdw]; simp
  clear hdw
  generalize dw w ltz 38 = w0 at *
  refine HNN.out.mono ?_
  rintro e w1 ⟨g, F, rfl, hR1, hg, hF, hC1⟩
  have hb1 := hb0.chg hC1 (fun f => f)
  have he1 := he0.chg hC1 (fun f => f)
  have S1 : Rst w1 g F w.heap.size 38 ltz (some bs) w1 := ⟨hR1, hb1, Chg.refl _ _, by omega, fun h => by have := hF _ h; omega⟩
  have H1 := HH.out w1 g F S1
  have hne : ¬ Two g w.heap.size (w.heap.size + 1) := by rintro (h | h) <;> omega
  have hn01 : Chg Non w w1 := hC0.trans hC1 (fun _ f => f.elim)
  have hw1s := hC1.size
  clear HNN hb0 he0 hC0 hC1 HH S1
  go_wp2_with fail
  refine H1.mono ?_
  rintro e w2 h2
  have he2 := he1.chg h2.chg hne
  have hn02 : Chg Non w w2 := hn01.trans h2.chg (fun j hj => .inr (by rcases hj with rfl | rfl <;> omega))
  clear H1 he1 hb1
  rcases h2.cases with ⟨k, rfl, _, L', hL1, hL2⟩ | ⟨⟨x, s⟩, k, rfl, n1, n2, n3, g1, g2, g3, T, B1, B2, B3⟩
  · have hRn : R = none := HR.out.symm.trans (by rw [k]; rfl)
    go_wp2
    refine decErr_Light w w2 hn02 L' _ hL2 hL1 he2 _ rfl _ ?_ ?_ <;> rfl
  · have hLn := HLE.out x s k (sl n1 x.commit.seals.length) (sl n2 x.set.length) (sl n3 x.next.length)
    have hL1 := x.one n1 n2 n3
    have T := T.eq (L' := x.cells (sl n1 x.commit.seals.length) (sl n2 x.set.length) (sl n3 x.next.length)) (by simp)
    have hs1 : w.heap.size + 2 ≤ w1.heap.size := by omega
    have hRx : ∀ h : s = some [], R = some x := fun h => HR.out.symm.trans (by rw [k, h]; rfl)
    generalize hL : x.cells (sl n1 x.commit.seals.length) (sl n2 x.set.length) (sl n3 x.next.length) = L at *
    have HL := Lib.hid hL
    have HRX := Lib.hid hRx
    clear HLE h2 hL hRx
    go_wp2_with fail
    refine (endR_any _ g F s T.rdr).mono ?_
    rintro e w3 ⟨rfl, rfl⟩
    have hb2 : Hb _ w.heap.size 38 L.toArray := T.row
    by_cases hs : s = some []
    · have hRs : R = some x := HRX.out hs
      have hev : endv s = 0 := by unfold endv; rw [if_pos hs]
      have hth := hb2.there0
      rw [hLn] at hth
      have hLs : L.toArray.size = 200 := by rw [List.size_toArray, hLn]
      rw [hev]
      have hb3 := hb2.sets0 (L' := L) rfl
      have he3 := he2.farCells (tb := w.heap.size) (by omega) L 0
      have c3 : _ = some (Value.int .i64 0) := he3.cell 0
      have f3 : _ = false := he3.frozen 0
      have hrg := hb2.range0
      clear hev hs HR
      go_wp2_with (first | (go_at_call 35; refine (insist_yes _).mono ?_; rintro e w5 ⟨rfl, rfl⟩) | (with_reducible refine wpList_load_mid rfl 38 _ rfl w.heap.size 0 rfl L _ hrg Try.underlying38 rfl (by rw [hrow, hLn]) ?_; refine wpList_store_mid rfl 38 _ _ rfl w.heap.size 0 L.toArray rfl rfl (by rw [hLs]; exact hth) (by rw [hLs, hrow]) (one_mem hL1) ?_) | (with_reducible refine wpList_store_mid rfl 38 _ _ rfl w.heap.size 0 L.toArray rfl rfl (by rw [hLs]; exact hth) (by rw [hLs, hrow]) (one_mem hL1) ?_))
      refine leaves_cons (f := 54) (args := #[.pointer (some ⟨w.heap.size, 0, none⟩), .pointer (some ⟨w.heap.size + 1, 0, none⟩)]) (by simp) (by simp [go_sem]) ?_
      refine (catchDI_Light _ ⟨w.heap.size, 0, none⟩ ⟨w.heap.size + 1, 0, none⟩).mono ?_
      rintro e u' w'' ⟨rfl, rfl, rfl⟩
      have hb4 := hb3.far (p := ⟨w.heap.size + 1, 0, none⟩) (by simp) (.int .i64 0)
      have he4 := he3.set 0 (.int .i64 0)
      refine ⟨_, results_two rfl _ _ _ ⟨w.heap.size, 0, none⟩ ⟨w.heap.size + 1, 0, none⟩ _ _ rfl rfl (load_row hb4 Try.underlying38 rfl (by rw [hrow, hLn])) (load_errno (he4.cell 0)), ?_, ?_⟩
      · exact hn02.trans ((Chg.setCells (S := fun k => k = w.heap.size ∨ k = w.heap.size + 1) (.inl rfl) L _ 0 (Chg.refl _ _)).setCell (p := ⟨w.heap.size + 1, 0, none⟩) (.inl (.inr rfl)) (.int .i64 0)) (fun j hj => .inr (by omega))
      · rw [hRs]
        exact ⟨n1, n2, n3, by omega, by omega, by omega, by rw [HL.out]; rfl, (B1.farCells (by omega) L 0).far (p := ⟨w.heap.size + 1, 0, none⟩) (show n1 ≠ w.heap.size + 1 by omega) _, (B2.farCells (by omega) L 0).far (p := ⟨w.heap.size + 1, 0, none⟩) (show n2 ≠ w.heap.size + 1 by omega) _, (B3.farCells (by omega) L 0).far (p := ⟨w.heap.size + 1, 0, none⟩) (show n3 ≠ w.heap.size + 1 by omega) _⟩
    · have hRn : R = none := HR.out.symm.trans (by
        rw [k]
        match s, hs with
        | none, _ => rfl
        | some (_ :: _), _ => rfl)
      have hev : endv s = 21 := by unfold endv; rw [if_neg hs]
      rw [hev]
      clear hev hs HR
      go_wp2_with (go_at_call 35; refine (insist_no _).mono ?_; rintro e w5 ⟨rfl, rfl⟩)
      refine decErr_Light w _ hn02 L _ hb2 hLn he2 _ rfl _ ?_ ?_ <;> rfl
end Go.Proofs.Yteglpgakikigiaa

/- Package forms: list[nuncio/api.Seal], written. -/
namespace Go.Proofs.Yteglpgakikigiaa
open Go.RowKit
set_option linter.unusedVariables false
set_option linter.unusedSimpArgs false
set_option maxRecDepth 20000

set_option maxHeartbeats 1600000 in
theorem listSeal_w (g : Nat) (l : List UInt8) (w : World) (v : Value) (b o : Nat) (A : Option Addr) (n c most : Nat) (ok : Nat → Bool) (bs : Nat → List UInt8) (h : Wri w g v (some l)) (hc : w.cell? ⟨b, o, none⟩ = some (.slice A n c)) (hb : ¬ Wft g v b) (hbl : b < w.heap.size)
    (hn : n ≤ maxLen) (hmost : most ≤ 4096) (hl : l.length ≤ 100000000) (hbs : ∀ i, ok i = true → (bs i).length ≤ 20000)
    (H : ∀ i, i < n → ∃ eb eo, A = some ⟨eb, eo, none⟩ ∧ ∀ (l' : List UInt8) (w' : World) (v' : Value), Wst w g v l' w' v' → l'.length ≤ 300000000 → Calls Try.prog 48 #[.agg #[.pointer (some ⟨g, 0, none⟩), .pointer none], .pointer (some ⟨eb, eo + i * 3, none⟩)] w' (WO w' g v' (ok i) (l' ++ bs i))) :
    Calls Try.prog 47 #[.agg #[.pointer (some ⟨g, 0, none⟩), .pointer none], .pointer (some ⟨b, o, none⟩), .int .i64 (most : Int), .func (.func 48) #[] #[]] w (WO w g v (inR 0 most n && allB ok n) (l ++ (num n ++ jn bs n))) := by
  unfold maxLen at hn
  have S0 := (Wst.here h).non (((Chg.refl Non w).alloc (.cells #[.pointer (some ⟨g, 0, none⟩), .pointer none] 84)).alloc (.cells #[.int .i64 (n : Int)] 3))
  have c0 := (((Chg.refl Non w).alloc (.cells #[.pointer (some ⟨g, 0, none⟩), .pointer none] 84)).alloc (.cells #[.int .i64 (n : Int)] 3)).cell hc (fun f => f)
  have hw := h.nnew (Nat.le_refl w.heap.size)
  have hw1 := h.nnew (show w.heap.size ≤ w.heap.size + 1 by omega)
  have hx0 := ((Hb.new w 84 #[.pointer (some ⟨g, 0, none⟩), .pointer none]).alloc (.cells #[.int .i64 (n : Int)] 3)).cell 0
  have hx1 := ((Hb.new w 84 #[.pointer (some ⟨g, 0, none⟩), .pointer none]).alloc (.cells #[.int .i64 (n : Int)] 3)).cell 1
  have hxn : ((w.alloc (.cells #[.pointer (some ⟨g, 0, none⟩), .pointer none] 84)).alloc (.cells #[.int .i64 (n : Int)] 3)).cell? ⟨w.heap.size + 1, 0, none⟩ = some (.int .i64 (n : Int)) := by
    have := (Hb.new (w.alloc (.cells #[.pointer (some ⟨g, 0, none⟩), .pointer none] 84)) 3 #[.int .i64 (n : Int)]).cell 0
    rwa [show (w.alloc (.cells #[.pointer (some ⟨g, 0, none⟩), .pointer none] 84)).heap.size = w.heap.size + 1 by simp] at this
  have hBl : w.heap.size + 1 < ((w.alloc (.cells #[.pointer (some ⟨g, 0, none⟩), .pointer none] 84)).alloc (.cells #[.int .i64 (n : Int)] 3)).heap.size := by simp
  obtain ⟨B, hB⟩ : ∃ B, B = (w.alloc (.cells #[.pointer (some ⟨g, 0, none⟩), .pointer none] 84)).alloc (.cells #[.int .i64 (n : Int)] 3) := ⟨_, rfl⟩
  generalize hok : (inR 0 most n && allB ok n) = okt
  have HOK := Lib.hid hok
  have HH := Lib.hid H
  clear hok H
  go_enter Try.func47, Try.ntmps47
  go_wp2_with fail
  rw [← hB] at S0 c0 hx0 hx1 hxn hBl ⊢
  clear hB
  have S1 := Wst.here S0.wri
  have N := numberI_w g l B v (w.heap.size + 1) 0 n 0 most S1.wri hxn hw1 ⟨by omega, by omega⟩ (by omega)
  have NN := Lib.hid N
  clear N
  refine NN.out.mono ?_
  rintro e w2 h2
  clear NN
  rcases h2.cases with ⟨k2, he, C⟩ | ⟨k2, he, v2, T2⟩
  · subst he
    obtain rfl : okt = false := HOK.out.symm.trans (by rw [k2]; rfl)
    go_wp2
    exact ⟨rfl, rfl, S0.chg.trans C S0.wft⟩
  · subst he
    have hnm : n ≤ most := by have := (inR_iff.1 k2).2; omega
    have x0 := T2.cell hx0 hw
    have x1 := T2.cell hx1 hw
    have y0 := T2.cell c0 hb
    clear hxn h2
    go_wp2_with fail
    refine (writes_w _ g).mono ?_
    rintro e w3 ⟨rfl, hC3⟩
    have S3 := T2.non hC3
    have z0 := S3.cell hx0 hw
    have z1 := S3.cell hx1 hw
    have z2 := S3.cell c0 hb
    clear x0 x1 y0 T2 hC3
    go_wp2_with fail
    go_loopw [9, 28] (fun x i wr => ∃ (k : Nat) (v' : Value), k ≤ n ∧ i = .int .i64 (k : Int) ∧ allB ok k = true ∧ Wst B g v (l ++ num n ++ jn bs k) wr v') (fun _ i _ => n - (intOf i).toNat)
    case atStart => exact ⟨0, v2, by omega, rfl, rfl, by simpa [jn] using S3⟩
    case round =>
      obtain ⟨k, v', hk, rfl, hall, S⟩ := hrel
      have a0 := S.cell hx0 hw
      have a1 := S.cell hx1 hw
      have a2 := S.cell c0 hb
      have hjl := jn_len hbs k hall
      have hln : (l ++ num n ++ jn bs k).length ≤ 300000000 := by rw [List.length_append, List.length_append, num_length]; have : k * 20000 ≤ 4096 * 20000 := Nat.mul_le_mul_right _ (by omega); omega
      by_cases hlt : k < n
      · obtain ⟨eb, eo, rfl, HE⟩ := HH.out k hlt
        have hwn := S.nw hw (by omega)
        have hbn := S.nw hb (by have := S0.chg.size; omega)
        have D := S.non ((Chg.refl Non wr).drew)
        have HC := HE _ _ v' (S0.trans D) hln
        have HCC := Lib.hid HC
        have e0 := D.cell hx0 hw
        have e1 := D.cell hx1 hw
        have e2 := D.cell c0 hb
        have hki : (k : Int) < (n : Int) := by omega
        have hke : allB ok (k + 1) = ok k := by unfold allB; rw [hall, Bool.true_and]
        clear HE HC
        go_wp2_with fail
        go_region_held (fun w' => w'.cell? ⟨w.heap.size, 0, none⟩ = some (.pointer (some ⟨g, 0, none⟩)) ∧ w'.cell? ⟨w.heap.size, 1, none⟩ = some (.pointer none) ∧ w'.cell? ⟨b, o, none⟩ = some (.slice (some ⟨eb, eo, none⟩) n c)) (first | exact ⟨f0, f1, f2⟩ | exact ⟨e0, e1, e2⟩ | assumption) (first | (go_at_call 48; go_loud (refine HCC.out.mono ?_; rintro e w5 h5; have f0 := h5.chg.cell e0 hwn; have f1 := h5.chg.cell e1 hwn; have f2 := h5.chg.cell e2 hbn; rcases h5.cases with ⟨k5, he, C⟩ | ⟨k5, he, v5, T5⟩; (subst he; obtain rfl : okt = false := HOK.out.symm.trans (by rw [allB_no hlt k5, Bool.and_false]); exact ⟨rfl, rfl, S0.chg.trans (D.chg.trans C D.wft) S0.wft⟩); subst he)) | fail)
        have S5 := D.trans T5
        clear h5 HCC
        go_wp2_with fail
        go_roundw
        case rel => exact ⟨k + 1, v5, by omega, by go_num, by rw [hke, k5], by simpa [jn, List.append_assoc] using S5⟩
        case measure => simp [intOf]; omega
      · obtain rfl : k = n := by omega
        obtain rfl : okt = true := HOK.out.symm.trans (by rw [k2, hall]; rfl)
        go_wp2
        go_end0
        exact ⟨rfl, v', by simpa [List.append_assoc] using S0.trans S⟩
end Go.Proofs.Yteglpgakikigiaa

/- Package forms: list[nuncio/api.Validator], written. -/
namespace Go.Proofs.Yteglpgakikigiaa
open Go.RowKit
set_option linter.unusedVariables false
set_option linter.unusedSimpArgs false
set_option maxRecDepth 20000

set_option maxHeartbeats 1600000 in
theorem listValidator_w (g : Nat) (l : List UInt8) (w : World) (v : Value) (b o : Nat) (A : Option Addr) (n c most : Nat) (ok : Nat → Bool) (bs : Nat → List UInt8) (h : Wri w g v (some l)) (hc : w.cell? ⟨b, o, none⟩ = some (.slice A n c)) (hb : ¬ Wft g v b) (hbl : b < w.heap.size)
    (hn : n ≤ maxLen) (hmost : most ≤ 4096) (hl : l.length ≤ 100000000) (hbs : ∀ i, ok i = true → (bs i).length ≤ 20000)
    (H : ∀ i, i < n → ∃ eb eo, A = some ⟨eb, eo, none⟩ ∧ ∀ (l' : List UInt8) (w' : World) (v' : Value), Wst w g v l' w' v' → l'.length ≤ 300000000 → Calls Try.prog 39 #[.agg #[.pointer (some ⟨g, 0, none⟩), .pointer none], .pointer (some ⟨eb, eo + i * 2, none⟩)] w' (WO w' g v' (ok i) (l' ++ bs i))) :
    Calls Try.prog 38 #[.agg #[.pointer (some ⟨g, 0, none⟩), .pointer none], .pointer (some ⟨b, o, none⟩), .int .i64 (most : Int), .func (.func 39) #[] #[]] w (WO w g v (inR 0 most n && allB ok n) (l ++ (num n ++ jn bs n))) := by
  unfold maxLen at hn
  have S0 := (Wst.here h).non (((Chg.refl Non w).alloc (.cells #[.pointer (some ⟨g, 0, none⟩), .pointer none] 84)).alloc (.cells #[.int .i64 (n : Int)] 3))
  have c0 := (((Chg.refl Non w).alloc (.cells #[.pointer (some ⟨g, 0, none⟩), .pointer none] 84)).alloc (.cells #[.int .i64 (n : Int)] 3)).cell hc (fun f => f)
  have hw := h.nnew (Nat.le_refl w.heap.size)
  have hw1 := h.nnew (show w.heap.size ≤ w.heap.size + 1 by omega)
  have hx0 := ((Hb.new w 84 #[.pointer (some ⟨g, 0, none⟩), .pointer none]).alloc (.cells #[.int .i64 (n : Int)] 3)).cell 0
  have hx1 := ((Hb.new w 84 #[.pointer (some ⟨g, 0, none⟩), .pointer none]).alloc (.cells #[.int .i64 (n : Int)] 3)).cell 1
  have hxn : ((w.alloc (.cells #[.pointer (some ⟨g, 0, none⟩), .pointer none] 84)).alloc (.cells #[.int .i64 (n : Int)] 3)).cell? ⟨w.heap.size + 1, 0, none⟩ = some (.int .i64 (n : Int)) := by
    have := (Hb.new (w.alloc (.cells #[.pointer (some ⟨g, 0, none⟩), .pointer none] 84)) 3 #[.int .i64 (n : Int)]).cell 0
    rwa [show (w.alloc (.cells #[.pointer (some ⟨g, 0, none⟩), .pointer none] 84)).heap.size = w.heap.size + 1 by simp] at this
  have hBl : w.heap.size + 1 < ((w.alloc (.cells #[.pointer (some ⟨g, 0, none⟩), .pointer none] 84)).alloc (.cells #[.int .i64 (n : Int)] 3)).heap.size := by simp
  obtain ⟨B, hB⟩ : ∃ B, B = (w.alloc (.cells #[.pointer (some ⟨g, 0, none⟩), .pointer none] 84)).alloc (.cells #[.int .i64 (n : Int)] 3) := ⟨_, rfl⟩
  generalize hok : (inR 0 most n && allB ok n) = okt
  have HOK := Lib.hid hok
  have HH := Lib.hid H
  clear hok H
  go_enter Try.func38, Try.ntmps38
  go_wp2_with fail
  rw [← hB] at S0 c0 hx0 hx1 hxn hBl ⊢
  clear hB
  have S1 := Wst.here S0.wri
  have N := numberI_w g l B v (w.heap.size + 1) 0 n 0 most S1.wri hxn hw1 ⟨by omega, by omega⟩ (by omega)
  have NN := Lib.hid N
  clear N
  refine NN.out.mono ?_
  rintro e w2 h2
  clear NN
  rcases h2.cases with ⟨k2, he, C⟩ | ⟨k2, he, v2, T2⟩
  · subst he
    obtain rfl : okt = false := HOK.out.symm.trans (by rw [k2]; rfl)
    go_wp2
    exact ⟨rfl, rfl, S0.chg.trans C S0.wft⟩
  · subst he
    have hnm : n ≤ most := by have := (inR_iff.1 k2).2; omega
    have x0 := T2.cell hx0 hw
    have x1 := T2.cell hx1 hw
    have y0 := T2.cell c0 hb
    clear hxn h2
    go_wp2_with fail
    refine (writes_w _ g).mono ?_
    rintro e w3 ⟨rfl, hC3⟩
    have S3 := T2.non hC3
    have z0 := S3.cell hx0 hw
    have z1 := S3.cell hx1 hw
    have z2 := S3.cell c0 hb
    clear x0 x1 y0 T2 hC3
    go_wp2_with fail
    go_loopw [9, 28] (fun x i wr => ∃ (k : Nat) (v' : Value), k ≤ n ∧ i = .int .i64 (k : Int) ∧ allB ok k = true ∧ Wst B g v (l ++ num n ++ jn bs k) wr v') (fun _ i _ => n - (intOf i).toNat)
    case atStart => exact ⟨0, v2, by omega, rfl, rfl, by simpa [jn] using S3⟩
    case round =>
      obtain ⟨k, v', hk, rfl, hall, S⟩ := hrel
      have a0 := S.cell hx0 hw
      have a1 := S.cell hx1 hw
      have a2 := S.cell c0 hb
      have hjl := jn_len hbs k hall
      have hln : (l ++ num n ++ jn bs k).length ≤ 300000000 := by rw [List.length_append, List.length_append, num_length]; have : k * 20000 ≤ 4096 * 20000 := Nat.mul_le_mul_right _ (by omega); omega
      by_cases hlt : k < n
      · obtain ⟨eb, eo, rfl, HE⟩ := HH.out k hlt
        have hwn := S.nw hw (by omega)
        have hbn := S.nw hb (by have := S0.chg.size; omega)
        have D := S.non ((Chg.refl Non wr).drew)
        have HC := HE _ _ v' (S0.trans D) hln
        have HCC := Lib.hid HC
        have e0 := D.cell hx0 hw
        have e1 := D.cell hx1 hw
        have e2 := D.cell c0 hb
        have hki : (k : Int) < (n : Int) := by omega
        have hke : allB ok (k + 1) = ok k := by unfold allB; rw [hall, Bool.true_and]
        clear HE HC
        go_wp2_with fail
        go_region_held (fun w' => w'.cell? ⟨w.heap.size, 0, none⟩ = some (.pointer (some ⟨g, 0, none⟩)) ∧ w'.cell? ⟨w.heap.size, 1, none⟩ = some (.pointer none) ∧ w'.cell? ⟨b, o, none⟩ = some (.slice (some ⟨eb, eo, none⟩) n c)) (first | exact ⟨f0, f1, f2⟩ | exact ⟨e0, e1, e2⟩ | assumption) (first | (go_at_call 39; go_loud (refine HCC.out.mono ?_; rintro e w5 h5; have f0 := h5.chg.cell e0 hwn; have f1 := h5.chg.cell e1 hwn; have f2 := h5.chg.cell e2 hbn; rcases h5.cases with ⟨k5, he, C⟩ | ⟨k5, he, v5, T5⟩; (subst he; obtain rfl : okt = false := HOK.out.symm.trans (by rw [allB_no hlt k5, Bool.and_false]); exact ⟨rfl, rfl, S0.chg.trans (D.chg.trans C D.wft) S0.wft⟩); subst he)) | fail)
        have S5 := D.trans T5
        clear h5 HCC
        go_wp2_with fail
        go_roundw
        case rel => exact ⟨k + 1, v5, by omega, by go_num, by rw [hke, k5], by simpa [jn, List.append_assoc] using S5⟩
        case measure => simp [intOf]; omega
      · obtain rfl : k = n := by omega
        obtain rfl : okt = true := HOK.out.symm.trans (by rw [k2, hall]; rfl)
        go_wp2
        go_end0
        exact ⟨rfl, v', by simpa [List.append_assoc] using S0.trans S⟩
end Go.Proofs.Yteglpgakikigiaa
