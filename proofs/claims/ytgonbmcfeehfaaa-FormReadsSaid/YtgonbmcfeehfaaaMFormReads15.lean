import Derived.Test.YtgonbmcfeehfaaaChecked
import Derived.WalkKit
import Derived.WalkLawsBesides
import Derived.Lib.Hide
import Derived.Deep.RegionHeld3
import Derived.Test.YtgonbmcfeehfaaaMFormReads6
import Derived.Test.YtgonbmcfeehfaaaMFormReads9
import Derived.Test.YtgonbmcfeehfaaaMFormReads13
import Derived.Test.YtgonbmcfeehfaaaMFormReads14
/- A proof that the document's reader reads, part by part: words. -/
namespace Go.Proofs.Ytgonbmcfeehfaaa
open Go.RowKit
set_option linter.unusedVariables false
set_option linter.unusedSimpArgs false
set_option maxRecDepth 20000

theorem step_build1 (w : World) {ops : Array Oper} {o : Oper} {a : Act} {K : Act → World → Prop} {Q : Exit → Act → World → Prop} {E : Prop} {t e : TypeId} {i : TypeInfo} {z : Value} {sz : Nat} (hgd : o.guard = none) (x : Operand)
    (ho : o.op = .buildSlice t 1 #[(0, x)]) (ht : Try.prog.underlying t = some (.slice e)) (hi : Try.prog.info? e = some i) (hz : i.zero = some z) (hs : i.size = sz) (hpos : 0 < sz) (hsz : sz ≤ 1000) (cs : List Value) (hx : a.eval x = .agg cs.toArray) (hcs : cs.length = sz)
    (h : K (a.put o.dst (.slice (some ⟨w.heap.size, 0, none⟩) 1 1)) (w.alloc (.cells cs.toArray e))) :
    if Region.wanted o (yielded ops a.tmps) = true then Oper.wp Try.prog o a w K Q else E := by
  have hw : Region.wanted o (yielded ops a.tmps) = true := by simp [Region.wanted, hgd]
  rw [if_pos hw]
  have hrun := run_build1 w ht hi hz hs hpos hsz cs hcs
  unfold Oper.wp execOp
  simp only [ho, Sem.run_bind, Sem.run_pure, Result.andThen_ok, List.map_toArray, List.map_cons, List.map_nil, hx, hrun]
  exact h
theorem wpList_build1 (w : World) {ops : Array Oper} {rest : List Oper} {o : Oper} {a : Act} {Q : Exit → Act → World → Prop} {t e : TypeId} {i : TypeInfo} {z : Value} {sz : Nat} (hgd : o.guard = none) (x : Operand)
    (ho : o.op = .buildSlice t 1 #[(0, x)]) (ht : Try.prog.underlying t = some (.slice e)) (hi : Try.prog.info? e = some i) (hz : i.zero = some z) (hs : i.size = sz) (hpos : 0 < sz) (hsz : sz ≤ 1000) (cs : List Value) (hx : a.eval x = .agg cs.toArray) (hcs : cs.length = sz)
    (h : wpList Try.prog ops Q rest (a.put o.dst (.slice (some ⟨w.heap.size, 0, none⟩) 1 1)) (w.alloc (.cells cs.toArray e))) : wpList Try.prog ops Q (o :: rest) a w := by
  refine wpList_plain hgd fun K hK => ?_
  have hrun := run_build1 w ht hi hz hs hpos hsz cs hcs
  unfold Oper.wp execOp
  simp only [ho, Sem.run_bind, Sem.run_pure, Result.andThen_ok, List.map_toArray, List.map_cons, List.map_nil, hx, hrun]
  exact hK _ _ h
theorem step_app1 {α : Type} (w : World) {ops : Array Oper} {o : Oper} {a : Act} {K : Act → World → Prop} {Q : Exit → Act → World → Prop} {E : Prop} {t e : TypeId} {i : TypeInfo} {z : Value} {sz by' : Nat} {cells : α → List Value} (hgd : o.guard = none) (sl x : Operand)
    (ho : o.op = .call { callee := .builtin .append, args := #[sl, x], argTypes := #[t, t] }) (ht : Try.prog.underlying t = some (.slice e)) (hi : Try.prog.info? e = some i) (hz : i.zero = some z) (hs : i.size = sz) (hby : i.bytes = by') (hzs : z.cells.size = sz) (hpos : 0 < sz) (hbb : by' ≤ 1000)
    {v : Value} {l : List α} (hv : a.eval sl = v) (hown : OwnL e sz cells w v l) (y : α) (hy : (cells y).length = sz) (h1 : ∀ u ∈ cells y, u.oneCell' = true) {nb : Nat} (hx : a.eval x = .slice (some ⟨nb, 0, none⟩) 1 1) (hb : Hb w nb e (cells y).toArray) (hlen : l.length ≤ 1000)
    (h : ∀ v' w', OwnL e sz cells w' v' (l ++ [y]) → w.grownBy w' v.ownBlock → (v'.ownBlock = v.ownBlock ∨ v'.ownBlock = some w.heap.size) → K (a.put o.dst v') w') :
    if Region.wanted o (yielded ops a.tmps) = true then Oper.wp Try.prog o a w K Q else E := by
  have hw : Region.wanted o (yielded ops a.tmps) = true := by simp [Region.wanted, hgd]
  rw [if_pos hw]
  obtain ⟨v', w', hrun, h2, h3, h4⟩ := run_app1 w o.type t ht hi hz hs hby hzs hpos hbb hown y hy h1 (c := 1) hb hlen
  unfold Oper.wp execOp
  simp only [ho, resolve, invoke, builtin, Sem.run_bind, Sem.run_pure, Result.andThen_ok, List.map_toArray, List.map_cons, List.map_nil, hv, hx, hrun]
  exact h v' w' h2 h3 h4
theorem wpList_app1 {α : Type} (w : World) {ops : Array Oper} {rest : List Oper} {o : Oper} {a : Act} {Q : Exit → Act → World → Prop} {t e : TypeId} {i : TypeInfo} {z : Value} {sz by' : Nat} {cells : α → List Value} (hgd : o.guard = none) (sl x : Operand)
    (ho : o.op = .call { callee := .builtin .append, args := #[sl, x], argTypes := #[t, t] }) (ht : Try.prog.underlying t = some (.slice e)) (hi : Try.prog.info? e = some i) (hz : i.zero = some z) (hs : i.size = sz) (hby : i.bytes = by') (hzs : z.cells.size = sz) (hpos : 0 < sz) (hbb : by' ≤ 1000)
    {v : Value} {l : List α} (hv : a.eval sl = v) (hown : OwnL e sz cells w v l) (y : α) (hy : (cells y).length = sz) (h1 : ∀ u ∈ cells y, u.oneCell' = true) {nb : Nat} (hx : a.eval x = .slice (some ⟨nb, 0, none⟩) 1 1) (hb : Hb w nb e (cells y).toArray) (hlen : l.length ≤ 1000)
    (h : ∀ v' w', OwnL e sz cells w' v' (l ++ [y]) → w.grownBy w' v.ownBlock → (v'.ownBlock = v.ownBlock ∨ v'.ownBlock = some w.heap.size) → wpList Try.prog ops Q rest (a.put o.dst v') w') : wpList Try.prog ops Q (o :: rest) a w := by
  refine wpList_plain hgd fun K hK => ?_
  obtain ⟨v', w', hrun, h2, h3, h4⟩ := run_app1 w o.type t ht hi hz hs hby hzs hpos hbb hown y hy h1 (c := 1) hb hlen
  unfold Oper.wp execOp
  simp only [ho, resolve, invoke, builtin, Sem.run_bind, Sem.run_pure, Result.andThen_ok, List.map_toArray, List.map_cons, List.map_nil, hv, hx, hrun]
  exact hK _ _ (h v' w' h2 h3 h4)
theorem hash_parts : ∃ i z, Try.prog.info? 26 = some i ∧ i.zero = some z ∧ z.cells.size = 32 ∧ i.size = 32 ∧ i.bytes = 32 := by
  have h : (Try.prog.info? 26).map (fun i => (i.zero.map (·.cells.size), i.size, i.bytes)) = some (some 32, 32, 32) := by kernel_rfl
  cases hi : Try.prog.info? 26 with
  | none => rw [hi] at h; cases h
  | some i =>
    rw [hi] at h
    simp only [Option.map_some, Option.some.injEq, Prod.mk.injEq] at h
    obtain ⟨h1, h2, h3⟩ := h
    cases hz : i.zero with
    | none => rw [hz] at h1; cases h1
    | some z =>
      rw [hz] at h1
      simp only [Option.map_some, Option.some.injEq] at h1
      exact ⟨i, z, rfl, hz, h1, h2, h3⟩
theorem part_parts : ∃ i z, Try.prog.info? 77 = some i ∧ i.zero = some z ∧ z.cells.size = 4 ∧ i.size = 4 ∧ i.bytes = 64 := by
  have h : (Try.prog.info? 77).map (fun i => (i.zero.map (·.cells.size), i.size, i.bytes)) = some (some 4, 4, 64) := by kernel_rfl
  cases hi : Try.prog.info? 77 with
  | none => rw [hi] at h; cases h
  | some i =>
    rw [hi] at h
    simp only [Option.map_some, Option.some.injEq, Prod.mk.injEq] at h
    obtain ⟨h1, h2, h3⟩ := h
    cases hz : i.zero with
    | none => rw [hz] at h1; cases h1
    | some z =>
      rw [hz] at h1
      simp only [Option.map_some, Option.some.injEq] at h1
      exact ⟨i, z, rfl, hz, h1, h2, h3⟩
theorem ent_hash (args : Array Value) (w : World) : (callFunc 32 args).run Try.prog w = .ok (.enter 32 args) w := enters_of Try.func32 (by kernel_rfl) rfl args w
/-- A part's path as a value. -/
def Pm.pathV (m : Pm) : Value := .slice m.A m.part.path.length m.c
/-- A proof under way: the reader, the result's block, the proof's block with the parts that were read. Its blocks lie below B. -/
structure PR (w : World) (g rb pb : Nat) (F : Nat → Prop) (Z : List Value) (size : Int) (B : Nat) (st : St) (vp : Value) (ms : List Pm) (wr : World) : Prop where
  rdr : RdF wr g F st
  res : Hb wr rb 45 Z.toArray
  box : Hb wr pb 45 #[.int .i64 size, vp]
  own : OwnL 77 4 Pm.cells wr vp ms
  new : ∀ j, vbl vp j → w.heap.size ≤ j ∧ j < B
  paths : ∀ m ∈ ms, OwnL 26 32 bv wr m.pathV m.part.path ∧ ∀ j, vbl m.pathV j → w.heap.size ≤ j ∧ j < B
  chg : Chg Non w wr
  wg : w.heap.size ≤ g ∧ g < B
  wr' : w.heap.size ≤ rb ∧ rb < B
  wp : w.heap.size ≤ pb ∧ pb < B
  gr : g ≠ rb
  gp : g ≠ pb
  rp : rb ≠ pb
  lt : B ≤ wr.heap.size
  fs : ∀ j, F j → j < w.heap.size
section
variable {w wr w' : World} {g rb pb : Nat} {F : Nat → Prop} {Z : List Value} {size : Int} {B : Nat} {st st' : St} {vp : Value} {ms : List Pm}
theorem PR.fsw (P : PR w g rb pb F Z size B st vp ms wr) : ∀ j, F j → j < wr.heap.size := fun j hj => Nat.lt_of_lt_of_le (P.fs j hj) P.chg.size
theorem PR.rblk (P : PR w g rb pb F Z size B st vp ms wr) : ∃ A m c, Hb wr g 56 #[.slice A m c, .bool st.isNone] := P.rdr.blk
/-- What is done elsewhere, and to the reader. -/
theorem PR.step {S : Nat → Prop} (P : PR w g rb pb F Z size B st vp ms wr) (k : Chg S wr w') (hS : ∀ j, S j → j = g ∨ B ≤ j) (h : RdF w' g F st') : PR w g rb pb F Z size B st' vp ms w' := by
  obtain ⟨A, m, c, hg⟩ := P.rblk
  have h1 := P.wg
  have h2 := P.wr'
  have h3 := P.wp
  have h4 := P.gr
  have h5 := P.gp
  refine ⟨h, P.res.chg k (fun e => by rcases hS _ e with e | e <;> omega), P.box.chg k (fun e => by rcases hS _ e with e | e <;> omega), P.own.chg k (fun j hj e => ?_), P.new, fun m hm => ⟨(P.paths m hm).1.chg k (fun j hj e => ?_), (P.paths m hm).2⟩, P.chg.trans k (fun j hj => .inr (by rcases hS _ hj with e | e <;> omega)), P.wg, P.wr', P.wp, P.gr, P.gp, P.rp, Nat.le_trans P.lt k.size, P.fs⟩
  · rcases hS _ e with e | e
    · subst e; exact P.own.ne hg (by decide) hj
    · have := (P.new j hj).2; omega
  · rcases hS _ e with e | e
    · subst e; exact (P.paths m hm).1.ne hg (by decide) hj
    · have := ((P.paths m hm).2 j hj).2; omega
theorem PR.read (P : PR w g rb pb F Z size B st vp ms wr) (k : Chg (Eqg g) wr w') (h : RdF w' g F st') : PR w g rb pb F Z size B st' vp ms w' := P.step k (fun j hj => .inl hj) h
theorem PR.non (P : PR w g rb pb F Z size B st vp ms wr) (k : Chg Non wr w') : PR w g rb pb F Z size B st vp ms w' := P.step k (fun j hj => hj.elim) (P.rdr.chg k (fun f => f) (fun _ _ f => f))
theorem PR.far {S : Nat → Prop} (P : PR w g rb pb F Z size B st vp ms wr) (k : Chg S wr w') (hS : ∀ j, S j → B ≤ j) : PR w g rb pb F Z size B st vp ms w' := by
  have h1 := P.wg
  have h2 := P.wr'
  exact P.step k (fun j hj => .inr (hS j hj)) (P.rdr.chg k (fun e => by have := hS _ e; omega) (fun j hj e => by have := hS _ e; have := P.fs j hj; omega))
end
theorem OwnL.blk {α : Type} {e : TypeId} {sz : Nat} {cells : α → List Value} {w : World} {v : Value} {l : List α} (h : OwnL e sz cells w v l) {j : Nat} (hj : vbl v j) : ∃ cs, Hb w j e cs := by
  rcases h.2 with ⟨rfl, _⟩ | ⟨g, cap, cur, rfl, _, hg, _⟩
  · cases hj
  · have : some g = some j := hj
    injection this with this
    subst this
    exact ⟨cur, hg⟩
/-- One part more. -/
theorem PR.push {w w0 w1 w2 : World} {g rb pb : Nat} {F : Nat → Prop} {Z : List Value} {size : Int} {B : Nat} {st : St} {vp : Value} {ms : List Pm} (P : PR w g rb pb F Z size B st vp ms w0) {x : Pm} {v' : Value}
    (k01 : Chg Non w0 w1) (ho : OwnL 77 4 Pm.cells w2 v' (ms ++ [x])) (hg : w1.grownBy w2 vp.ownBlock) (hb : v'.ownBlock = vp.ownBlock ∨ v'.ownBlock = some w1.heap.size)
    (hx : OwnL 26 32 bv w0 x.pathV x.part.path) (hxv : ∀ j, vbl x.pathV j → w.heap.size ≤ j) :
    PR w g rb pb F Z size (w2.setCell ⟨pb, 1, none⟩ v').heap.size st v' (ms ++ [x]) (w2.setCell ⟨pb, 1, none⟩ v') := by
  have P1 := P.non k01
  have hx1 := hx.chg k01 (fun _ _ f => f)
  have hx1l := hx1.lt
  have k12 := (Chg.refl (fun j => vbl vp j) w1).grown hg (fun k hk => .inl hk)
  obtain ⟨A, m, c, hgb⟩ := P1.rblk
  have n1 : ¬ vbl vp g := P1.own.ne hgb (by decide)
  have n2 : ¬ vbl vp rb := P1.own.ne P1.res (by decide)
  have n3 : ¬ vbl vp pb := P1.own.ne P1.box (by decide)
  have nF : ∀ j, F j → ¬ vbl vp j := fun j hj hv => by have := P.fs j hj; have := (P.new j hv).1; omega
  have nx : ∀ {v : Value} {l : List (List UInt8)}, OwnL 26 32 bv w1 v l → ∀ j, vbl v j → ¬ vbl vp j := fun h j hj hv => by
    obtain ⟨cs, hcs⟩ := P1.own.blk hv
    exact h.ne hcs (by decide) hj
  have r2 := P1.rdr.chg k12 n1 nF
  have e2 := P1.res.chg k12 n2
  have b2 := P1.box.chg k12 n3
  have ks := (Chg.refl (fun j => j = pb) w2).setCell (p := ⟨pb, 1, none⟩) (.inl rfl) v'
  have a1 := P.wg
  have a2 := P.wr'
  have a3 := P.wp
  have a4 := P.gr
  have a5 := P.gp
  have a6 := P.rp
  have a7 := P.lt
  have s1 := k01.size
  have s2 := k12.size
  have s3 : (w2.setCell ⟨pb, 1, none⟩ v').heap.size = w2.heap.size := by simp [World.setCell]
  have hk : ∀ {v : Value} {l : List (List UInt8)}, OwnL 26 32 bv w1 v l → OwnL 26 32 bv (w2.setCell ⟨pb, 1, none⟩ v') v l := fun h => (h.chg k12 (nx h)).chg ks (fun j hj e => by
    subst e
    exact (h.chg k12 (nx h)).ne b2 (by decide) hj)
  refine ⟨r2.chg ks (by omega) (fun j hj e => by have := P.fs j hj; omega), e2.chg ks a6, b2.set 1 v', ho.chg ks (fun j hj e => by subst e; exact ho.ne b2 (by decide) hj), fun j hj => ?_, fun y hy => ?_, ?_, ⟨a1.1, by omega⟩, ⟨a2.1, by omega⟩, ⟨a3.1, by omega⟩, a4, a5, a6, Nat.le_refl _, P.fs⟩
  · rw [s3]
    have hl := ho.lt j hj
    rcases hb with hb | hb
    · have : vbl vp j := by unfold vbl at hj ⊢; rw [← hb]; exact hj
      exact ⟨(P.new j this).1, hl⟩
    · unfold vbl at hj
      rw [hb] at hj
      injection hj with hj
      have := P.chg.size
      exact ⟨by omega, hl⟩
  · rw [s3]
    rcases List.mem_append.1 hy with hy | hy
    · have hp := P1.paths y hy
      exact ⟨hk hp.1, fun j hj => ⟨(hp.2 j hj).1, by have := (hp.2 j hj).2; omega⟩⟩
    · rw [List.mem_singleton.1 hy]
      exact ⟨hk hx1, fun j hj => ⟨hxv j hj, by have := hx1l j hj; omega⟩⟩
  · exact ((P1.chg.trans k12 (fun j hj => .inr ((P.new j hj).1))).trans ks (fun j hj => .inr (by omega)))
end Go.Proofs.Ytgonbmcfeehfaaa

/- The document's answers for forms: a proof's bytes. -/
namespace Go.Proofs.Ytgonbmcfeehfaaa
open Go.RowKit
set_option linter.unusedVariables false
set_option linter.unusedSimpArgs false
set_option maxRecDepth 20000

/-- Bytes appended part by part, beside a block that stays. -/
structure Btx (W w : World) (v : Value) (l : List UInt8) (xb : Nat) (t : TypeId) (L : List Value) : Prop where
  b : Bts W w v l
  x : Hb w xb t L.toArray
  ap : ∀ k, vbl v k → k ≠ xb
theorem Btx.later {W w w' : World} {v : Value} {l : List UInt8} {xb : Nat} {t : TypeId} {L : List Value} (h : Btx W w v l xb t L) (k : Chg Non w w') : Btx W w' v l xb t L := ⟨h.b.later k, h.x.chg k (fun f => f), h.ap⟩
theorem Btx.app {W w w' : World} {v v' : Value} {l l2 : List UInt8} {xb : Nat} {t : TypeId} {L : List Value} (h : Btx W w v l xb t L) (ho : Own 5 w' v' (l ++ l2)) (hg : w.grownBy w' v.ownBlock) (hl : v'.ownBlock = v.ownBlock ∨ v'.ownBlock = some w.heap.size) : Btx W w' v' (l ++ l2) xb t L := by
  refine ⟨h.b.app ho hg hl, h.x.chg (S := fun k => vbl v k) ((Chg.refl _ w).grown hg (fun k hk => .inl hk)) (fun hk => h.ap _ hk rfl), fun k hk => ?_⟩
  rcases hl with h2 | h2
  · exact h.ap k (by unfold vbl at hk ⊢; rw [← h2]; exact hk)
  · unfold vbl at hk
    rw [h2] at hk
    injection hk with hk
    have := h.x.lt
    omega
theorem own_lt {w : World} {v : Value} {l : List UInt8} (h : Own 5 w v l) : ∀ k, vbl v k → k < w.heap.size := by
  obtain ⟨A, c, _, _, _, _, h1, h2⟩ := h.slice
  exact fun k hk => h2 k ((h1 k).2 hk)
theorem part_row : (Try.prog.info? 77).map (·.size) = some 4 := by kernel_rfl
def partZ : List Value := [.int .i64 0, .string ⟨#[]⟩, .string ⟨#[]⟩, .slice none 0 0]
theorem part_alloc0 (w : World) : (Instr.alloc 77 true (.tuple #[])).run Try.prog w = .ok (.pointer (some ⟨w.heap.size, 0, none⟩)) (w.alloc (.cells partZ.toArray 77)) := by kernel_rfl
/-- A part in a block of its own. -/
def partIn (w : World) (L : List Value) : World := (w.alloc (.cells partZ.toArray 77)).setCells w.heap.size 0 L
theorem partIn_is (w : World) {L : List Value} (h : L.length = 4) : Hb (partIn w L) w.heap.size 77 L.toArray ∧ Chg Non w (partIn w L) := by
  have hb := Hb.new w 77 partZ.toArray
  refine ⟨hb.sets0 (L' := L) (by rw [h]; rfl), ?_⟩
  exact (Chg.refl Non w).trans (Chg.setCells (S := fun k => k = w.heap.size) rfl L _ 0 ((Chg.refl _ w).alloc (.cells partZ.toArray 77))) (fun j hj => .inr (by omega))
theorem part_there (w : World) : (w.alloc (.cells partZ.toArray 77)).there w.heap.size 0 4 := by
  have := (Hb.new w 77 partZ.toArray).there0
  exact this

set_option maxHeartbeats 6400000 in
theorem refProof_any (w : World) (A : Option Addr) (c : Nat) (sz : Int) (ms : List Pm) (hsz : I64 sz) (hlm : ms.length ≤ maxLen) (M : LstM w A ms Pm.cells 4) (hm : ∀ m ∈ ms, m.In w) :
    Calls Try.prog 33 #[.agg #[.int .i64 sz, .slice A ms.length c]] w fun e w' => Chg Non w w' ∧ ∃ v, e = .returned (.tuple #[v, .bool (Pf.right ⟨sz, ms.map Pm.part⟩)]) ∧ (Pf.right ⟨sz, ms.map Pm.part⟩ = true → Own 5 w' v (Pf.enc ⟨sz, ms.map Pm.part⟩)) := by
  have HM := Lib.hid M
  have HI := Lib.hid hm
  have hi2 : inR 0 2 ms.length = decide (ms.length ≤ 2) := by unfold inR; simp; omega
  have HR : Hid (Pf.right ⟨sz, ms.map Pm.part⟩ = (inR 0 4096 sz && (decide (ms.length ≤ 2) && ms.all fun m => m.part.right))) := Lib.hid (by rw [← hi2]; simp [Pf.right, List.length_map, List.all_map, Function.comp_def])
  have HE : Hid (Pf.enc ⟨sz, ms.map Pm.part⟩ = num 7 ++ (num sz ++ (num ms.length ++ ms.flatMap fun m => m.part.enc))) := Lib.hid (by unfold Pf.enc; rw [encL_map]; rfl)
  obtain ⟨pfx, HP⟩ : ∃ pfx : Nat → List UInt8, Hid (∀ k, pfx k = num 7 ++ (num sz ++ (num ms.length ++ (ms.take k).flatMap fun m => m.part.enc))) := ⟨fun k => num 7 ++ (num sz ++ (num ms.length ++ (ms.take k).flatMap fun m => m.part.enc)), Lib.hid fun k => rfl⟩
  have hC0 := (Chg.refl Non w).alloc (.cells #[.int .i64 sz, .slice A ms.length c] 45)
  have hb0 := Hb.new w 45 #[.int .i64 sz, .slice A ms.length c]
  generalize Pf.right ⟨sz, ms.map Pm.part⟩ = ok at *
  generalize Pf.enc ⟨sz, ms.map Pm.part⟩ = enc at *
  generalize hn : ms.length = n at *
  have HN := Lib.hid hn
  unfold maxLen at hlm
  clear M hm hn hi2
  have HIN : Hid (∀ w', Calls Try.prog 49 #[.int .i64 sz, .int .i64 0, .int .i64 4096] w' fun e w'' => e = .returned (.bool (inR 0 4096 sz)) ∧ w'' = w') := Lib.hid fun w' => in_any w' _ _ _
  generalize inR 0 4096 sz = p at *
  have c0 := hb0.cell 0
  have c1 := hb0.cell 1
  simp only [List.getElem?_toArray] at c0 c1
  go_enter Try.func33, Try.ntmps33
  go_wp2_with fail
  generalize w.alloc (.cells #[.int .i64 sz, .slice A n c] 45) = w1 at *
  have HC := Lib.hid hC0
  have H1 := Lib.hid c1
  clear hC0 hb0
  refine (HIN.out _).mono ?_
  rintro e wq ⟨rfl, hq⟩
  obtain rfl : w1 = wq := hq.symm
  clear hq
  by_cases h2n : n ≤ 2
  · have h2i : (n : Int) ≤ 2 := by omega
    cases p
    · have HF : Hid (ok = false) := Lib.hid (by rw [HR.out]; rfl)
      go_wp2_with fail
      go_region_held3 (fun w' => w'.cell? ⟨w.heap.size, 0, none⟩ = some (.int .i64 sz) ∧ w'.cell? ⟨w.heap.size, 1, none⟩ = some (.slice A n c)) (first | exact ⟨c0, c1⟩ | exact S8 | exact S7 | exact S6 | assumption)
        (first
          | (go_at_call_of 50 (Value.int IntKind.i64 7); refine (refNumber_any _ 7).mono ?_; rintro e w6 ⟨v6, rfl, o6, n6, j6⟩; have K6 : Chg Non w1 w6 := (by first | exact ((Chg.refl Non w1).drew).trans j6 (fun _ f => f.elim) | exact K7.trans j6 (fun _ f => f.elim)); have B6 : Bts w1 w6 v6 (num 7) := ⟨o6, fun k hk => Nat.le_trans (by first | exact Nat.le_refl _ | exact K7.size) (n6 k hk), K6⟩; have S6 := And.intro (K6.cell c0 (fun f => f)) (K6.cell c1 (fun f => f)))
          | (go_at_call_of 50 (Value.int IntKind.i64 sz); refine (refNumber_any _ sz).mono ?_; rintro e w7 ⟨v7, rfl, o7, n7, j7⟩; obtain ⟨A7, c7, rfl, R7⟩ := o7.rd; have K7 : Chg Non w1 w7 := (by first | exact ((Chg.refl Non w1).drew).trans j7 (fun _ f => f.elim) | exact K6.trans j7 (fun _ f => f.elim)); have S7 := And.intro (K7.cell c0 (fun f => f)) (K7.cell c1 (fun f => f)))
          | (refine step_app _ (by rfl) _ _ (by rfl) (l := num 7) (l2 := num sz) (by rfl) (by first | exact (B6.later j7).own | exact B6.own) (A := A7) (c := c7) (by rfl) (by rfl) (by first | exact R7 | exact R7.later j6) (by simp [num_length]) ?_; intro v8 w8 o8 g8 b8; have B8 : Bts w1 w8 v8 (num 7 ++ num sz) := (by first | exact (B6.later j7).app o8 g8 b8 | exact B6.app o8 g8 b8); have S8 := And.intro (B8.chg.cell c0 (fun f => f)) (B8.chg.cell c1 (fun f => f)))
          | fail)
      all_goals
        obtain ⟨d0, d1⟩ := S8
        have B8' := Lib.hid B8
        clear S6 S7 R7 o6 o7 o8 g8 b8 B6 B8 K6 K7 j6 j7 n6 n7
        go_wp2_with fail
        refine (refNumber_any _ (n : Int)).mono ?_
        rintro e wa ⟨va, rfl, oa, na, ja⟩
        obtain ⟨Aa, ca, rfl, Ra⟩ := oa.rd
        have Ba := B8'.out.later ja
        clear d0 d1
        go_wp2_with (at_builtin; refine wpList_app byt _ rfl _ _ rfl rfl Ba.own (A := Aa) (c := ca) rfl rfl Ra (by simp only [List.length_append, num_length]; omega) ?_; intro v9 w9 o9 g9 b9; have B9 := Ba.app o9 g9 b9; have d1 := B9.chg.cell H1.out (fun f => f))
        clear Ba oa Ra na ja o9 g9 b9 B8'
        go_loopw [4, 5, 6, 7, 8] (fun o b i x k wr => i = .int .i64 0 ∧ o = .bool false ∧ b = v9 ∧ wr = w9) (fun _ _ _ _ _ _ => 0)
        case atStart => exact ⟨rfl, rfl, rfl, rfl⟩
        case round =>
          obtain ⟨rfl, rfl, rfl, rfl⟩ := hrel
          by_cases h0 : (0 : Int) < (n : Int)
          · go_wp2_with fail
            go_ret2
            exact ⟨HC.out.trans B9.chg (fun _ f => f.elim), _, by rw [HF.out]; rfl, fun h => by rw [HF.out] at h; cases h⟩
          · go_wp2_with fail
            go_ret2
            exact ⟨HC.out.trans B9.chg (fun _ f => f.elim), _, by rw [HF.out]; rfl, fun h => by rw [HF.out] at h; cases h⟩
    · go_wp2_with fail
      go_region_held3 (fun w' => w'.cell? ⟨w.heap.size, 0, none⟩ = some (.int .i64 sz) ∧ w'.cell? ⟨w.heap.size, 1, none⟩ = some (.slice A n c)) (first | exact ⟨c0, c1⟩ | exact S8 | exact S7 | exact S6 | assumption)
        (first
          | (go_at_call_of 50 (Value.int IntKind.i64 7); refine (refNumber_any _ 7).mono ?_; rintro e w6 ⟨v6, rfl, o6, n6, j6⟩; have K6 : Chg Non w1 w6 := (by first | exact ((Chg.refl Non w1).drew).trans j6 (fun _ f => f.elim) | exact K7.trans j6 (fun _ f => f.elim)); have B6 : Bts w1 w6 v6 (num 7) := ⟨o6, fun k hk => Nat.le_trans (by first | exact Nat.le_refl _ | exact K7.size) (n6 k hk), K6⟩; have S6 := And.intro (K6.cell c0 (fun f => f)) (K6.cell c1 (fun f => f)))
          | (go_at_call_of 50 (Value.int IntKind.i64 sz); refine (refNumber_any _ sz).mono ?_; rintro e w7 ⟨v7, rfl, o7, n7, j7⟩; obtain ⟨A7, c7, rfl, R7⟩ := o7.rd; have K7 : Chg Non w1 w7 := (by first | exact ((Chg.refl Non w1).drew).trans j7 (fun _ f => f.elim) | exact K6.trans j7 (fun _ f => f.elim)); have S7 := And.intro (K7.cell c0 (fun f => f)) (K7.cell c1 (fun f => f)))
          | (refine step_app _ (by rfl) _ _ (by rfl) (l := num 7) (l2 := num sz) (by rfl) (by first | exact (B6.later j7).own | exact B6.own) (A := A7) (c := c7) (by rfl) (by rfl) (by first | exact R7 | exact R7.later j6) (by simp [num_length]) ?_; intro v8 w8 o8 g8 b8; have B8 : Bts w1 w8 v8 (num 7 ++ num sz) := (by first | exact (B6.later j7).app o8 g8 b8 | exact B6.app o8 g8 b8); have S8 := And.intro (B8.chg.cell c0 (fun f => f)) (B8.chg.cell c1 (fun f => f)))
          | fail)
      all_goals
        obtain ⟨d0, d1⟩ := S8
        have B8' := Lib.hid B8
        clear S6 S7 R7 o6 o7 o8 g8 b8 B6 B8 K6 K7 j6 j7 n6 n7
        go_wp2_with fail
        refine (refNumber_any _ (n : Int)).mono ?_
        rintro e wa ⟨va, rfl, oa, na, ja⟩
        obtain ⟨Aa, ca, rfl, Ra⟩ := oa.rd
        have Ba := B8'.out.later ja
        clear d0 d1
        go_wp2_with (at_builtin; refine wpList_app byt _ rfl _ _ rfl rfl Ba.own (A := Aa) (c := ca) rfl rfl Ra (by simp only [List.length_append, num_length]; omega) ?_; intro v9 w9 o9 g9 b9; have B9 := Ba.app o9 g9 b9; have d1 := B9.chg.cell H1.out (fun f => f))
        clear Ba oa Ra na ja o9 g9 b9 B8'
        have BH := Lib.hid (show Bts w1 w9 v9 (pfx 0) by simpa only [HP.out, List.take_zero, List.flatMap_nil, List.append_nil, List.append_assoc] using B9)
        clear B9 d1
        go_loopw [4, 5, 6, 7, 8] (fun o b i x k wr => ∃ K : Nat, K ≤ n ∧ i = .int .i64 (K : Int) ∧ o = .bool true ∧ Hid (∀ m ∈ ms.take K, m.part.right = true) ∧ Hid ((pfx K).length ≤ 24 + K * 20000) ∧ Hid (Bts w1 wr b (pfx K))) (fun _ _ i _ _ _ => n - (intOf i).toNat)
        case atStart => exact ⟨0, by omega, rfl, rfl, Lib.hid (by simp), Lib.hid (by rw [HP.out]; simp [num_length]), BH⟩
        case round =>
          obtain ⟨K, hK, rfl, rfl, hall, hlen, hB⟩ := hrel
          have d1 := hB.out.chg.cell H1.out (fun f => f)
          by_cases hlt : K < n
          · have hkl : K < ms.length := by rw [HN.out]; exact hlt
            have hx := List.getElem?_eq_getElem hkl
            have HX := Lib.hid hx
            have hC1 : Chg Non w wr := HC.out.trans hB.out.chg (fun _ f => f.elim)
            obtain ⟨a, ao, rfl, _, r1⟩ := (HM.out.chg hC1) K _ hx
            have hin := HI.out ms[K] (List.getElem_mem hkl)
            generalize ms[K] = m at *
            obtain ⟨⟨ix, ky, vu, pa⟩, PA, pc⟩ := m
            obtain ⟨ox, hpl, hpm⟩ := hin
            have hix := ox.index
            have hpa := Lib.hid ox.path
            have hpm := Lib.hid hpm
            have HL20 := Lib.hid (fun h : Pa.right ⟨ix, ky, vu, pa⟩ = true => Pa.enc_len h ox)
            clear ox
            simp only at hpl
            unfold maxLen at hpl
            have HRR : Hid (Pa.right ⟨ix, ky, vu, pa⟩ = (inR 0 4096 ix && (decide (ky.size ≤ 4096) && (decide (vu.size ≤ 4096) && inR 0 16 pa.length)))) := Lib.hid rfl
            have HEE : Hid (Pa.enc ⟨ix, ky, vu, pa⟩ = num ix ++ (tx ky.data.toList ++ (tx vu.data.toList ++ (num pa.length ++ pa.flatMap id)))) := Lib.hid rfl
            have HPN : Hid (pfx (K + 1) = pfx K ++ Pa.enc ⟨ix, ky, vu, pa⟩) := Lib.hid (by
              rw [HP.out, HP.out, List.take_add_one, HX.out]
              simp [List.flatMap_append, List.append_assoc])
            have HNO : Hid (Pa.right ⟨ix, ky, vu, pa⟩ = false → ok = false) := Lib.hid (fun h => by
              rw [HR.out, Bool.eq_false_iff]
              intro h2
              simp only [Bool.and_eq_true, List.all_eq_true] at h2
              have := h2.2.2 _ (List.mem_of_getElem? HX.out)
              simp only at this
              rw [this] at h; cases h)
            have HYE : Hid (Pa.right ⟨ix, ky, vu, pa⟩ = true → ∀ m ∈ ms.take (K + 1), m.part.right = true) := Lib.hid (fun h m hm => by
              rw [List.take_add_one, HX.out] at hm
              rcases List.mem_append.1 hm with hm | hm
              · exact hall.out m hm
              · simp at hm; subst hm; exact h)
            generalize Pa.right ⟨ix, ky, vu, pa⟩ = mr at *
            generalize Pa.enc ⟨ix, ky, vu, pa⟩ = me at *
            have hki : (K : Int) < (n : Int) := by omega
            have hin : Hid (∀ w', Calls Try.prog 49 #[.int .i64 ix, .int .i64 0, .int .i64 4096] w' fun e w'' => e = .returned (.bool (inR 0 4096 ix)) ∧ w'' = w') := Lib.hid fun w' => in_any w' _ _ _
            generalize inR 0 4096 ix = q at *
            have hi16 : inR 0 16 pa.length = decide (pa.length ≤ 16) := by unfold inR; simp; omega
            rw [hi16] at HRR
            have hrow : Pm.cells ⟨⟨ix, ky, vu, pa⟩, PA, pc⟩ = [.int .i64 ix, .string ky, .string vu, .slice PA pa.length pc] := rfl
            rw [hrow] at r1
            clear hi16 hrow hx hkl hall
            have hpn0 : pa.length = pa.length := rfl
            generalize hpn : pa.length = pn at *
            have HPL := Lib.hid hpn
            clear hpn0 hpn
            have HI2 := partIn_is wr (L := [.int .i64 ix, .string ky, .string vu, .slice PA pn pc]) rfl
            have hpx : (wr.alloc (.cells partZ.toArray 77)).setCells wr.heap.size 0 ([.int .i64 ix, .string ky, .string vu, .slice PA pn pc] : List Value).toArray.toList = partIn wr [.int .i64 ix, .string ky, .string vu, .slice PA pn pc] := rfl
            have hal := part_alloc0 wr
            have hth := part_there wr
            have hpr : (Try.prog.info? 77).map (·.size) = some ([.int .i64 ix, .string ky, .string vu, .slice PA pn pc] : List Value).length := part_row
            have hsz4 : ([.int .i64 ix, .string ky, .string vu, .slice PA pn pc] : List Value).toArray.size = 4 := rfl
            have hone : ([.int .i64 ix, .string ky, .string vu, .slice PA pn pc] : List Value).toArray.all (·.oneCell') = true := one_mem (by intro v hv; simp at hv; rcases hv with rfl | rfl | rfl | rfl <;> rfl)
            generalize u5 = bo at *
            have BX : Btx w1 (partIn wr [.int .i64 ix, .string ky, .string vu, .slice PA pn pc]) bo (pfx K) wr.heap.size 77 [.int .i64 ix, .string ky, .string vu, .slice PA pn pc] := ⟨hB.out.later HI2.2, HI2.1, fun k hk => by have := own_lt hB.out.own k hk; omega⟩
            have HBX := Lib.hid BX
            have HPM := Lib.hid (hpm.out)
            clear HI2 BX hpm hC1 hB
            go_wp2_with (first | (with_reducible refine wpList_load_mid rfl 77 _ rfl a (ao + K * 4) rfl [.int .i64 ix, .string ky, .string vu, .slice PA pn pc] _ r1 Try.underlying77 rfl hpr ?_) | (with_reducible refine wpList_alloc_row rfl _ rfl partZ hal ?_) | ((with_reducible refine wpList_store_mid rfl 77 _ _ rfl wr.heap.size 0 ([.int .i64 ix, .string ky, .string vu, .slice PA pn pc] : List Value).toArray rfl rfl (by rw [hsz4]; exact hth) (by rw [part_row, hsz4]) hone ?_); rw [hpx]; generalize partIn wr [.int .i64 ix, .string ky, .string vu, .slice PA pn pc] = wx at *; have x0 : wx.cell? ⟨wr.heap.size, 0, none⟩ = some (.int .i64 ix) := HBX.out.x.cell 0; have x1 : wx.cell? ⟨wr.heap.size, 1, none⟩ = some (.string ky) := HBX.out.x.cell 1; have x2 : wx.cell? ⟨wr.heap.size, 2, none⟩ = some (.string vu) := HBX.out.x.cell 2; have x3 : wx.cell? ⟨wr.heap.size, 3, none⟩ = some (.slice PA pn pc) := HBX.out.x.cell 3))
            refine (hin.out _).mono ?_
            rintro e wq ⟨rfl, hq⟩
            obtain rfl : wx = wq := hq.symm
            generalize hxb : wr.heap.size = xb at *
            clear hpx hpr hal hth hsz4 hone r1 d1 hq
            cases q
            · go_wp2_with fail
              go_ret2
              exact ⟨HC.out.trans HBX.out.b.chg (fun _ f => f.elim), _, by rw [HNO.out (by rw [HRR.out]; rfl)]; rfl, fun h => by rw [HNO.out (by rw [HRR.out]; rfl)] at h; cases h⟩
            by_cases hk1 : (4096 : Int) < (ky.size : Int)
            · have hd1 : decide ((ky.size : Int) ≤ 4096) = false := decide_eq_false (by omega)
              have hd1' : Hid (decide (ky.size ≤ 4096) = false) := Lib.hid (decide_eq_false (by omega))
              go_wp2_with fail
              go_ret2
              exact ⟨HC.out.trans HBX.out.b.chg (fun _ f => f.elim), _, by rw [HNO.out (by rw [HRR.out, hd1'.out]; simp)]; rfl, fun h => by rw [HNO.out (by rw [HRR.out, hd1'.out]; simp)] at h; cases h⟩
            have hk1 : (ky.size : Int) ≤ 4096 := by omega
            by_cases hk2 : (4096 : Int) < (vu.size : Int)
            · have hd2 : decide ((vu.size : Int) ≤ 4096) = false := decide_eq_false (by omega)
              have hd2' : Hid (decide (vu.size ≤ 4096) = false) := Lib.hid (decide_eq_false (by omega))
              go_wp2_with fail
              go_ret2
              exact ⟨HC.out.trans HBX.out.b.chg (fun _ f => f.elim), _, by rw [HNO.out (by rw [HRR.out, hd2'.out]; simp)]; rfl, fun h => by rw [HNO.out (by rw [HRR.out, hd2'.out]; simp)] at h; cases h⟩
            have hk2 : (vu.size : Int) ≤ 4096 := by omega
            by_cases hk3 : (16 : Int) < (pn : Int)
            · have hd3 : decide ((pn : Int) ≤ 16) = false := decide_eq_false (by omega)
              have hd3' : Hid (decide (pn ≤ 16) = false) := Lib.hid (decide_eq_false (by omega))
              go_wp2_with fail
              go_ret2
              exact ⟨HC.out.trans HBX.out.b.chg (fun _ f => f.elim), _, by rw [HNO.out (by rw [HRR.out, hd3'.out]; simp)]; rfl, fun h => by rw [HNO.out (by rw [HRR.out, hd3'.out]; simp)] at h; cases h⟩
            have hk3 : (pn : Int) ≤ 16 := by omega
            have hmr : mr = true := by rw [HRR.out, decide_eq_true (show ky.size ≤ 4096 by omega), decide_eq_true (show vu.size ≤ 4096 by omega), decide_eq_true (show pn ≤ 16 by omega)]; rfl
            have HMR := Lib.hid hmr
            have hsk : ky.data.toList.length = ky.size := by rw [Array.length_toList]; rfl
            have hsv : vu.data.toList.length = vu.size := by rw [Array.length_toList]; rfl
            have HSK := Lib.hid hsk
            have HSV := Lib.hid hsv
            clear hmr hsk hsv HNO HRR
            go_wp2_with fail
            refine (refNumber_any _ ix).mono ?_
            rintro e wa ⟨va, rfl, oa, na, ja⟩
            obtain ⟨Aa, ca, rfl, Ra⟩ := oa.rd
            have Ba := HBX.out.later ja
            clear x0 x1 x2 x3
            go_wp2_with (at_builtin; refine wpList_app byt _ rfl _ _ rfl rfl Ba.b.own (A := Aa) (c := ca) rfl rfl Ra (by have := hlen.out; rw [num_length]; omega) ?_; intro v10 w10 o10 g10 b10; have B10 := Ba.app o10 g10 b10; have x1 : w10.cell? ⟨xb, 1, none⟩ = some (.string ky) := B10.x.cell 1)
            refine (refText_any _ ky (by omega)).mono ?_
            rintro e wb ⟨vb, rfl, ob, nb, jb⟩
            obtain ⟨Ab, cb, rfl, Rb⟩ := ob.rd
            have Bb := B10.later jb
            clear x1 Ba oa Ra na ja o10 g10 b10 B10
            go_wp2_with (at_builtin; refine wpList_app byt _ rfl _ _ rfl rfl Bb.b.own (A := Ab) (c := cb) rfl rfl Rb (by have := hlen.out; simp only [List.length_append, num_length, tx_length, HSK.out]; omega) ?_; intro v11 w11 o11 g11 b11; have B11 := Bb.app o11 g11 b11; have x2 : w11.cell? ⟨xb, 2, none⟩ = some (.string vu) := B11.x.cell 2)
            refine (refText_any _ vu (by omega)).mono ?_
            rintro e wc ⟨vc, rfl, oc, nc, jc⟩
            obtain ⟨Ac, cc, rfl, Rc⟩ := oc.rd
            have Bc := B11.later jc
            clear x2 Bb ob Rb nb jb o11 g11 b11 B11
            go_wp2_with (at_builtin; refine wpList_app byt _ rfl _ _ rfl rfl Bc.b.own (A := Ac) (c := cc) rfl rfl Rc (by have := hlen.out; simp only [List.length_append, num_length, tx_length, HSK.out, HSV.out]; omega) ?_; intro v12 w12 o12 g12 b12; have B12 := Bc.app o12 g12 b12; have x3 : w12.cell? ⟨xb, 3, none⟩ = some (.slice PA pn pc) := B12.x.cell 3)
            refine (refNumber_any _ (pn : Int)).mono ?_
            rintro e wd ⟨vd, rfl, od, nd, jd⟩
            obtain ⟨Ad, cd, rfl, Rd'⟩ := od.rd
            have Bd := B12.later jd
            clear x3 Bc oc Rc nc jc o12 g12 b12 B12
            go_wp2_with (at_builtin; refine wpList_app byt _ rfl _ _ rfl rfl Bd.b.own (A := Ad) (c := cd) rfl rfl Rd' (by have := hlen.out; simp only [List.length_append, num_length, tx_length, HSK.out, HSV.out]; omega) ?_; intro v13 w13 o13 g13 b13; have B13 := Lib.hid (Bd.app o13 g13 b13); have x3 : w13.cell? ⟨xb, 3, none⟩ = some (.slice PA pn pc) := B13.out.x.cell 3)
            have hpbl : (pfx K ++ num ix ++ tx ky.data.toList ++ tx vu.data.toList ++ num (pn : Int)).length ≤ 60000 := by have := hlen.out; simp only [List.length_append, num_length, tx_length, HSK.out, HSV.out]; omega
            have HPB : Hid (pfx K ++ num ix ++ tx ky.data.toList ++ tx vu.data.toList ++ num (pn : Int) ++ pa.flatMap id = pfx (K + 1)) := Lib.hid (by rw [HPN.out, HEE.out]; simp [List.append_assoc])
            generalize pfx K ++ num ix ++ tx ky.data.toList ++ tx vu.data.toList ++ num (pn : Int) = pb at *
            have HPBL := Lib.hid hpbl
            have HX0 : Hid (Btx w1 w13 v13 (pb ++ (pa.take 0).flatMap id) xb 77 [.int .i64 ix, .string ky, .string vu, .slice PA pn pc]) := Lib.hid (by simpa using B13.out)
            clear x3 Bd od Rd' nd jd o13 g13 b13 B13 hpbl HBX
            go_loopw [5, 8] (fun b k wi => ∃ J : Nat, J ≤ pn ∧ k = .int .i64 (J : Int) ∧ Hid (Btx w1 wi b (pb ++ (pa.take J).flatMap id) xb 77 [.int .i64 ix, .string ky, .string vu, .slice PA pn pc])) (fun _ k _ => pn - (intOf k).toNat)
            case atStart => exact ⟨0, by omega, rfl, HX0⟩
            case round =>
              obtain ⟨J, hJ, rfl, hBJ⟩ := hrel
              have y3 : wr.cell? ⟨xb, 3, none⟩ = some (.slice PA pn pc) := hBJ.out.x.cell 3
              by_cases hlj : J < pn
              · have hjl : J < pa.length := by rw [HPL.out]; exact hlj
                have hj := List.getElem?_eq_getElem hjl
                have HJ := Lib.hid hj
                have h32 := hpa.out pa[J] (List.getElem_mem hjl)
                obtain ⟨eb, eo, rfl, _, rJ⟩ := (HPM.out.chg (HC.out.trans hBJ.out.b.chg (fun _ f => f.elim))) J _ hj
                generalize pa[J] = hh at *
                have hih : (Try.prog.info? 26).map (·.size) = some (bv hh).length := by rw [bv_length, h32]; exact hash_row
                have hJi : (J : Int) < (pn : Int) := by omega
                have HLJ : Hid ((pb ++ (pa.take J).flatMap id).length ≤ 61000) := Lib.hid (by
                  have h1 := path_len (l := pa.take J) (fun x hx => hpa.out x (List.mem_of_mem_take hx))
                  have h2 := HPBL.out
                  rw [List.length_append, h1, List.length_take]
                  omega)
                have HNX : Hid (pb ++ (pa.take J).flatMap id ++ hh = pb ++ (pa.take (J + 1)).flatMap id) := Lib.hid (by rw [List.take_add_one, HJ.out]; simp [List.flatMap_append, List.append_assoc])
                generalize u5 = bj at *
                generalize pb ++ (pa.take J).flatMap id = pj at *
                have HS32 := Lib.hid h32
                clear hj hjl
                go_wp2_with (first | (with_reducible refine wpList_load_mid rfl 26 _ rfl eb (eo + J * 32) rfl (bv hh) _ rJ Try.underlying26 rfl hih ?_) | fail)
                refine (refHash_any _ hh h32).mono ?_
                rintro e we ⟨ve, rfl, oe, ne, je⟩
                obtain ⟨Ae, ce, rfl, Re⟩ := oe.rd
                have Be := hBJ.out.later je
                clear h32 hih
                go_wp2_with (at_builtin; refine wpList_app byt _ rfl _ _ rfl rfl Be.b.own (A := Ae) (c := ce) rfl rfl Re (by have := HLJ.out; rw [HS32.out]; omega) ?_; intro v14 w14 o14 g14 b14; have B14 := Be.app o14 g14 b14)
                go_roundw
                case rel => exact ⟨J + 1, by omega, by go_num, Lib.hid (by rw [← HNX.out]; exact B14)⟩
                case measure => simp [intOf]; omega
              · obtain rfl : J = pn := by omega
                generalize u5 = bj at *
                have hBK : Hid (Bts w1 wr bj (pfx (K + 1))) := Lib.hid (by
                  have h := hBJ.out.b
                  rw [List.take_of_length_le (by have := HPL.out; omega), HPB.out] at h
                  exact h)
                have hLK : Hid ((pfx (K + 1)).length ≤ 24 + (K + 1) * 20000) := Lib.hid (by
                  have h1 := HL20.out HMR.out
                  have h2 := hlen.out
                  rw [HPN.out, List.length_append]
                  omega)
                clear hBJ
                go_wp2_with fail
                go_roundw
                case rel => exact ⟨K + 1, by omega, by go_num, rfl, Lib.hid (HYE.out HMR.out), hLK, hBK⟩
                case measure => simp [intOf]; omega
          · obtain rfl : K = n := by omega
            have ht : ms.take K = ms := List.take_of_length_le (by have := HN.out; omega)
            have hT := hall.out
            rw [ht] at hT
            have hok : Hid (ok = true) := Lib.hid (by
              rw [HR.out, Bool.true_and, decide_eq_true h2n, Bool.true_and, List.all_eq_true]
              exact hT)
            generalize u5 = bo at *
            have hEnd : Hid (Own 5 wr bo enc) := Lib.hid (by
              have h := hB.out.own
              rw [HP.out, ht, ← HE.out] at h
              exact h)
            clear hT ht
            go_wp2_with fail
            go_ret2
            exact ⟨HC.out.trans hB.out.chg (fun _ f => f.elim), _, by rw [hok.out]; rfl, fun _ => hEnd.out⟩
  · have h2i : ¬ (n : Int) ≤ 2 := by omega
    have hd0 : decide ((n : Int) ≤ 2) = false := decide_eq_false h2i
    have HF : Hid (ok = false) := Lib.hid (by rw [HR.out, decide_eq_false h2n]; simp)
    cases p
    · go_wp2_with fail
      go_region_held3 (fun w' => w'.cell? ⟨w.heap.size, 0, none⟩ = some (.int .i64 sz) ∧ w'.cell? ⟨w.heap.size, 1, none⟩ = some (.slice A n c)) (first | exact ⟨c0, c1⟩ | exact S8 | exact S7 | exact S6 | assumption)
        (first
          | (go_at_call_of 50 (Value.int IntKind.i64 7); refine (refNumber_any _ 7).mono ?_; rintro e w6 ⟨v6, rfl, o6, n6, j6⟩; have K6 : Chg Non w1 w6 := (by first | exact ((Chg.refl Non w1).drew).trans j6 (fun _ f => f.elim) | exact K7.trans j6 (fun _ f => f.elim)); have B6 : Bts w1 w6 v6 (num 7) := ⟨o6, fun k hk => Nat.le_trans (by first | exact Nat.le_refl _ | exact K7.size) (n6 k hk), K6⟩; have S6 := And.intro (K6.cell c0 (fun f => f)) (K6.cell c1 (fun f => f)))
          | (go_at_call_of 50 (Value.int IntKind.i64 sz); refine (refNumber_any _ sz).mono ?_; rintro e w7 ⟨v7, rfl, o7, n7, j7⟩; obtain ⟨A7, c7, rfl, R7⟩ := o7.rd; have K7 : Chg Non w1 w7 := (by first | exact ((Chg.refl Non w1).drew).trans j7 (fun _ f => f.elim) | exact K6.trans j7 (fun _ f => f.elim)); have S7 := And.intro (K7.cell c0 (fun f => f)) (K7.cell c1 (fun f => f)))
          | (refine step_app _ (by rfl) _ _ (by rfl) (l := num 7) (l2 := num sz) (by rfl) (by first | exact (B6.later j7).own | exact B6.own) (A := A7) (c := c7) (by rfl) (by rfl) (by first | exact R7 | exact R7.later j6) (by simp [num_length]) ?_; intro v8 w8 o8 g8 b8; have B8 : Bts w1 w8 v8 (num 7 ++ num sz) := (by first | exact (B6.later j7).app o8 g8 b8 | exact B6.app o8 g8 b8); have S8 := And.intro (B8.chg.cell c0 (fun f => f)) (B8.chg.cell c1 (fun f => f)))
          | fail)
      all_goals
        obtain ⟨d0, d1⟩ := S8
        have B8' := Lib.hid B8
        clear S6 S7 R7 o6 o7 o8 g8 b8 B6 B8 K6 K7 j6 j7 n6 n7
        go_wp2_with fail
        refine (refNumber_any _ (n : Int)).mono ?_
        rintro e wa ⟨va, rfl, oa, na, ja⟩
        obtain ⟨Aa, ca, rfl, Ra⟩ := oa.rd
        have Ba := B8'.out.later ja
        clear d0 d1
        go_wp2_with (at_builtin; refine wpList_app byt _ rfl _ _ rfl rfl Ba.own (A := Aa) (c := ca) rfl rfl Ra (by simp only [List.length_append, num_length]; omega) ?_; intro v9 w9 o9 g9 b9; have B9 := Ba.app o9 g9 b9; have d1 := B9.chg.cell H1.out (fun f => f))
        clear Ba oa Ra na ja o9 g9 b9 B8'
        go_loopw [4, 5, 6, 7, 8] (fun o b i x k wr => i = .int .i64 0 ∧ o = .bool false ∧ b = v9 ∧ wr = w9) (fun _ _ _ _ _ _ => 0)
        case atStart => exact ⟨rfl, rfl, rfl, rfl⟩
        case round =>
          obtain ⟨rfl, rfl, rfl, rfl⟩ := hrel
          have h0 : (0 : Int) < (n : Int) := by omega
          go_wp2_with fail
          go_ret2
          exact ⟨HC.out.trans B9.chg (fun _ f => f.elim), _, by rw [HF.out]; rfl, fun h => by rw [HF.out] at h; cases h⟩
    · go_wp2_with fail
      go_region_held3 (fun w' => w'.cell? ⟨w.heap.size, 0, none⟩ = some (.int .i64 sz) ∧ w'.cell? ⟨w.heap.size, 1, none⟩ = some (.slice A n c)) (first | exact ⟨c0, c1⟩ | exact S8 | exact S7 | exact S6 | assumption)
        (first
          | (go_at_call_of 50 (Value.int IntKind.i64 7); refine (refNumber_any _ 7).mono ?_; rintro e w6 ⟨v6, rfl, o6, n6, j6⟩; have K6 : Chg Non w1 w6 := (by first | exact ((Chg.refl Non w1).drew).trans j6 (fun _ f => f.elim) | exact K7.trans j6 (fun _ f => f.elim)); have B6 : Bts w1 w6 v6 (num 7) := ⟨o6, fun k hk => Nat.le_trans (by first | exact Nat.le_refl _ | exact K7.size) (n6 k hk), K6⟩; have S6 := And.intro (K6.cell c0 (fun f => f)) (K6.cell c1 (fun f => f)))
          | (go_at_call_of 50 (Value.int IntKind.i64 sz); refine (refNumber_any _ sz).mono ?_; rintro e w7 ⟨v7, rfl, o7, n7, j7⟩; obtain ⟨A7, c7, rfl, R7⟩ := o7.rd; have K7 : Chg Non w1 w7 := (by first | exact ((Chg.refl Non w1).drew).trans j7 (fun _ f => f.elim) | exact K6.trans j7 (fun _ f => f.elim)); have S7 := And.intro (K7.cell c0 (fun f => f)) (K7.cell c1 (fun f => f)))
          | (refine step_app _ (by rfl) _ _ (by rfl) (l := num 7) (l2 := num sz) (by rfl) (by first | exact (B6.later j7).own | exact B6.own) (A := A7) (c := c7) (by rfl) (by rfl) (by first | exact R7 | exact R7.later j6) (by simp [num_length]) ?_; intro v8 w8 o8 g8 b8; have B8 : Bts w1 w8 v8 (num 7 ++ num sz) := (by first | exact (B6.later j7).app o8 g8 b8 | exact B6.app o8 g8 b8); have S8 := And.intro (B8.chg.cell c0 (fun f => f)) (B8.chg.cell c1 (fun f => f)))
          | fail)
      all_goals
        obtain ⟨d0, d1⟩ := S8
        have B8' := Lib.hid B8
        clear S6 S7 R7 o6 o7 o8 g8 b8 B6 B8 K6 K7 j6 j7 n6 n7
        go_wp2_with fail
        refine (refNumber_any _ (n : Int)).mono ?_
        rintro e wa ⟨va, rfl, oa, na, ja⟩
        obtain ⟨Aa, ca, rfl, Ra⟩ := oa.rd
        have Ba := B8'.out.later ja
        clear d0 d1
        go_wp2_with (at_builtin; refine wpList_app byt _ rfl _ _ rfl rfl Ba.own (A := Aa) (c := ca) rfl rfl Ra (by simp only [List.length_append, num_length]; omega) ?_; intro v9 w9 o9 g9 b9; have B9 := Ba.app o9 g9 b9; have d1 := B9.chg.cell H1.out (fun f => f))
        clear Ba oa Ra na ja o9 g9 b9 B8'
        go_loopw [4, 5, 6, 7, 8] (fun o b i x k wr => i = .int .i64 0 ∧ o = .bool false ∧ b = v9 ∧ wr = w9) (fun _ _ _ _ _ _ => 0)
        case atStart => exact ⟨rfl, rfl, rfl, rfl⟩
        case round =>
          obtain ⟨rfl, rfl, rfl, rfl⟩ := hrel
          have h0 : (0 : Int) < (n : Int) := by omega
          go_wp2_with fail
          go_ret2
          exact ⟨HC.out.trans B9.chg (fun _ f => f.elim), _, by rw [HF.out]; rfl, fun h => by rw [HF.out] at h; cases h⟩
end Go.Proofs.Ytgonbmcfeehfaaa
