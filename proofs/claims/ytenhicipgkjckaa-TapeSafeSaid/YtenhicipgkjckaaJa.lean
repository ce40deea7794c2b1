/- Appending to bytes of which others may read the beginning: a slice of the call's own, or one without spare room. Nothing here knows the program. -/
import Derived.Test.YtenhicipgkjckaaWd
namespace Go.Proofs.Ytenhicipgkjckaa
open Go.RowKit
set_option linter.unusedVariables false
set_option linter.unusedSimpArgs false

/-- The value v is a slice that reads as the bytes l. -/
def Sl (w : World) (v : Value) (l : List UInt8) : Prop := ∃ A c, v = .slice A l.length c ∧ l.length ≤ c ∧ c ≤ maxLen ∧ Rd w A l
/-- It may be appended to: it is the call's own, or it has no spare room. -/
def Nw (e : TypeId) (w : World) (v : Value) (l : List UInt8) : Prop := Own e w v l ∨ ∃ A, v = .slice A l.length l.length ∧ l.length ≤ maxLen ∧ Rd w A l
/-- What y reads stays as it is when x is appended to. -/
def Bes (x : Value) (n : Nat) (y : Value) (m : Nat) : Prop := m = 0 ∨ ∀ g, x.ownBlock = some g → y.ownBlock = some g → (∃ A, x = .slice A n n) ∨ ((∃ c, y = .slice (some ⟨g, 0, none⟩) m c) ∧ m ≤ n)

section
variable {e : TypeId} {w w' : World} {v : Value} {l : List UInt8}
theorem Nw.sl (h : Nw e w v l) : Sl w v l := by
  rcases h with h | ⟨A, rfl, hm, hr⟩
  · obtain ⟨A, c, h1, h2, h3, h4, _⟩ := h.slice
    exact ⟨A, c, h1, h2, h3, h4⟩
  · exact ⟨A, _, rfl, Nat.le_refl _, hm, hr⟩
theorem abl_vbl {A : Option Addr} {n c j : Nat} (h : abl A j) : vbl (.slice A n c) j := by
  obtain ⟨ad, rfl, rfl⟩ := h
  rfl
theorem Sl.chg {S : Nat → Prop} (h : Sl w v l) (k : Chg S w w') (hS : l ≠ [] → ∀ j, vbl v j → ¬ S j) : Sl w' v l := by
  obtain ⟨A, c, rfl, h2, h3, h4⟩ := h
  refine ⟨A, c, rfl, h2, h3, ?_⟩
  by_cases h0 : l = []
  · subst h0; exact Rd.nil _ _
  · exact h4.chg k (fun j hj => hS h0 j (abl_vbl hj))
theorem Nw.chg {S : Nat → Prop} (h : Nw e w v l) (k : Chg S w w') (hS : ∀ j, vbl v j → ¬ S j) : Nw e w' v l := by
  rcases h with h | ⟨A, rfl, hm, hr⟩
  · exact .inl (h.chg k hS)
  · exact .inr ⟨A, rfl, hm, hr.chg k (fun j hj => hS j (abl_vbl hj))⟩
theorem Sl.lt (h : Sl w v l) (h0 : l ≠ []) : ∀ j, vbl v j → j < w.heap.size := by
  obtain ⟨A, c, rfl, h2, h3, h4⟩ := h
  obtain ⟨ad, rfl, hlt⟩ := h4.blk_lt (List.length_pos_iff.2 h0)
  intro j hj
  have : some ad.block = some j := hj
  injection this with this
  omega
theorem own_lt (h : Own e w v l) : ∀ j, vbl v j → j < w.heap.size := by
  intro j hj
  rcases h.2 with ⟨rfl, _⟩ | ⟨g, cap, cur, rfl, _, hg, _⟩
  · cases hj
  · have : some g = some j := hj
    injection this with this
    subst this
    exact (Array.getElem?_eq_some_iff.1 hg).1
theorem grown_own (w : World) (e : TypeId) (l : List UInt8) (k cap : Nat) (hc : cap = l.length + k) (hm : cap ≤ maxLen) (cs : Array Value) (hcs : cs = (bv l).toArray) :
    Own e (w.drew.alloc (.cells (cs ++ Builtin.zeroCells #[.int .u8 0] k) e)) (.slice (some ⟨w.heap.size, 0, none⟩) l.length cap) l := by
  subst hcs
  refine ⟨by rw [bv_length, Nat.mul_one], .inr ⟨w.heap.size, _, _, rfl, Nat.zero_le _, heap_alloc_new w.drew _, by omega, hm, ?_, ?_⟩⟩
  · simp [size_zeroCells, bv_length, hc]
  · rw [Array.toList_append, ← bv_length l, Nat.mul_one]
    exact List.take_left
theorem grown_chg (w : World) (o : Obj) : Chg Non w (w.drew.alloc o) := ((Chg.refl Non w).drew).alloc o
end

/-- What an append of l2 to v leaves. -/
def AppN (e : TypeId) (w w' : World) (v v' : Value) (l l2 : List UInt8) : Prop :=
  (l2 = [] ∧ v' = v ∧ w' = w ∧ Nw e w v l) ∨ (l2 ≠ [] ∧ Own e w' v' (l ++ l2) ∧ v'.ownBlock = some w.heap.size ∧ Chg Non w w' ∧ Nw e w v l) ∨
    (l2 ≠ [] ∧ Own e w' v' (l ++ l2) ∧ Own e w v l ∧ ∃ g cap, v = .slice (some ⟨g, 0, none⟩) l.length cap ∧ v' = .slice (some ⟨g, 0, none⟩) (l.length + l2.length) cap ∧ l.length + l2.length ≤ cap ∧ Chg (fun j => j = g) w w')

section
variable {e : TypeId} {w w' : World} {v v' : Value} {l l2 : List UInt8}
theorem AppN.nw (h : AppN e w w' v v' l l2) : Nw e w' v' (l ++ l2) := by
  rcases h with ⟨rfl, rfl, rfl, h⟩ | ⟨_, h, _⟩ | ⟨_, h, _⟩
  · simpa using h
  · exact .inl h
  · exact .inl h
theorem AppN.chg (h : AppN e w w' v v' l l2) : Chg (vbl v) w w' := by
  rcases h with ⟨rfl, rfl, rfl, h⟩ | ⟨_, h, _, h2, _⟩ | ⟨_, h, _, g, cap, rfl, rfl, _, h2⟩
  · exact Chg.refl _ _
  · exact h2.mono (fun _ f => f.elim)
  · exact h2.mono (fun j hj => .inl (by subst hj; rfl))
theorem AppN.blk (h : AppN e w w' v v' l l2) : ∀ j, vbl v' j → vbl v j ∨ j = w.heap.size := by
  rcases h with ⟨rfl, rfl, rfl, h⟩ | ⟨_, h, h1, h2, _⟩ | ⟨_, h, _, g, cap, rfl, rfl, _, h2⟩
  · exact fun j hj => .inl hj
  · intro j hj; unfold vbl at hj; rw [h1] at hj; injection hj with hj; exact .inr hj.symm
  · exact fun j hj => .inl hj
theorem AppN.old (h : AppN e w w' v v' l l2) : Nw e w v l := by
  rcases h with ⟨rfl, rfl, rfl, h⟩ | ⟨_, h, h1, h2, h3⟩ | ⟨_, h, h1, _⟩
  · exact h
  · exact h3
  · exact .inl h1
/-- What was read beside it stays, and stays beside. -/
theorem AppN.keep (h : AppN e w w' v v' l l2) {y : Value} {m : List UInt8} (hy : Sl w y m) (hb : Bes v l.length y m.length) : Sl w' y m ∧ Bes v' (l ++ l2).length y m.length := by
  by_cases h0 : m = []
  · subst h0
    obtain ⟨A, c, rfl, h2, h3, _⟩ := hy
    exact ⟨⟨A, c, rfl, h2, h3, Rd.nil _ _⟩, .inl rfl⟩
  have hm : 0 < m.length := List.length_pos_iff.2 h0
  rcases h with ⟨rfl, rfl, rfl, h⟩ | ⟨hne, ho, h1, h2, h3⟩ | ⟨hne, ho, h1, g, cap, rfl, rfl, hcap, hc⟩
  · exact ⟨hy, by simpa using hb⟩
  · refine ⟨hy.chg h2 (fun _ _ _ f => f), .inr fun g hg hg2 => ?_⟩
    rw [h1] at hg
    injection hg with hg
    have := hy.lt h0 g hg2
    omega
  · have hl2 : 0 < l2.length := List.length_pos_iff.2 hne
    obtain ⟨A, c, rfl, h2, h3, h4⟩ := hy
    by_cases hg : vbl (.slice A m.length c) g
    · rcases hb with hb | hb
      · omega
      rcases hb g rfl hg with ⟨A', e1⟩ | ⟨⟨c', e1⟩, hle⟩
      · injection e1 with _ _ e1; omega
      · injection e1 with e1 _ _
        subst e1
        have r' := ho.slice
        obtain ⟨A2, c2, e2, _, _, r2, _⟩ := r'
        injection e2 with e2 _ _
        subst e2
        have r1 := (h1.slice)
        obtain ⟨A3, c3, e3, _, _, r3, _⟩ := r1
        injection e3 with e3 _ _
        subst e3
        have hpre : ∀ j, j < m.length → m[j]? = l[j]? := by
          intro j hj
          have a1 := h4.at_ hj
          have a2 := r3.at_ (j := j) (by omega)
          rw [a1] at a2
          injection a2 with a2
          injection a2 with _ a2
          have a3 : m[j] = l[j]'(by omega) := UInt8.toNat_inj.1 (by omega)
          rw [List.getElem?_eq_getElem hj, List.getElem?_eq_getElem (by omega), a3]
        refine ⟨⟨_, c, rfl, h2, h3, fun j b hj => ?_⟩, .inr fun g' _ _ => .inr ⟨?_, ?_⟩⟩
        · have hjm := (List.getElem?_eq_some_iff.1 hj).1
          rw [hpre j hjm] at hj
          exact r2 j b (by rw [List.getElem?_append_left (List.getElem?_eq_some_iff.1 hj).1]; exact hj)
        · rename_i q1 q2
          have : some g = some g' := q1
          injection this with this
          subst this
          exact ⟨c, rfl⟩
        · rw [List.length_append]; omega
    · refine ⟨⟨A, c, rfl, h2, h3, h4.chg hc (fun j hj e => hg (by subst e; exact abl_vbl hj))⟩, .inr fun g' q1 q2 => ?_⟩
      have : some g = some g' := q1
      injection this with this
      subst this
      exact absurd q2 hg
/-- And so does it itself, as it was. -/
theorem AppN.was (h : AppN e w w' v v' l l2) : Sl w' v l ∧ Bes v' (l ++ l2).length v l.length := by
  refine h.keep h.old.sl ?_
  by_cases h0 : l.length = 0
  · exact .inl h0
  refine .inr fun g hg _ => ?_
  rcases h.old with h | ⟨A, rfl, _⟩
  · rcases h.form with ⟨rfl, _⟩ | ⟨g', cap, rfl, _⟩
    · cases hg
    · have : some g' = some g := hg
      injection this with this
      subst this
      exact .inr ⟨⟨cap, rfl⟩, Nat.le_refl _⟩
  · exact .inl ⟨A, rfl⟩
end
/-- Beside itself. -/
theorem Nw.bes {e : TypeId} {w : World} {v : Value} {l : List UInt8} (h : Nw e w v l) : Bes v l.length v l.length := by
  have h' : AppN e w w v v l [] := .inl ⟨rfl, rfl, rfl, h⟩
  simpa using h'.was.2

section
variable {P : Program} {t e s : TypeId} (by_ : Byt P t e s) (w : World)
include by_
theorem run_appN (ty : TypeId) {v : Value} {l l2 : List UInt8} (hv : Nw e w v l) {A : Option Addr} {n : Nat} (hn : n = l2.length) (c : Nat) (hr : Rd w A l2) (hsz : l.length + l2.length ≤ 140737488355328) :
    ∃ v' w', (Builtin.append_ #[t, t] ty #[v, .slice A n c]).run P w = .ok v' w' ∧ AppN e w w' v v' l l2 := by
  subst hn
  obtain ⟨i, hi, hz, hsi, hby⟩ := info_parts by_.hi
  have hm : l.length + l2.length ≤ maxLen := by unfold maxLen; omega
  by_cases h0 : l2 = []
  · subst h0
    refine ⟨v, w, ?_, .inl ⟨rfl, rfl, rfl, hv⟩⟩
    rcases hv with hv | ⟨A', rfl, _⟩
    · rcases hv.2 with ⟨rfl, _⟩ | ⟨g, cap, cur, rfl, _, _, hnc, _⟩
      · cases A <;> simp [Builtin.append_, run_underlying by_.ht, sizeOf, typeInfo, hi, Builtin.lenOf, Builtin.firstCells, loadCells, loadCellsFrom]
      · cases A <;> simp [Builtin.append_, run_underlying by_.ht, sizeOf, typeInfo, hi, Builtin.lenOf, Builtin.firstCells, hnc, storeCells, loadCells, loadCellsFrom]
    · cases A <;> cases A' <;> simp [Builtin.append_, run_underlying by_.ht, sizeOf, typeInfo, hi, Builtin.lenOf, Builtin.firstCells, storeCells, loadCells, loadCellsFrom]
  · have hpos : 0 < l2.length := List.length_pos_iff.2 h0
    obtain ⟨ad, rfl, _⟩ := hr.blk_lt hpos
    have hcells : ∀ j u, (bv l2)[j]? = some u → w.cell? (ad.add j) = some u := by
      intro j u hu
      obtain ⟨b, hb, rfl⟩ := bv_inv l2 j u hu
      obtain ⟨ad', h, hc⟩ := hr j b hb
      injection h with h
      subst h
      exact hc
    have hl : (bv l2).length = l2.length * i.size := by rw [bv_length, hsi, Nat.mul_one]
    have nilcase : v = .slice none 0 0 → l = [] → ∃ v' w', (Builtin.append_ #[t, t] ty #[v, .slice (some ad) l2.length c]).run P w = .ok v' w' ∧ AppN e w w' v v' l l2 := by
      rintro rfl rfl
      have hr := run_append_nil (P := P) w t ty e i _ by_.ht hi hz ad l2.length c (bv l2) hl hcells hpos (by omega) (by rw [hby]; omega)
      refine ⟨_, _, hr, .inr (.inl ⟨h0, ?_, rfl, grown_chg _ _, hv⟩)⟩
      have hge := grownCap_ge w l2.length 0 e
      exact grown_own w e l2 _ _ (by omega) (grownCap_le_maxLen w l2.length 0 e (by unfold maxLen; omega)) _ rfl
    have growcase : ∀ (A' : Addr) (cap : Nat), v = .slice (some A') l.length cap → l.length ≤ cap → cap < l.length + l2.length → Rd w (some A') l → ∃ v' w', (Builtin.append_ #[t, t] ty #[v, .slice (some ad) l2.length c]).run P w = .ok v' w' ∧ AppN e w w' v v' l l2 := by
      rintro A' cap rfl hlc hlt hr'
      have hr := run_append_grow (P := P) w t ty e i _ by_.ht hi hz A' l.length cap (bv l) (by rw [bv_length, hsi, Nat.mul_one]) (fun j u hu => by
        obtain ⟨b, hb, rfl⟩ := bv_inv l j u hu
        obtain ⟨ad', h, hc⟩ := hr' j b hb
        injection h with h
        subst h
        exact hc) ad l2.length c (bv l2) hl hcells hlt (by omega) (growslice_fits hlt (by rw [hby]; omega))
      refine ⟨_, _, hr, .inr (.inl ⟨h0, ?_, rfl, grown_chg _ _, hv⟩)⟩
      have hge := grownCap_ge w (l.length + l2.length) cap e
      have := grown_own w e (l ++ l2) (grownCap w (l.length + l2.length) cap e - (l.length + l2.length)) (grownCap w (l.length + l2.length) cap e) (by rw [List.length_append]; omega) (grownCap_le_maxLen w _ cap e hm) ((bv l).toArray ++ (bv l2).toArray) (by rw [bv_append]; simp)
      rw [List.length_append] at this
      exact this
    rcases hv with ho | ⟨A', rfl, hm', hr'⟩
    · rcases ho.2 with ⟨rfl, hl0⟩ | ⟨g, cap, cur, rfl, hbg, hg, hnc, hcm, hcs, htake⟩
      · exact nilcase rfl (List.eq_nil_of_length_eq_zero hl0)
      · by_cases hroom : l.length + l2.length ≤ cap
        · obtain ⟨v', w', h1, h2, h3, _⟩ := run_append_own_at (P := P) w 0 t ty e i (.int .u8 0) 1 1 by_.ht hi hz hsi hby rfl (by omega) _ l.length (bv l) ho ad l2.length c (bv l2) (by rw [bv_length]; omega) hcells (bv_one l2) hm (by omega) (Nat.zero_le _)
          have hcs' : cur.size = cap := by simpa using hcs
          have hr2 := run_append_room (P := P) w t ty e i by_.ht hi g l.length cap cur hg ad l2.length c (bv l2) hl hcells (bv_one l2) hroom (by rw [hsi, bv_length]; omega)
          rw [h1] at hr2
          injection hr2 with e1 e2
          subst e1; subst e2
          refine ⟨_, _, h1, .inr (.inr ⟨h0, ?_, ho, g, cap, rfl, rfl, hroom, ?_⟩)⟩
          · unfold Own
            rw [List.length_append, bv_append]
            exact h2
          · exact ((Chg.refl (fun j => j = g) w).grown h3 (fun k hk => .inl (by simpa [Value.ownBlock] using hk.symm)))
        · exact growcase ⟨g, 0, none⟩ cap rfl hnc (by omega) (rd_of_own ho).2
    · rcases A' with _ | A'
      · have hl0 : l = [] := by
          cases l with
          | nil => rfl
          | cons b l => obtain ⟨_, h, _⟩ := hr' 0 b rfl; cases h
        exact nilcase (by subst hl0; rfl) hl0
      · exact growcase A' l.length rfl (Nat.le_refl _) (by omega) hr'

theorem step_appN {ops : Array Oper} {o : Oper} {a : Act} {K : Act → World → Prop} {Q : Exit → Act → World → Prop} {E : Prop} (hgd : o.guard = none) (sl x : Operand)
    (ho : o.op = .call { callee := .builtin .append, args := #[sl, x], argTypes := #[t, t] })
    {v : Value} {l l2 : List UInt8} (hs : a.eval sl = v) (hv : Nw e w v l) {A : Option Addr} {n c : Nat} (hx : a.eval x = .slice A n c) (hn : n = l2.length) (hr : Rd w A l2) (hsz : l.length + l2.length ≤ 140737488355328)
    (h : ∀ v' w', AppN e w w' v v' l l2 → K (a.put o.dst v') w') :
    if Region.wanted o (yielded ops a.tmps) = true then Oper.wp P o a w K Q else E := by
  have hw : Region.wanted o (yielded ops a.tmps) = true := by simp [Region.wanted, hgd]
  rw [if_pos hw]
  obtain ⟨v', w', hrun, h2⟩ := run_appN by_ w o.type hv hn c hr hsz
  unfold Oper.wp execOp
  simp only [ho, resolve, invoke, builtin, Sem.run_bind, Sem.run_pure, Result.andThen_ok, List.map_toArray, List.map_cons, List.map_nil, hs, hx, hrun]
  exact h v' w' h2
theorem wpList_appN {ops : Array Oper} {rest : List Oper} {o : Oper} {a : Act} {Q : Exit → Act → World → Prop} (hgd : o.guard = none) (sl x : Operand)
    (ho : o.op = .call { callee := .builtin .append, args := #[sl, x], argTypes := #[t, t] })
    {v : Value} {l l2 : List UInt8} (hs : a.eval sl = v) (hv : Nw e w v l) {A : Option Addr} {n c : Nat} (hx : a.eval x = .slice A n c) (hn : n = l2.length) (hr : Rd w A l2) (hsz : l.length + l2.length ≤ 140737488355328)
    (h : ∀ v' w', AppN e w w' v v' l l2 → wpList P ops Q rest (a.put o.dst v') w') : wpList P ops Q (o :: rest) a w := by
  refine wpList_plain hgd fun K hK => ?_
  obtain ⟨v', w', hrun, h2⟩ := run_appN by_ w o.type hv hn c hr hsz
  unfold Oper.wp execOp
  simp only [ho, resolve, invoke, builtin, Sem.run_bind, Sem.run_pure, Result.andThen_ok, List.map_toArray, List.map_cons, List.map_nil, hs, hx, hrun]
  exact hK _ _ (h v' w' h2)
end
end Go.Proofs.Ytenhicipgkjckaa
