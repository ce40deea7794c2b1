/- Words for memory: what has changed, a block known whole, a slice that reads as bytes; append and string(..) of bytes. Nothing here knows the program. -/
import Derived.WalkKit
import Derived.Below
import Derived.Maps.AppendAt
import Derived.Lib.AppendStr
import Derived.Lib.ConvBytes
import Derived.Laws.BytesArg
import Derived.Deep.Draws
import Derived.Deep.Slices
namespace Go.Proofs.YtahlfncijbkcoaaDoor
open Go.RowKit
set_option linter.unusedVariables false

/-- Only the blocks S, and new ones, may have changed. -/
structure Chg (S : Nat → Prop) (w w' : World) : Prop where
  os : w'.os = w.os
  tape : w'.tape = w.tape
  output : w'.output = w.output
  size : w.heap.size ≤ w'.heap.size
  block : ∀ k, k < w.heap.size → ¬ S k → w'.heap[k]? = w.heap[k]?

def Non : Nat → Prop := fun _ => False

theorem Chg.refl (S : Nat → Prop) (w : World) : Chg S w w := ⟨rfl, rfl, rfl, Nat.le_refl _, fun _ _ _ => rfl⟩
theorem Chg.trans {S S' : Nat → Prop} {a b c : World} (h : Chg S a b) (k : Chg S' b c) (hS : ∀ j, S' j → S j ∨ a.heap.size ≤ j) : Chg S a c :=
  ⟨k.os.trans h.os, k.tape.trans h.tape, k.output.trans h.output, Nat.le_trans h.size k.size, fun i hi hn =>
    (k.block i (Nat.lt_of_lt_of_le hi h.size) (fun hj => (hS i hj).elim hn (fun hl => absurd hi (by omega)))).trans (h.block i hi hn)⟩
theorem Chg.mono {S S' : Nat → Prop} {a b : World} (h : Chg S a b) (hS : ∀ j, S j → S' j ∨ a.heap.size ≤ j) : Chg S' a b :=
  ⟨h.os, h.tape, h.output, h.size, fun i hi hn => h.block i hi (fun hj => (hS i hj).elim hn (fun hl => absurd hi (by omega)))⟩
theorem Chg.below {S : Nat → Prop} {a b : World} {B : Nat} (h : Chg S a b) (hB : B ≤ a.heap.size) (hS : ∀ j, S j → B ≤ j) : Below B a b :=
  ⟨h.os, h.tape, h.output, h.size, fun i hi => h.block i (by omega) (fun hj => absurd (hS i hj) (by omega))⟩
theorem chg_of_below {a b : World} (h : Below a.heap.size a b) : Chg Non a b := ⟨h.os, h.tape, h.output, h.size, fun i hi _ => h.block i hi⟩
theorem Chg.drewN {S : Nat → Prop} {a b : World} (h : Chg S a b) (n : Nat) : Chg S a (b.drewN n) := ⟨h.os, h.tape, h.output, h.size, h.block⟩
theorem Chg.drew {S : Nat → Prop} {a b : World} (h : Chg S a b) : Chg S a b.drew := ⟨h.os, h.tape, h.output, h.size, h.block⟩
theorem Chg.alloc {S : Nat → Prop} {a b : World} (h : Chg S a b) (o : Obj) : Chg S a (b.alloc o) :=
  ⟨h.os, h.tape, h.output, Nat.le_trans h.size (by simp), fun i hi hn => (Below.heap_alloc b o i (Nat.lt_of_lt_of_le hi h.size)).trans (h.block i hi hn)⟩
theorem Chg.setCell {S : Nat → Prop} {a b : World} (h : Chg S a b) {p : Addr} (hp : S p.block ∨ a.heap.size ≤ p.block) (u : Value) : Chg S a (b.setCell p u) :=
  ⟨h.os, h.tape, h.output, by simpa [World.setCell] using h.size, fun i hi hn => (Below.heap_setCell b p u i (by
    rintro rfl
    exact hp.elim hn (fun hl => absurd hi (by omega)))).trans (h.block i hi hn)⟩
theorem Chg.grown {S : Nat → Prop} {a b c : World} {row : Option Nat} (h : Chg S a b) (hg : b.grownBy c row) (hr : ∀ k, row = some k → S k ∨ a.heap.size ≤ k) : Chg S a c :=
  ⟨hg.os.trans h.os, hg.tape.trans h.tape, hg.output.trans h.output, Nat.le_trans h.size hg.size, fun i hi hn =>
    (hg.block i (Nat.lt_of_lt_of_le hi h.size) (fun e => (hr i e.symm).elim hn (fun hl => absurd hi (by omega)))).trans (h.block i hi hn)⟩
theorem Chg.cell {S : Nat → Prop} {a b : World} (h : Chg S a b) {p : Addr} {v : Value} (hv : a.cell? p = some v) (hp : ¬ S p.block) : b.cell? p = some v :=
  (World.cell?_of_block (h.block p.block (World.block_lt_of_cell? a p hv) hp)).trans hv

/-- The block g is just the cells cs, of type t, none frozen. -/
def Hb (w : World) (g : Nat) (t : TypeId) (cs : Array Value) : Prop := w.heap[g]? = some (.cells cs t (0, 0))
section
variable {w w' : World} {g : Nat} {t : TypeId} {cs : Array Value}
theorem Hb.lt (h : Hb w g t cs) : g < w.heap.size := by
  rcases Nat.lt_or_ge g w.heap.size with hlt | hge
  · exact hlt
  · unfold Hb at h; rw [Array.getElem?_eq_none hge] at h; cases h
theorem Hb.cell (h : Hb w g t cs) (i : Nat) : w.cell? ⟨g, i, none⟩ = cs[i]? := cell_of_row w g i cs t (0, 0) h
theorem Hb.frozen (h : Hb w g t cs) (i : Nat) : w.frozen? ⟨g, i, none⟩ = false := by
  unfold Hb at h
  simp [World.frozen?, h]
theorem Hb.new (w : World) (t : TypeId) (cs : Array Value) : Hb (w.alloc (.cells cs t)) w.heap.size t cs := heap_alloc_new w _
theorem Hb.chg {S : Nat → Prop} (h : Hb w g t cs) (k : Chg S w w') (hg : ¬ S g) : Hb w' g t cs := (k.block g h.lt hg).trans h
theorem Hb.set (h : Hb w g t cs) (i : Nat) (u : Value) : Hb (w.setCell ⟨g, i, none⟩ u) g t (cs.setIfInBounds i u) := by
  unfold Hb at h ⊢
  simp [World.setCell, Array.getElem?_modify, h]
theorem Hb.far (h : Hb w g t cs) {p : Addr} (hp : g ≠ p.block) (u : Value) : Hb (w.setCell p u) g t cs := (Below.heap_setCell w p u g hp).trans h
theorem Hb.alloc (h : Hb w g t cs) (o : Obj) : Hb (w.alloc o) g t cs := (Below.heap_alloc w o g h.lt).trans h
theorem Hb.drewN (h : Hb w g t cs) (n : Nat) : Hb (w.drewN n) g t cs := h
theorem Hb.grown {row : Option Nat} (h : Hb w g t cs) (hb : w.grownBy w' row) (hg : some g ≠ row) : Hb w' g t cs := (hb.block g h.lt hg).trans h
theorem Hb.own_ne {base e size n : Nat} {v : Value} {xs : List Value} (hg : Hb w g t cs) (h : w.ownsRow base e size v n xs) (hne : e ≠ t) : v.ownBlock ≠ some g := by
  rcases h.2 with ⟨rfl, _⟩ | ⟨g', cap, cur, rfl, _, hh, _⟩
  · simp [Value.ownBlock]
  · intro he
    have : g' = g := by simpa [Value.ownBlock] using he
    subst this
    unfold Hb at hg
    rw [hh] at hg
    injection hg with hg
    injection hg with _ ht
    exact hne ht
end

/-- Bytes as cells. -/
def bv (l : List UInt8) : List Value := l.map fun b => .int .u8 (b.toNat : Int)
theorem bv_length (l : List UInt8) : (bv l).length = l.length := by simp [bv]
theorem bv_append (a b : List UInt8) : bv (a ++ b) = bv a ++ bv b := by simp [bv]
theorem bv_get (l : List UInt8) (j : Nat) (b : UInt8) (h : l[j]? = some b) : (bv l)[j]? = some (.int .u8 (b.toNat : Int)) := by simp [bv, h]
theorem bv_inv (l : List UInt8) (j : Nat) (u : Value) (h : (bv l)[j]? = some u) : ∃ b, l[j]? = some b ∧ u = .int .u8 (b.toNat : Int) := by
  simp [bv] at h
  obtain ⟨b, hb, rfl⟩ := h
  exact ⟨b, hb, rfl⟩
theorem bv_one (l : List UInt8) : ∀ u ∈ bv l, u.oneCell' = true := by
  intro u hu
  simp only [bv, List.mem_map] at hu
  obtain ⟨b, _, rfl⟩ := hu
  rfl
theorem bv_inj {a b : List UInt8} (h : bv a = bv b) : a = b := by
  have : ∀ (x y : UInt8), (Value.int IntKind.u8 (x.toNat : Int)) = .int .u8 (y.toNat : Int) → x = y := by
    intro x y hxy
    injection hxy with _ hxy
    exact UInt8.toNat_inj.1 (by omega)
  induction a generalizing b with
  | nil => cases b <;> simp_all [bv]
  | cons x a ih =>
    cases b with
    | nil => simp [bv] at h
    | cons y b =>
      simp only [bv, List.map_cons, List.cons.injEq] at h
      rw [this x y h.1, ih (by simpa [bv] using h.2)]

theorem block_add (a : Addr) (n : Nat) : (a.add n).block = a.block := by unfold Addr.add; split <;> rfl

/-- What stands from the address A on are the bytes l. -/
def Rd (w : World) (A : Option Addr) (l : List UInt8) : Prop := ∀ (j : Nat) (b : UInt8), l[j]? = some b → ∃ ad, A = some ad ∧ w.cell? (ad.add j) = some (.int .u8 (b.toNat : Int))
/-- The block of an address. -/
def abl (A : Option Addr) (k : Nat) : Prop := ∃ ad, A = some ad ∧ ad.block = k

section
variable {w w' : World} {A : Option Addr} {l : List UInt8}
theorem Rd.nil (w : World) (A : Option Addr) : Rd w A [] := by intro j b h; simp at h
theorem Rd.chg {S : Nat → Prop} (h : Rd w A l) (k : Chg S w w') (hS : ∀ j, abl A j → ¬ S j) : Rd w' A l := by
  intro j b hj
  obtain ⟨ad, rfl, hc⟩ := h j b hj
  exact ⟨ad, rfl, k.cell hc (by rw [block_add]; exact hS _ ⟨ad, rfl, rfl⟩)⟩
theorem Rd.drop (h : Rd w A l) (k : Nat) : Rd w (A.map (·.add k)) (l.drop k) := by
  intro j b hj
  rw [List.getElem?_drop] at hj
  obtain ⟨ad, rfl, hc⟩ := h _ b hj
  exact ⟨ad.add k, rfl, by rw [Go.Deep.add_add]; exact hc⟩
theorem Rd.take (h : Rd w A l) (k : Nat) : Rd w A (l.take k) := by
  intro j b hj
  rw [List.getElem?_take] at hj
  split at hj
  · exact h j b hj
  · cases hj
theorem Rd.blk_lt (h : Rd w A l) (hl : 0 < l.length) : ∃ ad, A = some ad ∧ ad.block < w.heap.size := by
  obtain ⟨ad, rfl, hc⟩ := h 0 (l[0]) (List.getElem?_eq_getElem hl)
  have := World.block_lt_of_cell? w _ hc
  rw [block_add] at this
  exact ⟨ad, rfl, this⟩
theorem Rd.at_ {ad : Addr} (h : Rd w (some ad) l) {j : Nat} (hj : j < l.length) : w.cell? (ad.add j) = some (.int .u8 (l[j].toNat : Int)) := by
  obtain ⟨ad', e, hc⟩ := h j _ (List.getElem?_eq_getElem hj)
  injection e with e
  subst e
  exact hc
theorem rd_of_own {base e c n : Nat} (h : w.ownsRow base e 1 (.slice A n c) n (bv l)) : n = l.length ∧ Rd w A l := by
  have hn : n = l.length := by have := h.1; rw [bv_length] at this; omega
  refine ⟨hn, fun j b hj => ?_⟩
  have hjl : j < l.length := (List.getElem?_eq_some_iff.1 hj).1
  rcases h.2 with ⟨_, h0⟩ | ⟨g, cap, cur, hv, _⟩
  · omega
  · injection hv with hA
    subst hA
    exact ⟨_, rfl, h.cells (g := g) rfl j _ (bv_get l j b hj)⟩
theorem rd_of_blk {g e : Nat} {cs : Array Value} (h : Hb w g e cs) (hc : ∀ (j : Nat) (b : UInt8), l[j]? = some b → cs[j]? = some (Value.int .u8 (b.toNat : Int))) : Rd w (some ⟨g, 0, none⟩) l := by
  intro j b hj
  refine ⟨_, rfl, ?_⟩
  have : (⟨g, 0, none⟩ : Addr).add j = ⟨g, j, none⟩ := by unfold Addr.add; split <;> simp_all
  rw [this, h.cell]
  exact hc j b hj
end

/-- The value v is a slice of the call's own with these bytes. -/
def Own (e : TypeId) (w : World) (v : Value) (l : List UInt8) : Prop := w.ownsRow 0 e 1 v l.length (bv l)
def vbl (v : Value) (k : Nat) : Prop := v.ownBlock = some k

section
variable {e : TypeId} {w w' : World} {v : Value} {l : List UInt8}
theorem Own.nil (e : TypeId) (w : World) : Own e w (.slice none 0 0) [] := World.ownsRow_nil w 0 e 1
theorem Own.chg {S : Nat → Prop} (h : Own e w v l) (k : Chg S w w') (hS : ∀ j, vbl v j → ¬ S j) : Own e w' v l := by
  refine ⟨h.1, ?_⟩
  rcases h.2 with h0 | ⟨g, cap, cur, rfl, hb, hg, r⟩
  · exact .inl h0
  · exact .inr ⟨g, cap, cur, rfl, hb, (k.block g (Array.getElem?_eq_some_iff.1 hg).1 (hS g rfl)).trans hg, r⟩
theorem Own.form (h : Own e w v l) : (v = .slice none 0 0 ∧ l = []) ∨ ∃ g cap, v = .slice (some ⟨g, 0, none⟩) l.length cap ∧ l.length ≤ cap ∧ cap ≤ maxLen ∧ g < w.heap.size ∧ Rd w (some ⟨g, 0, none⟩) l := by
  rcases h.2 with ⟨rfl, h0⟩ | ⟨g, cap, cur, rfl, hb, hg, hn, hm, r⟩
  · exact .inl ⟨rfl, List.eq_nil_of_length_eq_zero h0⟩
  · exact .inr ⟨g, cap, rfl, hn, hm, (Array.getElem?_eq_some_iff.1 hg).1, (rd_of_own h).2⟩
theorem Own.slice (h : Own e w v l) : ∃ A c, v = .slice A l.length c ∧ l.length ≤ c ∧ c ≤ maxLen ∧ Rd w A l ∧ (∀ j, abl A j ↔ vbl v j) ∧ ∀ j, abl A j → j < w.heap.size := by
  rcases h.form with ⟨rfl, rfl⟩ | ⟨g, cap, rfl, hn, hm, hg, hr⟩
  · exact ⟨none, 0, rfl, Nat.le_refl _, by unfold maxLen; omega, Rd.nil _ _, by simp [abl, vbl, Value.ownBlock], by simp [abl]⟩
  · exact ⟨some ⟨g, 0, none⟩, cap, rfl, hn, hm, hr, by simp [abl, vbl, Value.ownBlock], by simp [abl]; exact hg⟩
theorem Own.ne {g : Nat} {t : TypeId} {cs : Array Value} (h : Own e w v l) (hg : Hb w g t cs) (hne : e ≠ t) : ¬ vbl v g := hg.own_ne h hne
end

/-- What a type's row says of uint8 and of its slices and strings. -/
structure Byt (P : Program) (t e s : TypeId) : Prop where
  ht : P.underlying t = some (.slice e)
  he : P.underlying e = some (.int .u8)
  hs : P.underlying s = some .string
  hi : (P.info? e).map (fun i => (i.zero, i.size, i.bytes)) = some (some (.int .u8 0), 1, 1)

section
variable {P : Program} {t e s : TypeId} (by_ : Byt P t e s) (w : World)
include by_

/-- append of bytes onto a slice of the call's own. -/
theorem run_app (ty : TypeId) {v : Value} {l l2 : List UInt8} (hown : Own e w v l) {A : Option Addr} {n : Nat} (hn : n = l2.length) (c : Nat) (hr : Rd w A l2) (hsz : l.length + l2.length ≤ 140737488355328) :
    ∃ v' w', (Builtin.append_ #[t, t] ty #[v, .slice A n c]).run P w = .ok v' w' ∧ Own e w' v' (l ++ l2) ∧ w.grownBy w' v.ownBlock ∧ (v'.ownBlock = v.ownBlock ∨ v'.ownBlock = some w.heap.size) := by
  subst hn
  obtain ⟨i, hi, hz, hsi, hby⟩ := info_parts by_.hi
  have hm : l.length + l2.length ≤ maxLen := by unfold maxLen; omega
  rcases A with _ | ad
  · have h0 : l2 = [] := by
      cases l2 with
      | nil => rfl
      | cons b l2 => obtain ⟨_, h, _⟩ := hr 0 b rfl; cases h
    subst h0
    refine ⟨v, w, ?_, by simpa using hown, ⟨rfl, rfl, rfl, Nat.le_refl _, fun _ _ _ => rfl⟩, .inl rfl⟩
    rcases hown.2 with ⟨rfl, _⟩ | ⟨g, cap, cur, rfl, _, _, hnc, _⟩
    · simp [Builtin.append_, run_underlying by_.ht, sizeOf, typeInfo, hi, Builtin.lenOf, Builtin.firstCells]
    · simp [Builtin.append_, run_underlying by_.ht, sizeOf, typeInfo, hi, Builtin.lenOf, Builtin.firstCells, hnc, storeCells]
  · have hcells : ∀ j u, (bv l2)[j]? = some u → w.cell? (ad.add j) = some u := by
      intro j u hu
      obtain ⟨b, hb, rfl⟩ := bv_inv l2 j u hu
      obtain ⟨ad', h, hc⟩ := hr j b hb
      injection h with h
      subst h
      exact hc
    obtain ⟨v', w', h1, h2, h3, _, h5⟩ := run_append_own_at (P := P) w 0 t ty e i (.int .u8 0) 1 1 by_.ht hi hz hsi hby rfl (by omega) v l.length (bv l) hown ad l2.length c (bv l2) (by rw [bv_length]; omega) hcells (bv_one l2) hm (by omega) (Nat.zero_le _)
    refine ⟨v', w', h1, ?_, h3, h5⟩
    unfold Own
    rw [List.length_append, bv_append]
    exact h2

theorem wpList_app {ops : Array Oper} {rest : List Oper} {o : Oper} {a : Act} {Q : Exit → Act → World → Prop} (hgd : o.guard = none) (sl x : Operand)
    (ho : o.op = .call { callee := .builtin .append, args := #[sl, x], argTypes := #[t, t] })
    {v : Value} {l l2 : List UInt8} (hs : a.eval sl = v) (hown : Own e w v l) {A : Option Addr} {n c : Nat} (hx : a.eval x = .slice A n c) (hn : n = l2.length) (hr : Rd w A l2) (hsz : l.length + l2.length ≤ 140737488355328)
    (h : ∀ v' w', Own e w' v' (l ++ l2) → w.grownBy w' v.ownBlock → (v'.ownBlock = v.ownBlock ∨ v'.ownBlock = some w.heap.size) → wpList P ops Q rest (a.put o.dst v') w') : wpList P ops Q (o :: rest) a w := by
  refine wpList_plain hgd fun K hK => ?_
  obtain ⟨v', w', hrun, h2, h3, h4⟩ := run_app by_ w o.type hown hn c hr hsz
  unfold Oper.wp execOp
  simp only [ho, resolve, invoke, builtin, Sem.run_bind, Sem.run_pure, Result.andThen_ok, List.map_toArray, List.map_cons, List.map_nil, hs, hx, hrun]
  exact hK _ _ (h v' w' h2 h3 h4)

/-- append of a string's bytes. -/
theorem wpList_appS {ops : Array Oper} {rest : List Oper} {o : Oper} {a : Act} {Q : Exit → Act → World → Prop} (hgd : o.guard = none) (sl x : Operand)
    (ho : o.op = .call { callee := .builtin .append, args := #[sl, x], argTypes := #[t, s] })
    {v : Value} {l : List UInt8} (hs : a.eval sl = v) (hown : Own e w v l) {st : ByteArray} (hx : a.eval x = .string st) (hsz : l.length + st.size ≤ 140737488355328)
    (h : ∀ v' w', Own e w' v' (l ++ st.data.toList) → w.grownBy w' v.ownBlock → (v'.ownBlock = v.ownBlock ∨ ∀ k, v'.ownBlock = some k → w.heap.size ≤ k) → wpList P ops Q rest (a.put o.dst v') w') : wpList P ops Q (o :: rest) a w := by
  obtain ⟨i, hi, hz, hsi, hby⟩ := info_parts by_.hi
  refine wpList_plain hgd fun K hK => ?_
  have hm : l.length + st.size ≤ maxLen := by unfold maxLen; omega
  obtain ⟨v', w', hr, h2, h3, h4⟩ := Lib.run_append_own_string (P := P) w 0 t s o.type e i by_.ht by_.hs hi hz hsi hby v l.length (bv l) hown st hm hsz (Nat.zero_le _)
  have hloc : v'.ownBlock = v.ownBlock ∨ ∀ k, v'.ownBlock = some k → w.heap.size ≤ k := by
    have same : ∀ {x y : Value} {wx wy : World}, Result.ok x wx = Result.ok y wy → x = y := by intro x y wx wy e; injection e
    have hxl : (bv l).length = l.length := bv_length l
    rcases hown.2 with ⟨rfl, h0⟩ | ⟨g, cap, cur, rfl, hbg, hg, hnc, hcm, hcs, htake⟩
    · have hown' : w.ownsRow w.heap.size e 1 (.slice none 0 0) l.length (bv l) := ⟨hown.1, .inl ⟨rfl, h0⟩⟩
      obtain ⟨v2, w2, hr2, g2, _⟩ := Lib.run_append_own_string (P := P) w w.heap.size t s o.type e i by_.ht by_.hs hi hz hsi hby _ l.length (bv l) hown' st hm hsz (Nat.le_refl _)
      obtain rfl := same (hr.symm.trans hr2)
      exact .inr fun k hk => (g2.lt k hk).1
    · by_cases hroom : l.length + st.size ≤ cap
      · have hcs' : cur.size = cap := by simpa using hcs
        have hr2 := Lib.run_append_room_string (P := P) w t s o.type e i by_.ht by_.hs hi hsi g l.length cap cur hg st hroom (by omega)
        obtain rfl := same (hr.symm.trans hr2)
        exact .inl rfl
      · have holds : ∀ j u, (bv l)[j]? = some u → w.cell? ((⟨g, 0, none⟩ : Addr).add j) = some u := hown.cells (g := g) rfl
        have hr2 := Lib.run_append_grow_string (P := P) w t s o.type e i (.int .u8 0) by_.ht by_.hs hi hz ⟨g, 0, none⟩ l.length cap (bv l) (by rw [hsi]; simpa using hxl) holds st (by omega) (by unfold maxLen at hm; omega) (by rw [hby]; exact growslice_fits (by omega) (by omega))
        obtain rfl := same (hr.symm.trans hr2)
        exact .inr fun k hk => by simp [Value.ownBlock] at hk; omega
  have e1 : l.length + st.size = (l ++ st.data.toList).length := by rw [List.length_append, Array.length_toList]; rfl
  have h2' : Own e w' v' (l ++ st.data.toList) := by
    unfold Own
    rw [bv_append, ← e1]
    exact h2
  unfold Oper.wp execOp
  simp only [ho, resolve, invoke, builtin, Sem.run_bind, Sem.run_pure, Result.andThen_ok, List.map_toArray, List.map_cons, List.map_nil, hs, hx, hr]
  exact hK _ _ (h v' w' h2' h3 hloc)

/-- string(b). -/
theorem run_str {A : Option Addr} {l : List UInt8} (hr : Rd w A l) (c : Nat) : (convert t s (.slice A l.length c)).run P w = .ok (.string ⟨l.toArray⟩) w := by
  rw [run_convert_bytes_string w t s e A l.length c by_.ht by_.he by_.hs]
  rcases A with _ | ad
  · have h0 : l = [] := by
      cases l with
      | nil => rfl
      | cons b l2 => obtain ⟨_, h, _⟩ := hr 0 b rfl; cases h
    subst h0
    simp [Conv.bytesToString]
    rfl
  · have hl : (loadCells ad l.length).run P w = .ok ((l.map fun b => (b.toNat : Int)).map (Value.int .u8)).toArray w := by
      have := run_loadCells_list (P := P) w ad (bv l) (fun j u hu => by
        obtain ⟨b, hb, rfl⟩ := bv_inv l j u hu
        obtain ⟨ad', h, hc⟩ := hr j b hb
        injection h with h
        subst h
        exact hc)
      rw [bv_length] at this
      rw [this]
      simp [bv, Function.comp_def]
    rw [run_bytesToString w ad l.length c _ hl, foldl_push_bytes]
    have : (List.map (fun n : Int => UInt8.ofNat n.toNat) (l.map fun b => (b.toNat : Int))) = l := by
      rw [List.map_map]
      conv => rhs; rw [← List.map_id l]
      apply List.map_congr_left
      intro b _
      simp
    rw [this]
    simp [ByteArray.empty, ByteArray.emptyWithCapacity]
    rfl

/-- []byte(s): a new row, the mark behind it. -/
theorem run_bytes (st : ByteArray) : ∃ c w', (convert s t (.string st)).run P w = .ok (.slice (some ⟨w.heap.size, 0, none⟩) st.size c) w' ∧ st.size ≤ c ∧ Rd w' (some ⟨w.heap.size, 0, none⟩) st.data.toList ∧ Chg Non w w' ∧ w'.heap.size = w.heap.size + 1 := by
  refine ⟨_, _, Lib.run_convert_string_bytes w s t e st by_.hs by_.ht by_.he, grownCap_ge _ _ _ _, ?_, ?_, Lib.bytesWorld_size w e st⟩
  · intro j b hj
    refine ⟨_, rfl, ?_⟩
    have hjl : j < st.size := by
      have h1 := (List.getElem?_eq_some_iff.1 hj).1
      have h2 : st.data.toList.length = st.size := by rw [Array.length_toList]; rfl
      omega
    have : (⟨w.heap.size, 0, none⟩ : Addr).add j = ⟨w.heap.size, j, none⟩ := by unfold Addr.add; split <;> simp_all
    rw [this, Lib.bytesWorld_cell w e st j hjl, List.getD, hj]
    rfl
  · exact ⟨rfl, rfl, rfl, by rw [Lib.bytesWorld_size]; omega, fun k hk _ => Lib.bytesWorld_at_old w e st k hk⟩
end
end Go.Proofs.YtahlfncijbkcoaaDoor
