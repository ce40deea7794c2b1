/- Lists of the call's own; what a tape and the document's tape have, in memory and in words. Nothing here knows the program. -/
import Derived.Lib.Hide
import Derived.Deep.AppendLies
import Derived.Test.YtenhicipgkjckaaGw
import Derived.Test.YtenhicipgkjckaaJa
namespace Go.Proofs.Ytenhicipgkjckaa
open Go.RowKit
set_option linter.unusedVariables false
set_option linter.unusedSimpArgs false

theorem flat_getU {α : Type} {cells : α → List Value} {sz : Nat} : ∀ (l : List α) (hc : ∀ x ∈ l, (cells x).length = sz) (i : Nat) (x : α), l[i]? = some x → ∀ (j : Nat) (u : Value), (cells x)[j]? = some u → (l.flatMap cells)[i * sz + j]? = some u
  | [], _, i, x, h, _, _, _ => by simp at h
  | y :: l, hc, 0, x, h, j, u, hu => by
    simp only [List.getElem?_cons_zero, Option.some.injEq] at h
    subst h
    rw [Nat.zero_mul, Nat.zero_add, List.flatMap_cons, List.getElem?_append_left (List.getElem?_eq_some_iff.1 hu).1]
    exact hu
  | y :: l, hc, i + 1, x, h, j, u, hu => by
    have hy := hc y (by simp)
    rw [List.flatMap_cons, List.getElem?_append_right (by rw [hy, Nat.succ_mul]; omega), hy]
    have e : (i + 1) * sz + j - sz = i * sz + j := by rw [Nat.succ_mul]; omega
    rw [e]
    exact flat_getU l (fun x hx => hc x (by simp [hx])) i x (by simpa using h) j u hu
/-- A list of the call's own. -/
def OwnL {α : Type} (e : TypeId) (sz : Nat) (cells : α → List Value) (w : World) (v : Value) (l : List α) : Prop := w.ownsRow 0 e sz v l.length (l.flatMap cells)
theorem flat_size {α : Type} {cells : α → List Value} {sz : Nat} : ∀ {l : List α}, (∀ x ∈ l, (cells x).length = sz) → (l.flatMap cells).length = l.length * sz
  | [], _ => by simp
  | x :: l, h => by rw [List.flatMap_cons, List.length_append, flat_size (fun y hy => h y (by simp [hy])), h x (by simp), List.length_cons, Nat.succ_mul]; omega
section
variable {α : Type} {e : TypeId} {sz : Nat} {cells : α → List Value} {w w' : World} {v : Value} {l : List α}
theorem OwnL.nil (w : World) : OwnL e sz cells w (.slice none 0 0) ([] : List α) := World.ownsRow_nil w 0 e sz
theorem OwnL.chg {S : Nat → Prop} (h : OwnL e sz cells w v l) (k : Chg S w w') (hS : ∀ j, vbl v j → ¬ S j) : OwnL e sz cells w' v l := by
  refine ⟨h.1, ?_⟩
  rcases h.2 with h0 | ⟨g, cap, cur, rfl, hb, hg, r⟩
  · exact .inl h0
  · exact .inr ⟨g, cap, cur, rfl, hb, (k.block g (Array.getElem?_eq_some_iff.1 hg).1 (hS g rfl)).trans hg, r⟩
theorem OwnL.lt (h : OwnL e sz cells w v l) : ∀ j, vbl v j → j < w.heap.size := by
  intro j hj
  rcases h.2 with ⟨rfl, _⟩ | ⟨g, cap, cur, rfl, hb, hg, r⟩
  · cases hj
  · have : some g = some j := hj
    injection this with this
    subst this
    exact (Array.getElem?_eq_some_iff.1 hg).1
theorem OwnL.ne {k : Nat} {t : TypeId} {cs : Array Value} (h : OwnL e sz cells w v l) (hb : Hb w k t cs) (hne : e ≠ t) : ¬ vbl v k := by
  intro hj
  rcases h.2 with ⟨rfl, _⟩ | ⟨g, cap, cur, rfl, _, hg, _⟩
  · cases hj
  · have : some g = some k := hj
    injection this with this
    subst this
    have h2 : some (Obj.cells cur e (0, 0)) = some (Obj.cells cs t (0, 0)) := hg.symm.trans hb
    injection h2 with h2
    injection h2 with _ h3
    exact hne h3
/-- Where it lies. -/
theorem OwnL.slice (h : OwnL e sz cells w v l) (hc : ∀ x ∈ l, (cells x).length = sz) (hpos : 0 < sz) : ∃ A c, v = .slice A l.length c ∧ l.length ≤ c ∧ (∀ j, abl A j → vbl v j) ∧
    ∀ (i : Nat) (x : α), l[i]? = some x → ∃ eb eo, A = some ⟨eb, eo, none⟩ ∧ eb < w.heap.size ∧ w.rangeAt eb (eo + i * sz) (cells x) := by
  rcases h.2 with ⟨rfl, h0⟩ | ⟨g, cap, cur, rfl, hb, hg, hn, hm, hs, ht⟩
  · have : l = [] := List.eq_nil_of_length_eq_zero h0
    subst this
    exact ⟨none, 0, rfl, Nat.le_refl _, (by rintro j ⟨_, h, _⟩; cases h), by intro i x hx; simp at hx⟩
  · refine ⟨some ⟨g, 0, none⟩, cap, rfl, hn, (by rintro j ⟨_, h, rfl⟩; injection h with h; subst h; rfl), fun i x hx => ⟨g, 0, rfl, (Array.getElem?_eq_some_iff.1 hg).1, fun j u hu => ?_⟩⟩
    have hg' : Hb w g e cur := hg
    have hil := (List.getElem?_eq_some_iff.1 hx).1
    have hxm : x ∈ l := List.mem_of_getElem? hx
    have hj : j < sz := by rw [← hc x hxm]; exact (List.getElem?_eq_some_iff.1 hu).1
    have := flat_getU l hc i x hx j u hu
    have hb1 : i * sz + j < l.length * sz := by
      have : (i + 1) * sz ≤ l.length * sz := Nat.mul_le_mul_right _ hil
      rw [Nat.succ_mul] at this
      omega
    rw [← ht, List.getElem?_take, if_pos hb1] at this
    rw [Nat.zero_add, hg'.cell]
    simpa using this
end
theorem OwnL.blk {α : Type} {e : TypeId} {sz : Nat} {cells : α → List Value} {w : World} {v : Value} {l : List α} (h : OwnL e sz cells w v l) {j : Nat} (hj : vbl v j) : ∃ cs, Hb w j e cs := by
  rcases h.2 with ⟨rfl, _⟩ | ⟨g, cap, cur, rfl, _, hg, _⟩
  · cases hj
  · have : some g = some j := hj
    injection this with this
    subst this
    exact ⟨cur, hg⟩

/-- What a tape was at a moment: its bytes as a value, the bytes, how many are safe. -/
structure Ent where
  v : Value
  b : List UInt8
  s : Nat
def Ent.cells (x : Ent) : List Value := [x.v, .int .i64 (x.s : Int)]
/-- In words. -/
abbrev St := List UInt8 × Nat
def Ent.st (x : Ent) : St := (x.b, x.s)
theorem Ent.cells_len (x : Ent) : x.cells.length = 2 := rfl

/-- The tape at block g, of type T; its past in a row of type E; its bytes have type e. F: the blocks that are its own. -/
structure Tp (T E e : TypeId) (w : World) (g : Nat) (F : Nat → Prop) (vp : Value) (h : List Ent) (x : Ent) : Prop where
  box : Hb w g T #[x.v, .int .i64 (x.s : Int), vp]
  row : OwnL E 2 Ent.cells w vp h
  rowF : ∀ j, vbl vp j → F j
  self : F g
  nw : Nw e w x.v x.b
  past : ∀ y ∈ h, Sl w y.v y.b ∧ Bes x.v x.b.length y.v y.b.length
  apart : ∀ y ∈ h ++ [x], ∀ j, vbl y.v j → F j ∧ j ≠ g ∧ ¬ vbl vp j
  ok : ∀ y ∈ h ++ [x], y.s ≤ y.b.length ∧ y.b.length ≤ 1048576 ∧ y.v.oneCell' = true
  lt : ∀ j, F j → j < w.heap.size

theorem sl_one {w : World} {v : Value} {l : List UInt8} (h : Sl w v l) : v.oneCell' = true := by
  obtain ⟨A, c, rfl, _⟩ := h
  rfl

section
variable {T E e : TypeId} {w w1 w' : World} {g : Nat} {F : Nat → Prop} {vp : Value} {h : List Ent} {x : Ent}
theorem Tp.xv (t : Tp T E e w g F vp h x) : ∀ j, vbl x.v j → F j ∧ j ≠ g ∧ ¬ vbl vp j := t.apart x (by simp)
theorem Tp.xok (t : Tp T E e w g F vp h x) : x.s ≤ x.b.length ∧ x.b.length ≤ 1048576 ∧ x.v.oneCell' = true := t.ok x (by simp)
theorem Tp.all (t : Tp T E e w g F vp h x) : ∀ y ∈ h ++ [x], Sl w y.v y.b ∧ Bes x.v x.b.length y.v y.b.length := by
  intro y hy
  rcases List.mem_append.1 hy with hy | hy
  · exact t.past y hy
  · rw [List.mem_singleton.1 hy]
    exact ⟨t.nw.sl, t.nw.bes⟩
theorem Tp.chg {S : Nat → Prop} (t : Tp T E e w g F vp h x) (k : Chg S w w') (hS : ∀ j, F j → ¬ S j) : Tp T E e w' g F vp h x where
  box := t.box.chg k (hS g t.self)
  row := t.row.chg k (fun j hj => hS j (t.rowF j hj))
  rowF := t.rowF
  self := t.self
  nw := t.nw.chg k (fun j hj => hS j (t.xv j hj).1)
  past := fun y hy => ⟨(t.past y hy).1.chg k (fun _ j hj => hS j (t.apart y (by simp [hy]) j hj).1), (t.past y hy).2⟩
  apart := t.apart
  ok := t.ok
  lt := fun j hj => Nat.lt_of_lt_of_le (t.lt j hj) k.size
/-- The calls' own end: the past has one more, and what is now is new. -/
theorem Tp.push (t : Tp T E e w g F vp h x) (hne : E ≠ T) {x' : Ent} {vp' : Value} (k1 : Chg (vbl x.v) w w1) (nw : Nw e w1 x'.v x'.b)
    (keep : ∀ y ∈ h ++ [x], Sl w1 y.v y.b ∧ Bes x'.v x'.b.length y.v y.b.length) (blk : ∀ j, vbl x'.v j → (vbl x.v j ∨ w.heap.size ≤ j) ∧ j < w1.heap.size) (ok : x'.s ≤ x'.b.length ∧ x'.b.length ≤ 1048576)
    (hb : Hb w' g T #[x'.v, .int .i64 (x'.s : Int), vp']) (hr : OwnL E 2 Ent.cells w' vp' (h ++ [x])) (k2 : Chg (fun j => j = g ∨ vbl vp j) w1 w') (hvp : ∀ j, vbl vp' j → vbl vp j ∨ w1.heap.size ≤ j) :
    Tp T E e w' g (fun j => F j ∨ w.heap.size ≤ j ∧ j < w'.heap.size) vp' (h ++ [x]) x' := by
  have hlt := hr.lt
  have hrl := t.row.lt
  have hs1 := k1.size
  have hs2 := k2.size
  have hgl := t.box.lt
  have hxlt : ∀ j, vbl x.v j → j < w.heap.size := fun j hj => t.lt j (t.xv j hj).1
  have away : ∀ j, vbl x'.v j → ¬ (j = g ∨ vbl vp j) := by
    rintro j hj (rfl | hp)
    · rcases (blk _ hj).1 with h1 | h1
      · exact (t.xv _ h1).2.1 rfl
      · omega
    · rcases (blk _ hj).1 with h1 | h1
      · exact (t.xv _ h1).2.2 hp
      · have := hrl j hp; omega
  have apart' : ∀ y ∈ h ++ [x], ∀ j, vbl y.v j → ¬ (j = g ∨ vbl vp j) := by
    rintro y hy j hj (rfl | hp)
    · exact (t.apart y hy _ hj).2.1 rfl
    · exact (t.apart y hy j hj).2.2 hp
  refine ⟨hb, hr, ?_, .inl t.self, nw.chg k2 away, ?_, ?_, ?_, ?_⟩
  · intro j hj
    rcases hvp j hj with h1 | h1
    · exact .inl (t.rowF j h1)
    · exact .inr ⟨by omega, hlt j hj⟩
  · intro y hy
    exact ⟨(keep y hy).1.chg k2 (fun _ => apart' y hy), (keep y hy).2⟩
  · intro y hy j hj
    have hno : (vbl vp j ∨ w1.heap.size ≤ j → False) → ¬ vbl vp' j := fun h1 h2 => h1 (hvp j h2)
    rcases List.mem_append.1 hy with hy | hy
    · obtain ⟨a, b, c⟩ := t.apart y hy j hj
      refine ⟨.inl a, b, hno ?_⟩
      rintro (h1 | h1)
      · exact c h1
      · have := t.lt j a; omega
    · rw [List.mem_singleton.1 hy] at hj
      have h1 := away j hj
      obtain ⟨h2, h3⟩ := blk j hj
      refine ⟨?_, fun e => h1 (.inl e), hno ?_⟩
      · rcases h2 with h2 | h2
        · exact .inl (t.xv j h2).1
        · exact .inr ⟨h2, by omega⟩
      · rintro (h4 | h4)
        · exact h1 (.inr h4)
        · omega
  · intro y hy
    rcases List.mem_append.1 hy with hy | hy
    · exact t.ok y hy
    · rw [List.mem_singleton.1 hy]
      exact ⟨ok.1, ok.2, sl_one nw.sl⟩
  · rintro j (h1 | h1)
    · have := t.lt j h1; omega
    · exact h1.2
end

/-- The document's tape at block m, of type T; its row of type E; l: what it was, the last one now. G: the blocks that are its own. -/
structure Rp (T E : TypeId) (w : World) (m : Nat) (G : Nat → Prop) (vl : Value) (l : List Ent) : Prop where
  box : Hb w m T #[vl]
  row : OwnL E 2 Ent.cells w vl l
  rowG : ∀ j, vbl vl j → G j
  self : G m
  rd : ∀ y ∈ l, Sl w y.v y.b
  apart : ∀ y ∈ l, ∀ j, vbl y.v j → G j ∧ j ≠ m ∧ ¬ vbl vl j
  ok : ∀ y ∈ l, y.s ≤ y.b.length ∧ y.b.length ≤ 1048576
  lt : ∀ j, G j → j < w.heap.size

section
variable {T E : TypeId} {w w1 w' : World} {m : Nat} {G : Nat → Prop} {vl : Value} {l : List Ent}
theorem Rp.chg {S : Nat → Prop} (t : Rp T E w m G vl l) (k : Chg S w w') (hS : ∀ j, G j → ¬ S j) : Rp T E w' m G vl l where
  box := t.box.chg k (hS m t.self)
  row := t.row.chg k (fun j hj => hS j (t.rowG j hj))
  rowG := t.rowG
  self := t.self
  rd := fun y hy => (t.rd y hy).chg k (fun _ j hj => hS j (t.apart y hy j hj).1)
  apart := t.apart
  ok := t.ok
  lt := fun j hj => Nat.lt_of_lt_of_le (t.lt j hj) k.size
theorem Rp.push (t : Rp T E w m G vl l) {x : Ent} {vl' : Value} (k1 : Chg Non w w1) (hx : Sl w1 x.v x.b) (blk : ∀ j, vbl x.v j → (G j ∧ j ≠ m ∧ ¬ vbl vl j ∨ w.heap.size ≤ j) ∧ j < w1.heap.size) (ok : x.s ≤ x.b.length ∧ x.b.length ≤ 1048576)
    (hb : Hb w' m T #[vl']) (hr : OwnL E 2 Ent.cells w' vl' (l ++ [x])) (k2 : Chg (fun j => j = m ∨ vbl vl j) w1 w') (hvl : ∀ j, vbl vl' j → vbl vl j ∨ w1.heap.size ≤ j) :
    Rp T E w' m (fun j => G j ∨ w.heap.size ≤ j ∧ j < w'.heap.size) vl' (l ++ [x]) := by
  have hlt := hr.lt
  have hrl := t.row.lt
  have hs1 := k1.size
  have hs2 := k2.size
  have hgl := t.box.lt
  have away : ∀ j, vbl x.v j → ¬ (j = m ∨ vbl vl j) := by
    rintro j hj (rfl | hp)
    · rcases (blk _ hj).1 with h1 | h1
      · exact h1.2.1 rfl
      · omega
    · rcases (blk _ hj).1 with h1 | h1
      · exact h1.2.2 hp
      · have := hrl j hp; omega
  have apart' : ∀ y ∈ l, ∀ j, vbl y.v j → ¬ (j = m ∨ vbl vl j) := by
    rintro y hy j hj (rfl | hp)
    · exact (t.apart y hy _ hj).2.1 rfl
    · exact (t.apart y hy j hj).2.2 hp
  refine ⟨hb, hr, ?_, .inl t.self, ?_, ?_, ?_, ?_⟩
  · intro j hj
    rcases hvl j hj with h1 | h1
    · exact .inl (t.rowG j h1)
    · exact .inr ⟨by omega, hlt j hj⟩
  · intro y hy
    rcases List.mem_append.1 hy with hy | hy
    · exact ((t.rd y hy).chg k1 (fun _ _ _ f => f)).chg k2 (fun _ => apart' y hy)
    · rw [List.mem_singleton.1 hy]
      exact hx.chg k2 (fun _ => away)
  · intro y hy j hj
    have hno : (vbl vl j ∨ w1.heap.size ≤ j → False) → ¬ vbl vl' j := fun h1 h2 => h1 (hvl j h2)
    rcases List.mem_append.1 hy with hy | hy
    · obtain ⟨a, b, c⟩ := t.apart y hy j hj
      refine ⟨.inl a, b, hno ?_⟩
      rintro (h1 | h1)
      · exact c h1
      · have := t.lt j a; omega
    · rw [List.mem_singleton.1 hy] at hj
      have h1 := away j hj
      obtain ⟨h2, h3⟩ := blk j hj
      refine ⟨?_, fun e => h1 (.inl e), hno ?_⟩
      · rcases h2 with h2 | h2
        · exact .inl h2.1
        · exact .inr ⟨h2, by omega⟩
      · rintro (h4 | h4)
        · exact h1 (.inr h4)
        · omega
  · intro y hy
    rcases List.mem_append.1 hy with hy | hy
    · exact t.ok y hy
    · rw [List.mem_singleton.1 hy]; exact ok
  · rintro j (h1 | h1)
    · have := t.lt j h1; omega
    · exact h1.2
end

/-- In words: what a tape has is what it was, the last one now. -/
def lastS (H : List St) : St := H.getLast?.getD ([], 0)
def pick (c : Int) (n : Nat) : Nat := (if c < 0 then -(c + 1) else c).toNat % n
def mAppend (H : List St) (b : List UInt8) : Int × List St := if 1048576 < (lastS H).1.length + b.length then (101, H) else (0, H ++ [((lastS H).1 ++ b, (lastS H).2)])
def mSync (H : List St) : Int × List St := (0, H ++ [((lastS H).1, (lastS H).1.length)])
def mTrim (H : List St) (n : Int) : Int × List St := if n < 0 ∨ ((lastS H).1.length : Int) < n then (1, H) else (0, H ++ [((lastS H).1.take n.toNat, n.toNat)])
def mCut (H : List St) (at_ torn : Int) : List St :=
  let x := (H[pick at_ H.length]?).getD ([], 0)
  let n := x.2 + pick torn (x.1.length - x.2 + 1)
  [(x.1.take n, n)]
theorem last_of {h : List Ent} {x : Ent} {H : List St} (hH : (h ++ [x]).map Ent.st = H) : lastS H = (x.b, x.s) := by
  subst hH
  simp [lastS, Ent.st]
theorem len_of {h : List Ent} {x : Ent} {H : List St} (hH : (h ++ [x]).map Ent.st = H) : H.length = h.length + 1 := by
  subst hH
  simp
end Go.Proofs.Ytenhicipgkjckaa
