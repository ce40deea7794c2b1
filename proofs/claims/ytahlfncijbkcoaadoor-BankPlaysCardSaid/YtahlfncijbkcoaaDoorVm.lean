/- Sets of validators as lists: power by key, rising, sums, changes. Plain mathematics: nothing here knows the program. -/
import Derived.WalkKit
import Derived.Lib.Hide
namespace Go.Proofs.YtahlfncijbkcoaaDoor
set_option linter.unusedVariables false
set_option linter.unusedSimpArgs false

structure Va where
  key : Nat
  power : Int
  deriving DecidableEq
structure Va.Ok (x : Va) : Prop where
  key : x.key < 18446744073709551616
  lo : -9223372036854775808 ≤ x.power
  hi : x.power ≤ 9223372036854775807
def Va.cells (x : Va) : List Value := [.int .u64 (x.key : Int), .int .i64 x.power]
theorem Va.cells_len (x : Va) : x.cells.length = 2 := rfl

/-- The power of the first of a key. -/
def pw : List Va → Nat → Int
  | [], _ => 0
  | x :: l, k => if x.key = k then x.power else pw l k
def Rises (l : List Va) : Prop := l.Pairwise fun a b => a.key < b.key
def Pos (l : List Va) : Prop := ∀ x ∈ l, 1 ≤ x.power
def sumP : List Va → Int
  | [] => 0
  | x :: l => x.power + sumP l
def top : Int := 1125899906842624
def Fits (l : List Va) : Prop := Pos l ∧ sumP l ≤ top
def Rt (l : List Va) : Prop := 1 ≤ l.length ∧ l.length ≤ 64 ∧ Rises l ∧ Fits l

theorem Rises.nil : Rises [] := List.Pairwise.nil
theorem rises_cons {x : Va} {l : List Va} : Rises (x :: l) ↔ (∀ y ∈ l, x.key < y.key) ∧ Rises l := List.pairwise_cons
theorem pos_cons {x : Va} {l : List Va} : Pos (x :: l) ↔ 1 ≤ x.power ∧ Pos l := by simp [Pos]
theorem pw_not {l : List Va} {k : Nat} (h : ∀ x ∈ l, x.key ≠ k) : pw l k = 0 := by
  induction l with
  | nil => rfl
  | cons x l ih =>
    rw [pw, if_neg (h x (by simp)), ih (fun y hy => h y (by simp [hy]))]
theorem pw_mem {l : List Va} (hr : Rises l) {x : Va} (hx : x ∈ l) : pw l x.key = x.power := by
  induction l with
  | nil => cases hx
  | cons y l ih =>
    obtain ⟨h1, h2⟩ := rises_cons.1 hr
    rcases List.mem_cons.1 hx with rfl | hx
    · simp [pw]
    · have := h1 x hx
      rw [pw, if_neg (by omega), ih h2 hx]
theorem pw_nonneg {l : List Va} (hp : Pos l) (k : Nat) : 0 ≤ pw l k := by
  induction l with
  | nil => exact Int.le_refl _
  | cons y l ih =>
    obtain ⟨h1, h2⟩ := pos_cons.1 hp
    rw [pw]
    split
    · omega
    · exact ih h2
theorem pw_pos {l : List Va} {k : Nat} (h : pw l k ≠ 0) : ∃ x ∈ l, x.key = k := by
  apply Classical.byContradiction
  intro hn
  exact h (pw_not fun x hx e => hn ⟨x, hx, e⟩)
theorem sumP_append (a b : List Va) : sumP (a ++ b) = sumP a + sumP b := by
  induction a with
  | nil => simp [sumP]
  | cons x a ih => rw [List.cons_append, sumP, sumP, ih]; omega
theorem sumP_nonneg {l : List Va} (hp : Pos l) : 0 ≤ sumP l := by
  induction l with
  | nil => exact Int.le_refl _
  | cons y l ih =>
    obtain ⟨h1, h2⟩ := pos_cons.1 hp
    have := ih h2
    rw [sumP]
    omega
theorem pos_app {a b : List Va} : Pos (a ++ b) ↔ Pos a ∧ Pos b := by
  constructor
  · intro h; exact ⟨fun x hx => h x (by simp [hx]), fun x hx => h x (by simp [hx])⟩
  · rintro ⟨h1, h2⟩ x hx
    rcases List.mem_append.1 hx with h | h
    · exact h1 x h
    · exact h2 x h
theorem take_next {α : Type} {l : List α} {k : Nat} {x : α} (h : l[k]? = some x) : l.take (k + 1) = l.take k ++ [x] := by
  obtain ⟨hk, e⟩ := List.getElem?_eq_some_iff.1 h
  rw [List.take_succ_eq_append_getElem hk, e]
theorem fits_take {l : List Va} (h : Fits l) (k : Nat) : Fits (l.take k) := by
  obtain ⟨h1, h2⟩ := h
  rw [← List.take_append_drop k l, pos_app] at h1
  rw [← List.take_append_drop k l, sumP_append] at h2
  have := sumP_nonneg h1.2
  exact ⟨h1.1, by omega⟩
theorem fits_next {l : List Va} {k : Nat} {x : Va} (h : l[k]? = some x) : Fits (l.take (k + 1)) ↔ Fits (l.take k) ∧ 1 ≤ x.power ∧ sumP (l.take k) + x.power ≤ top := by
  rw [take_next h]
  unfold Fits
  rw [pos_app, sumP_append]
  have e : sumP [x] = x.power := by simp [sumP]
  have e2 : Pos [x] ↔ 1 ≤ x.power := by simp [Pos]
  rw [e, e2]
  constructor
  · rintro ⟨⟨a, b⟩, c⟩; exact ⟨⟨a, by omega⟩, b, c⟩
  · rintro ⟨⟨a, b⟩, c, d⟩; exact ⟨⟨a, c⟩, d⟩
theorem rises_take {l : List Va} (h : Rises l) (k : Nat) : Rises (l.take k) := List.Pairwise.sublist (List.take_sublist k l) h
/-- A list rises as far as one more, if it rises so far and the next is above the last. -/
theorem rises_next {l : List Va} {k : Nat} {x y : Va} (hy : l[k]? = some y) (h : l[k + 1]? = some x) : Rises (l.take (k + 2)) ↔ Rises (l.take (k + 1)) ∧ y.key < x.key := by
  rw [take_next h]
  unfold Rises
  rw [List.pairwise_append]
  constructor
  · rintro ⟨a, _, c⟩
    exact ⟨a, c y (by rw [take_next hy]; simp) x (by simp)⟩
  · rintro ⟨a, b⟩
    refine ⟨a, List.pairwise_singleton _ _, fun z hz w hw => ?_⟩
    rw [List.mem_singleton] at hw
    subst hw
    rw [take_next hy, List.pairwise_append] at a
    rw [take_next hy, List.mem_append, List.mem_singleton] at hz
    rcases hz with hz | rfl
    · have := a.2.2 z hz y (by simp); omega
    · exact b

/-! ### Functions of keys -/
def upd (f : Nat → Int) (k : Nat) (v : Int) : Nat → Int := fun j => if j = k then v else f j
theorem upd_same (f : Nat → Int) (k : Nat) (v : Int) : upd f k v k = v := if_pos rfl
theorem upd_other (f : Nat → Int) {k j : Nat} (v : Int) (h : j ≠ k) : upd f k v j = f j := if_neg h
/-- The list r is that of the powers f. -/
structure Nf (r : List Va) (f : Nat → Int) : Prop where
  rises : Rises r
  pos : Pos r
  pw : ∀ k, pw r k = f k
theorem Rt.nf {l : List Va} (h : Rt l) : Nf l (pw l) := ⟨h.2.2.1, h.2.2.2.1, fun _ => rfl⟩
theorem Nf.ext {r : List Va} {f g : Nat → Int} (h : Nf r f) (e : ∀ k, f k = g k) : Nf r g := ⟨h.rises, h.pos, fun k => (h.pw k).trans (e k)⟩
theorem uniq_aux : ∀ (r s : List Va), Rises r → Rises s → Pos r → Pos s → (∀ k, pw r k = pw s k) → r = s
  | [], [], _, _, _, _, _ => rfl
  | [], y :: s, _, _, _, ps, h => by
    have := h y.key
    rw [pw_mem (l := y :: s) ‹_› (by simp)] at this
    have := (pos_cons.1 ps).1
    simp [pw] at *
    omega
  | x :: r, [], _, _, pr, _, h => by
    have := h x.key
    rw [pw_mem (l := x :: r) ‹_› (by simp)] at this
    have := (pos_cons.1 pr).1
    simp [pw] at *
    omega
  | x :: r, y :: s, hr, hs, pr, ps, h => by
    obtain ⟨r1, r2⟩ := rises_cons.1 hr
    obtain ⟨s1, s2⟩ := rises_cons.1 hs
    obtain ⟨p1, p2⟩ := pos_cons.1 pr
    obtain ⟨q1, q2⟩ := pos_cons.1 ps
    have hx := h x.key
    rw [pw_mem hr (by simp)] at hx
    have hy := h y.key
    rw [pw_mem hs (by simp)] at hy
    have hk : x.key = y.key := by
      obtain ⟨u, hu, e1⟩ := pw_pos (l := y :: s) (k := x.key) (by omega)
      obtain ⟨v, hv, e2⟩ := pw_pos (l := x :: r) (k := y.key) (by omega)
      rcases List.mem_cons.1 hu with rfl | hu
      · exact e1.symm
      · rcases List.mem_cons.1 hv with rfl | hv
        · exact e2
        · have := s1 u hu; have := r1 v hv; omega
    have hp : x.power = y.power := by
      rw [hx, hk, pw_mem hs (by simp)]
    have hxy : x = y := by cases x; cases y; simp_all
    subst hxy
    congr 1
    refine uniq_aux r s r2 s2 p2 q2 fun k => ?_
    have := h k
    rw [pw, pw] at this
    by_cases e : x.key = k
    · subst e
      rw [pw_not fun z hz => by have := r1 z hz; omega, pw_not fun z hz => by have := s1 z hz; omega]
    · rwa [if_neg e, if_neg e] at this
theorem Nf.uniq {r s : List Va} {f : Nat → Int} (h : Nf r f) (k : Nf s f) : r = s := uniq_aux r s h.rises k.rises h.pos k.pos fun j => (h.pw j).trans (k.pw j).symm

/-- A list with another power for a key: none takes it away. -/
def ins (k : Nat) (v : Int) : List Va → List Va
  | [] => if 0 < v then [⟨k, v⟩] else []
  | x :: l => if k < x.key then (if 0 < v then ⟨k, v⟩ :: x :: l else x :: l) else if k = x.key then (if 0 < v then ⟨k, v⟩ :: l else l) else x :: ins k v l
theorem ins_mem {k : Nat} {v : Int} : ∀ {l : List Va} {y : Va}, y ∈ ins k v l → y = ⟨k, v⟩ ∧ 0 < v ∨ y ∈ l
  | [], y, h => by
    unfold ins at h
    split at h
    · left; exact ⟨by simpa using h, by assumption⟩
    · cases h
  | x :: l, y, h => by
    unfold ins at h
    split at h
    · split at h
      · rcases List.mem_cons.1 h with rfl | h
        · exact .inl ⟨rfl, by assumption⟩
        · exact .inr h
      · exact .inr h
    · split at h
      · split at h
        · rcases List.mem_cons.1 h with rfl | h
          · exact .inl ⟨rfl, by assumption⟩
          · exact .inr (by simp [h])
        · exact .inr (by simp [h])
      · rcases List.mem_cons.1 h with rfl | h
        · exact .inr (by simp)
        · rcases ins_mem h with h | h
          · exact .inl h
          · exact .inr (by simp [h])
theorem ins_rises {k : Nat} {v : Int} : ∀ {l : List Va}, Rises l → Rises (ins k v l)
  | [], _ => by unfold ins; split <;> simp [Rises]
  | x :: l, h => by
    obtain ⟨h1, h2⟩ := rises_cons.1 h
    unfold ins
    split
    · split
      · exact rises_cons.2 ⟨fun y hy => by
          rcases List.mem_cons.1 hy with rfl | hy
          · assumption
          · have := h1 y hy; show k < y.key; omega, h⟩
      · exact h
    · split
      · rename_i e
        split
        · exact rises_cons.2 ⟨fun y hy => by have := h1 y hy; show k < y.key; omega, h2⟩
        · exact h2
      · exact rises_cons.2 ⟨fun y hy => by
          rcases ins_mem hy with ⟨rfl, _⟩ | hy
          · show x.key < k; omega
          · exact h1 y hy, ins_rises h2⟩
theorem ins_pos {k : Nat} {v : Int} {l : List Va} (h : Pos l) : Pos (ins k v l) := by
  intro y hy
  rcases ins_mem hy with ⟨rfl, h0⟩ | hy
  · show 1 ≤ v; omega
  · exact h y hy
theorem ins_pw {k : Nat} {v : Int} (hv : 0 ≤ v) : ∀ {l : List Va}, Rises l → ∀ j, pw (ins k v l) j = upd (pw l) k v j
  | [], _, j => by
    unfold ins upd
    split
    · simp only [pw]
      by_cases e : k = j
      · rw [if_pos e, if_pos e.symm]
      · rw [if_neg e, if_neg (fun h => e h.symm)]
    · simp only [pw]
      split <;> omega
  | x :: l, h, j => by
    obtain ⟨h1, h2⟩ := rises_cons.1 h
    have hnot : k < x.key ∨ k = x.key → pw l k = 0 := fun c => pw_not fun z hz => by have := h1 z hz; omega
    unfold ins upd
    split
    · split
      · rw [pw]
        by_cases e : k = j
        · rw [if_pos e, if_pos e.symm]
        · rw [if_neg e, if_neg (fun h => e h.symm)]
      · by_cases e : j = k
        · rw [if_pos e, e, pw, if_neg (by omega), hnot (.inl (by assumption))]; omega
        · rw [if_neg e]
    · split
      · rename_i e
        have hn := hnot (.inr e)
        split
        · rw [pw]
          by_cases e' : k = j
          · rw [if_pos e', if_pos e'.symm]
          · rw [if_neg e', if_neg (fun h => e' h.symm), pw, if_neg (by omega)]
        · by_cases e' : j = k
          · rw [if_pos e', e', hn]; omega
          · rw [if_neg e', pw, if_neg (by omega)]
      · rw [pw, ins_pw hv h2 j, pw]
        unfold upd
        by_cases e1 : x.key = j
        · rw [if_pos e1, if_neg (by omega), if_pos e1]
        · rw [if_neg e1, if_neg e1]
theorem ins_sum {k : Nat} {v : Int} (hv : 0 ≤ v) : ∀ {l : List Va}, Rises l → sumP (ins k v l) = sumP l - pw l k + v
  | [], _ => by
    unfold ins
    split <;> simp only [sumP, pw] <;> omega
  | x :: l, h => by
    obtain ⟨h1, h2⟩ := rises_cons.1 h
    have hnot : k < x.key ∨ k = x.key → pw l k = 0 := fun c => pw_not fun z hz => by have := h1 z hz; omega
    unfold ins
    split
    · have := hnot (.inl (by assumption))
      have e : pw (x :: l) k = 0 := by rw [pw, if_neg (by omega), this]
      split <;> simp only [sumP] <;> omega
    · split
      · rename_i e
        have e' : pw (x :: l) k = x.power := by rw [pw, if_pos e.symm]
        split <;> simp only [sumP] <;> omega
      · have e' : pw (x :: l) k = pw l k := by rw [pw, if_neg (by omega)]
        have := ins_sum hv h2 (k := k)
        rw [sumP, this, e', sumP]
        omega
theorem Nf.ins {l : List Va} {f : Nat → Int} (h : Nf l f) {k : Nat} {v : Int} (hv : 0 ≤ v) : Nf (ins k v l) (upd f k v) :=
  ⟨ins_rises h.rises, ins_pos h.pos, fun j => by rw [ins_pw hv h.rises]; unfold upd; split <;> simp [h.pw]⟩
theorem Nf.sum {l r : List Va} {f : Nat → Int} (h : Nf l f) {k : Nat} {v : Int} (hv : 0 ≤ v) (hr : Nf r (upd f k v)) : sumP r = sumP l - f k + v := by
  rw [hr.uniq (h.ins hv), ins_sum hv h.rises, h.pw]

/-! ### Changes, one behind the other -/
def eSet : Int := 71
def ePower : Int := 72
def eUnknown : Int := 73
def stepC (f : Nat → Int) (c : Va) : Except Int (Nat → Int) :=
  if c.power < 0 ∨ top < c.power then .error ePower else if c.power = 0 ∧ f c.key = 0 then .error eUnknown else .ok (upd f c.key c.power)
def runC (f : Nat → Int) : List Va → Except Int (Nat → Int)
  | [] => .ok f
  | c :: cs => match stepC f c with
    | .error e => .error e
    | .ok g => runC g cs
theorem stepC_ok {f g : Nat → Int} {c : Va} (h : stepC f c = .ok g) : 0 ≤ c.power ∧ c.power ≤ top ∧ g = upd f c.key c.power ∧ ¬ (c.power = 0 ∧ f c.key = 0) := by
  unfold stepC at h
  split at h
  · cases h
  · split at h
    · cases h
    · injection h with h
      exact ⟨by omega, by omega, h.symm, by assumption⟩
theorem stepC_mk {f : Nat → Int} {c : Va} (h1 : 0 ≤ c.power) (h2 : c.power ≤ top) (h3 : ¬ (c.power = 0 ∧ f c.key = 0)) : stepC f c = .ok (upd f c.key c.power) := by
  unfold stepC
  rw [if_neg (by omega), if_neg h3]
theorem runC_one {f : Nat → Int} {c : Va} : runC f [c] = stepC f c := by
  unfold runC
  split
  · rename_i h; exact h.symm
  · rename_i h; rw [h]; rfl
theorem runC_app {f : Nat → Int} {a b : List Va} : runC f (a ++ b) = match runC f a with | .error e => .error e | .ok g => runC g b := by
  induction a generalizing f with
  | nil => rfl
  | cons c a ih =>
    rw [List.cons_append, runC, runC]
    cases stepC f c with
    | error e => rfl
    | ok g => exact ih
/-- What a key has in the end. -/
def lastP (v : Int) : List Va → Nat → Int
  | [], _ => v
  | c :: cs, k => lastP (if c.key = k then c.power else v) cs k
theorem lastP_app (v : Int) (a b : List Va) (k : Nat) : lastP v (a ++ b) k = lastP (lastP v a k) b k := by
  induction a generalizing v with
  | nil => rfl
  | cons c a ih => exact ih _
theorem runC_last {f g : Nat → Int} {l : List Va} (h : runC f l = .ok g) (k : Nat) : g k = lastP (f k) l k := by
  induction l generalizing f with
  | nil => injection h with h; subst h; rfl
  | cons c l ih =>
    rw [runC] at h
    split at h
    · cases h
    · rename_i f' hf
      rw [ih h, lastP]
      obtain ⟨_, _, rfl, _⟩ := stepC_ok hf
      unfold upd
      by_cases e : k = c.key
      · rw [if_pos e, if_pos e.symm]
      · rw [if_neg e, if_neg (fun h => e h.symm)]
theorem runC_nonneg {f g : Nat → Int} {l : List Va} (h0 : ∀ k, 0 ≤ f k) (h : runC f l = .ok g) (k : Nat) : 0 ≤ g k := by
  induction l generalizing f with
  | nil => injection h with h; subst h; exact h0 k
  | cons c l ih =>
    rw [runC] at h
    split at h
    · cases h
    · rename_i f' hf
      obtain ⟨a, _, rfl, _⟩ := stepC_ok hf
      refine ih (fun j => ?_) h
      unfold upd
      split
      · exact a
      · exact h0 j
end Go.Proofs.YtahlfncijbkcoaaDoor
