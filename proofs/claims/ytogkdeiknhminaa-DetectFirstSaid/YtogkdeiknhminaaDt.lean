/- Where a trace and a witness part: what the first such place is. Plain mathematics. -/
import Derived.Test.YtogkdeiknhminaaChecked
import Derived.WalkKit
import Derived.Lib.Hide
import Derived.Test.YtogkdeiknhminaaDd
namespace Go.Proofs.Ytogkdeiknhminaa
open Go.RowKit
set_option linter.unusedVariables false
set_option linter.unusedSimpArgs false
set_option maxRecDepth 20000

def Ups (l : List Li) : Prop := l.Pairwise fun a b => a.hd.height < b.hd.height
theorem ups_one (l : List Li) : Ups (l.take 1) := by cases l <;> simp [Ups]
theorem ups_next {l : List Li} {k : Nat} {y x : Li} (hy : l[k]? = some y) (hx : l[k + 1]? = some x) : Ups (l.take (k + 2)) ↔ Ups (l.take (k + 1)) ∧ y.hd.height < x.hd.height := by
  have e : l.take (k + 2) = l.take (k + 1) ++ [x] := take_one hx
  have e' : l.take (k + 1) = l.take k ++ [y] := take_one hy
  unfold Ups
  rw [e, List.pairwise_append]
  constructor
  · rintro ⟨h1, _, h3⟩
    exact ⟨h1, h3 y (by rw [e']; simp) x (by simp)⟩
  · rintro ⟨h1, h2⟩
    refine ⟨h1, by simp, fun a ha b hb => ?_⟩
    simp only [List.mem_singleton] at hb
    subst hb
    rw [e'] at ha h1
    rw [List.pairwise_append] at h1
    rw [List.mem_append, List.mem_singleton] at ha
    rcases ha with ha | rfl
    · have := h1.2.2 a ha y (by simp)
      omega
    · exact h2
theorem ups_shw {l : List Li} (h : Ups l) {i : Nat} {x : Li} (hx : l[i]? = some x) : shw l x.hd.height = some x.hd := by
  refine shw_some (fst_found (k := i) ?_ hx rfl) hx
  rw [fst_none]
  intro y hy e
  have e1 : l = l.take i ++ (x :: l.drop (i + 1)) := by rw [← drop_one hx, List.take_append_drop]
  unfold Ups at h
  rw [e1, List.pairwise_append] at h
  have := h.2.2 y hy x (by simp)
  omega
theorem dv_self {l : List Li} (h : Ups l) (hl : 0 < l.length) : dv l l = (0, 171) := by
  have hx := List.getElem?_eq_getElem hl
  refine dv_none hx (ups_shw h hx) (fun y hy => ?_)
  obtain ⟨i, hi⟩ := List.mem_iff_getElem?.1 hy
  rw [List.getElem?_drop] at hi
  unfold prt
  rw [ups_shw h hi]
  simp
theorem dv_ok {tr wi : List Li} (h : (dv tr wi).2 = 0) : ∃ (r x : Li) (k : Nat), tr[0]? = some r ∧ shw wi r.hd.height = some r.hd ∧ (∀ y ∈ (tr.drop 1).take k, prt wi y = false) ∧ tr[k + 1]? = some x ∧ prt wi x = true ∧ dv tr wi = (((k + 1 : Nat) : Int), 0) := by
  cases tr with
  | nil => simp [dv] at h
  | cons r t =>
    by_cases hs : shw wi r.hd.height = some r.hd
    · cases hi : t.findIdx? (prt wi) with
      | none =>
        have : dv (r :: t) wi = (0, 171) := by
          show (if shw wi r.hd.height = some r.hd then _ else _) = _
          rw [if_pos hs, hi]
        rw [this] at h
        simp at h
      | some k =>
        have hdv : dv (r :: t) wi = (((k + 1 : Nat) : Int), 0) := by
          show (if shw wi r.hd.height = some r.hd then _ else _) = _
          rw [if_pos hs, hi]
        obtain ⟨h1, h2, h3⟩ := List.findIdx?_eq_some_iff_getElem.1 hi
        refine ⟨r, t[k], k, rfl, hs, fun y hy => ?_, by simp [List.getElem?_eq_getElem h1], h2, hdv⟩
        obtain ⟨j, hj⟩ := List.mem_iff_getElem?.1 hy
        rw [List.drop_one, List.tail_cons, List.getElem?_take] at hj
        split at hj
        · rename_i hjk
          have hjl := (List.getElem?_eq_some_iff.1 hj)
          obtain ⟨hjl, e⟩ := hjl
          have := h3 j hjk
          rw [e] at this
          simpa using this
        · cases hj
    · have : dv (r :: t) wi = (0, 191) := dv_root (r := r) rfl hs
      rw [this] at h
      simp at h
theorem dv_zero {tr wi : List Li} (h : (dv tr wi).2 ≠ 0) : (dv tr wi).1 = 0 := by
  cases tr with
  | nil => rfl
  | cons r t =>
    by_cases hs : shw wi r.hd.height = some r.hd
    · cases hi : t.findIdx? (prt wi) with
      | none =>
        have : dv (r :: t) wi = (0, 171) := by
          show (if shw wi r.hd.height = some r.hd then _ else _) = _
          rw [if_pos hs, hi]
        rw [this]
      | some k =>
        have : dv (r :: t) wi = (((k + 1 : Nat) : Int), 0) := by
          show (if shw wi r.hd.height = some r.hd then _ else _) = _
          rw [if_pos hs, hi]
        rw [this] at h
        simp at h
    · have : dv (r :: t) wi = (0, 191) := dv_root (r := r) rfl hs
      rw [this]
theorem dv_cut {tr wi : List Li} {r x : Li} {k : Nat} (hr : tr[0]? = some r) (hs : shw wi r.hd.height = some r.hd) (h0 : ∀ y ∈ (tr.drop 1).take k, prt wi y = false) (hx : tr[k + 1]? = some x) (hp : prt wi x = true) :
    dv (tr.take (k + 1)) wi = (0, 171) ∧ dv (tr.take (k + 2)) wi = (((k + 1 : Nat) : Int), 0) := by
  have e : ∀ n, (tr.take (n + 1)).drop 1 = (tr.drop 1).take n := fun n => by rw [List.drop_take]; rfl
  refine ⟨dv_none (r := r) (by rw [List.getElem?_take_of_lt (by omega)]; exact hr) hs (by rw [e]; exact h0), dv_found (r := r) (by rw [List.getElem?_take_of_lt (by omega)]; exact hr) hs (k := k) (x := x) ?_ (by rw [List.getElem?_take_of_lt (by omega)]; exact hx) hp⟩
  rw [e, List.take_take, Nat.min_eq_left (by omega)]
  exact h0
/-- Does a block show another header of that height? -/
def oth (x y : Li) : Bool := decide (y.hd.height = x.hd.height) && !decide (y.hd = x.hd)
theorem prt_any {wi : List Li} {x : Li} (h : prt wi x = true) : wi.any (oth x) = true := by
  unfold prt at h
  cases hs : shw wi x.hd.height with
  | none => rw [hs] at h; cases h
  | some y =>
    rw [hs] at h
    obtain ⟨e, z, hz, rfl⟩ := shw_height hs
    rw [List.any_eq_true]
    refine ⟨z, hz, ?_⟩
    unfold oth
    rw [decide_eq_true e]
    simpa using h
theorem lstM_take {α : Type} {w : World} {A : Option Addr} {l : List α} {cells : α → List Value} {sz : Nat} (M : LstM w A l cells sz) (n : Nat) : LstM w A (l.take n) cells sz := fun i x hx => M i x (by rw [List.getElem?_take] at hx; split at hx; exact hx; cases hx)
end Go.Proofs.Ytogkdeiknhminaa
