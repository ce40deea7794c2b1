/- Turns as lists of priorities: who proposes, and as often as power. Plain mathematics: nothing here knows the program. -/
import Derived.WalkKit
import Derived.Lib.Hide
import Derived.Test.YtmmacimneaehiaaVm
namespace Go.Proofs.Ytmmacimneaehiaa
set_option linter.unusedVariables false
set_option linter.unusedSimpArgs false

def nth (q : List Int) (i : Nat) : Int := (q[i]?).getD 0
theorem nth_get {q : List Int} {i : Nat} {c : Int} (h : q[i]? = some c) : nth q i = c := by unfold nth; rw [h]; rfl
/-- The first place with the greatest of the first k. -/
def bestTo (q : List Int) : Nat → Nat
  | 0 => 0
  | k + 1 => if nth q (bestTo q k) < nth q k then k else bestTo q k
theorem bestTo_lt (q : List Int) : ∀ k, bestTo q k < k ∨ bestTo q k = 0
  | 0 => .inr rfl
  | k + 1 => by
    rw [bestTo]
    split
    · exact .inl (by omega)
    · rcases bestTo_lt q k with h | h
      · exact .inl (by omega)
      · exact .inr h
theorem bestTo_max (q : List Int) : ∀ k i, i < k → nth q i ≤ nth q (bestTo q k)
  | 0, i, h => by omega
  | k + 1, i, h => by
    rw [bestTo]
    split
    · rename_i h1
      by_cases e : i = k
      · subst e; exact Int.le_refl _
      · have := bestTo_max q k i (by omega)
        omega
    · rename_i h1
      by_cases e : i = k
      · subst e; omega
      · exact bestTo_max q k i (by omega)
theorem bestTo_same {q r : List Int} : ∀ k, (∀ i, i < k → nth q i = nth r i) → bestTo q k = bestTo r k
  | 0, _ => rfl
  | k + 1, h => by
    have ih := bestTo_same k (fun i hi => h i (by omega))
    rw [bestTo, bestTo, ih]
    rcases bestTo_lt r k with h1 | h1
    · rw [h (bestTo r k) (by omega), h k (by omega)]
    · rw [h1, h 0 (by omega), h k (by omega)]

def adds (l : List Va) (p : List Int) : List Int := List.zipWith (fun x c => c + x.power) l p
theorem adds_len {l : List Va} {p : List Int} (h : p.length = l.length) : (adds l p).length = l.length := by simp [adds, h]
theorem adds_get {l : List Va} {p : List Int} {i : Nat} {x : Va} {c : Int} (hx : l[i]? = some x) (hc : p[i]? = some c) : (adds l p)[i]? = some (c + x.power) := by
  simp [adds, List.getElem?_zipWith, hx, hc]
theorem adds_mem {l : List Va} {p : List Int} {c : Int} (h : c ∈ adds l p) : ∃ (i : Nat) (x : Va) (d : Int), l[i]? = some x ∧ p[i]? = some d ∧ c = d + x.power := by
  obtain ⟨i, hi, e⟩ := List.getElem_of_mem h
  have e' := List.getElem?_eq_some_iff.2 ⟨hi, e⟩
  unfold adds at e'
  rw [List.getElem?_zipWith] at e'
  cases hx : l[i]? with
  | none => rw [hx] at e'; simp at e'
  | some x =>
    cases hd : p[i]? with
    | none => rw [hx, hd] at e'; simp at e'
    | some d =>
      rw [hx, hd] at e'
      simp at e'
      exact ⟨i, x, d, hx, hd, e'.symm⟩

/-- A turn: who, and the priorities behind it. -/
def pick (l : List Va) (p : List Int) : Nat := bestTo (adds l p) l.length
def turn (l : List Va) (P : Int) (p : List Int) : List Int := (adds l p).set (pick l p) (nth (adds l p) (pick l p) - P)
def state (l : List Va) (P : Int) : Nat → List Int
  | 0 => List.replicate l.length 0
  | t + 1 => turn l P (state l P t)
def who (l : List Va) (P : Int) (t : Nat) : Nat := pick l (state l P t)
def keyAt (l : List Va) (i : Nat) : Nat := ((l[i]?).map Va.key).getD 0
/-- The keys of the first n turns. -/
def ords (l : List Va) (n : Nat) : List Nat := (List.range n).map fun t => keyAt l (who l (sumP l) t)

theorem keyAt_get {l : List Va} {i : Nat} {x : Va} (h : l[i]? = some x) : keyAt l i = x.key := by unfold keyAt; rw [h]; rfl
theorem pick_lt {l : List Va} {p : List Int} (h : 1 ≤ l.length) : pick l p < l.length := by
  rcases bestTo_lt (adds l p) l.length with h1 | h1
  · exact h1
  · unfold pick; omega
theorem turn_len {l : List Va} {P : Int} {p : List Int} (h : p.length = l.length) : (turn l P p).length = l.length := by simp [turn, adds_len h]
theorem state_len (l : List Va) (P : Int) : ∀ t, (state l P t).length = l.length
  | 0 => by simp [state]
  | t + 1 => turn_len (state_len l P t)
theorem who_lt {l : List Va} (h : 1 ≤ l.length) (P : Int) (t : Nat) : who l P t < l.length := pick_lt h
theorem ords_len (l : List Va) (n : Nat) : (ords l n).length = n := by simp [ords]
theorem ords_next (l : List Va) (n : Nat) : ords l (n + 1) = ords l n ++ [keyAt l (who l (sumP l) n)] := by simp [ords, List.range_succ]
theorem ords_get {l : List Va} {n t : Nat} (h : t < n) : (ords l n)[t]? = some (keyAt l (who l (sumP l) t)) := by simp [ords, h]
theorem ords_take {l : List Va} {n t : Nat} (h : t ≤ n) : (ords l n).take t = ords l t := by
  unfold ords
  rw [← List.map_take, List.take_range, Nat.min_eq_left h]
theorem ords_last (l : List Va) (n : Nat) : (ords l (n + 1))[n]? = some (keyAt l (who l (sumP l) n)) := ords_get (by omega)

/-! ### How far priorities go -/
def Bd (t : Nat) (p : List Int) : Prop := ∀ c ∈ p, -((t : Int) * 1125899906842624) ≤ c ∧ c ≤ (t : Int) * 1125899906842624
/-- Each power is one at least, and no more than the whole. -/
def Sm (l : List Va) (P : Int) : Prop := 1 ≤ P ∧ P ≤ 1125899906842624 ∧ ∀ x ∈ l, 1 ≤ x.power ∧ x.power ≤ P
theorem pos_le_sum : ∀ {l : List Va}, Pos l → ∀ x ∈ l, x.power ≤ sumP l
  | [], _, x, h => by cases h
  | y :: l, hp, x, h => by
    obtain ⟨h1, h2⟩ := pos_cons.1 hp
    have h0 := sumP_nonneg h2
    rw [sumP]
    rcases List.mem_cons.1 h with rfl | h
    · omega
    · have := pos_le_sum h2 x h
      omega
theorem sm_of_rt {l : List Va} (h : Rt l) : Sm l (sumP l) := by
  obtain ⟨h1, _, _, h2, h3⟩ := h
  have hs := pos_le_sum h2
  refine ⟨?_, h3, fun x hx => ⟨h2 x hx, hs x hx⟩⟩
  obtain ⟨x, hx⟩ := List.exists_mem_of_length_pos (show 0 < l.length by omega)
  have := h2 x hx
  have := hs x hx
  omega
theorem turn_get {l : List Va} {P : Int} {p : List Int} {i : Nat} {c : Int} (h : (turn l P p)[i]? = some c) : ∃ d, (adds l p)[i]? = some d ∧ c = if i = pick l p then d - P else d := by
  unfold turn at h
  by_cases e : i = pick l p
  · subst e
    have hlt : pick l p < (adds l p).length := by
      have := (List.getElem?_eq_some_iff.1 h).1
      simpa using this
    rw [List.getElem?_set_self hlt] at h
    injection h with h
    refine ⟨_, List.getElem?_eq_getElem hlt, ?_⟩
    rw [if_pos rfl, ← h, nth_get (List.getElem?_eq_getElem hlt)]
  · rw [List.getElem?_set_ne (Ne.symm e)] at h
    exact ⟨c, h, by rw [if_neg e]⟩
theorem turn_bd {l : List Va} {P : Int} {p : List Int} {t : Nat} (hs : Sm l P) (h : Bd t p) : Bd (t + 1) (turn l P p) := by
  intro c hc
  obtain ⟨i, hi, e⟩ := List.getElem_of_mem hc
  obtain ⟨d, hd, hc'⟩ := turn_get (List.getElem?_eq_some_iff.2 ⟨hi, e⟩)
  obtain ⟨j, x, f, hx, hf, rfl⟩ := adds_mem (List.mem_of_getElem? hd)
  have h1 := h f (List.mem_of_getElem? hf)
  have h2 := hs.2.2 x (List.mem_of_getElem? hx)
  have h3 := hs.1
  have h4 := hs.2.1
  split at hc' <;> omega
theorem state_bd {l : List Va} {P : Int} (hs : Sm l P) : ∀ t, Bd t (state l P t)
  | 0 => by
    intro c hc
    simp [state] at hc
    omega
  | t + 1 => turn_bd hs (state_bd hs t)

/-! ### As often as power -/
theorem sum_adds : ∀ {l : List Va} {p : List Int}, p.length = l.length → (adds l p).sum = p.sum + sumP l
  | [], [], _ => by simp [adds, sumP]
  | x :: l, c :: p, h => by
    have ih := sum_adds (l := l) (p := p) (by simpa using h)
    have e : adds (x :: l) (c :: p) = (c + x.power) :: adds l p := rfl
    rw [e, List.sum_cons, List.sum_cons, ih, sumP]
    omega
  | [], c :: p, h => by simp at h
  | x :: l, [], h => by simp at h
theorem sum_set : ∀ {q : List Int} {i : Nat} {c : Int}, q[i]? = some c → ∀ d, (q.set i d).sum = q.sum - c + d
  | [], i, c, h, d => by simp at h
  | y :: q, 0, c, h, d => by simp at h; subst h; simp; omega
  | y :: q, i + 1, c, h, d => by
    have ih := sum_set (q := q) (i := i) (c := c) (by simpa using h) d
    simp [ih]
    omega
theorem sum_le : ∀ {q : List Int}, (∀ c ∈ q, c ≤ 0) → q.sum ≤ 0
  | [], _ => by simp
  | y :: q, h => by
    have := sum_le (q := q) (fun c hc => h c (by simp [hc]))
    have := h y (by simp)
    simp
    omega
theorem sum_zero : ∀ {q : List Int}, (∀ c ∈ q, 0 ≤ c) → q.sum ≤ 0 → ∀ c ∈ q, c = 0
  | [], _, _, c, hc => by cases hc
  | y :: q, h, hs, c, hc => by
    have h1 := h y (by simp)
    have h2 : 0 ≤ q.sum := by
      clear hs hc
      have hh : ∀ c ∈ q, 0 ≤ c := fun c hc => h c (by simp [hc])
      clear h h1
      induction q with
      | nil => simp
      | cons z q ih =>
        have := ih (fun c hc => hh c (by simp [hc]))
        have := hh z (by simp)
        simp
        omega
    have hs' : y + q.sum ≤ 0 := by simpa using hs
    rcases List.mem_cons.1 hc with rfl | hc
    · omega
    · exact sum_zero (q := q) (fun c hc => h c (by simp [hc])) (by omega) c hc
theorem state_sum {l : List Va} (h1 : 1 ≤ l.length) : ∀ t, (state l (sumP l) t).sum = 0
  | 0 => by simp [state]
  | t + 1 => by
    have hl := state_len l (sumP l) t
    have ih := state_sum h1 t
    show (turn l (sumP l) (state l (sumP l) t)).sum = 0
    have hp : pick l (state l (sumP l) t) < (adds l (state l (sumP l) t)).length := by rw [adds_len hl]; exact pick_lt h1
    have hg := List.getElem?_eq_getElem hp
    unfold turn
    rw [sum_set hg, sum_adds hl, ih, nth_get hg]
    omega
/-- Who proposes has more than nothing ahead of its payment. -/
theorem pick_pos {l : List Va} {p : List Int} (h1 : 1 ≤ l.length) (hl : p.length = l.length) (hs : 0 < (adds l p).sum) : 0 < nth (adds l p) (pick l p) := by
  apply Classical.byContradiction
  intro hn
  have : (adds l p).sum ≤ 0 := sum_le fun c hc => by
    obtain ⟨i, hi, e⟩ := List.getElem_of_mem hc
    have := bestTo_max (adds l p) l.length i (by rw [← adds_len hl]; exact hi)
    rw [nth_get (List.getElem?_eq_some_iff.2 ⟨hi, e⟩)] at this
    have hh : nth (adds l p) (pick l p) ≤ 0 := by omega
    exact Int.le_trans this hh
  omega
theorem state_low {l : List Va} (h : Rt l) : ∀ t, ∀ c ∈ state l (sumP l) t, -(sumP l) < c
  | 0 => by
    intro c hc
    have := (sm_of_rt h).1
    simp [state] at hc
    omega
  | t + 1 => by
    intro c hc
    have hl := state_len l (sumP l) t
    have ih := state_low h t
    have hsm := sm_of_rt h
    obtain ⟨i, hi, e⟩ := List.getElem_of_mem hc
    obtain ⟨d, hd, hc'⟩ := turn_get (List.getElem?_eq_some_iff.2 ⟨hi, e⟩)
    obtain ⟨j, x, f, hx, hf, hde⟩ := adds_mem (List.mem_of_getElem? hd)
    have h1 := ih f (List.mem_of_getElem? hf)
    have h2 := hsm.2.2 x (List.mem_of_getElem? hx)
    split at hc'
    · rename_i e'
      have := pick_pos h.1 hl (by rw [sum_adds hl, state_sum h.1 t]; have := hsm.1; omega)
      rw [← e', nth_get hd] at this
      omega
    · omega
/-- How often i has proposed in the first t turns. -/
def times (l : List Va) (P : Int) (i : Nat) : Nat → Nat
  | 0 => 0
  | t + 1 => times l P i t + if who l P t = i then 1 else 0
theorem state_form {l : List Va} {P : Int} {i : Nat} {x : Va} (hx : l[i]? = some x) : ∀ t, (state l P t)[i]? = some ((t : Int) * x.power - P * (times l P i t : Int))
  | 0 => by
    have hi := (List.getElem?_eq_some_iff.1 hx).1
    simp [state, times, hi]
  | t + 1 => by
    have ih := state_form (P := P) hx t
    have ha := adds_get hx ih
    have hi := (List.getElem?_eq_some_iff.1 hx).1
    show (turn l P (state l P t))[i]? = _
    have hlt : i < (turn l P (state l P t)).length := by rw [turn_len (state_len l P t)]; exact hi
    obtain ⟨d, hd, hc⟩ := turn_get (List.getElem?_eq_getElem hlt)
    rw [ha] at hd
    injection hd with hd
    rw [List.getElem?_eq_getElem hlt, hc, ← hd, times]
    have e1 : ((t + 1 : Nat) : Int) * x.power = (t : Int) * x.power + x.power := by rw [Int.natCast_add, Int.add_mul]; simp
    by_cases e : i = pick l (state l P t)
    · have e' : who l P t = i := e.symm
      rw [if_pos e, if_pos e']
      have e2 : P * ((times l P i t + 1 : Nat) : Int) = P * (times l P i t : Int) + P := by rw [Int.natCast_add, Int.mul_add]; simp
      rw [e1, e2]
      congr 1
      omega
    · have e' : ¬ who l P t = i := fun h => e h.symm
      rw [if_neg e, if_neg e', e1]
      simp only [Nat.add_zero]
      congr 1
      omega
/-- Behind as many turns as there is power each one has proposed as often as it has power, and all begins again. -/
theorem state_round {l : List Va} (h : Rt l) {n : Nat} (hn : (n : Int) = sumP l) : state l (sumP l) n = state l (sumP l) 0 ∧ ∀ i x, l[i]? = some x → (times l (sumP l) i n : Int) = x.power := by
  have hsm := sm_of_rt h
  have hP : 0 < sumP l := by have := hsm.1; omega
  have hform : ∀ i x, l[i]? = some x → (state l (sumP l) n)[i]? = some (sumP l * (x.power - (times l (sumP l) i n : Int))) := by
    intro i x hx
    rw [state_form hx n, hn, Int.mul_sub]
  have hnn : ∀ c ∈ state l (sumP l) n, 0 ≤ c := by
    intro c hc
    obtain ⟨i, hi, e⟩ := List.getElem_of_mem hc
    have hil : i < l.length := by rw [← state_len l (sumP l) n]; exact hi
    have h1 := hform i _ (List.getElem?_eq_getElem hil)
    rw [List.getElem?_eq_some_iff.2 ⟨hi, e⟩] at h1
    injection h1 with h1
    have h2 := state_low h n c hc
    apply Classical.byContradiction
    intro hneg
    have h3 : l[i].power - (times l (sumP l) i n : Int) ≤ -1 := by
      apply Classical.byContradiction
      intro hh
      have : 0 ≤ sumP l * (l[i].power - (times l (sumP l) i n : Int)) := Int.mul_nonneg (by omega) (by omega)
      omega
    have h4 := Int.mul_le_mul_of_nonneg_left h3 (show 0 ≤ sumP l by omega)
    rw [← h1] at h4
    omega
  have hz := sum_zero hnn (by rw [state_sum h.1 n]; omega)
  refine ⟨?_, fun i x hx => ?_⟩
  · have : state l (sumP l) n = List.replicate (state l (sumP l) n).length 0 := List.eq_replicate_of_mem hz
    rw [this, state_len]
    rfl
  · have h1 := hform i x hx
    have h2 := hz _ (List.mem_of_getElem? h1)
    rcases Int.mul_eq_zero.1 h2 with h3 | h3
    · omega
    · omega
theorem state_again {l : List Va} (h : Rt l) {n : Nat} (hn : (n : Int) = sumP l) : ∀ t, state l (sumP l) (n + t) = state l (sumP l) t
  | 0 => (state_round h hn).1
  | t + 1 => by
    show turn l _ (state l (sumP l) (n + t)) = _
    rw [state_again h hn t]
    rfl
theorem who_again {l : List Va} (h : Rt l) {n : Nat} (hn : (n : Int) = sumP l) (t : Nat) : who l (sumP l) (n + t) = who l (sumP l) t := by
  unfold who
  rw [state_again h hn t]
theorem ords_again {l : List Va} (h : Rt l) {n : Nat} (hn : (n : Int) = sumP l) : (ords l (n + n)).drop n = ords l n := by
  apply List.ext_getElem?
  intro i
  rw [List.getElem?_drop]
  by_cases hi : i < n
  · rw [ords_get (by omega), ords_get hi, who_again h hn]
  · rw [List.getElem?_eq_none (by rw [ords_len]; omega), List.getElem?_eq_none (by rw [ords_len]; omega)]
/-- How many of the first t keys are k. -/
def hits (k : Nat) (a : List Nat) : Nat → Nat
  | 0 => 0
  | t + 1 => hits k a t + if a[t]? = some k then 1 else 0
theorem rises_inj {l : List Va} (h : Rises l) {i j : Nat} {x y : Va} (hx : l[i]? = some x) (hy : l[j]? = some y) (e : x.key = y.key) : i = j := by
  obtain ⟨hi, rfl⟩ := List.getElem?_eq_some_iff.1 hx
  obtain ⟨hj, rfl⟩ := List.getElem?_eq_some_iff.1 hy
  have hp := List.pairwise_iff_getElem.1 h
  rcases Nat.lt_trichotomy i j with h1 | h1 | h1
  · have := hp i j hi hj h1; omega
  · exact h1
  · have := hp j i hj hi h1; omega
theorem hits_times {l : List Va} (h : Rt l) {i : Nat} {x : Va} (hx : l[i]? = some x) {n : Nat} : ∀ t, t ≤ n → hits x.key (ords l n) t = times l (sumP l) i t
  | 0, _ => rfl
  | t + 1, ht => by
    rw [hits, times, hits_times h hx t (by omega), ords_get (by omega)]
    congr 1
    have hw := who_lt h.1 (sumP l) t
    obtain ⟨y, hy⟩ : ∃ y, l[who l (sumP l) t]? = some y := ⟨_, List.getElem?_eq_getElem hw⟩
    rw [keyAt_get hy]
    by_cases e : who l (sumP l) t = i
    · rw [if_pos e, if_pos]
      rw [e] at hy
      rw [hy] at hx
      injection hx with hx
      rw [hx]
    · rw [if_neg e, if_neg]
      intro e'
      injection e' with e'
      exact e (rises_inj h.2.2.1 hy hx e')

/-! ### The strongest begins -/
def powers (l : List Va) : List Int := l.map Va.power
theorem adds_zero : ∀ l : List Va, adds l (List.replicate l.length 0) = powers l
  | [] => rfl
  | x :: l => by
    have ih := adds_zero l
    simp only [powers, List.map_cons]
    rw [List.length_cons, List.replicate_succ]
    show (0 + x.power) :: adds l (List.replicate l.length 0) = _
    rw [ih, Int.zero_add]
    rfl
theorem who_first (l : List Va) (P : Int) : who l P 0 = bestTo (powers l) l.length := by
  show bestTo (adds l (List.replicate l.length 0)) l.length = _
  rw [adds_zero]
theorem who_alone {l : List Va} (h : l.length = 1) (P : Int) (t : Nat) : who l P t = 0 := by
  have := who_lt (l := l) (by omega) P t
  omega
end Go.Proofs.Ytmmacimneaehiaa
