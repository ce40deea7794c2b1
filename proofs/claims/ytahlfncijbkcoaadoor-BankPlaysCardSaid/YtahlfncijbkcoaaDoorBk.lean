/- Who has how much of what, in words: amounts by key; a list of them; supplies. It knows no program. -/
namespace Go.Proofs.YtahlfncijbkcoaaDoor
set_option linter.unusedVariables false
set_option linter.unusedSimpArgs false
set_option linter.unusedSectionVars false

section
variable {κ δ : Type} [DecidableEq κ] [DecidableEq δ]
/-- The list l names each key that has something, once, with what it has. -/
structure Lsg (F : κ → Nat) (l : List (κ × Nat)) : Prop where
  nodup : l.Pairwise (fun x y => x.1 ≠ y.1)
  mem : ∀ k n, (k, n) ∈ l ↔ F k = n ∧ 0 < n
/-- All that there is of d. -/
def ksup (den : κ → δ) (l : List (κ × Nat)) (d : δ) : Nat := (l.map (fun x => if den x.1 = d then x.2 else 0)).sum
/-- Another amount at one key. -/
def kupd (F : κ → Nat) (k : κ) (n : Nat) : κ → Nat := fun x => if x = k then n else F x
/-- The list with another amount at one key. -/
def kput (l : List (κ × Nat)) (k : κ) (n : Nat) : List (κ × Nat) := l.filter (fun x => decide (x.1 ≠ k)) ++ (if 0 < n then [(k, n)] else [])

theorem Lsg.none : Lsg (fun _ : κ => 0) [] := ⟨List.Pairwise.nil, fun k n => ⟨fun h => (by cases h), fun h => by omega⟩⟩
theorem Lsg.nd {F : κ → Nat} {l : List (κ × Nat)} (h : Lsg F l) : l.Nodup := List.nodup_iff_pairwise_ne.2 (h.nodup.imp fun {a b} e1 e2 => e1 (by rw [e2]))
theorem Lsg.perm {F : κ → Nat} {l m : List (κ × Nat)} (h : Lsg F l) (k : Lsg F m) : l.Perm m :=
  (List.perm_ext_iff_of_nodup h.nd k.nd).2 fun ⟨a, n⟩ => by rw [h.mem, k.mem]
theorem ksup_perm (den : κ → δ) {l m : List (κ × Nat)} (h : l.Perm m) (d : δ) : ksup den l d = ksup den m d := (h.map _).sum_nat
theorem Lsg.sup_eq (den : κ → δ) {F : κ → Nat} {l m : List (κ × Nat)} (h : Lsg F l) (k : Lsg F m) (d : δ) : ksup den l d = ksup den m d := ksup_perm den (h.perm k) d
theorem Lsg.put {F : κ → Nat} {l : List (κ × Nat)} (h : Lsg F l) (k : κ) (n : Nat) : Lsg (kupd F k n) (kput l k n) := by
  constructor
  · unfold YtahlfncijbkcoaaDoor.kput
    rw [List.pairwise_append]
    refine ⟨h.nodup.filter _, ?_, ?_⟩
    · split <;> simp
    · intro a ha b hb
      rw [List.mem_filter] at ha
      split at hb
      · rw [List.mem_singleton] at hb
        subst hb
        simpa using ha.2
      · cases hb
  · intro x m
    unfold YtahlfncijbkcoaaDoor.kput kupd
    rw [List.mem_append, List.mem_filter, h.mem]
    by_cases e : x = k
    · subst e
      rw [if_pos rfl]
      by_cases h0 : 0 < n
      · rw [if_pos h0]
        simp
        constructor
        · rintro rfl; exact ⟨rfl, h0⟩
        · rintro ⟨rfl, _⟩; rfl
      · rw [if_neg h0]
        simp
        omega
    · rw [if_neg e]
      by_cases h0 : 0 < n
      · rw [if_pos h0]; simp [e]
      · rw [if_neg h0]; simp [e]
theorem ksup_append (den : κ → δ) (l m : List (κ × Nat)) (d : δ) : ksup den (l ++ m) d = ksup den l d + ksup den m d := by simp [ksup]
theorem ksup_cons (den : κ → δ) (x : κ × Nat) (l : List (κ × Nat)) (d : δ) : ksup den (x :: l) d = (if den x.1 = d then x.2 else 0) + ksup den l d := by simp [ksup]
theorem ksup_without (den : κ → δ) (d : δ) (k : κ) : ∀ (l : List (κ × Nat)), l.Pairwise (fun x y => x.1 ≠ y.1) → ∀ n, (k, n) ∈ l → ksup den (l.filter (fun x => decide (x.1 ≠ k))) d + (if den k = d then n else 0) = ksup den l d
  | [], _, n, h => by cases h
  | x :: l, hp, n, h => by
    rw [List.pairwise_cons] at hp
    rw [ksup_cons]
    rcases List.mem_cons.1 h with rfl | h
    · have e : (((k, n) :: l).filter (fun x => decide (x.1 ≠ k))) = l := by
        rw [List.filter_cons_of_neg (by simp)]
        exact List.filter_eq_self.2 fun a ha => by simpa using fun e => hp.1 a ha e.symm
      rw [e]
      dsimp only
      omega
    · have hx : x.1 ≠ k := fun e => by
        have := hp.1 _ h
        exact this e
      rw [List.filter_cons_of_pos (by simpa using hx), ksup_cons]
      have := ksup_without den d k l hp.2 n h
      omega
theorem Lsg.sup_drop (den : κ → δ) {F : κ → Nat} {l : List (κ × Nat)} (h : Lsg F l) (k : κ) (d : δ) : ksup den (l.filter (fun x => decide (x.1 ≠ k))) d + (if den k = d then F k else 0) = ksup den l d := by
  by_cases h0 : 0 < F k
  · exact ksup_without den d k l h.nodup _ ((h.mem k (F k)).2 ⟨rfl, h0⟩)
  · have e : l.filter (fun x => decide (x.1 ≠ k)) = l := List.filter_eq_self.2 fun a ha => by
      obtain ⟨a, n⟩ := a
      have := (h.mem a n).1 ha
      simp only [decide_eq_true_eq]
      rintro rfl
      omega
    have e0 : F k = 0 := by omega
    rw [e, e0, ite_self]
    omega
/-- What a change of one amount does to the supply. -/
theorem Lsg.sup_put (den : κ → δ) {F : κ → Nat} {l : List (κ × Nat)} (h : Lsg F l) (k : κ) (n : Nat) (d : δ) : ksup den (YtahlfncijbkcoaaDoor.kput l k n) d + (if den k = d then F k else 0) = ksup den l d + (if den k = d then n else 0) := by
  have := h.sup_drop den k d
  unfold YtahlfncijbkcoaaDoor.kput
  rw [ksup_append]
  by_cases h0 : 0 < n
  · rw [if_pos h0, ksup_cons]
    have e : ksup den ([] : List (κ × Nat)) d = 0 := rfl
    rw [e]
    dsimp only
    omega
  · rw [if_neg h0]
    have e : ksup den ([] : List (κ × Nat)) d = 0 := rfl
    have e0 : n = 0 := by omega
    subst e0
    rw [e, ite_self]
    omega
theorem Lsg.le_sup (den : κ → δ) {F : κ → Nat} {l : List (κ × Nat)} (h : Lsg F l) (k : κ) : F k ≤ ksup den l (den k) := by
  have := h.sup_drop den k (den k)
  rw [if_pos rfl] at this
  omega
/-- What is found for a key in a list, the first of it. -/
def klook (k : κ) : List (κ × Nat) → Nat
  | [] => 0
  | x :: l => if x.1 = k then x.2 else klook k l
theorem klook_mem (k : κ) : ∀ l : List (κ × Nat), (klook k l = 0 ∧ ∀ n, (k, n) ∈ l → n = 0) ∨ (k, klook k l) ∈ l
  | [] => .inl ⟨rfl, fun n h => by cases h⟩
  | x :: l => by
    unfold klook
    by_cases e : x.1 = k
    · rw [if_pos e]
      subst e
      exact .inr (List.mem_cons_self ..)
    · rw [if_neg e]
      rcases klook_mem k l with ⟨h1, h2⟩ | h
      · refine .inl ⟨h1, fun n h => ?_⟩
        rcases List.mem_cons.1 h with rfl | h
        · exact absurd rfl e
        · exact h2 n h
      · exact .inr (List.mem_cons_of_mem _ h)
theorem Lsg.look {F : κ → Nat} {l : List (κ × Nat)} (h : Lsg F l) (k : κ) : YtahlfncijbkcoaaDoor.klook k l = F k := by
  rcases klook_mem k l with ⟨h1, h2⟩ | h1
  · rw [h1]
    by_cases h0 : 0 < F k
    · exact (h2 _ ((h.mem k (F k)).2 ⟨rfl, h0⟩)).symm
    · omega
  · exact ((h.mem _ _).1 h1).1.symm
end

section
variable {κ : Type} [DecidableEq κ] {F : κ → Nat} {a b : κ} {n k : Nat}
theorem kupd_same : kupd F a (F a) = F := by funext x; unfold kupd; grind
theorem kupd_upd : kupd (kupd F a n) a k = kupd F a k := by funext x; unfold kupd; grind
/-- From one to another. -/
def kmov (F : κ → Nat) (a b : κ) (n : Nat) : κ → Nat := kupd (kupd F a (F a - n)) b (kupd F a (F a - n) b + n)
theorem kmov_back (h : n ≤ F a) : kmov (kmov F a b n) b a n = F := by funext x; unfold kmov kupd; grind
theorem kmov_can (h : n ≤ F a) : n ≤ kmov F a b n b := by unfold kmov kupd; grind
theorem mint_back : kupd (kupd F a (F a + n)) a (kupd F a (F a + n) a - n) = F := by funext x; unfold kupd; grind
theorem kmov_parts (h : n ≤ F a) (hk : k ≤ n) : kmov (kmov F a b k) a b (n - k) = kmov F a b n := by funext x; unfold kmov kupd; grind
theorem kmov_parts_can (h : n ≤ F a) (hk : k ≤ n) : n - k ≤ kmov F a b k a := by unfold kmov kupd; grind
theorem mint_parts (hk : k ≤ n) : kupd (kupd F a (F a + k)) a (kupd F a (F a + k) a + (n - k)) = kupd F a (F a + n) := by funext x; unfold kupd; grind
theorem burn_parts (h : n ≤ F a) (hk : k ≤ n) : kupd (kupd F a (F a - k)) a (kupd F a (F a - k) a - (n - k)) = kupd F a (F a - n) := by funext x; unfold kupd; grind
theorem kmov_sup {δ : Type} [DecidableEq δ] (den : κ → δ) {l m : List (κ × Nat)} (h : Lsg F l) (hm : Lsg (kmov F a b n) m) (hn : n ≤ F a) (hd : den a = den b) (d : δ) : ksup den m d = ksup den l d := by
  have h1 := h.put a (F a - n)
  have h2 := h1.put b (kupd F a (F a - n) b + n)
  rw [hm.sup_eq den h2 d]
  have e1 := h.sup_put den a (F a - n) d
  have e2 := h1.sup_put den b (kupd F a (F a - n) b + n) d
  rw [hd] at e1
  split at e1 <;> simp_all <;> omega
end
end Go.Proofs.YtahlfncijbkcoaaDoor
