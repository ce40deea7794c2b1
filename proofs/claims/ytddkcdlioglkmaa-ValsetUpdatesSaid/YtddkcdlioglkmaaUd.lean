/- Package valset: Update. -/
import Derived.Test.YtddkcdlioglkmaaChecked
import Derived.WalkKit
import Derived.WalkLawsBesides
import Derived.Lib.Hide
import Derived.Deep.RegionHeld3
import Derived.Test.YtddkcdlioglkmaaUp
namespace Go.Proofs.Ytddkcdlioglkmaa
open Go.RowKit
set_option linter.unusedVariables false
set_option linter.unusedSimpArgs false
set_option maxRecDepth 20000

/-! ### Rows of powers by keys -/
def tab (rs : List Nat) (f : Nat → Int) : List Va := rs.map fun k => ⟨k, f k⟩
theorem tab_get {rs : List Nat} {f : Nat → Int} {j k : Nat} (h : rs[j]? = some k) : (tab rs f)[j]? = some ⟨k, f k⟩ := by
  unfold tab; rw [List.getElem?_map, h]; rfl
theorem tab_keys (rs : List Nat) (f : Nat → Int) : (tab rs f).length = rs.length := by unfold tab; rw [List.length_map]
theorem nodup_get {rs : List Nat} (hr : rs.Pairwise (· < ·)) {i j k : Nat} (hi : rs[i]? = some k) (hj : rs[j]? = some k) : i = j := by
  obtain ⟨hil, rfl⟩ := List.getElem?_eq_some_iff.1 hi
  obtain ⟨hjl, e⟩ := List.getElem?_eq_some_iff.1 hj
  rw [List.pairwise_iff_getElem] at hr
  rcases Nat.lt_trichotomy i j with h | h | h
  · have := hr i j hil hjl h; omega
  · exact h
  · have := hr j i hjl hil h; omega
theorem tab_set {rs : List Nat} (hr : rs.Pairwise (· < ·)) {f : Nat → Int} {j k : Nat} (h : rs[j]? = some k) (p : Int) : (tab rs f).set j ⟨k, p⟩ = tab rs (upd f k p) := by
  apply List.ext_getElem?
  intro i
  by_cases e : i = j
  · subst e
    rw [List.getElem?_set_self (by rw [tab_keys]; exact (List.getElem?_eq_some_iff.1 h).1), tab_get h, upd_same]
  · rw [List.getElem?_set_ne (Ne.symm e)]
    cases hi : rs[i]? with
    | none => unfold tab; rw [List.getElem?_map, List.getElem?_map, hi]; rfl
    | some k' =>
      rw [tab_get hi, tab_get hi, upd_other]
      rintro rfl
      exact e (nodup_get hr hi h)
theorem tab_zero (rs : List Nat) : rs.map z0 = tab rs fun _ => 0 := rfl
theorem pw_snoc {a : List Va} {x : Va} (h : ∀ y ∈ a, y.key ≠ x.key) : pw (a ++ [x]) = upd (pw a) x.key x.power := by
  funext j
  unfold upd
  induction a with
  | nil =>
    simp only [List.nil_append, pw]
    by_cases e : x.key = j
    · rw [if_pos e, if_pos e.symm]
    · rw [if_neg e, if_neg (fun h => e h.symm)]
  | cons y a ih =>
    rw [List.cons_append, pw, pw, ih (fun z hz => h z (by simp [hz]))]
    by_cases e : y.key = j
    · rw [if_pos e, if_pos e, if_neg (fun h' => h y (by simp) (e.trans h'))]
    · rw [if_neg e, if_neg e]
theorem pw_take {l : List Va} (hr : Rises l) {k : Nat} {x : Va} (hx : l[k]? = some x) : pw (l.take (k + 1)) = upd (pw (l.take k)) x.key x.power := by
  have h2 := rises_take hr (k + 1)
  rw [take_next hx] at h2 ⊢
  refine pw_snoc fun y hy => ?_
  have := (List.pairwise_append.1 h2).2.2 y hy x (by simp)
  omega
theorem lastP_prop {P : Int → Prop} {v : Int} {l : List Va} (hv : P v) (h : ∀ c ∈ l, P c.power) (k : Nat) : P (lastP v l k) := by
  induction l generalizing v with
  | nil => exact hv
  | cons c l ih =>
    rw [lastP]
    refine ih ?_ (fun d hd => h d (by simp [hd]))
    split
    · exact h c (by simp)
    · exact hv
theorem lastP_not {v : Int} {l : List Va} {k : Nat} (h : ∀ c ∈ l, c.key ≠ k) : lastP v l k = v := by
  induction l generalizing v with
  | nil => rfl
  | cons c l ih => rw [lastP, if_neg (h c (by simp)), ih (fun d hd => h d (by simp [hd]))]
theorem pw_prop {P : Int → Prop} {l : List Va} (h0 : P 0) (h : ∀ c ∈ l, P c.power) (k : Nat) : P (pw l k) := by
  induction l with
  | nil => exact h0
  | cons c l ih =>
    rw [pw]
    split
    · exact h c (by simp)
    · exact ih (fun d hd => h d (by simp [hd]))
theorem live_nf {rs : List Nat} (hr : rs.Pairwise (· < ·)) {f : Nat → Int} (h0 : ∀ k, 0 ≤ f k) (hs : ∀ k, k ∉ rs → f k = 0) : Nf (live (tab rs f)) f := by
  have hrise : Rises (tab rs f) := by
    unfold Rises tab
    rw [List.pairwise_map]
    exact hr
  have hri : Rises (live (tab rs f)) := List.Pairwise.filter _ hrise
  refine ⟨hri, fun x hx => ?_, fun k => ?_⟩
  · have := (List.mem_filter.1 hx).2
    simp at this
    omega
  · by_cases hk : k ∈ rs
    · have hm : (⟨k, f k⟩ : Va) ∈ tab rs f := by unfold tab; rw [List.mem_map]; exact ⟨k, hk, rfl⟩
      by_cases hp : 0 < f k
      · have hl : (⟨k, f k⟩ : Va) ∈ live (tab rs f) := List.mem_filter.2 ⟨hm, by simpa using hp⟩
        exact pw_mem hri hl
      · have hz : f k = 0 := by have := h0 k; omega
        rw [hz]
        refine pw_not fun x hx e => ?_
        obtain ⟨h1, h2⟩ := List.mem_filter.1 hx
        unfold tab at h1
        rw [List.mem_map] at h1
        obtain ⟨k', _, rfl⟩ := h1
        simp at h2 e
        subst e
        omega
    · rw [hs k hk]
      refine pw_not fun x hx e => ?_
      obtain ⟨h1, _⟩ := List.mem_filter.1 hx
      unfold tab at h1
      rw [List.mem_map] at h1
      obtain ⟨k', hk', rfl⟩ := h1
      exact hk (e ▸ hk')

/-- What Update leaves. -/
def Upd (w : World) (l ch : List Va) (e : Ending) (w' : World) : Prop := Chg Non w w' ∧
  ((¬ Rt l ∧ e = .returned (.tuple #[.slice none 0 0, .int .i64 71])) ∨
   (Rt l ∧ ∃ x, runC (pw l) ch = .error x ∧ (x = 72 ∨ x = 73) ∧ e = .returned (.tuple #[.slice none 0 0, .int .i64 x])) ∨
   (Rt l ∧ ∃ f r, runC (pw l) ch = .ok f ∧ Nf r f ∧ (∀ x ∈ r, x.Ok) ∧
     ((¬ Fits r ∧ e = .returned (.tuple #[.slice none 0 0, .int .i64 72])) ∨ (Fits r ∧ ¬ Rt r ∧ e = .returned (.tuple #[.slice none 0 0, .int .i64 71])) ∨
      (Rt r ∧ ∃ A c, e = .returned (.tuple #[.slice A r.length c, .int .i64 0]) ∧ LstM w' A r Va.cells 2))))

end Go.Proofs.Ytddkcdlioglkmaa
