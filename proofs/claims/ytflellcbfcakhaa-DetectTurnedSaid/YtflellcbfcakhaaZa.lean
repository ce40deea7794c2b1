/- slices.Sort at []uint64, short lists of distinct keys: the row, what a piece may do to it, and cmp.Less. -/
import Derived.Test.YtflellcbfcakhaaChecked
import Derived.WalkKit
import Derived.WalkLawsBesides
import Derived.Lib.Hide
import Derived.CellFam
import Derived.Test.YtflellcbfcakhaaDn
namespace Go.Proofs.Ytflellcbfcakhaa
open Go.RowKit
set_option linter.unusedVariables false
set_option linter.unusedSimpArgs false
set_option maxRecDepth 20000

/-- The row f' is the row f with the places from a to b in some order. -/
def PermIn (a b : Nat) (f f' : Nat → Int) : Prop := ∃ s s' : Nat → Nat, (∀ i, s' (s i) = i) ∧ (∀ i, s (s' i) = i) ∧ (∀ i, ¬ (a ≤ i ∧ i < b) → s i = i) ∧ ∀ i, f' i = f (s i)
section
variable {a b a' b' n : Nat} {f f' f1 f2 : Nat → Int}
theorem PermIn.refl (a b : Nat) (f : Nat → Int) : PermIn a b f f := ⟨id, id, fun _ => rfl, fun _ => rfl, fun _ _ => rfl, fun _ => rfl⟩
theorem PermIn.trans (h : PermIn a b f f1) (k : PermIn a b f1 f2) : PermIn a b f f2 := by
  obtain ⟨s, s', h1, h2, h3, h4⟩ := h
  obtain ⟨t, t', k1, k2, k3, k4⟩ := k
  refine ⟨fun i => s (t i), fun i => t' (s' i), fun i => by simp only [h1, k1], fun i => by simp only [k2, h2], fun i hi => ?_, fun i => by simp only [k4, h4]⟩
  show s (t i) = i
  rw [k3 i hi, h3 i hi]
theorem PermIn.mono (h : PermIn a b f f') (ha : a' ≤ a) (hb : b ≤ b') : PermIn a' b' f f' := by
  obtain ⟨s, s', h1, h2, h3, h4⟩ := h
  exact ⟨s, s', h1, h2, fun i hi => h3 i (fun e => hi ⟨by omega, by omega⟩), h4⟩
theorem PermIn.away (h : PermIn a b f f') {i : Nat} (hi : ¬ (a ≤ i ∧ i < b)) : f' i = f i := by
  obtain ⟨s, s', h1, h2, h3, h4⟩ := h
  rw [h4, h3 i hi]
theorem PermIn.mem (h : PermIn a b f f') {i : Nat} (hi : a ≤ i ∧ i < b) : ∃ j, (a ≤ j ∧ j < b) ∧ f' i = f j := by
  obtain ⟨s, s', h1, h2, h3, h4⟩ := h
  refine ⟨s i, ?_, h4 i⟩
  by_cases e : a ≤ s i ∧ s i < b
  · exact e
  · have e1 := h3 _ e
    have e2 : s i = i := by rw [← h1 (s i), e1, h1]
    rw [e2] at e
    exact absurd hi e
theorem PermIn.back (h : PermIn a b f f') {j : Nat} (hj : a ≤ j ∧ j < b) : ∃ i, (a ≤ i ∧ i < b) ∧ f' i = f j := by
  obtain ⟨s, s', h1, h2, h3, h4⟩ := h
  refine ⟨s' j, ?_, by rw [h4, h2]⟩
  by_cases e : a ≤ s' j ∧ s' j < b
  · exact e
  · have e1 := h3 _ e
    rw [h2] at e1
    rw [← e1] at e
    exact absurd hj e
/-- The first n keys are distinct. -/
def Inj (n : Nat) (f : Nat → Int) : Prop := ∀ i j, i < n → j < n → f i = f j → i = j
theorem PermIn.inj (h : PermIn a b f f') (hb : b ≤ n) (hi : Inj n f) : Inj n f' := by
  obtain ⟨s, s', h1, h2, h3, h4⟩ := h
  have hs : ∀ i, i < n → s i < n := fun i hi => by
    by_cases e : a ≤ s i ∧ s i < b
    · omega
    · have e1 := h3 _ e
      have e2 : s i = i := by rw [← h1 (s i), e1, h1]
      omega
  intro i j hin hjn e
  rw [h4, h4] at e
  have := hi _ _ (hs i hin) (hs j hjn) e
  rw [← h1 i, this, h1]
/-- Two places' keys, changed for one another. -/
def swf (f : Nat → Int) (i j : Nat) : Nat → Int := fun x => if x = i then f j else if x = j then f i else f x
theorem PermIn.swf {i j : Nat} (hi : a ≤ i ∧ i < b) (hj : a ≤ j ∧ j < b) : PermIn a b f (swf f i j) := by
  refine ⟨fun x => if x = i then j else if x = j then i else x, fun x => if x = i then j else if x = j then i else x, ?_, ?_, ?_, ?_⟩
  · intro x; grind
  · intro x; grind
  · intro x hx; grind
  · intro x; unfold Ytflellcbfcakhaa.swf; grind
/-- The keys from a to b rise. -/
def Srt (a b : Nat) (f : Nat → Int) : Prop := ∀ p q, a ≤ p → p < q → q < b → f p ≤ f q
end
/-- Block g has cap cells; from off on lie n keys, f. -/
def Rk (w : World) (g off cap n : Nat) (f : Nat → Int) : Prop := ∃ cs, Hb w g 43 cs ∧ cs.size = cap ∧ ∀ i, i < n → cs[off + i]? = some (.int .u64 (f i))
section
variable {w w' : World} {g off cap n : Nat} {f f' : Nat → Int}
theorem Rk.cell (h : Rk w g off cap n f) : ∀ t, t < n → w.cell? ⟨g, off + t, none⟩ = some (.int .u64 (f t)) := by
  obtain ⟨cs, hb, _, hc⟩ := h
  intro t ht
  rw [hb.cell]
  exact hc t ht
theorem Rk.frozen (h : Rk w g off cap n f) : ∀ t, t < n → w.frozen? ⟨g, off + t, none⟩ = false := by
  obtain ⟨cs, hb, _, hc⟩ := h
  intro t _
  exact hb.frozen _
theorem Rk.drewN (h : Rk w g off cap n f) (q : Nat) : Rk (w.drewN q) g off cap n f := h
theorem Rk.chg {S : Nat → Prop} (h : Rk w g off cap n f) (k : Chg S w w') (hg : ¬ S g) : Rk w' g off cap n f := by
  obtain ⟨cs, hb, hz, hc⟩ := h
  exact ⟨cs, hb.chg k hg, hz, hc⟩
theorem Rk.alloc (h : Rk w g off cap n f) (o : Obj) : Rk (w.alloc o) g off cap n f := h.chg ((Chg.refl Non w).alloc o) (fun e => e)
theorem Rk.far (h : Rk w g off cap n f) {p : Addr} (hp : g ≠ p.block) (u : Value) : Rk (w.setCell p u) g off cap n f := by
  obtain ⟨cs, hb, hz, hc⟩ := h
  exact ⟨cs, hb.far hp u, hz, hc⟩
theorem Rk.lt (h : Rk w g off cap n f) : g < w.heap.size := by
  obtain ⟨cs, hb, _⟩ := h
  exact hb.lt
theorem Rk.set (h : Rk w g off cap n f) (i : Nat) (v : Int) : Rk (w.setCell ⟨g, off + i, none⟩ (.int .u64 v)) g off cap n (fun x => if x = i then v else f x) := by
  obtain ⟨cs, hb, hz, hc⟩ := h
  refine ⟨_, hb.set (off + i) _, by simpa using hz, fun x hx => ?_⟩
  show _ = some (Value.int .u64 (if x = i then v else f x))
  by_cases e : x = i
  · subst e
    rw [if_pos rfl, Array.getElem?_setIfInBounds_self]
    have := (Array.getElem?_eq_some_iff.1 (hc x hx)).1
    rw [if_pos this]
  · rw [if_neg e, Array.getElem?_setIfInBounds_ne (by omega)]
    exact hc x hx
theorem Rk.swap (h : Rk w g off cap n f) (q i j : Nat) : Rk (((w.drewN q).setCell ⟨g, off + i, none⟩ (.int .u64 (f j))).setCell ⟨g, off + j, none⟩ (.int .u64 (f i))) g off cap n (swf f i j) := by
  have h1 := ((h.drewN q).set i (f j)).set j (f i)
  have e : (fun x => if x = j then f i else if x = i then f j else f x) = swf f i j := by
    funext x
    unfold swf
    grind
  rw [← e]
  exact h1
theorem Rk.swapC (w : World) (g off q i j : Nat) (u v : Value) : Chg (· = g) w (((w.drewN q).setCell ⟨g, off + i, none⟩ u).setCell ⟨g, off + j, none⟩ v) :=
  (((Chg.refl (· = g) w).drewN q).setCell (p := ⟨g, off + i, none⟩) (.inl rfl) u).setCell (p := ⟨g, off + j, none⟩) (.inl rfl) v
end
set_option maxHeartbeats 1000000 in
theorem isNaN_any (x : Int) (w : World) : Calls Try.prog 45 #[.int .u64 x] w fun e w' => e = .returned (.bool false) ∧ w' = w := by
  go_enter Try.func45, Try.ntmps45
  go_wp2
  go_ret
  exact ⟨by simp, rfl⟩
set_option maxHeartbeats 1000000 in
theorem less_any (x y : Int) (w : World) : Calls Try.prog 35 #[.int .u64 x, .int .u64 y] w fun e w' => e = .returned (.bool (decide (x < y))) ∧ w' = w := by
  go_enter Try.func35, Try.ntmps35
  go_wp2_with (go_at_call 45; refine (isNaN_any _ _).mono ?_; rintro e w' ⟨rfl, rfl⟩)
  go_ret
  exact ⟨rfl, rfl⟩
end Go.Proofs.Ytflellcbfcakhaa
