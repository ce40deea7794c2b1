/- slices.SortFunc by keys, at validators without power. -/
import Derived.Test.YtddkcdlioglkmaaChecked
import Derived.WalkKit
import Derived.WalkLawsBesides
import Derived.Lib.Hide
import Derived.Shelf.SlSortCmp.WholeK
import Derived.Test.YtddkcdlioglkmaaSp
import Derived.Test.YtddkcdlioglkmaaEv
namespace Go.Proofs.Ytddkcdlioglkmaa
open Go.RowKit
open Go.Sort (grow alloc_eq_grow grow_grow PermIn SortedIn SWO HoldsK flatK Holds putRow putRowK)
set_option linter.unusedVariables false
set_option linter.unusedSimpArgs false
set_option maxRecDepth 20000

def z0 (k : Nat) : Va := ⟨k, 0⟩
theorem z0_cells (k : Nat) : (z0 k).cells = encK k := rfl

set_option maxHeartbeats 1600000 in
theorem closure_any (a b : Nat) (w : World) : Calls Try.prog 27 #[.agg (encK a).toArray, .agg (encK b).toArray] w fun e w' => e = .returned (.int .i64 (cmpN a b)) ∧ ∃ q os, w' = grow (w.drewN q) os := by
  have hcon := fun W => compare_any W a b
  generalize cmpN a b = r at hcon ⊢
  unfold encK
  go_enter Try.func27, Try.ntmps27
  go_wp2_with (go_at_call 28; refine (hcon _).mono ?_; rintro e w' ⟨rfl, rfl⟩)
  go_ret
  exact ⟨rfl, 0, _, by rw [alloc_eq_grow, alloc_eq_grow, grow_grow]; rfl⟩

theorem lt_cmp (a b : Nat) : ltOf cmpN a b = decide (a < b) := by
  unfold ltOf cmpN
  by_cases h : a < b
  · simp [h]
  · by_cases h2 : b < a <;> simp [h, h2]
theorem swo_cmp : SWO (ltOf cmpN) where
  irrefl x := by rw [lt_cmp]; simp
  trans x y z h1 h2 := by rw [lt_cmp] at *; simp at *; omega
  ntrans x y z h1 h2 := by rw [lt_cmp] at *; simp at *; omega

theorem holds_of_row {w : World} {g : Nat} {ks : List Nat} (R : RowV w g (ks.map z0)) : HoldsK encK 2 w g 0 ks.toArray := by
  intro j hj
  have hj' : j < ks.length * 2 := by simpa using hj
  rw [Go.Sort.get_flatK encK 2 ks.toArray j (by simpa using hj'), Nat.zero_add]
  have hq : j / 2 < ks.length := by omega
  have hx : (ks.map z0)[j / 2]? = some (z0 ks[j / 2]) := by rw [List.getElem?_map, List.getElem?_eq_getElem hq]; rfl
  obtain ⟨h1, h2⟩ := R _ _ hx
  have e1 : (ks.toArray)[j / 2]! = ks[j / 2] := by rw [getElem!_pos _ _ (by simpa using hq)]; simp
  have e2 : j / 2 * 2 + j % 2 = j := by omega
  have hm : j % 2 < (encK ks[j / 2]).length := by show j % 2 < 2; omega
  rw [e1, getElem!_pos (encK ks[j / 2]) (j % 2) hm]
  have h3 := h1 (j % 2) _ (List.getElem?_eq_getElem hm)
  rw [e2] at h3
  have h4 := (h2 (j % 2) (by omega)).2
  rw [e2] at h4
  exact ⟨h3, h4⟩
theorem row_of_holds {w : World} {g : Nat} {d : Array Nat} (H : HoldsK encK 2 w g 0 d) : RowV w g (d.toList.map z0) := by
  intro i x hx
  rw [List.getElem?_map] at hx
  cases hk : d.toList[i]? with
  | none => rw [hk] at hx; cases hx
  | some k =>
    rw [hk] at hx
    injection hx with hx
    subst hx
    have hi : i < d.size := by simpa using (List.getElem?_eq_some_iff.1 hk).1
    have e1 : d[i]! = k := by
      rw [getElem!_pos d i hi]
      have := (List.getElem?_eq_some_iff.1 hk).2
      simpa using this
    have key : ∀ j, j < 2 → w.cell? ⟨g, i * 2 + j, none⟩ = some ((encK k)[j]!) ∧ w.frozen? ⟨g, i * 2 + j, none⟩ = false := by
      intro j hj
      have h := H (i * 2 + j) (by simp; omega)
      rw [Go.Sort.get_flatK encK 2 d (i * 2 + j) (by omega), Nat.zero_add] at h
      rw [show (i * 2 + j) / 2 = i by omega, show (i * 2 + j) % 2 = j by omega, e1] at h
      exact h
    refine ⟨fun j u hu => ?_, fun j hj => ⟨by rw [(key j hj).1]; rfl, (key j hj).2⟩⟩
    have hj : j < (encK k).length := (List.getElem?_eq_some_iff.1 hu).1
    rw [(key j hj).1, getElem!_pos (encK k) j hj]
    rw [← hu, z0_cells, List.getElem?_eq_getElem hj]

theorem chg_sort (w : World) (g n : Nat) (d : Array Nat) (os : Array Obj) : Chg (fun k => k = g) w (sortWorldK encK 2 w g 0 n d os) := by
  refine ⟨rfl, rfl, rfl, ?_, fun k hk hg => ?_⟩
  · unfold sortWorldK
    rw [Go.Sort.size_grow, Go.Sort.size_putRowK]
    exact Nat.le_add_right _ _
  · unfold sortWorldK
    rw [Go.Sort.heap_grow_old _ _ (by rw [Go.Sort.size_putRowK]; exact hk)]
    unfold putRowK putRow Go.Sort.mapBlock
    rw [Array.getElem?_modify, if_neg (fun h => hg h.symm)]
    rfl

set_option maxHeartbeats 1600000 in
theorem sort_any (w : World) (g cap : Nat) (ks : List Nat) (R : RowV w g (ks.map z0)) (hg : g < w.heap.size) (hl : ks.length ≤ 1000) :
    Calls Try.prog 26 #[.slice (some ⟨g, 0, none⟩) ks.length cap, .func (.func 27) #[] #[]] w fun e w' => e = .returned (.tuple #[]) ∧ Chg (fun k => k = g) w w' ∧ ∃ ss : List Nat, ss.Perm ks ∧ ss.Pairwise (· ≤ ·) ∧ RowV w' g (ss.map z0) := by
  have eg : ∀ args w, (callFunc 27 args).run Try.prog w = .ok (.enter 27 args) w := enters_of Try.func27 (by kernel_rfl) rfl
  have hcmp : CmpLays Try.prog 27 #[] encK 2 cmpN g 0 ks.toArray.size w := fun _ _ _ _ x y => closure_any x y _
  have H := holds_of_row R
  have hcon := AnyQ.slices_SortFunc sortL 2 Try.isAgg26 Try.sizeOf26 encK (fun _ => rfl) (fun x v hv => by simp [encK] at hv; rcases hv with rfl | rfl <;> rfl) cmpN swo_cmp 27 #[] g 0 cap ks.toArray w eg hcmp H hg (by simp; omega)
  change Calls Try.prog 26 _ _ _ at hcon
  rw [List.size_toArray] at hcon
  refine hcon.mono ?_
  rintro e w' ⟨rfl, d', n, os, ⟨hs, _, hp⟩, hss, rfl⟩
  have hs' : d'.size = ks.length := by simpa using hs
  have hSW : SWK encK 2 w g 0 d' (sortWorldK encK 2 w g 0 n d' os) := ⟨n, os, rfl⟩
  have H' := hSW.holds hg H (by simpa using hs')
  refine ⟨rfl, chg_sort _ _ _ _ _, d'.toList, ?_, ?_, row_of_holds H'⟩
  · have e1 : d'.extract 0 ks.length = d' := by rw [← hs']; simp
    have e2 : ks.toArray.extract 0 ks.length = ks.toArray := by simp
    rw [e1, e2] at hp
    exact hp
  · rw [List.pairwise_iff_getElem]
    intro i j hi hj hij
    have h := hss i j (Nat.zero_le _) hij (by rw [← hs']; simpa using hj)
    rw [lt_cmp] at h
    simp only [decide_eq_false_iff_not, Nat.not_lt] at h
    rw [getElem!_pos d' i (by simpa using hi), getElem!_pos d' j (by simpa using hj)] at h
    simpa using h
end Go.Proofs.Ytddkcdlioglkmaa
