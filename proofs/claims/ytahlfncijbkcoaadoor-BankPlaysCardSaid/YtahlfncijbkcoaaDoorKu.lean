/- slices.SortFunc at entries, by their keys. -/
import Derived.Test.YtahlfncijbkcoaaDoorChecked
import Derived.WalkKit
import Derived.WalkLawsBesides
import Derived.Lib.Hide
import Derived.Shelf.SlSortCmp.WholeK
import Derived.Test.YtahlfncijbkcoaaDoorSp
import Derived.Test.YtahlfncijbkcoaaDoorKt
namespace Go.Proofs.YtahlfncijbkcoaaDoor
open Go.RowKit
open Go.Sort (grow alloc_eq_grow grow_grow PermIn SortedIn SWO HoldsK flatK Holds putRow putRowK)
set_option linter.unusedVariables false
set_option linter.unusedSimpArgs false
set_option maxRecDepth 20000

/-- Which of two keys comes first. -/
def cmpB (a b : ByteArray) : Int := if lessB a b = true then -1 else if lessB b a = true then 1 else 0
def cmpE (x y : En) : Int := cmpB x.key y.key
set_option maxHeartbeats 800000 in
theorem isNaN_any (w : World) (a : ByteArray) : Calls Tryd.prog 41 #[.string a] w fun e w' => e = .returned (.bool false) ∧ w' = w := by
  go_enter Tryd.func41, Tryd.ntmps41
  go_wp2
  go_ret
  simp
set_option maxHeartbeats 1600000 in
theorem compare_any (w : World) (a b : ByteArray) : Calls Tryd.prog 28 #[.string a, .string b] w fun e w' => e = .returned (.int .i64 (cmpB a b)) ∧ w' = w := by
  by_cases h1 : lessB a b = true
  · have h1' : Op.bytesLess a.toList b.toList = true := h1
    have e : cmpB a b = -1 := if_pos h1
    rw [e]
    clear e h1
    go_enter Tryd.func28, Tryd.ntmps28
    go_wp2_with (go_at_call 41; refine (isNaN_any _ _).mono ?_; rintro e w' ⟨rfl, rfl⟩)
    go_ret
    exact ⟨rfl, rfl⟩
  · have h1f : lessB a b = false := by simpa using h1
    have h1' : Op.bytesLess a.toList b.toList = false := h1f
    by_cases h2 : lessB b a = true
    · have h2' : (a.toList == b.toList) = false := by
        rw [beq_eq_false_iff_ne]
        intro e
        have e2 : a = b := by
          rw [ByteArray.toList_eq, ByteArray.toList_eq] at e
          exact ba_eq e
        rw [e2, lessB_irrefl] at h2
        cases h2
      have e : cmpB a b = 1 := by unfold cmpB; rw [if_neg h1, if_pos h2]
      rw [e]
      clear e h1 h2 h1f
      go_enter Tryd.func28, Tryd.ntmps28
      go_wp2_with (go_at_call 41; refine (isNaN_any _ _).mono ?_; rintro e w' ⟨rfl, rfl⟩)
      go_ret
      exact ⟨rfl, rfl⟩
    · have h2f : lessB b a = false := by simpa using h2
      have h2' : (a.toList == b.toList) = true := by
        rw [lessB_tri h1f h2f]
        simp
      have e : cmpB a b = 0 := by unfold cmpB; rw [if_neg h1, if_neg h2]
      rw [e]
      clear e h1 h2 h1f h2f
      go_enter Tryd.func28, Tryd.ntmps28
      go_wp2_with (go_at_call 41; refine (isNaN_any _ _).mono ?_; rintro e w' ⟨rfl, rfl⟩)
      go_ret
      exact ⟨rfl, rfl⟩
set_option maxHeartbeats 1600000 in
theorem closure_any (x y : En) (w : World) : Calls Tryd.prog 27 #[.agg x.cells.toArray, .agg y.cells.toArray] w fun e w' => e = .returned (.int .i64 (cmpE x y)) ∧ ∃ q os, w' = grow (w.drewN q) os := by
  have hcon := fun W => compare_any W x.key y.key
  unfold cmpE
  generalize cmpB x.key y.key = r at hcon ⊢
  unfold En.cells
  go_enter Tryd.func27, Tryd.ntmps27
  go_wp2_with (go_at_call 28; refine (hcon _).mono ?_; rintro e w' ⟨rfl, rfl⟩)
  go_ret
  exact ⟨rfl, 0, _, by rw [alloc_eq_grow, alloc_eq_grow, grow_grow]; rfl⟩
theorem lt_cmp (x y : En) : ltOf cmpE x y = lessB x.key y.key := by
  unfold ltOf cmpE cmpB
  by_cases h : lessB x.key y.key = true
  · rw [if_pos h, h]; rfl
  · have h' : lessB x.key y.key = false := by simpa using h
    rw [if_neg h, h']
    split <;> rfl
theorem swo_cmp : SWO (ltOf cmpE) where
  irrefl x := by rw [lt_cmp]; exact lessB_irrefl _
  trans x y z h1 h2 := by rw [lt_cmp] at *; exact lessB_trans h1 h2
  ntrans x y z h1 h2 := by rw [lt_cmp] at *; exact lessB_ntrans h1 h2
theorem holds_of_row {w : World} {g : Nat} {es : List En} (R : ∀ i x, es[i]? = some x → w.rangeAt g (i * 2) x.cells ∧ ∀ j, w.frozen? ⟨g, j, none⟩ = false) : HoldsK En.cells 2 w g 0 es.toArray := by
  intro j hj
  have hj' : j < es.length * 2 := by simpa using hj
  rw [Go.Sort.get_flatK En.cells 2 es.toArray j (by simpa using hj'), Nat.zero_add]
  have hq : j / 2 < es.length := by omega
  obtain ⟨h1, h2⟩ := R _ _ (List.getElem?_eq_getElem hq)
  have e1 : (es.toArray)[j / 2]! = es[j / 2] := by rw [getElem!_pos _ _ (by simpa using hq)]; simp
  have e2 : j / 2 * 2 + j % 2 = j := by omega
  have hm : j % 2 < (En.cells es[j / 2]).length := by show j % 2 < 2; omega
  rw [e1, getElem!_pos (En.cells es[j / 2]) (j % 2) hm]
  have h3 := h1 (j % 2) _ (List.getElem?_eq_getElem hm)
  rw [e2] at h3
  exact ⟨h3, h2 j⟩
theorem row_of_holds {w : World} {g : Nat} {d : Array En} (hg : g < w.heap.size) (H : HoldsK En.cells 2 w g 0 d) : LstM w (some ⟨g, 0, none⟩) d.toList En.cells 2 := by
  intro i x hx
  refine ⟨g, 0, rfl, hg, ?_⟩
  rw [Nat.zero_add]
  have hi : i < d.size := by simpa using (List.getElem?_eq_some_iff.1 hx).1
  have e1 : d[i]! = x := by
    rw [getElem!_pos d i hi]
    have := (List.getElem?_eq_some_iff.1 hx).2
    simpa using this
  intro j u hu
  have hj : j < x.cells.length := (List.getElem?_eq_some_iff.1 hu).1
  have hj2 : j < 2 := hj
  have h := H (i * 2 + j) (by simp; omega)
  rw [Go.Sort.get_flatK En.cells 2 d (i * 2 + j) (by omega), Nat.zero_add] at h
  rw [show (i * 2 + j) / 2 = i by omega, show (i * 2 + j) % 2 = j by omega, e1] at h
  rw [h.1, getElem!_pos x.cells j hj, ← hu, List.getElem?_eq_getElem hj]
  rfl
theorem chg_sort (w : World) (g n : Nat) (d : Array En) (os : Array Obj) : Chg (fun k => k = g) w (sortWorldK En.cells 2 w g 0 n d os) := by
  refine ⟨rfl, rfl, rfl, ?_, fun k hk hg => ?_⟩
  · unfold sortWorldK
    rw [Go.Sort.size_grow, Go.Sort.size_putRowK]
    exact Nat.le_add_right _ _
  · unfold sortWorldK
    rw [Go.Sort.heap_grow_old _ _ (by rw [Go.Sort.size_putRowK]; exact hk)]
    unfold putRowK putRow Go.Sort.mapBlock
    rw [Array.getElem?_modify, if_neg (fun h => hg h.symm)]
    rfl
theorem entry_isAgg : ∀ w, (isAgg 54).run Tryd.prog w = .ok true w := Tryd.isAgg54
set_option maxHeartbeats 1600000 in
theorem sort_any (w : World) (v : Value) (es : List En) (O : OwnE w v es) (hl : es.length ≤ 1000000) :
    Calls Tryd.prog 26 #[v, .func (.func 27) #[] #[]] w fun e w' => e = .returned (.tuple #[]) ∧ Chg (vbl v) w w' ∧ ∃ g cap ss, v = .slice (some ⟨g, 0, none⟩) es.length cap ∧ ss.Perm es ∧ ss.Pairwise (fun x y => lessB y.key x.key = false) ∧ LstM w' (some ⟨g, 0, none⟩) ss En.cells 2 := by
  obtain ⟨g, cap, rfl, hvb, hg, hcap, R⟩ := O.form
  have eg : ∀ args w, (callFunc 27 args).run Tryd.prog w = .ok (.enter 27 args) w := enters_of Tryd.func27 (by kernel_rfl) rfl
  have hcmp : CmpLays Tryd.prog 27 #[] En.cells 2 cmpE g 0 es.toArray.size w := fun _ _ _ _ x y => closure_any x y _
  have H := holds_of_row R
  have hcon := AnyQ.slices_SortFunc lay_sort 2 Tryd.isAgg54 Tryd.sizeOf54 En.cells (fun _ => rfl) (fun x v hv => x.one v hv) cmpE swo_cmp 27 #[] g 0 cap es.toArray w eg hcmp H hg (by simp; omega)
  change Calls Tryd.prog 26 _ _ _ at hcon
  rw [List.size_toArray] at hcon
  refine hcon.mono ?_
  rintro e w' ⟨rfl, d', n, os, ⟨hs, _, hp⟩, hss, rfl⟩
  have hs' : d'.size = es.length := by simpa using hs
  have hSW : SWK En.cells 2 w g 0 d' (sortWorldK En.cells 2 w g 0 n d' os) := ⟨n, os, rfl⟩
  have H' := hSW.holds hg H (by simpa using hs')
  have hk := chg_sort w g n d' os
  refine ⟨rfl, hk.mono (fun j e => .inl (by rw [e]; exact hvb)), g, cap, d'.toList, rfl, ?_, ?_, row_of_holds (Nat.lt_of_lt_of_le hg hk.size) H'⟩
  · have e1 : d'.extract 0 es.length = d' := by rw [← hs']; simp
    have e2 : es.toArray.extract 0 es.length = es.toArray := by simp
    rw [e1, e2] at hp
    exact hp
  · rw [List.pairwise_iff_getElem]
    intro i j hi hj hij
    have h := hss i j (Nat.zero_le _) hij (by rw [← hs']; simpa using hj)
    rw [lt_cmp] at h
    rw [getElem!_pos d' i (by simpa using hi), getElem!_pos d' j (by simpa using hj)] at h
    simpa using h
end Go.Proofs.YtahlfncijbkcoaaDoor
