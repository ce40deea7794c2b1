/- Package valset: powers (the place of a key's power, found by sort.Search). -/
import Derived.Test.YtddkcdlioglkmaaChecked
import Derived.WalkKit
import Derived.WalkLawsBesides
import Derived.Lib.Hide
import Derived.Deep.QuietTactic
import Derived.BigQuiet
import Derived.Test.YtddkcdlioglkmaaAl
namespace Go.Proofs.Ytddkcdlioglkmaa
open Go.RowKit
set_option linter.unusedVariables false
set_option linter.unusedSimpArgs false
set_option maxRecDepth 20000

/-- The row g holds the keys rs, and the block b the slice of them. -/
structure Tab (w : World) (b g cap : Nat) (rs : List Nat) : Prop where
  box : w.cell? ⟨b, 0, none⟩ = some (.slice (some ⟨g, 0, none⟩) rs.length cap)
  keys : ∀ (i x : Nat), rs[i]? = some x → w.cell? ⟨g, i * 2, none⟩ = some (.int .u64 (x : Int))
theorem Tab.chg {w w' : World} {b g cap : Nat} {rs : List Nat} (h : Tab w b g cap rs) (k : Chg Non w w') : Tab w' b g cap rs := ⟨k.cell h.box (fun f => f), fun i x hx => k.cell (h.keys i x hx) (fun f => f)⟩

set_option maxHeartbeats 1600000 in
theorem pred_any (w : World) (b kb g cap k i x : Nat) (rs : List Nat) (T : Tab w b g cap rs) (hl : rs.length ≤ 1000) (hk : w.cell? ⟨kb, 0, none⟩ = some (.int .u64 (k : Int))) (hx : rs[i]? = some x) :
    Calls Try.prog 32 #[.int .i64 (i : Int), .pointer (some ⟨b, 0, none⟩), .pointer (some ⟨kb, 0, none⟩)] w (Zero w (.bool (decide (k ≤ x)))) := by
  have hi := (List.getElem?_eq_some_iff.1 hx).1
  have p := T.keys i x hx
  have q := T.box
  generalize rs.length = n at *
  have hi' : (i : Int) < (n : Int) := by omega
  have hi0 : (0 : Int) ≤ (i : Int) := by omega
  clear T hx
  go_enter Try.func32, Try.ntmps32
  go_wp2_with fail
  go_quiet (fail)
  go_wp2_with fail
  go_ret
  exact ⟨rfl, (Chg.refl _ _).drewN _⟩

set_option maxHeartbeats 3200000 in
theorem search_any (w : World) (b kb g cap k j : Nat) (rs : List Nat) (T : Tab w b g cap rs) (hl : rs.length ≤ 1000) (hk : w.cell? ⟨kb, 0, none⟩ = some (.int .u64 (k : Int))) (hr : rs.Pairwise (· < ·)) (hj : rs[j]? = some k) :
    Calls Try.prog 31 #[.int .i64 (rs.length : Int), .func (.func 32) #[] #[.pointer (some ⟨b, 0, none⟩), .pointer (some ⟨kb, 0, none⟩)]] w (Zero w (.int .i64 (j : Int))) := by
  have HP : Hid (∀ (w' : World) (i x : Nat), Chg Non w w' → rs[i]? = some x → Calls Try.prog 32 #[.int .i64 (i : Int), .pointer (some ⟨b, 0, none⟩), .pointer (some ⟨kb, 0, none⟩)] w' (Zero w' (.bool (decide (k ≤ x))))) :=
    Lib.hid fun w' i x c hx => pred_any w' b kb g cap k i x rs (T.chg c) hl (c.cell hk (fun f => f)) hx
  have HJ : Hid (∀ (i x : Nat), rs[i]? = some x → (k ≤ x ↔ j ≤ i)) := Lib.hid (by
    intro i x hx
    obtain ⟨hi, rfl⟩ := List.getElem?_eq_some_iff.1 hx
    obtain ⟨hj', rfl⟩ := List.getElem?_eq_some_iff.1 hj
    rw [List.pairwise_iff_getElem] at hr
    constructor
    · intro h
      rcases Nat.lt_or_ge i j with hlt | hge
      · have := hr i j hi hj' hlt; omega
      · exact hge
    · intro h
      rcases Nat.lt_or_ge j i with hlt | hge
      · exact Nat.le_of_lt (hr j i hj' hi hlt)
      · obtain rfl : i = j := by omega
        exact Nat.le_refl _)
  have hjl := (List.getElem?_eq_some_iff.1 hj).1
  have HX : Hid (∀ i, i < rs.length → ∃ x, rs[i]? = some x) := Lib.hid fun i hi => ⟨_, List.getElem?_eq_getElem hi⟩
  clear T hk hr hj
  generalize rs.length = n at *
  go_enter Try.func31, Try.ntmps31
  go_wp2_with fail
  go_loopw [5, 6, 7] (fun lo hi _ wr => ∃ a c : Nat, lo = .int .i64 (a : Int) ∧ hi = .int .i64 (c : Int) ∧ a ≤ j ∧ j ≤ c ∧ c ≤ n ∧ Chg Non w wr) (fun lo hi _ _ => (intOf hi).toNat - (intOf lo).toNat)
  case atStart => exact ⟨0, n, rfl, rfl, by omega, by omega, by omega, Chg.refl _ _⟩
  case round =>
    obtain ⟨a, c, rfl, rfl, h1, h2, h3, hC⟩ := hrel
    by_cases hlt : a < c
    · have hlt' : (a : Int) < (c : Int) := by omega
      have hm : (a + c) / 2 < n := by omega
      obtain ⟨x, hx⟩ := HX.out _ hm
      have hc := HP.out wr _ x hC hx
      have hjx := Lib.hid (HJ.out _ x hx)
      have he : ((a : Int) + (c : Int)) / 2 = (((a + c) / 2 : Nat) : Int) := by omega
      have hma : a ≤ (a + c) / 2 := by omega
      have hmc : (a + c) / 2 < c := by omega
      have HE := Lib.hid he
      clear hx he
      go_wp2_with fail
      simp only [HE.out]
      generalize (a + c) / 2 = m at *
      clear HE
      refine hc.mono ?_
      rintro e w1 ⟨rfl, k1⟩
      by_cases hkx : k ≤ x
      · have hjm := Lib.hid (hjx.out.1 hkx)
        rw [decide_eq_true hkx]
        clear hkx hc
        go_wp2_with fail
        go_roundw
        case rel => exact ⟨a, m, rfl, rfl, h1, hjm.out, by omega, hC.trans k1 (fun _ f => f.elim)⟩
        case measure => simp [intOf]; omega
      · have hjm : Hid (m + 1 ≤ j) := Lib.hid (by
          rcases Nat.lt_or_ge m j with h | h
          · exact h
          · exact absurd (hjx.out.2 h) hkx)
        rw [decide_eq_false hkx]
        clear hkx hc
        go_wp2_with fail
        go_roundw
        case rel => exact ⟨m + 1, c, by go_num, rfl, hjm.out, h2, h3, hC.trans k1 (fun _ f => f.elim)⟩
        case measure => simp [intOf]; omega
    · obtain rfl : a = j := by omega
      have hlt' : ¬ (a : Int) < (c : Int) := by omega
      go_wp2_with fail
      go_ret
      exact ⟨rfl, hC⟩

set_option maxHeartbeats 1600000 in
/-- The closure that powers answers finds the place of a key's power. -/
theorem place_any (w : World) (b g cap k j : Nat) (rs : List Nat) (T : Tab w b g cap rs) (hl : rs.length ≤ 1000) (hr : rs.Pairwise (· < ·)) (hj : rs[j]? = some k) :
    Calls Try.prog 30 #[.int .u64 (k : Int), .pointer (some ⟨b, 0, none⟩)] w (Zero w (.pointer (some ⟨g, j * 2 + 1, none⟩))) := by
  have HS : Hid (∀ (w' : World) (kb : Nat), Chg Non w w' → w'.cell? ⟨kb, 0, none⟩ = some (.int .u64 (k : Int)) → _) := Lib.hid fun w' kb c hk => search_any w' b kb g cap k j rs (T.chg c) hl hk hr hj
  have hjl := (List.getElem?_eq_some_iff.1 hj).1
  have k0 : Chg Non w (w.alloc (.cells #[.int .u64 (k : Int)] 24)) := (Chg.refl _ _).alloc _
  have b0 := Hb.new w 24 #[.int .u64 (k : Int)]
  have HT := Lib.hid T
  have p := (T.chg k0).box
  clear T hr hj
  generalize hn : rs.length = n at *
  have EN := Lib.hid hn
  clear hn
  have hji : (j : Int) < (n : Int) := by omega
  have hj0 : (0 : Int) ≤ (j : Int) := by omega
  go_enter Try.func30, Try.ntmps30
  go_wp2_with fail
  refine (HS.out _ w.heap.size k0 (b0.cell 0)).mono ?_
  rintro e w1 ⟨rfl, k1⟩
  have q := (HT.out.chg (k0.trans k1 (fun _ f => f.elim))).box
  rw [EN.out] at q
  clear p
  go_wp2_with fail
  go_ret
  exact ⟨rfl, k0.trans k1 (fun _ f => f.elim)⟩
end Go.Proofs.Ytddkcdlioglkmaa
