/- Same, of one list twice; an act at a bank. -/
import Derived.Test.YtahlfncijbkcoaaDoorChecked
import Derived.WalkKit
import Derived.WalkLawsBesides
import Derived.Lib.Hide
import Derived.Deep.MidRow
import Derived.Deep.QuietTactic
import Derived.BigQuiet
import Derived.Test.YtahlfncijbkcoaaDoorKw
namespace Go.Proofs.YtahlfncijbkcoaaDoor
open Go.RowKit
set_option linter.unusedVariables false
set_option linter.unusedSimpArgs false
set_option maxRecDepth 20000

set_option maxHeartbeats 1600000 in
theorem same_yes (w : World) (A B : Option Addr) (c d : Nat) (l : List En) (hl : l.length ≤ 100000) (M : LstM w A l En.cells 2) (N : LstM w B l En.cells 2) :
    Calls Tryd.prog 10 #[.slice A l.length c, .slice B l.length d] w (Zero w (.bool true)) := by
  have HM := Lib.hid M
  have HN := Lib.hid N
  clear M N
  generalize hn : l.length = n at *
  have HL := Lib.hid hn
  clear hn
  go_enter Tryd.func10, Tryd.ntmps10
  go_wp2_with fail
  go_loopw [5] (fun i wr => ∃ k : Nat, k ≤ n ∧ i = .int .i64 (k : Int) ∧ Hid (Chg Non w wr)) (fun i _ => n - (intOf i).toNat)
  case atStart => exact ⟨0, by omega, rfl, Lib.hid (Chg.refl _ _)⟩
  case round =>
    obtain ⟨k, hk, rfl, hC⟩ := hrel
    by_cases hlt : k < n
    · have hkl : k < l.length := by rw [HL.out]; exact hlt
      have hx := List.getElem?_eq_getElem hkl
      obtain ⟨a, ao, rfl, _, r1⟩ := (HM.out.chg hC.out) k _ hx
      obtain ⟨b, bo, rfl, _, r2⟩ := (HN.out.chg hC.out) k _ hx
      generalize l[k] = x at *
      obtain ⟨p0, p1⟩ := rangeAt_cons r1
      obtain ⟨p1, _⟩ := rangeAt_cons p1
      obtain ⟨q0, q1⟩ := rangeAt_cons r2
      obtain ⟨q1, _⟩ := rangeAt_cons q1
      have hki : (k : Int) < (n : Int) := by omega
      clear r1 r2 hx hkl
      go_wp2_with fail
      go_quiet (fail)
      go_wp2_with fail
      go_roundw
      case rel => exact ⟨k + 1, by omega, by go_num, Lib.hid (hC.out.drewN _)⟩
      case measure => simp [intOf]; omega
    · obtain rfl : k = n := by omega
      go_wp2
      go_ret
      exact ⟨rfl, hC.out⟩

/-- What an act does to a bank, in words. -/
def doR (st : Bst) (x : Ac) : Int × Bst :=
  if x.kind = 1 then mintR st x.to x.den x.n else if x.kind = 2 then burnR st x.frm x.den x.n else if x.kind = 3 then moveR st x.frm x.to x.den x.n else (0, st)
theorem doR_inv {st : Bst} (h : Inv st.F st.S) (x : Ac) : Inv (doR st x).2.F (doR st x).2.S := by
  unfold doR
  split
  · exact mintR_inv h _ _ _
  · split
    · exact burnR_inv h _ _ _
    · split
      · exact moveR_inv h _ _ _ _
      · exact h
theorem ActP.after {w w0 w' : World} {g b1 b2 n : Nat} {r : Int × Bst} {e : Ending} (k : Chg Non w w0) (h : ActP w0 g b1 b2 n r e w') : ActP w g b1 b2 n r e w' :=
  ⟨h.1, (k.mono (fun _ f => f.elim)).trans h.2.1 (fun j e => .inl e), h.2.2⟩
set_option maxHeartbeats 1600000 in
theorem do_any (w : World) (g b1 b2 n : Nat) (st : Bst) (h : BkP w g b1 b2 n st.F st.S) (hi : Inv st.F st.S) (hn : n < 100000) (x : Ac) (ox : x.Ok) :
    Calls Tryd.prog 8 #[.agg x.cells.toArray, .pointer (some ⟨g, 0, none⟩)] w (ActP w g b1 b2 n (doR st x)) := by
  have k0 : Chg Non w (w.alloc (.cells x.cells.toArray 32)) := (Chg.refl _ _).alloc _
  have h0 := h.non k0
  have hb := Hb.new w 32 x.cells.toArray
  obtain ⟨kind, s, t, d, c⟩ := x
  obtain ⟨ok0, ok1, os, ot, od, oc⟩ := ox
  dsimp only at os ot od oc ok0 ok1
  have p0 : (w.alloc (.cells (Ac.cells ⟨kind, s, t, d, c⟩).toArray 32)).cell? ⟨w.heap.size, 0, none⟩ = some (.int .i64 kind) := by rw [hb.cell]; rfl
  have p1 : (w.alloc (.cells (Ac.cells ⟨kind, s, t, d, c⟩).toArray 32)).cell? ⟨w.heap.size, 1, none⟩ = some (.string s) := by rw [hb.cell]; rfl
  have p2 : (w.alloc (.cells (Ac.cells ⟨kind, s, t, d, c⟩).toArray 32)).cell? ⟨w.heap.size, 2, none⟩ = some (.string t) := by rw [hb.cell]; rfl
  have p3 : (w.alloc (.cells (Ac.cells ⟨kind, s, t, d, c⟩).toArray 32)).cell? ⟨w.heap.size, 3, none⟩ = some (.string d) := by rw [hb.cell]; rfl
  have p4 : (w.alloc (.cells (Ac.cells ⟨kind, s, t, d, c⟩).toArray 32)).cell? ⟨w.heap.size, 4, none⟩ = some (.int .u64 (c : Int)) := by rw [hb.cell]; rfl
  have H1 := Lib.hid (Mint_any _ g b1 b2 n st h0 hi hn t d ot od c oc)
  have H2 := Lib.hid (Burn_any _ g b1 b2 n st h0 hi hn s d os od c oc)
  have H3 := Lib.hid (Move_any _ g b1 b2 n st h0 hi hn s t d os ot od c oc)
  have HK := Lib.hid k0
  have HH := Lib.hid h0
  have HR : Hid (doR st ⟨kind, s, t, d, c⟩ = if kind = 1 then mintR st t d c else if kind = 2 then burnR st s d c else if kind = 3 then moveR st s t d c else (0, st)) := Lib.hid rfl
  generalize doR st ⟨kind, s, t, d, c⟩ = r at *
  clear h hi hn os ot od oc hb h0 k0
  unfold Ac.cells at *
  generalize hw1 : w.alloc (.cells [Value.int .i64 kind, .string s, .string t, .string d, .int .u64 (c : Int)].toArray 32) = w1 at *
  go_enter Tryd.func8, Tryd.ntmps8
  by_cases h1 : kind = 1
  · have HR1 := Lib.hid (HR.out.trans (if_pos h1))
    have e1 : (kind == 1) = true := by simpa using h1
    clear HR h1
    go_wp2_with fail
    refine H1.out.mono ?_
    intro e w' hq
    obtain ⟨rfl, k1, h1⟩ := hq
    have HQ : Hid (ActP w g b1 b2 n r (.returned (.int .i64 (mintR st t d c).1)) w') := Lib.hid (by rw [HR1.out]; exact ActP.after HK.out ⟨rfl, k1, h1⟩)
    clear k1 h1
    go_wp2_with fail
    go_ret
    exact HQ.out
  by_cases h2 : kind = 2
  · have HR1 := Lib.hid ((HR.out.trans (if_neg h1)).trans (if_pos h2))
    have e1 : (kind == 1) = false := by simpa using h1
    have e2 : (kind == 2) = true := by simpa using h2
    clear HR h1 h2
    go_wp2_with fail
    refine H2.out.mono ?_
    intro e w' hq
    obtain ⟨rfl, k1, h1⟩ := hq
    have HQ : Hid (ActP w g b1 b2 n r (.returned (.int .i64 (burnR st s d c).1)) w') := Lib.hid (by rw [HR1.out]; exact ActP.after HK.out ⟨rfl, k1, h1⟩)
    clear k1 h1
    go_wp2_with fail
    go_ret
    exact HQ.out
  by_cases h3 : kind = 3
  · have HR1 := Lib.hid (((HR.out.trans (if_neg h1)).trans (if_neg h2)).trans (if_pos h3))
    have e1 : (kind == 1) = false := by simpa using h1
    have e2 : (kind == 2) = false := by simpa using h2
    have e3 : (kind == 3) = true := by simpa using h3
    clear HR h1 h2 h3
    go_wp2_with fail
    refine H3.out.mono ?_
    intro e w' hq
    obtain ⟨rfl, k1, h1⟩ := hq
    have HQ : Hid (ActP w g b1 b2 n r (.returned (.int .i64 (moveR st s t d c).1)) w') := Lib.hid (by rw [HR1.out]; exact ActP.after HK.out ⟨rfl, k1, h1⟩)
    clear k1 h1
    go_wp2_with fail
    go_ret
    exact HQ.out
  · have HR1 := Lib.hid (((HR.out.trans (if_neg h1)).trans (if_neg h2)).trans (if_neg h3))
    have e1 : (kind == 1) = false := by simpa using h1
    have e2 : (kind == 2) = false := by simpa using h2
    have e3 : (kind == 3) = false := by simpa using h3
    have HQ : Hid (ActP w g b1 b2 n r (.returned (.int .i64 0)) w1) := Lib.hid (by rw [HR1.out]; exact ActP.after HK.out ⟨rfl, Chg.refl _ _, Lib.hid (HH.out.mono (by omega))⟩)
    clear HR h1 h2 h3
    go_wp2_with fail
    go_ret
    exact HQ.out
end Go.Proofs.YtahlfncijbkcoaaDoor
