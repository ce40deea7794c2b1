/- Few, few: are a light block's lists short, and few blocks; of: the first block of a height. -/
import Derived.Test.YtflellcbfcakhaaChecked
import Derived.WalkKit
import Derived.WalkLawsBesides
import Derived.Lib.Hide
import Derived.Deep.MidRow
import Derived.Deep.QuietTactic
import Derived.BigQuiet
import Derived.Test.YtflellcbfcakhaaDb
namespace Go.Proofs.Ytflellcbfcakhaa
open Go.RowKit
set_option linter.unusedVariables false
set_option linter.unusedSimpArgs false
set_option maxRecDepth 20000

structure Li.Rows (x : Li) (w : World) (b o : Nat) : Prop where
  hd : w.rangeAt b o x.hd.cells
  height : w.cell? ⟨b, o + 1, none⟩ = some (.int .i64 x.hd.height)
  round : w.cell? ⟨b, o + 164, none⟩ = some (.int .i64 x.r)
  se : w.cell? ⟨b, o + 197, none⟩ = some (.slice x.A1 x.se.length x.c1)
  sv : w.cell? ⟨b, o + 198, none⟩ = some (.slice x.A2 x.sv.length x.c2)
  nx : w.cell? ⟨b, o + 199, none⟩ = some (.slice x.A3 x.nx.length x.c3)
theorem Li.rows {x : Li} {w : World} {b o : Nat} (ox : x.Ok) (h : w.rangeAt b o x.cells) : x.Rows w b o := by
  have h := h
  unfold Li.cells Li.tail at h
  obtain ⟨r0, r1⟩ := rangeAt_app h
  rw [x.hd.cells_len ox.hd] at r1
  obtain ⟨r1, r2⟩ := rangeAt_app r1
  obtain ⟨_, r1⟩ := rangeAt_cons r1
  obtain ⟨c1, _⟩ := rangeAt_cons r1
  obtain ⟨_, r3⟩ := rangeAt_app r2
  rw [bv_length, ox.b] at r3
  obtain ⟨c2, r3⟩ := rangeAt_cons r3
  obtain ⟨c3, r3⟩ := rangeAt_cons r3
  obtain ⟨c4, _⟩ := rangeAt_cons r3
  exact ⟨r0, r0 1 _ rfl, c1, c2, c3, c4⟩
theorem Li.Rows.chg {x : Li} {w w' : World} {b o : Nat} {S : Nat → Prop} (h : x.Rows w b o) (k : Chg S w w') (hb : ¬ S b) : x.Rows w' b o :=
  ⟨k.range' h.hd hb, k.cell h.height hb, k.cell h.round hb, k.cell h.se hb, k.cell h.sv hb, k.cell h.nx hb⟩

/-- Are the lists short? -/
def Li.few (x : Li) : Bool := decide (x.sv.length ≤ 20 ∧ x.nx.length ≤ 20 ∧ x.se.length ≤ 20)
set_option maxHeartbeats 1600000 in
theorem Few_any (w : World) (x : Li) (ox : x.Ok) : Calls Try.prog 8 #[.agg x.cells.toArray] w (Zero w (.bool x.few)) := by
  have HF : Hid (∀ w1, Hid (w1 = w.alloc (.cells x.cells.toArray 31)) → Chg Non w w1 ∧ x.Rows w1 w.heap.size 0) := Lib.hid fun w1 h => by
    rw [h.out]
    exact ⟨(Chg.refl _ _).alloc _, Li.rows ox (Hb.new w _ _).range0⟩
  have h1 := ox.l1
  have h2 := ox.l2
  have h3 := ox.l3
  unfold maxLen at h1 h2 h3
  have HW : Hid (x.few = decide (x.sv.length ≤ 20 ∧ x.nx.length ≤ 20 ∧ x.se.length ≤ 20)) := Lib.hid rfl
  generalize x.few = fw at *
  generalize hcs : x.cells.toArray = cs at *
  clear hcs
  go_enter Try.func8, Try.ntmps8
  go_wp2_with (first | (with_reducible refine wpList_box_row rfl _ _ rfl (cs := cs) rfl ?_; intro w1 hw1; obtain ⟨hC, hR⟩ := HF.out w1 hw1; obtain ⟨_, _, _, c1, c2, c3⟩ := hR))
  all_goals
    go_ret
    refine ⟨?_, hC⟩
    rw [HW.out]
    first
      | exact congrArg (fun b => Ending.returned (Value.bool b)) (show decide ((x.se.length : Int) ≤ 20) = _ by rw [decide_eq_decide]; omega)
      | exact congrArg (fun b => Ending.returned (Value.bool b)) (show false = _ by symm; rw [decide_eq_false_iff_not]; omega)

def fewB (l : List Li) : Bool := decide (l.length ≤ 14) && l.all Li.few
set_option maxHeartbeats 1600000 in
theorem few_any (w : World) (A : Option Addr) (c : Nat) (l : List Li) (hl : l.length ≤ maxLen) (ol : ∀ x ∈ l, x.Ok) (M : LstM w A l Li.cells 200) :
    Calls Try.prog 4 #[.slice A l.length c] w (Zero w (.bool (fewB l))) := by
  have HM := Lib.hid M
  have OL := Lib.hid ol
  unfold maxLen at hl
  clear M ol
  have HB : Hid (fewB l = (decide (l.length ≤ 14) && l.all Li.few)) := Lib.hid rfl
  generalize fewB l = fb at *
  generalize hn : l.length = n at *
  have HL := Lib.hid hn
  clear hn
  go_enter Try.func4, Try.ntmps4
  by_cases h14 : (n : Int) > 14
  · go_wp2_with fail
    go_ret
    refine ⟨?_, Chg.refl _ _⟩
    rw [HB.out]
    exact congrArg (fun b => Ending.returned (Value.bool b)) (show false = _ by rw [decide_eq_false (by omega)]; rfl)
  go_wp2_with fail
  go_loopw [3] (fun i wr => ∃ k : Nat, k ≤ n ∧ i = .int .i64 (k : Int) ∧ Hid ((l.take k).all Li.few = true) ∧ Chg Non w wr) (fun i _ => n - (intOf i).toNat)
  case atStart => exact ⟨0, by omega, rfl, Lib.hid (by simp), Chg.refl _ _⟩
  case round =>
    obtain ⟨k, hk, rfl, hF, hC⟩ := hrel
    by_cases hlt : k < n
    · have hkl : k < l.length := by rw [HL.out]; exact hlt
      have hx := List.getElem?_eq_getElem hkl
      obtain ⟨a, ao, rfl, _, r1⟩ := (HM.out.chg hC) _ _ hx
      have HX := Lib.hid hx
      have ox := OL.out l[k] (List.getElem_mem hkl)
      generalize l[k] = x at *
      have hki : (k : Int) < (n : Int) := by omega
      have HC := Few_any wr x ox
      have hrow := x.cells_len ox
      have hih : (Try.prog.info? 31).map (·.size) = some x.cells.length := by rw [hrow]; kernel_rfl
      have HAll : Hid ((l.take (k + 1)).all Li.few = x.few) := Lib.hid (by rw [take_one HX.out, List.all_append, hF.out]; simp)
      generalize x.few = xf at *
      generalize x.cells = cs at *
      clear hx hkl hk hrow
      cases xf with
      | true =>
        go_wp2_with (first | (with_reducible refine wpList_load_mid rfl 31 _ rfl a (ao + k * 200) rfl cs _ r1 Try.underlying31 rfl hih ?_))
        refine HC.mono ?_
        rintro e w1 ⟨rfl, k1⟩
        go_wp2_with fail
        go_roundw
        case rel => exact ⟨k + 1, by omega, by go_num, HAll, hC.trans k1 (fun _ f => f.elim)⟩
        case measure => simp [intOf]; omega
      | false =>
        go_wp2_with (first | (with_reducible refine wpList_load_mid rfl 31 _ rfl a (ao + k * 200) rfl cs _ r1 Try.underlying31 rfl hih ?_))
        refine HC.mono ?_
        rintro e w1 ⟨rfl, k1⟩
        go_wp2_with fail
        go_ret
        refine ⟨?_, hC.trans k1 (fun _ f => f.elim)⟩
        rw [HB.out]
        refine congrArg (fun b => Ending.returned (Value.bool b)) (show false = _ from ?_)
        symm
        rw [Bool.and_eq_false_iff]
        right
        rw [← List.take_append_drop (k + 1) l, List.all_append, HAll.out]
        rfl
    · obtain rfl : k = n := by omega
      go_wp2
      go_ret
      have e : l.take k = l := List.take_of_length_le (by have := HL.out; omega)
      rw [e] at hF
      refine ⟨?_, hC⟩
      rw [HB.out, hF.out, decide_eq_true (by omega)]
      rfl
end Go.Proofs.Ytflellcbfcakhaa
