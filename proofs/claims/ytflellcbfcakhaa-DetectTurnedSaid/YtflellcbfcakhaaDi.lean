/- isConflict: are two headers of one height, above another one's, and unlike? -/
import Derived.Test.YtflellcbfcakhaaChecked
import Derived.WalkKit
import Derived.WalkLawsBesides
import Derived.Lib.Hide
import Derived.Deep.MidRow
import Derived.Test.YtflellcbfcakhaaDg
namespace Go.Proofs.Ytflellcbfcakhaa
open Go.RowKit
set_option linter.unusedVariables false
set_option linter.unusedSimpArgs false
set_option maxRecDepth 20000

/-- A row that was handed in is boxed. -/
theorem wpList_box_h {ops : Array Oper} {rest : List Oper} {o : Oper} {a : Act} {w : World} {Q : Exit → Act → World → Prop} (hgd : o.guard = none) (ty : TypeId) (x : Operand) (ho : o.op = .box ty x) (cs : List Value) (hx : a.eval x = .agg cs.toArray)
    (hK : ∀ w1, Chg Non w w1 → Hid (Hb w1 w.heap.size ty cs.toArray) → wpList Try.prog ops Q rest (a.put o.dst (.pointer (some ⟨w.heap.size, 0, none⟩))) w1) : wpList Try.prog ops Q (o :: rest) a w := by
  refine wpList_box_row hgd ty x ho hx fun w1 h1 => hK w1 ?_ (Lib.hid ?_)
  · rw [h1.out]; exact (Chg.refl _ _).alloc _
  · rw [h1.out]; exact Hb.new w ty _
def conf (a b c : Hd) : Bool := decide (b.height = c.height) && (decide (a.height < b.height) && decide (b ≠ c))
set_option maxHeartbeats 3200000 in
theorem isConflict_any (w : World) (a b c : Hd) (oa : a.Ok) (ob : b.Ok) (oc : c.Ok) : Calls Try.prog 10 #[.agg a.cells.toArray, .agg b.cells.toArray, .agg c.cells.toArray] w (Zero w (.bool (conf a b c))) := by
  have HF : Hid (∀ w1 w2 w3 n1 n2, Chg Non w w1 → Chg Non w1 w2 → Chg Non w2 w3 → Hid (Hb w1 w.heap.size 25 a.cells.toArray) → Hid (Hb w2 n1 25 b.cells.toArray) → Hid (Hb w3 n2 25 c.cells.toArray) →
      w3.cell? ⟨w.heap.size, 1, none⟩ = some (.int .i64 a.height) ∧ w3.cell? ⟨n1, 1, none⟩ = some (.int .i64 b.height) ∧ w3.cell? ⟨n2, 1, none⟩ = some (.int .i64 c.height) ∧ w3.rangeAt n1 0 b.cells ∧ w3.rangeAt n2 0 c.cells ∧ Hid (Chg Non w w3)) := Lib.hid fun w1 w2 w3 n1 n2 k1 k2 k3 h1 h2 h3 => by
    have a1 := (h1.out.chg k2 (fun f => f)).chg k3 (fun f => f)
    have a2 := h2.out.chg k3 (fun f => f)
    exact ⟨by rw [a1.cell]; rfl, by rw [a2.cell]; rfl, by rw [h3.out.cell]; rfl, a2.range0, h3.out.range0, Lib.hid ((k1.trans k2 (fun _ f => f.elim)).trans k3 (fun _ f => f.elim))⟩
  have EQ := Lib.hid (header_eq b c ob oc)
  have rb := header_row b ob
  have rc := header_row c oc
  have HC : Hid (conf a b c = (decide (b.height = c.height) && (decide (a.height < b.height) && !decide (b = c)))) := Lib.hid (by unfold conf; simp)
  generalize conf a b c = cc at *
  generalize decide (b = c) = bb at *
  generalize a.cells = ca at *
  generalize b.cells = cb at *
  generalize c.cells = cd at *
  generalize a.height = ha at *
  generalize b.height = hb at *
  generalize c.height = hc at *
  go_enter Try.func10, Try.ntmps10
  by_cases e1 : hb = hc
  · have d1 : (hb == hc) = true := by simpa using e1
    have HE := Lib.hid e1
    clear e1
    by_cases e2 : ha < hb
    · have HE2 := Lib.hid e2
      go_wp2_with (first | (with_reducible refine wpList_box_h rfl _ _ rfl ca rfl ?_; intro w1 k1 h1) | (with_reducible refine wpList_box_h rfl _ _ rfl cb rfl ?_; intro w2 k2 h2) | (with_reducible refine wpList_box_h rfl _ _ rfl cd rfl ?_; intro w3 k3 h3; obtain ⟨p1, p2, p3, p4, p5, p6⟩ := HF.out w1 w2 w3 _ _ k1 k2 k3 h1 h2 h3) | (with_reducible refine wpList_load_w 25 _ rfl ?_ w1.heap.size 0 rfl cb _ p4 Try.underlying25 rfl rb ?_; focus (first | (simp [Region.wanted, yielded]; done) | (go_simp; done))) | (with_reducible refine wpList_load_w 25 _ rfl ?_ w2.heap.size 0 rfl cd _ p5 Try.underlying25 rfl rc ?_; focus (first | (simp [Region.wanted, yielded]; done) | (go_simp; done))) | (with_reducible refine wpList_neq_w 25 _ _ _ rfl ?_ (xs := cb.toArray) (ys := cd.toArray) rfl rfl header_guard (EQ.out w3) ?_; focus (first | (simp [Region.wanted, yielded]; done) | (go_simp; done))))
      go_ret
      refine ⟨?_, p6.out⟩
      rw [HC.out, decide_eq_true HE.out, decide_eq_true HE2.out]
      rfl
    · have HE2 := Lib.hid e2
      go_wp2_with (first | (with_reducible refine wpList_box_h rfl _ _ rfl ca rfl ?_; intro w1 k1 h1) | (with_reducible refine wpList_box_h rfl _ _ rfl cb rfl ?_; intro w2 k2 h2) | (with_reducible refine wpList_box_h rfl _ _ rfl cd rfl ?_; intro w3 k3 h3; obtain ⟨p1, p2, p3, p4, p5, p6⟩ := HF.out w1 w2 w3 _ _ k1 k2 k3 h1 h2 h3))
      go_ret
      refine ⟨?_, p6.out⟩
      rw [HC.out, decide_eq_false (show ¬ ha < hb by have := HE2.out; omega)]
      simp
  · have d1 : (hb == hc) = false := by simpa using e1
    have HE := Lib.hid e1
    clear e1
    go_wp2_with (first | (with_reducible refine wpList_box_h rfl _ _ rfl ca rfl ?_; intro w1 k1 h1) | (with_reducible refine wpList_box_h rfl _ _ rfl cb rfl ?_; intro w2 k2 h2) | (with_reducible refine wpList_box_h rfl _ _ rfl cd rfl ?_; intro w3 k3 h3; obtain ⟨p1, p2, p3, p4, p5, p6⟩ := HF.out w1 w2 w3 _ _ k1 k2 k3 h1 h2 h3))
    go_ret
    refine ⟨?_, p6.out⟩
    rw [HC.out, decide_eq_false HE.out]
    rfl
end Go.Proofs.Ytflellcbfcakhaa
