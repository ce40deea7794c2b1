/- kindOf: which kind of attack. -/
import Derived.Test.YtflellcbfcakhaaChecked
import Derived.WalkKit
import Derived.WalkLawsBesides
import Derived.OrdersHeld
import Derived.Deep.MidRow
import Derived.Laws.Tables
import Derived.Deep.RegionHeld3
import Derived.Shelf.Abstract
import Derived.Test.YtflellcbfcakhaaDj
namespace Go.Proofs.Ytflellcbfcakhaa
open Go.RowKit
set_option linter.unusedVariables false
set_option linter.unusedSimpArgs false
set_option maxRecDepth 20000


def sLun : ByteArray := ⟨#[108, 117, 110, 97, 116, 105, 99]⟩
def sEqu : ByteArray := ⟨#[101, 113, 117, 105, 118, 111, 99, 97, 116, 105, 111, 110]⟩
def sAmn : ByteArray := ⟨#[97, 109, 110, 101, 115, 105, 97]⟩
/-- The kind of attack. -/
def kd (x y : Li) : ByteArray := bif decide (x.hd.set = y.hd.set) && (decide (x.hd.next = y.hd.next) && decide (x.hd.app = y.hd.app)) then (bif decide (x.r = y.r) then sEqu else sAmn) else sLun
set_option maxHeartbeats 6400000 in
theorem kindOf_any (w : World) (x y : Li) (ox : x.Ok) (oy : y.Ok) : Calls Try.prog 11 #[.agg x.cells.toArray, .agg y.cells.toArray] w (Zero w (.string (kd x y))) := by
  have HF : Hid (∀ w1 w2 n2, Chg Non w w1 → Chg Non w1 w2 → Hid (Hb w1 w.heap.size 31 x.cells.toArray) → Hid (Hb w2 n2 31 y.cells.toArray) →
      Hid (x.Rows w2 w.heap.size 0) ∧ Hid (y.Rows w2 n2 0) ∧ Hid (Chg Non w w2)) := Lib.hid fun w1 w2 n2 k1 k2 h1 h2 => by
    exact ⟨Lib.hid (Li.rows ox (h1.out.chg k2 (fun f => f)).range0), Lib.hid (Li.rows oy h2.out.range0), Lib.hid (k1.trans k2 (fun _ f => f.elim))⟩
  have HK : Hid (kd x y = bif decide (x.hd.set = y.hd.set) && (decide (x.hd.next = y.hd.next) && decide (x.hd.app = y.hd.app)) then (bif decide (x.r = y.r) then sEqu else sAmn) else sLun) := Lib.hid rfl
  have hal := header_alloc
  have rx := header_row x.hd ox.hd
  have ry := header_row y.hd oy.hd
  have onex := x.hd.one
  have oney := y.hd.one
  have hzx : Hd.zero.cells.length = x.hd.cells.length := by rw [x.hd.cells_len ox.hd, Hd.zero.cells_len Hd.zero_ok]
  have hzy : Hd.zero.cells.length = y.hd.cells.length := by rw [y.hd.cells_len oy.hd, Hd.zero.cells_len Hd.zero_ok]
  have EQ1 := Lib.hid (run_eq_hash · ox.hd.set oy.hd.set)
  have EQ2 := Lib.hid (run_eq_hash · ox.hd.next oy.hd.next)
  have EQ3 := Lib.hid (run_eq_hash · ox.hd.app oy.hd.app)
  have rx1 := hash_rowl _ ox.hd.set
  have rx2 := hash_rowl _ ox.hd.next
  have rx3 := hash_rowl _ ox.hd.app
  have ry1 := hash_rowl _ oy.hd.set
  have ry2 := hash_rowl _ oy.hd.next
  have ry3 := hash_rowl _ oy.hd.app
  have HDX := Lib.hid (x.hd.drops ox.hd)
  have HDY := Lib.hid (y.hd.drops oy.hd)
  obtain ⟨Z, hZ⟩ : ∃ Z, kd x y = Z := ⟨_, rfl⟩
  rw [hZ] at HK ⊢
  clear hZ
  go_enter Try.func11, Try.ntmps11
  go_wp2_with (first | (with_reducible refine wpList_box_h rfl _ _ rfl x.cells rfl ?_; intro w1 k1 h1) | (with_reducible refine wpList_box_h rfl _ _ rfl y.cells rfl ?_; intro w2 k2 h2; obtain ⟨HRX, HRY, HC⟩ := HF.out w1 w2 _ k1 k2 h1 h2))
  have hnx : w.heap.size < w1.heap.size := h1.out.lt
  generalize w.heap.size = n1 at *
  generalize w1.heap.size = n2 at *
  generalize hcx : x.hd.cells = cx at *
  generalize hcy : y.hd.cells = cy at *
  generalize Hd.zero.cells = z at *
  have HRX' := HRX
  have HRY' := HRY
  have R1 : w2.rangeAt n1 0 cx := by rw [← hcx]; exact HRX.out.hd
  have R2 : w2.rangeAt n2 0 cy := by rw [← hcy]; exact HRY.out.hd
  have HCX := Lib.hid hcx
  have HCY := Lib.hid hcy
  clear hcx hcy h1 h2 k1 k2
  rename_i ha
  refine wp_region_heads [0, 1, 2, 3] 4 #[true, true, true, true, false, false, false, false] (by kernel_rfl) (by kernel_rfl) (by kernel_rfl) (by kernel_rfl) (by kernel_rfl) (fun w' => Chg Non w2.drew w') (Chg.refl _ _) ?_
  refine headI_run rfl rfl (fun w' kk => by go_simp; rfl) ?_
  simp only [Act.put, List.setIfInBounds_toArray, List.set_cons_zero, List.set_cons_succ]
  refine headI_load rfl rfl _ _ rfl n1 0 rfl cx _ (fun w' kk => Chg.range' (w := w2.drew) kk R1 (fun f => f)) Try.underlying25 rfl rx ?_
  simp only [Act.put, List.setIfInBounds_toArray, List.set_cons_zero, List.set_cons_succ]
  refine headI_run rfl rfl (fun w' kk => by go_simp; rfl) ?_
  simp only [Act.put, List.setIfInBounds_toArray, List.set_cons_zero, List.set_cons_succ]
  refine headI_load rfl rfl _ _ rfl n2 0 rfl cy _ (fun w' kk => Chg.range' (w := w2.drew) kk R2 (fun f => f)) Try.underlying25 rfl ry ?_
  simp only [Act.put, List.setIfInBounds_toArray, List.set_cons_zero, List.set_cons_succ]
  refine headI_nil ?_
  have HCD : Hid (Chg Non w w2.drew) := Lib.hid HC.out.drew
  have HRX : Hid (x.Rows w2.drew n1 0) := Lib.hid (HRX'.out.chg ((Chg.refl Non w2).drew) (fun f => f))
  have HRY : Hid (y.Rows w2.drew n2 0) := Lib.hid (HRY'.out.chg ((Chg.refl Non w2).drew) (fun f => f))
  generalize w2.drew = wq at *
  clear HRX' HRY' R1 R2 HC
  refine held_w2 (n := 4) (m := 5) (fuel := 3) (L1 := #[true, true, true, true, true, false, false, false]) (L2 := #[true, true, true, true, false, true, false, false]) rfl rfl (by kernel_rfl) rfl rfl (by kernel_rfl) (by kernel_rfl) ?_ ?_
  · refine wp_alloc _ rfl z (hal _) ?_
    simp only [Act.put, List.setIfInBounds_toArray, List.set_cons_zero, List.set_cons_succ]
    refine ⟨(Chg.refl Non _).alloc _, ?_⟩
    refine held_w (n := 5) (fuel := 2) (L' := #[true, true, true, true, true, true, false, false]) rfl (by kernel_rfl) rfl (by kernel_rfl) ?_
    refine wp_alloc _ rfl z (hal _) ?_
    simp only [Act.put, List.setIfInBounds_toArray, List.set_cons_zero, List.set_cons_succ]
    refine ⟨((Chg.refl Non _).alloc _).alloc _, ?_⟩
    obtain ⟨g5, g6, hg5, hg6, hb5, hb6, hne, k2⟩ : ∃ g5 g6, wq.heap.size = g5 ∧ (wq.alloc (.cells z.toArray 25)).heap.size = g6 ∧ Hb ((wq.alloc (.cells z.toArray 25)).alloc (.cells z.toArray 25)) g5 25 z.toArray ∧ Hb ((wq.alloc (.cells z.toArray 25)).alloc (.cells z.toArray 25)) g6 25 z.toArray ∧ g5 ≠ g6 ∧ (wq.heap.size ≤ g5 ∧ wq.heap.size ≤ g6) := ⟨_, _, rfl, rfl, (Hb.new _ _ _).alloc _, Hb.new _ _ _, by simp, by simp⟩
    rw [hg5, hg6]
    generalize hw2 : (wq.alloc (.cells z.toArray 25)).alloc (.cells z.toArray 25) = w2 at *
    have kw : Chg Non wq w2 := by rw [← hw2]; exact ((Chg.refl Non _).alloc _).alloc _
    clear hw2 hg5 hg6
    refine held_w (n := 6) (fuel := 1) (L' := #[true, true, true, true, true, true, true, false]) rfl (by kernel_rfl) rfl (by kernel_rfl) ?_
    refine wp_store_mid 25 _ _ rfl g5 0 cx.toArray rfl rfl (by rw [List.size_toArray, ← hzx]; exact hb5.there0) (by rw [List.size_toArray]; exact rx) (one_mem onex) ?_
    simp only [Act.put, List.setIfInBounds_toArray, List.set_cons_zero, List.set_cons_succ]
    try rw [List.toList_toArray]
    have c3 := Chg.setCells (S := (· = g5)) rfl cx w2 0 (Chg.refl _ w2)
    have h5 := hb5.sets0 hzx
    have h6 := hb6.chg c3 (fun e => hne e.symm)
    generalize w2.setCells g5 0 cx = w3 at *
    have k3 : Chg Non wq w3 := kw.trans c3 (fun j e => .inr (by rw [e]; exact k2.1))
    refine ⟨k3, ?_⟩
    refine held_w (n := 7) (fuel := 0) (L' := #[true, true, true, true, true, true, true, true]) rfl (by kernel_rfl) rfl (by kernel_rfl) ?_
    refine wp_store_mid 25 _ _ rfl g6 0 cy.toArray rfl rfl (by rw [List.size_toArray, ← hzy]; exact h6.there0) (by rw [List.size_toArray]; exact ry) (one_mem oney) ?_
    simp only [Act.put, List.setIfInBounds_toArray, List.set_cons_zero, List.set_cons_succ]
    try rw [List.toList_toArray]
    have c4 := Chg.setCells (S := (· = g6)) rfl cy w3 0 (Chg.refl _ w3)
    have i6 := h6.sets0 hzy
    have i5 := h5.chg c4 (fun e => hne e)
    generalize w3.setCells g6 0 cy = w4 at *
    have k4 : Chg Non wq w4 := k3.trans c4 (fun j e => .inr (by rw [e]; exact k2.2))
    refine ⟨k4, ?_⟩
    refine wpAnyH_done (by kernel_rfl) ?_ _
    refine ha _ _ ?_
    obtain ⟨d1, d2, d3, _, d5⟩ : (((cx.drop 35).take 32 = bv x.hd.set) ∧ ((cx.drop 67).take 32 = bv x.hd.next) ∧ ((cx.drop 131).take 32 = bv x.hd.app) ∧ True ∧ True) := ⟨HDX.out.2.1, HDX.out.2.2.1, HDX.out.2.2.2.2, trivial, trivial⟩
    obtain ⟨e1, e2, e3, _, e5⟩ : (((cy.drop 35).take 32 = bv y.hd.set) ∧ ((cy.drop 67).take 32 = bv y.hd.next) ∧ ((cy.drop 131).take 32 = bv y.hd.app) ∧ True ∧ True) := ⟨HDY.out.2.1, HDY.out.2.2.1, HDY.out.2.2.2.2, trivial, trivial⟩
    have p1 := range_sub i5.range0 d1
    have p2 := range_sub i5.range0 d2
    have p3 := range_sub i5.range0 d3
    have q1 := range_sub i6.range0 e1
    have q2 := range_sub i6.range0 e2
    have q3 := range_sub i6.range0 e3
    rw [Nat.zero_add] at p1 p2 p3 q1 q2 q3
    have rr1 := (HRX.out.chg k4 (fun f => f)).round
    have rr2 := (HRY.out.chg k4 (fun f => f)).round
    rw [Nat.zero_add] at rr1 rr2
    have HCE : Hid (Chg Non w w4) := Lib.hid (HCD.out.trans k4 (fun _ f => f.elim))
    clear d1 d2 d3 e1 e2 e3 d5 e5 i5 i6 k4 c4 h5 h6 k3 c3 hb5 hb6 kw k2 hne
    generalize x.hd.set = hx1 at *
    generalize x.hd.next = hx2 at *
    generalize x.hd.app = hx3 at *
    generalize y.hd.set = hy1 at *
    generalize y.hd.next = hy2 at *
    generalize y.hd.app = hy3 at *
    generalize x.r = ra at *
    generalize y.r = rb at *
    generalize decide (hx1 = hy1) = b1 at *
    generalize decide (hx2 = hy2) = b2 at *
    generalize decide (hx3 = hy3) = b3 at *
    cases b1 with
    | false =>
      obtain rfl : sLun = Z := by rw [HK.out]; rfl
      go_wp2_with (first | (with_reducible refine wpList_load_w 23 _ rfl ?_ g5 35 rfl (bv hx1) _ p1 Try.underlying23 rfl rx1 ?_; focus (first | (simp [Region.wanted, yielded]; done) | (go_simp; done))) | (with_reducible refine wpList_load_w 23 _ rfl ?_ g6 35 rfl (bv hy1) _ q1 Try.underlying23 rfl ry1 ?_; focus (first | (simp [Region.wanted, yielded]; done) | (go_simp; done))) | (with_reducible refine wpList_neq_w 23 _ _ _ rfl ?_ (xs := (bv hx1).toArray) (ys := (bv hy1).toArray) rfl rfl hash_guard (EQ1.out w4) ?_; focus (first | (simp [Region.wanted, yielded]; done) | (go_simp; done))) | (with_reducible refine wpList_load_w 23 _ rfl ?_ g5 67 rfl (bv hx2) _ p2 Try.underlying23 rfl rx2 ?_; focus (first | (simp [Region.wanted, yielded]; done) | (go_simp; done))) | (with_reducible refine wpList_load_w 23 _ rfl ?_ g6 67 rfl (bv hy2) _ q2 Try.underlying23 rfl ry2 ?_; focus (first | (simp [Region.wanted, yielded]; done) | (go_simp; done))) | (with_reducible refine wpList_neq_w 23 _ _ _ rfl ?_ (xs := (bv hx2).toArray) (ys := (bv hy2).toArray) rfl rfl hash_guard (EQ2.out w4) ?_; focus (first | (simp [Region.wanted, yielded]; done) | (go_simp; done))) | (with_reducible refine wpList_load_w 23 _ rfl ?_ g5 131 rfl (bv hx3) _ p3 Try.underlying23 rfl rx3 ?_; focus (first | (simp [Region.wanted, yielded]; done) | (go_simp; done))) | (with_reducible refine wpList_load_w 23 _ rfl ?_ g6 131 rfl (bv hy3) _ q3 Try.underlying23 rfl ry3 ?_; focus (first | (simp [Region.wanted, yielded]; done) | (go_simp; done))) | (with_reducible refine wpList_neq_w 23 _ _ _ rfl ?_ (xs := (bv hx3).toArray) (ys := (bv hy3).toArray) rfl rfl hash_guard (EQ3.out w4) ?_; focus (first | (simp [Region.wanted, yielded]; done) | (go_simp; done))))
      go_ret
      exact ⟨rfl, HCE.out⟩
    | true =>
      cases b2 with
      | false =>
        obtain rfl : sLun = Z := by rw [HK.out]; rfl
        go_wp2_with (first | (with_reducible refine wpList_load_w 23 _ rfl ?_ g5 35 rfl (bv hx1) _ p1 Try.underlying23 rfl rx1 ?_; focus (first | (simp [Region.wanted, yielded]; done) | (go_simp; done))) | (with_reducible refine wpList_load_w 23 _ rfl ?_ g6 35 rfl (bv hy1) _ q1 Try.underlying23 rfl ry1 ?_; focus (first | (simp [Region.wanted, yielded]; done) | (go_simp; done))) | (with_reducible refine wpList_neq_w 23 _ _ _ rfl ?_ (xs := (bv hx1).toArray) (ys := (bv hy1).toArray) rfl rfl hash_guard (EQ1.out w4) ?_; focus (first | (simp [Region.wanted, yielded]; done) | (go_simp; done))) | (with_reducible refine wpList_load_w 23 _ rfl ?_ g5 67 rfl (bv hx2) _ p2 Try.underlying23 rfl rx2 ?_; focus (first | (simp [Region.wanted, yielded]; done) | (go_simp; done))) | (with_reducible refine wpList_load_w 23 _ rfl ?_ g6 67 rfl (bv hy2) _ q2 Try.underlying23 rfl ry2 ?_; focus (first | (simp [Region.wanted, yielded]; done) | (go_simp; done))) | (with_reducible refine wpList_neq_w 23 _ _ _ rfl ?_ (xs := (bv hx2).toArray) (ys := (bv hy2).toArray) rfl rfl hash_guard (EQ2.out w4) ?_; focus (first | (simp [Region.wanted, yielded]; done) | (go_simp; done))) | (with_reducible refine wpList_load_w 23 _ rfl ?_ g5 131 rfl (bv hx3) _ p3 Try.underlying23 rfl rx3 ?_; focus (first | (simp [Region.wanted, yielded]; done) | (go_simp; done))) | (with_reducible refine wpList_load_w 23 _ rfl ?_ g6 131 rfl (bv hy3) _ q3 Try.underlying23 rfl ry3 ?_; focus (first | (simp [Region.wanted, yielded]; done) | (go_simp; done))) | (with_reducible refine wpList_neq_w 23 _ _ _ rfl ?_ (xs := (bv hx3).toArray) (ys := (bv hy3).toArray) rfl rfl hash_guard (EQ3.out w4) ?_; focus (first | (simp [Region.wanted, yielded]; done) | (go_simp; done))))
        go_ret
        exact ⟨rfl, HCE.out⟩
      | true =>
        cases b3 with
        | false =>
          obtain rfl : sLun = Z := by rw [HK.out]; rfl
          go_wp2_with (first | (with_reducible refine wpList_load_w 23 _ rfl ?_ g5 35 rfl (bv hx1) _ p1 Try.underlying23 rfl rx1 ?_; focus (first | (simp [Region.wanted, yielded]; done) | (go_simp; done))) | (with_reducible refine wpList_load_w 23 _ rfl ?_ g6 35 rfl (bv hy1) _ q1 Try.underlying23 rfl ry1 ?_; focus (first | (simp [Region.wanted, yielded]; done) | (go_simp; done))) | (with_reducible refine wpList_neq_w 23 _ _ _ rfl ?_ (xs := (bv hx1).toArray) (ys := (bv hy1).toArray) rfl rfl hash_guard (EQ1.out w4) ?_; focus (first | (simp [Region.wanted, yielded]; done) | (go_simp; done))) | (with_reducible refine wpList_load_w 23 _ rfl ?_ g5 67 rfl (bv hx2) _ p2 Try.underlying23 rfl rx2 ?_; focus (first | (simp [Region.wanted, yielded]; done) | (go_simp; done))) | (with_reducible refine wpList_load_w 23 _ rfl ?_ g6 67 rfl (bv hy2) _ q2 Try.underlying23 rfl ry2 ?_; focus (first | (simp [Region.wanted, yielded]; done) | (go_simp; done))) | (with_reducible refine wpList_neq_w 23 _ _ _ rfl ?_ (xs := (bv hx2).toArray) (ys := (bv hy2).toArray) rfl rfl hash_guard (EQ2.out w4) ?_; focus (first | (simp [Region.wanted, yielded]; done) | (go_simp; done))) | (with_reducible refine wpList_load_w 23 _ rfl ?_ g5 131 rfl (bv hx3) _ p3 Try.underlying23 rfl rx3 ?_; focus (first | (simp [Region.wanted, yielded]; done) | (go_simp; done))) | (with_reducible refine wpList_load_w 23 _ rfl ?_ g6 131 rfl (bv hy3) _ q3 Try.underlying23 rfl ry3 ?_; focus (first | (simp [Region.wanted, yielded]; done) | (go_simp; done))) | (with_reducible refine wpList_neq_w 23 _ _ _ rfl ?_ (xs := (bv hx3).toArray) (ys := (bv hy3).toArray) rfl rfl hash_guard (EQ3.out w4) ?_; focus (first | (simp [Region.wanted, yielded]; done) | (go_simp; done))))
          go_ret
          exact ⟨rfl, HCE.out⟩
        | true =>
          by_cases er : ra = rb
          · obtain rfl : sEqu = Z := by rw [HK.out, decide_eq_true er]; rfl
            have erb : (ra == rb) = true := by simpa using er
            have HER := Lib.hid er
            clear er HK
            go_wp2_with (first | (with_reducible refine wpList_load_w 23 _ rfl ?_ g5 35 rfl (bv hx1) _ p1 Try.underlying23 rfl rx1 ?_; focus (first | (simp [Region.wanted, yielded]; done) | (go_simp; done))) | (with_reducible refine wpList_load_w 23 _ rfl ?_ g6 35 rfl (bv hy1) _ q1 Try.underlying23 rfl ry1 ?_; focus (first | (simp [Region.wanted, yielded]; done) | (go_simp; done))) | (with_reducible refine wpList_neq_w 23 _ _ _ rfl ?_ (xs := (bv hx1).toArray) (ys := (bv hy1).toArray) rfl rfl hash_guard (EQ1.out w4) ?_; focus (first | (simp [Region.wanted, yielded]; done) | (go_simp; done))) | (with_reducible refine wpList_load_w 23 _ rfl ?_ g5 67 rfl (bv hx2) _ p2 Try.underlying23 rfl rx2 ?_; focus (first | (simp [Region.wanted, yielded]; done) | (go_simp; done))) | (with_reducible refine wpList_load_w 23 _ rfl ?_ g6 67 rfl (bv hy2) _ q2 Try.underlying23 rfl ry2 ?_; focus (first | (simp [Region.wanted, yielded]; done) | (go_simp; done))) | (with_reducible refine wpList_neq_w 23 _ _ _ rfl ?_ (xs := (bv hx2).toArray) (ys := (bv hy2).toArray) rfl rfl hash_guard (EQ2.out w4) ?_; focus (first | (simp [Region.wanted, yielded]; done) | (go_simp; done))) | (with_reducible refine wpList_load_w 23 _ rfl ?_ g5 131 rfl (bv hx3) _ p3 Try.underlying23 rfl rx3 ?_; focus (first | (simp [Region.wanted, yielded]; done) | (go_simp; done))) | (with_reducible refine wpList_load_w 23 _ rfl ?_ g6 131 rfl (bv hy3) _ q3 Try.underlying23 rfl ry3 ?_; focus (first | (simp [Region.wanted, yielded]; done) | (go_simp; done))) | (with_reducible refine wpList_neq_w 23 _ _ _ rfl ?_ (xs := (bv hx3).toArray) (ys := (bv hy3).toArray) rfl rfl hash_guard (EQ3.out w4) ?_; focus (first | (simp [Region.wanted, yielded]; done) | (go_simp; done))))
            go_ret
            exact ⟨rfl, HCE.out⟩
          · obtain rfl : sAmn = Z := by rw [HK.out, decide_eq_false er]; rfl
            have erb : (ra == rb) = false := by simpa using er
            go_wp2_with (first | (with_reducible refine wpList_load_w 23 _ rfl ?_ g5 35 rfl (bv hx1) _ p1 Try.underlying23 rfl rx1 ?_; focus (first | (simp [Region.wanted, yielded]; done) | (go_simp; done))) | (with_reducible refine wpList_load_w 23 _ rfl ?_ g6 35 rfl (bv hy1) _ q1 Try.underlying23 rfl ry1 ?_; focus (first | (simp [Region.wanted, yielded]; done) | (go_simp; done))) | (with_reducible refine wpList_neq_w 23 _ _ _ rfl ?_ (xs := (bv hx1).toArray) (ys := (bv hy1).toArray) rfl rfl hash_guard (EQ1.out w4) ?_; focus (first | (simp [Region.wanted, yielded]; done) | (go_simp; done))) | (with_reducible refine wpList_load_w 23 _ rfl ?_ g5 67 rfl (bv hx2) _ p2 Try.underlying23 rfl rx2 ?_; focus (first | (simp [Region.wanted, yielded]; done) | (go_simp; done))) | (with_reducible refine wpList_load_w 23 _ rfl ?_ g6 67 rfl (bv hy2) _ q2 Try.underlying23 rfl ry2 ?_; focus (first | (simp [Region.wanted, yielded]; done) | (go_simp; done))) | (with_reducible refine wpList_neq_w 23 _ _ _ rfl ?_ (xs := (bv hx2).toArray) (ys := (bv hy2).toArray) rfl rfl hash_guard (EQ2.out w4) ?_; focus (first | (simp [Region.wanted, yielded]; done) | (go_simp; done))) | (with_reducible refine wpList_load_w 23 _ rfl ?_ g5 131 rfl (bv hx3) _ p3 Try.underlying23 rfl rx3 ?_; focus (first | (simp [Region.wanted, yielded]; done) | (go_simp; done))) | (with_reducible refine wpList_load_w 23 _ rfl ?_ g6 131 rfl (bv hy3) _ q3 Try.underlying23 rfl ry3 ?_; focus (first | (simp [Region.wanted, yielded]; done) | (go_simp; done))) | (with_reducible refine wpList_neq_w 23 _ _ _ rfl ?_ (xs := (bv hx3).toArray) (ys := (bv hy3).toArray) rfl rfl hash_guard (EQ3.out w4) ?_; focus (first | (simp [Region.wanted, yielded]; done) | (go_simp; done))))
            go_ret
            exact ⟨rfl, HCE.out⟩
  · refine wp_alloc _ rfl z (hal _) ?_
    simp only [Act.put, List.setIfInBounds_toArray, List.set_cons_zero, List.set_cons_succ]
    refine ⟨(Chg.refl Non _).alloc _, ?_⟩
    refine held_w (n := 4) (fuel := 2) (L' := #[true, true, true, true, true, true, false, false]) rfl (by kernel_rfl) rfl (by kernel_rfl) ?_
    refine wp_alloc _ rfl z (hal _) ?_
    simp only [Act.put, List.setIfInBounds_toArray, List.set_cons_zero, List.set_cons_succ]
    refine ⟨((Chg.refl Non _).alloc _).alloc _, ?_⟩
    obtain ⟨g5, g6, hg5, hg6, hb5, hb6, hne, k2⟩ : ∃ g5 g6, (wq.alloc (.cells z.toArray 25)).heap.size = g5 ∧ wq.heap.size = g6 ∧ Hb ((wq.alloc (.cells z.toArray 25)).alloc (.cells z.toArray 25)) g5 25 z.toArray ∧ Hb ((wq.alloc (.cells z.toArray 25)).alloc (.cells z.toArray 25)) g6 25 z.toArray ∧ g5 ≠ g6 ∧ (wq.heap.size ≤ g5 ∧ wq.heap.size ≤ g6) := ⟨_, _, rfl, rfl, Hb.new _ _ _, (Hb.new _ _ _).alloc _, by simp, by simp⟩
    rw [hg6, hg5]
    generalize hw2 : (wq.alloc (.cells z.toArray 25)).alloc (.cells z.toArray 25) = w2 at *
    have kw : Chg Non wq w2 := by rw [← hw2]; exact ((Chg.refl Non _).alloc _).alloc _
    clear hw2 hg5 hg6
    refine held_w (n := 6) (fuel := 1) (L' := #[true, true, true, true, true, true, true, false]) rfl (by kernel_rfl) rfl (by kernel_rfl) ?_
    refine wp_store_mid 25 _ _ rfl g5 0 cx.toArray rfl rfl (by rw [List.size_toArray, ← hzx]; exact hb5.there0) (by rw [List.size_toArray]; exact rx) (one_mem onex) ?_
    simp only [Act.put, List.setIfInBounds_toArray, List.set_cons_zero, List.set_cons_succ]
    try rw [List.toList_toArray]
    have c3 := Chg.setCells (S := (· = g5)) rfl cx w2 0 (Chg.refl _ w2)
    have h5 := hb5.sets0 hzx
    have h6 := hb6.chg c3 (fun e => hne e.symm)
    generalize w2.setCells g5 0 cx = w3 at *
    have k3 : Chg Non wq w3 := kw.trans c3 (fun j e => .inr (by rw [e]; exact k2.1))
    refine ⟨k3, ?_⟩
    refine held_w (n := 7) (fuel := 0) (L' := #[true, true, true, true, true, true, true, true]) rfl (by kernel_rfl) rfl (by kernel_rfl) ?_
    refine wp_store_mid 25 _ _ rfl g6 0 cy.toArray rfl rfl (by rw [List.size_toArray, ← hzy]; exact h6.there0) (by rw [List.size_toArray]; exact ry) (one_mem oney) ?_
    simp only [Act.put, List.setIfInBounds_toArray, List.set_cons_zero, List.set_cons_succ]
    try rw [List.toList_toArray]
    have c4 := Chg.setCells (S := (· = g6)) rfl cy w3 0 (Chg.refl _ w3)
    have i6 := h6.sets0 hzy
    have i5 := h5.chg c4 (fun e => hne e)
    generalize w3.setCells g6 0 cy = w4 at *
    have k4 : Chg Non wq w4 := k3.trans c4 (fun j e => .inr (by rw [e]; exact k2.2))
    refine ⟨k4, ?_⟩
    refine wpAnyH_done (by kernel_rfl) ?_ _
    refine ha _ _ ?_
    obtain ⟨d1, d2, d3, _, d5⟩ : (((cx.drop 35).take 32 = bv x.hd.set) ∧ ((cx.drop 67).take 32 = bv x.hd.next) ∧ ((cx.drop 131).take 32 = bv x.hd.app) ∧ True ∧ True) := ⟨HDX.out.2.1, HDX.out.2.2.1, HDX.out.2.2.2.2, trivial, trivial⟩
    obtain ⟨e1, e2, e3, _, e5⟩ : (((cy.drop 35).take 32 = bv y.hd.set) ∧ ((cy.drop 67).take 32 = bv y.hd.next) ∧ ((cy.drop 131).take 32 = bv y.hd.app) ∧ True ∧ True) := ⟨HDY.out.2.1, HDY.out.2.2.1, HDY.out.2.2.2.2, trivial, trivial⟩
    have p1 := range_sub i5.range0 d1
    have p2 := range_sub i5.range0 d2
    have p3 := range_sub i5.range0 d3
    have q1 := range_sub i6.range0 e1
    have q2 := range_sub i6.range0 e2
    have q3 := range_sub i6.range0 e3
    rw [Nat.zero_add] at p1 p2 p3 q1 q2 q3
    have rr1 := (HRX.out.chg k4 (fun f => f)).round
    have rr2 := (HRY.out.chg k4 (fun f => f)).round
    rw [Nat.zero_add] at rr1 rr2
    have HCE : Hid (Chg Non w w4) := Lib.hid (HCD.out.trans k4 (fun _ f => f.elim))
    clear d1 d2 d3 e1 e2 e3 d5 e5 i5 i6 k4 c4 h5 h6 k3 c3 hb5 hb6 kw k2 hne
    generalize x.hd.set = hx1 at *
    generalize x.hd.next = hx2 at *
    generalize x.hd.app = hx3 at *
    generalize y.hd.set = hy1 at *
    generalize y.hd.next = hy2 at *
    generalize y.hd.app = hy3 at *
    generalize x.r = ra at *
    generalize y.r = rb at *
    generalize decide (hx1 = hy1) = b1 at *
    generalize decide (hx2 = hy2) = b2 at *
    generalize decide (hx3 = hy3) = b3 at *
    cases b1 with
    | false =>
      obtain rfl : sLun = Z := by rw [HK.out]; rfl
      go_wp2_with (first | (with_reducible refine wpList_load_w 23 _ rfl ?_ g5 35 rfl (bv hx1) _ p1 Try.underlying23 rfl rx1 ?_; focus (first | (simp [Region.wanted, yielded]; done) | (go_simp; done))) | (with_reducible refine wpList_load_w 23 _ rfl ?_ g6 35 rfl (bv hy1) _ q1 Try.underlying23 rfl ry1 ?_; focus (first | (simp [Region.wanted, yielded]; done) | (go_simp; done))) | (with_reducible refine wpList_neq_w 23 _ _ _ rfl ?_ (xs := (bv hx1).toArray) (ys := (bv hy1).toArray) rfl rfl hash_guard (EQ1.out w4) ?_; focus (first | (simp [Region.wanted, yielded]; done) | (go_simp; done))) | (with_reducible refine wpList_load_w 23 _ rfl ?_ g5 67 rfl (bv hx2) _ p2 Try.underlying23 rfl rx2 ?_; focus (first | (simp [Region.wanted, yielded]; done) | (go_simp; done))) | (with_reducible refine wpList_load_w 23 _ rfl ?_ g6 67 rfl (bv hy2) _ q2 Try.underlying23 rfl ry2 ?_; focus (first | (simp [Region.wanted, yielded]; done) | (go_simp; done))) | (with_reducible refine wpList_neq_w 23 _ _ _ rfl ?_ (xs := (bv hx2).toArray) (ys := (bv hy2).toArray) rfl rfl hash_guard (EQ2.out w4) ?_; focus (first | (simp [Region.wanted, yielded]; done) | (go_simp; done))) | (with_reducible refine wpList_load_w 23 _ rfl ?_ g5 131 rfl (bv hx3) _ p3 Try.underlying23 rfl rx3 ?_; focus (first | (simp [Region.wanted, yielded]; done) | (go_simp; done))) | (with_reducible refine wpList_load_w 23 _ rfl ?_ g6 131 rfl (bv hy3) _ q3 Try.underlying23 rfl ry3 ?_; focus (first | (simp [Region.wanted, yielded]; done) | (go_simp; done))) | (with_reducible refine wpList_neq_w 23 _ _ _ rfl ?_ (xs := (bv hx3).toArray) (ys := (bv hy3).toArray) rfl rfl hash_guard (EQ3.out w4) ?_; focus (first | (simp [Region.wanted, yielded]; done) | (go_simp; done))))
      go_ret
      exact ⟨rfl, HCE.out⟩
    | true =>
      cases b2 with
      | false =>
        obtain rfl : sLun = Z := by rw [HK.out]; rfl
        go_wp2_with (first | (with_reducible refine wpList_load_w 23 _ rfl ?_ g5 35 rfl (bv hx1) _ p1 Try.underlying23 rfl rx1 ?_; focus (first | (simp [Region.wanted, yielded]; done) | (go_simp; done))) | (with_reducible refine wpList_load_w 23 _ rfl ?_ g6 35 rfl (bv hy1) _ q1 Try.underlying23 rfl ry1 ?_; focus (first | (simp [Region.wanted, yielded]; done) | (go_simp; done))) | (with_reducible refine wpList_neq_w 23 _ _ _ rfl ?_ (xs := (bv hx1).toArray) (ys := (bv hy1).toArray) rfl rfl hash_guard (EQ1.out w4) ?_; focus (first | (simp [Region.wanted, yielded]; done) | (go_simp; done))) | (with_reducible refine wpList_load_w 23 _ rfl ?_ g5 67 rfl (bv hx2) _ p2 Try.underlying23 rfl rx2 ?_; focus (first | (simp [Region.wanted, yielded]; done) | (go_simp; done))) | (with_reducible refine wpList_load_w 23 _ rfl ?_ g6 67 rfl (bv hy2) _ q2 Try.underlying23 rfl ry2 ?_; focus (first | (simp [Region.wanted, yielded]; done) | (go_simp; done))) | (with_reducible refine wpList_neq_w 23 _ _ _ rfl ?_ (xs := (bv hx2).toArray) (ys := (bv hy2).toArray) rfl rfl hash_guard (EQ2.out w4) ?_; focus (first | (simp [Region.wanted, yielded]; done) | (go_simp; done))) | (with_reducible refine wpList_load_w 23 _ rfl ?_ g5 131 rfl (bv hx3) _ p3 Try.underlying23 rfl rx3 ?_; focus (first | (simp [Region.wanted, yielded]; done) | (go_simp; done))) | (with_reducible refine wpList_load_w 23 _ rfl ?_ g6 131 rfl (bv hy3) _ q3 Try.underlying23 rfl ry3 ?_; focus (first | (simp [Region.wanted, yielded]; done) | (go_simp; done))) | (with_reducible refine wpList_neq_w 23 _ _ _ rfl ?_ (xs := (bv hx3).toArray) (ys := (bv hy3).toArray) rfl rfl hash_guard (EQ3.out w4) ?_; focus (first | (simp [Region.wanted, yielded]; done) | (go_simp; done))))
        go_ret
        exact ⟨rfl, HCE.out⟩
      | true =>
        cases b3 with
        | false =>
          obtain rfl : sLun = Z := by rw [HK.out]; rfl
          go_wp2_with (first | (with_reducible refine wpList_load_w 23 _ rfl ?_ g5 35 rfl (bv hx1) _ p1 Try.underlying23 rfl rx1 ?_; focus (first | (simp [Region.wanted, yielded]; done) | (go_simp; done))) | (with_reducible refine wpList_load_w 23 _ rfl ?_ g6 35 rfl (bv hy1) _ q1 Try.underlying23 rfl ry1 ?_; focus (first | (simp [Region.wanted, yielded]; done) | (go_simp; done))) | (with_reducible refine wpList_neq_w 23 _ _ _ rfl ?_ (xs := (bv hx1).toArray) (ys := (bv hy1).toArray) rfl rfl hash_guard (EQ1.out w4) ?_; focus (first | (simp [Region.wanted, yielded]; done) | (go_simp; done))) | (with_reducible refine wpList_load_w 23 _ rfl ?_ g5 67 rfl (bv hx2) _ p2 Try.underlying23 rfl rx2 ?_; focus (first | (simp [Region.wanted, yielded]; done) | (go_simp; done))) | (with_reducible refine wpList_load_w 23 _ rfl ?_ g6 67 rfl (bv hy2) _ q2 Try.underlying23 rfl ry2 ?_; focus (first | (simp [Region.wanted, yielded]; done) | (go_simp; done))) | (with_reducible refine wpList_neq_w 23 _ _ _ rfl ?_ (xs := (bv hx2).toArray) (ys := (bv hy2).toArray) rfl rfl hash_guard (EQ2.out w4) ?_; focus (first | (simp [Region.wanted, yielded]; done) | (go_simp; done))) | (with_reducible refine wpList_load_w 23 _ rfl ?_ g5 131 rfl (bv hx3) _ p3 Try.underlying23 rfl rx3 ?_; focus (first | (simp [Region.wanted, yielded]; done) | (go_simp; done))) | (with_reducible refine wpList_load_w 23 _ rfl ?_ g6 131 rfl (bv hy3) _ q3 Try.underlying23 rfl ry3 ?_; focus (first | (simp [Region.wanted, yielded]; done) | (go_simp; done))) | (with_reducible refine wpList_neq_w 23 _ _ _ rfl ?_ (xs := (bv hx3).toArray) (ys := (bv hy3).toArray) rfl rfl hash_guard (EQ3.out w4) ?_; focus (first | (simp [Region.wanted, yielded]; done) | (go_simp; done))))
          go_ret
          exact ⟨rfl, HCE.out⟩
        | true =>
          by_cases er : ra = rb
          · obtain rfl : sEqu = Z := by rw [HK.out, decide_eq_true er]; rfl
            have erb : (ra == rb) = true := by simpa using er
            have HER := Lib.hid er
            clear er HK
            go_wp2_with (first | (with_reducible refine wpList_load_w 23 _ rfl ?_ g5 35 rfl (bv hx1) _ p1 Try.underlying23 rfl rx1 ?_; focus (first | (simp [Region.wanted, yielded]; done) | (go_simp; done))) | (with_reducible refine wpList_load_w 23 _ rfl ?_ g6 35 rfl (bv hy1) _ q1 Try.underlying23 rfl ry1 ?_; focus (first | (simp [Region.wanted, yielded]; done) | (go_simp; done))) | (with_reducible refine wpList_neq_w 23 _ _ _ rfl ?_ (xs := (bv hx1).toArray) (ys := (bv hy1).toArray) rfl rfl hash_guard (EQ1.out w4) ?_; focus (first | (simp [Region.wanted, yielded]; done) | (go_simp; done))) | (with_reducible refine wpList_load_w 23 _ rfl ?_ g5 67 rfl (bv hx2) _ p2 Try.underlying23 rfl rx2 ?_; focus (first | (simp [Region.wanted, yielded]; done) | (go_simp; done))) | (with_reducible refine wpList_load_w 23 _ rfl ?_ g6 67 rfl (bv hy2) _ q2 Try.underlying23 rfl ry2 ?_; focus (first | (simp [Region.wanted, yielded]; done) | (go_simp; done))) | (with_reducible refine wpList_neq_w 23 _ _ _ rfl ?_ (xs := (bv hx2).toArray) (ys := (bv hy2).toArray) rfl rfl hash_guard (EQ2.out w4) ?_; focus (first | (simp [Region.wanted, yielded]; done) | (go_simp; done))) | (with_reducible refine wpList_load_w 23 _ rfl ?_ g5 131 rfl (bv hx3) _ p3 Try.underlying23 rfl rx3 ?_; focus (first | (simp [Region.wanted, yielded]; done) | (go_simp; done))) | (with_reducible refine wpList_load_w 23 _ rfl ?_ g6 131 rfl (bv hy3) _ q3 Try.underlying23 rfl ry3 ?_; focus (first | (simp [Region.wanted, yielded]; done) | (go_simp; done))) | (with_reducible refine wpList_neq_w 23 _ _ _ rfl ?_ (xs := (bv hx3).toArray) (ys := (bv hy3).toArray) rfl rfl hash_guard (EQ3.out w4) ?_; focus (first | (simp [Region.wanted, yielded]; done) | (go_simp; done))))
            go_ret
            exact ⟨rfl, HCE.out⟩
          · obtain rfl : sAmn = Z := by rw [HK.out, decide_eq_false er]; rfl
            have erb : (ra == rb) = false := by simpa using er
            go_wp2_with (first | (with_reducible refine wpList_load_w 23 _ rfl ?_ g5 35 rfl (bv hx1) _ p1 Try.underlying23 rfl rx1 ?_; focus (first | (simp [Region.wanted, yielded]; done) | (go_simp; done))) | (with_reducible refine wpList_load_w 23 _ rfl ?_ g6 35 rfl (bv hy1) _ q1 Try.underlying23 rfl ry1 ?_; focus (first | (simp [Region.wanted, yielded]; done) | (go_simp; done))) | (with_reducible refine wpList_neq_w 23 _ _ _ rfl ?_ (xs := (bv hx1).toArray) (ys := (bv hy1).toArray) rfl rfl hash_guard (EQ1.out w4) ?_; focus (first | (simp [Region.wanted, yielded]; done) | (go_simp; done))) | (with_reducible refine wpList_load_w 23 _ rfl ?_ g5 67 rfl (bv hx2) _ p2 Try.underlying23 rfl rx2 ?_; focus (first | (simp [Region.wanted, yielded]; done) | (go_simp; done))) | (with_reducible refine wpList_load_w 23 _ rfl ?_ g6 67 rfl (bv hy2) _ q2 Try.underlying23 rfl ry2 ?_; focus (first | (simp [Region.wanted, yielded]; done) | (go_simp; done))) | (with_reducible refine wpList_neq_w 23 _ _ _ rfl ?_ (xs := (bv hx2).toArray) (ys := (bv hy2).toArray) rfl rfl hash_guard (EQ2.out w4) ?_; focus (first | (simp [Region.wanted, yielded]; done) | (go_simp; done))) | (with_reducible refine wpList_load_w 23 _ rfl ?_ g5 131 rfl (bv hx3) _ p3 Try.underlying23 rfl rx3 ?_; focus (first | (simp [Region.wanted, yielded]; done) | (go_simp; done))) | (with_reducible refine wpList_load_w 23 _ rfl ?_ g6 131 rfl (bv hy3) _ q3 Try.underlying23 rfl ry3 ?_; focus (first | (simp [Region.wanted, yielded]; done) | (go_simp; done))) | (with_reducible refine wpList_neq_w 23 _ _ _ rfl ?_ (xs := (bv hx3).toArray) (ys := (bv hy3).toArray) rfl rfl hash_guard (EQ3.out w4) ?_; focus (first | (simp [Region.wanted, yielded]; done) | (go_simp; done))))
            go_ret
            exact ⟨rfl, HCE.out⟩
end Go.Proofs.Ytflellcbfcakhaa
