/- SameSet, SameCommit, SameLight of nuncioref06: what is held against itself is the same. -/
import Derived.Test.YtjcfdclgddjaoaaChecked
import Derived.WalkKit
import Derived.WalkLawsBesides
import Derived.Lib.Hide
import Derived.Deep.QuietTactic
import Derived.BigQuiet
import Derived.Deep.RegionHeld3
import Derived.Test.YtjcfdclgddjaoaaFxl
import Derived.Test.YtjcfdclgddjaoaaFz
namespace Go.Proofs.Ytjcfdclgddjaoaa
open Go.RowKit
set_option linter.unusedVariables false
set_option linter.unusedSimpArgs false
set_option maxRecDepth 20000

set_option maxHeartbeats 1600000 in
theorem sameSet_yes (w : World) (A B : Option Addr) (c d : Nat) (l : List Va) (hl : l.length ≤ maxLen) (M : LstM w A l Va.cells 2) (N : LstM w B l Va.cells 2) :
    Calls Try.prog 30 #[.slice A l.length c, .slice B l.length d] w (Zero w (.bool true)) := by
  have HM := Lib.hid M
  have HN := Lib.hid N
  unfold maxLen at hl
  clear M N
  generalize hn : l.length = n at *
  have HL := Lib.hid hn
  clear hn
  go_enter Try.func30, Try.ntmps30
  go_wp2_with fail
  go_loopw [5] (fun i wr => ∃ k : Nat, k ≤ n ∧ i = .int .i64 (k : Int) ∧ Chg Non w wr) (fun i _ => n - (intOf i).toNat)
  case atStart => exact ⟨0, by omega, rfl, Chg.refl _ _⟩
  case round =>
    obtain ⟨k, hk, rfl, hC⟩ := hrel
    by_cases hlt : k < n
    · have hkl : k < l.length := by rw [HL.out]; exact hlt
      have hx := List.getElem?_eq_getElem hkl
      obtain ⟨a, ao, rfl, _, r1⟩ := (HM.out.chg hC) k _ hx
      obtain ⟨b, bo, rfl, _, r2⟩ := (HN.out.chg hC) k _ hx
      generalize l[k] = x at *
      obtain ⟨p0, p1⟩ := rangeAt_cons r1
      obtain ⟨p1, _⟩ := rangeAt_cons p1
      obtain ⟨q0, q1⟩ := rangeAt_cons r2
      obtain ⟨q1, _⟩ := rangeAt_cons q1
      have hki : (k : Int) < (n : Int) := by omega
      clear r1 r2 hx hkl
      go_wp2_with fail
      go_quiet (fail)
      go_wp2_with fail
      go_roundw
      case rel => exact ⟨k + 1, by omega, by go_num, hC.drewN _⟩
      case measure => simp [intOf]; omega
    · obtain rfl : k = n := by omega
      go_wp2
      go_ret
      exact ⟨rfl, hC⟩

theorem hash_guard : Try.prog.eqGuardType Try.prog.depth 45 = false := by kernel_rfl
theorem commit_row : (Try.prog.info? 68).map (·.size) = some 35 := by kernel_rfl
set_option maxHeartbeats 1600000 in
theorem sameCommit_yes (w : World) (A B : Option Addr) (c d : Nat) (x : Cm) (ox : x.Ok) (hl : x.seals.length ≤ maxLen) (M : LstM w A x.seals Se.cells 3) (N : LstM w B x.seals Se.cells 3) :
    Calls Try.prog 31 #[.agg (x.cells (.slice A x.seals.length c)).toArray, .agg (x.cells (.slice B x.seals.length d)).toArray] w (Zero w (.bool true)) := by
  have FACTS : ∀ w1 w2, Hid (w1 = w.alloc (.cells (x.cells (.slice A x.seals.length c)).toArray 68)) → Hid (w2 = w1.alloc (.cells (x.cells (.slice B x.seals.length d)).toArray 68)) →
      (w2.cell? ⟨w.heap.size, 0, none⟩ = some (.int .i64 x.height) ∧ w2.cell? ⟨w.heap.size, 1, none⟩ = some (.int .i64 x.round) ∧ w2.rangeAt w.heap.size 2 (bv x.block) ∧ w2.cell? ⟨w.heap.size, 34, none⟩ = some (.slice A x.seals.length c)) ∧
      (w2.cell? ⟨w1.heap.size, 0, none⟩ = some (.int .i64 x.height) ∧ w2.cell? ⟨w1.heap.size, 1, none⟩ = some (.int .i64 x.round) ∧ w2.rangeAt w1.heap.size 2 (bv x.block) ∧ w2.cell? ⟨w1.heap.size, 34, none⟩ = some (.slice B x.seals.length d)) ∧ Chg Non w w2 := by
    intro w1 w2 h1 h2
    have hC1 : Chg Non w w1 := by rw [h1.out]; exact (Chg.refl Non w).alloc _
    have hC2 : Chg Non w1 w2 := by rw [h2.out]; exact (Chg.refl Non w1).alloc _
    have b1 : Hb w1 w.heap.size 68 (x.cells (.slice A x.seals.length c)).toArray := by rw [h1.out]; exact Hb.new w _ _
    have b2 : Hb w2 w1.heap.size 68 (x.cells (.slice B x.seals.length d)).toArray := by rw [h2.out]; exact Hb.new w1 _ _
    have key : ∀ (n : Nat) (s : Value), w2.rangeAt n 0 (x.cells s) → w2.cell? ⟨n, 0, none⟩ = some (.int .i64 x.height) ∧ w2.cell? ⟨n, 1, none⟩ = some (.int .i64 x.round) ∧ w2.rangeAt n 2 (bv x.block) ∧ w2.cell? ⟨n, 34, none⟩ = some s := by
      intro n s R
      obtain ⟨r1, r2⟩ := rangeAt_app R
      obtain ⟨f0, r1⟩ := rangeAt_cons r1
      obtain ⟨f1, _⟩ := rangeAt_cons r1
      obtain ⟨f2, r2⟩ := rangeAt_app r2
      obtain ⟨f3, _⟩ := rangeAt_cons r2
      rw [bv_length, ox.block] at f3
      exact ⟨f0, f1, f2, f3⟩
    exact ⟨key _ _ (b1.chg hC2 (fun f => f)).range0, key _ _ b2.range0, hC1.trans hC2 (fun _ f => f.elim)⟩
  have HF := Lib.hid FACTS
  have HM := Lib.hid M
  have HN := Lib.hid N
  have hbl := ox.block
  have hi : (Try.prog.info? 45).map (·.size) = some (bv x.block).length := by rw [bv_length, hbl]; exact hash_row
  have HE : ∀ w' : World, (Op.equalIn 10000 45 (.agg (bv x.block).toArray) (.agg (bv x.block).toArray)).run Try.prog w' = .ok true w' := fun w' => by rw [run_eq_hash w' hbl hbl]; simp
  have HEE := Lib.hid HE
  unfold maxLen at hl
  generalize hca : (x.cells (.slice A x.seals.length c)).toArray = ca at *
  generalize hcb : (x.cells (.slice B x.seals.length d)).toArray = cb at *
  generalize bv x.block = hb at *
  generalize x.height = ht at *
  generalize x.round = rd at *
  generalize x.seals = l at *
  generalize hn : l.length = n at *
  have HL := Lib.hid hn
  clear M N FACTS HE hca hcb hn ox hbl
  go_enter Try.func31, Try.ntmps31
  go_wp2_with (first | (with_reducible refine wpList_box_row rfl _ _ rfl (cs := ca) rfl ?_; intro w1 hw1) | (with_reducible refine wpList_box_row rfl _ _ rfl (cs := cb) rfl ?_; intro w2 hw2; obtain ⟨⟨a0, a1, a2, a3⟩, ⟨b0, b1, b2, b3⟩, hC2⟩ := HF.out w1 w2 hw1 hw2; have EE := HEE.out w2) | (with_reducible refine wpList_load_w 45 _ rfl ?_ w.heap.size 2 rfl hb _ a2 Try.underlying45 rfl hi ?_; focus (first | (simp [Region.wanted, yielded]; done) | (go_simp; done))) | (with_reducible refine wpList_load_w 45 _ rfl ?_ w1.heap.size 2 rfl hb _ b2 Try.underlying45 rfl hi ?_; focus (first | (simp [Region.wanted, yielded]; done) | (go_simp; done))) | (with_reducible refine wpList_neq_w 45 _ _ _ rfl ?_ (xs := hb.toArray) (ys := hb.toArray) rfl rfl hash_guard EE ?_; focus (first | (simp [Region.wanted, yielded]; done) | (go_simp; done))))
  go_loopw [5] (fun i wr => ∃ k : Nat, k ≤ n ∧ i = .int .i64 (k : Int) ∧ Chg Non w2 wr) (fun i _ => n - (intOf i).toNat)
  case atStart => exact ⟨0, by omega, rfl, Chg.refl _ _⟩
  case round =>
    obtain ⟨k, hk, rfl, hC⟩ := hrel
    have a3' := hC.cell a3 (fun f => f)
    have b3' := hC.cell b3 (fun f => f)
    by_cases hlt : k < n
    · have hkl : k < l.length := by rw [HL.out]; exact hlt
      have hx := List.getElem?_eq_getElem hkl
      obtain ⟨a, ao, rfl, _, r1⟩ := (HM.out.chg (hC2.trans hC (fun _ f => f.elim))) k _ hx
      obtain ⟨b, bo, rfl, _, r2⟩ := (HN.out.chg (hC2.trans hC (fun _ f => f.elim))) k _ hx
      generalize l[k] = y at *
      obtain ⟨p0, p1⟩ := rangeAt_cons r1
      obtain ⟨p1, p2⟩ := rangeAt_cons p1
      obtain ⟨p2, _⟩ := rangeAt_cons p2
      obtain ⟨q0, q1⟩ := rangeAt_cons r2
      obtain ⟨q1, q2⟩ := rangeAt_cons q1
      obtain ⟨q2, _⟩ := rangeAt_cons q2
      have hki : (k : Int) < (n : Int) := by omega
      clear r1 r2 hx hkl
      go_wp2_with fail
      go_quiet (fail)
      go_wp2_with fail
      go_roundw
      case rel => exact ⟨k + 1, by omega, by go_num, hC.drewN _⟩
      case measure => simp [intOf]; omega
    · obtain rfl : k = n := by omega
      go_wp2
      go_ret
      exact ⟨rfl, hC2.trans hC (fun _ f => f.elim)⟩

set_option maxHeartbeats 3200000 in
theorem sameLight_yes (w : World) (A1 A2 A3 B1 B2 B3 : Option Addr) (c1 c2 c3 d1 d2 d3 : Nat) (x : Lt) (ox : x.Ok) (hl1 : x.commit.seals.length ≤ maxLen) (hl2 : x.set.length ≤ maxLen) (hl3 : x.next.length ≤ maxLen)
    (M1 : LstM w A1 x.commit.seals Se.cells 3) (M2 : LstM w A2 x.set Va.cells 2) (M3 : LstM w A3 x.next Va.cells 2) (N1 : LstM w B1 x.commit.seals Se.cells 3) (N2 : LstM w B2 x.set Va.cells 2) (N3 : LstM w B3 x.next Va.cells 2) :
    Calls Try.prog 32 #[.agg (x.cells (.slice A1 x.commit.seals.length c1) (.slice A2 x.set.length c2) (.slice A3 x.next.length c3)).toArray, .agg (x.cells (.slice B1 x.commit.seals.length d1) (.slice B2 x.set.length d2) (.slice B3 x.next.length d3)).toArray] w (Zero w (.bool true)) := by
  have hh := x.header.cells_len ox.header
  have hcl := x.commit.cells_len ox.commit
  have hih : (Try.prog.info? 54).map (·.size) = some x.header.cells.length := by rw [hh]; kernel_rfl
  have hic : ∀ s, (Try.prog.info? 68).map (·.size) = some (x.commit.cells s).length := fun s => by rw [hcl]; exact commit_row
  have hic1 := hic (.slice A1 x.commit.seals.length c1)
  have hic2 := hic (.slice B1 x.commit.seals.length d1)
  have FACTS : ∀ w1 w2, Hid (w1 = w.alloc (.cells (x.cells (.slice A1 x.commit.seals.length c1) (.slice A2 x.set.length c2) (.slice A3 x.next.length c3)).toArray 72)) → Hid (w2 = w1.alloc (.cells (x.cells (.slice B1 x.commit.seals.length d1) (.slice B2 x.set.length d2) (.slice B3 x.next.length d3)).toArray 72)) →
      Hid (∀ w3, Chg Non w2 w3 → (w3.rangeAt w.heap.size 0 x.header.cells ∧ w3.rangeAt w.heap.size 163 (x.commit.cells (.slice A1 x.commit.seals.length c1)) ∧ w3.cell? ⟨w.heap.size, 198, none⟩ = some (.slice A2 x.set.length c2) ∧ w3.cell? ⟨w.heap.size, 199, none⟩ = some (.slice A3 x.next.length c3)) ∧
      (w3.rangeAt w1.heap.size 0 x.header.cells ∧ w3.rangeAt w1.heap.size 163 (x.commit.cells (.slice B1 x.commit.seals.length d1)) ∧ w3.cell? ⟨w1.heap.size, 198, none⟩ = some (.slice B2 x.set.length d2) ∧ w3.cell? ⟨w1.heap.size, 199, none⟩ = some (.slice B3 x.next.length d3))) ∧ Chg Non w w2 := by
    intro w1 w2 h1 h2
    have hC1 : Chg Non w w1 := by rw [h1.out]; exact (Chg.refl Non w).alloc _
    have hC2 : Chg Non w1 w2 := by rw [h2.out]; exact (Chg.refl Non w1).alloc _
    have b1 : Hb w1 w.heap.size 72 (x.cells (.slice A1 x.commit.seals.length c1) (.slice A2 x.set.length c2) (.slice A3 x.next.length c3)).toArray := by rw [h1.out]; exact Hb.new w _ _
    have b2 : Hb w2 w1.heap.size 72 (x.cells (.slice B1 x.commit.seals.length d1) (.slice B2 x.set.length d2) (.slice B3 x.next.length d3)).toArray := by rw [h2.out]; exact Hb.new w1 _ _
    refine ⟨Lib.hid fun w3 k3 => ?_, hC1.trans hC2 (fun _ f => f.elim)⟩
    have key : ∀ (n : Nat) (s t u : Value), w3.rangeAt n 0 (x.cells s t u) → w3.rangeAt n 0 x.header.cells ∧ w3.rangeAt n 163 (x.commit.cells s) ∧ w3.cell? ⟨n, 198, none⟩ = some t ∧ w3.cell? ⟨n, 199, none⟩ = some u := by
      intro n s t u R
      obtain ⟨f0, r2⟩ := rangeAt_app R
      obtain ⟨f1, r3⟩ := rangeAt_app r2
      obtain ⟨f2, r4⟩ := rangeAt_cons r3
      obtain ⟨f3, _⟩ := rangeAt_cons r4
      rw [hh] at f1
      rw [hh, hcl] at f2 f3
      exact ⟨f0, by simpa using f1, by simpa using f2, by simpa using f3⟩
    exact ⟨key _ _ _ _ ((b1.chg hC2 (fun f => f)).chg k3 (fun f => f)).range0, key _ _ _ _ (b2.chg k3 (fun f => f)).range0⟩
  have HF := Lib.hid FACTS
  have HC : ∀ w', Chg Non w w' → Calls Try.prog 31 #[.agg (x.commit.cells (.slice A1 x.commit.seals.length c1)).toArray, .agg (x.commit.cells (.slice B1 x.commit.seals.length d1)).toArray] w' (Zero w' (.bool true)) := fun w' k => sameCommit_yes w' A1 B1 c1 d1 x.commit ox.commit hl1 (M1.chg k) (N1.chg k)
  have H2 : ∀ w', Chg Non w w' → Calls Try.prog 30 #[.slice A2 x.set.length c2, .slice B2 x.set.length d2] w' (Zero w' (.bool true)) := fun w' k => sameSet_yes w' A2 B2 c2 d2 x.set hl2 (M2.chg k) (N2.chg k)
  have H3 : ∀ w', Chg Non w w' → Calls Try.prog 30 #[.slice A3 x.next.length c3, .slice B3 x.next.length d3] w' (Zero w' (.bool true)) := fun w' k => sameSet_yes w' A3 B3 c3 d3 x.next hl3 (M3.chg k) (N3.chg k)
  have HE : ∀ w' : World, (Op.equalIn 10000 54 (.agg x.header.cells.toArray) (.agg x.header.cells.toArray)).run Try.prog w' = .ok true w' := fun w' => by rw [run_eq_header 9997 w' x.header x.header ox.header ox.header]; simp
  have HCC := Lib.hid HC
  have HH2 := Lib.hid H2
  have HH3 := Lib.hid H3
  have HEE := Lib.hid HE
  generalize (x.cells (.slice A1 x.commit.seals.length c1) (.slice A2 x.set.length c2) (.slice A3 x.next.length c3)).toArray = ca at *
  generalize (x.cells (.slice B1 x.commit.seals.length d1) (.slice B2 x.set.length d2) (.slice B3 x.next.length d3)).toArray = cb at *
  generalize x.commit.cells (.slice A1 x.commit.seals.length c1) = k1 at *
  generalize x.commit.cells (.slice B1 x.commit.seals.length d1) = k2 at *
  generalize x.header.cells = kh at *
  clear FACTS HC H2 H3 HE M1 M2 M3 N1 N2 N3 hh hcl hic hl1 hl2 hl3
  go_enter Try.func32, Try.ntmps32
  go_wp2_with (first | (with_reducible refine wpList_box_row rfl _ _ rfl (cs := ca) rfl ?_; intro w1 hw1) | (with_reducible refine wpList_box_row rfl _ _ rfl (cs := cb) rfl ?_; intro w2 hw2; obtain ⟨FF, hC2⟩ := HF.out w1 w2 hw1 hw2; obtain ⟨⟨a0, a1, a2, a3⟩, ⟨b0, b1, b2, b3⟩⟩ := FF.out w2 (Chg.refl _ _)) | (with_reducible refine wpList_load_mid rfl 68 _ rfl w.heap.size 163 rfl k1 _ a1 Try.underlying68 rfl hic1 ?_) | (with_reducible refine wpList_load_mid rfl 68 _ rfl w1.heap.size 163 rfl k2 _ b1 Try.underlying68 rfl hic2 ?_))
  refine (HCC.out w2 hC2).mono ?_
  rintro e w3 ⟨rfl, q3⟩
  clear a0 a1 a2 a3 b0 b1 b2 b3
  obtain ⟨⟨a0, a1, a2, a3⟩, ⟨b0, b1, b2, b3⟩⟩ := FF.out w3 q3
  go_wp2_with fail
  refine (HH2.out w3 (hC2.trans q3 (fun _ f => f.elim))).mono ?_
  rintro e w4 ⟨rfl, q4⟩
  clear a0 a1 a2 a3 b0 b1 b2 b3
  have q24 := q3.trans q4 (fun _ f => f.elim)
  obtain ⟨⟨a0, a1, a2, a3⟩, ⟨b0, b1, b2, b3⟩⟩ := FF.out w4 q24
  go_wp2_with fail
  refine (HH3.out w4 (hC2.trans q24 (fun _ f => f.elim))).mono ?_
  rintro e w5 ⟨rfl, q5⟩
  clear a0 a1 a2 a3 b0 b1 b2 b3
  have q25 := q24.trans q5 (fun _ f => f.elim)
  obtain ⟨⟨a0, a1, a2, a3⟩, ⟨b0, b1, b2, b3⟩⟩ := FF.out w5 q25
  have EE := HEE.out w5
  go_wp2_with (first | (with_reducible refine wpList_load_mid rfl 54 _ rfl w.heap.size 0 rfl kh _ a0 Try.underlying54 rfl hih ?_) | (with_reducible refine wpList_load_mid rfl 54 _ rfl w1.heap.size 0 rfl kh _ b0 Try.underlying54 rfl hih ?_) | (with_reducible refine wpList_eql_w 54 _ _ _ rfl ?_ (xs := kh.toArray) (ys := kh.toArray) rfl rfl header_guard EE ?_; focus (first | (simp [Region.wanted, yielded]; done) | (go_simp; done))))
  go_ret
  exact ⟨rfl, hC2.trans q25 (fun _ f => f.elim)⟩
end Go.Proofs.Ytjcfdclgddjaoaa
