import Derived.Test.YteglpgakikigiaaChecked
import Derived.WalkKit
import Derived.WalkLawsBesides
import Derived.Lib.Hide
import Derived.Deep.QuietTactic
import Derived.BigQuiet
import Derived.Deep.RegionHeld3
import Derived.Test.YteglpgakikigiaaMFormLists10
import Derived.Test.YteglpgakikigiaaMFormLists13
import Derived.Test.YteglpgakikigiaaMFormLists15
/- SameSet, SameCommit, SameLight of nuncioref06: what is held against itself is the same. -/
namespace Go.Proofs.Yteglpgakikigiaa
open Go.RowKit
set_option linter.unusedVariables false
set_option linter.unusedSimpArgs false
set_option maxRecDepth 20000

set_option maxHeartbeats 1600000 in
theorem sameSet_yes (w : World) (A B : Option Addr) (c d : Nat) (l : List Va) (hl : l.length ≤ maxLen) (M : LstM w A l Va.cells 2) (N : LstM w B l Va.cells 2) :
    Calls Try.prog 11 #[.slice A l.length c, .slice B l.length d] w (Zero w (.bool true)) := by
  have HM := Lib.hid M
  have HN := Lib.hid N
  unfold maxLen at hl
  clear M N
  generalize hn : l.length = n at *
  have HL := Lib.hid hn
  clear hn
  go_enter Try.func11, Try.ntmps11
  go_wp2_with fail
  go_loopw [5] (fun i wr => ∃ k : Nat, k ≤ n ∧ i = .int .i64 (k : Int) ∧ Chg Non w wr) (fun i _ => n - (intOf i).toNat)
  case atStart => exact ⟨0, by omega, rfl, Chg.refl _ _⟩
  case round =>
    obtain ⟨k, hk, rfl, hC⟩ := hrel
    by_cases hlt : k < n
    · have hkl : k < l.length := by rw [HL.out]; exact hlt
      have hx := List.getElem?_eq_getElem hkl
      obtain ⟨a, ao, rfl, _, r1⟩ := (HM.out.chg hC) k _ hx
      obtain ⟨b, bo, rfl, _, r2⟩ := (HN.out.chg hC) k _ hx
      generalize l[k] = x at *
      obtain ⟨p0, p1⟩ := rangeAt_cons r1
      obtain ⟨p1, _⟩ := rangeAt_cons p1
      obtain ⟨q0, q1⟩ := rangeAt_cons r2
      obtain ⟨q1, _⟩ := rangeAt_cons q1
      have hki : (k : Int) < (n : Int) := by omega
      clear r1 r2 hx hkl
      go_wp2_with fail
      go_quiet (fail)
      go_wp2_with fail
      go_roundw
      case rel => exact ⟨k + 1, by omega, by go_num, hC.drewN _⟩
      case measure => simp [intOf]; omega
    · obtain rfl : k = n := by omega
      go_wp2
      go_ret
      exact ⟨rfl, hC⟩

theorem hash_guard : Try.prog.eqGuardType Try.prog.depth 29 = false := by kernel_rfl
theorem commit_row : (Try.prog.info? 32).map (·.size) = some 35 := by kernel_rfl
set_option maxHeartbeats 1600000 in
theorem sameCommit_yes (w : World) (A B : Option Addr) (c d : Nat) (x : Cm) (ox : x.Ok) (hl : x.seals.length ≤ maxLen) (M : LstM w A x.seals Se.cells 3) (N : LstM w B x.seals Se.cells 3) :
    Calls Try.prog 12 #[.agg (x.cells (.slice A x.seals.length c)).toArray, .agg (x.cells (.slice B x.seals.length d)).toArray] w (Zero w (.bool true)) := by
  have FACTS : ∀ w1 w2, Hid (w1 = w.alloc (.cells (x.cells (.slice A x.seals.length c)).toArray 32)) → Hid (w2 = w1.alloc (.cells (x.cells (.slice B x.seals.length d)).toArray 32)) →
      (w2.cell? ⟨w.heap.size, 0, none⟩ = some (.int .i64 x.height) ∧ w2.cell? ⟨w.heap.size, 1, none⟩ = some (.int .i64 x.round) ∧ w2.rangeAt w.heap.size 2 (bv x.block) ∧ w2.cell? ⟨w.heap.size, 34, none⟩ = some (.slice A x.seals.length c)) ∧
      (w2.cell? ⟨w1.heap.size, 0, none⟩ = some (.int .i64 x.height) ∧ w2.cell? ⟨w1.heap.size, 1, none⟩ = some (.int .i64 x.round) ∧ w2.rangeAt w1.heap.size 2 (bv x.block) ∧ w2.cell? ⟨w1.heap.size, 34, none⟩ = some (.slice B x.seals.length d)) ∧ Chg Non w w2 := by
    intro w1 w2 h1 h2
    have hC1 : Chg Non w w1 := by rw [h1.out]; exact (Chg.refl Non w).alloc _
    have hC2 : Chg Non w1 w2 := by rw [h2.out]; exact (Chg.refl Non w1).alloc _
    have b1 : Hb w1 w.heap.size 32 (x.cells (.slice A x.seals.length c)).toArray := by rw [h1.out]; exact Hb.new w _ _
    have b2 : Hb w2 w1.heap.size 32 (x.cells (.slice B x.seals.length d)).toArray := by rw [h2.out]; exact Hb.new w1 _ _
    have key : ∀ (n : Nat) (s : Value), w2.rangeAt n 0 (x.cells s) → w2.cell? ⟨n, 0, none⟩ = some (.int .i64 x.height) ∧ w2.cell? ⟨n, 1, none⟩ = some (.int .i64 x.round) ∧ w2.rangeAt n 2 (bv x.block) ∧ w2.cell? ⟨n, 34, none⟩ = some s := by
      intro n s R
      obtain ⟨r1, r2⟩ := rangeAt_app R
      obtain ⟨f0, r1⟩ := rangeAt_cons r1
      obtain ⟨f1, _⟩ := rangeAt_cons r1
      obtain ⟨f2, r2⟩ := rangeAt_app r2
      obtain ⟨f3, _⟩ := rangeAt_cons r2
      rw [bv_length, ox.block] at f3
      exact ⟨f0, f1, f2, f3⟩
    exact ⟨key _ _ (b1.chg hC2 (fun f => f)).range0, key _ _ b2.range0, hC1.trans hC2 (fun _ f => f.elim)⟩
  have HF := Lib.hid FACTS
  have HM := Lib.hid M
  have HN := Lib.hid N
  have hbl := ox.block
  have hi : (Try.prog.info? 29).map (·.size) = some (bv x.block).length := by rw [bv_length, hbl]; exact hash_row
  have HE : ∀ w' : World, (Op.equalIn 10000 29 (.agg (bv x.block).toArray) (.agg (bv x.block).toArray)).run Try.prog w' = .ok true w' := fun w' => by rw [run_eq_hash w' hbl hbl]; simp
  have HEE := Lib.hid HE
  unfold maxLen at hl
  generalize hca : (x.cells (.slice A x.seals.length c)).toArray = ca at *
  generalize hcb : (x.cells (.slice B x.seals.length d)).toArray = cb at *
  generalize bv x.block = hb at *
  generalize x.height = ht at *
  generalize x.round = rd at *
  generalize x.seals = l at *
  generalize hn : l.length = n at *
  have HL := Lib.hid hn
  clear M N FACTS HE hca hcb hn ox hbl
  go_enter Try.func12, Try.ntmps12
  go_wp2_with (first | (with_reducible refine wpList_box_row rfl _ _ rfl (cs := ca) rfl ?_; intro w1 hw1) | (with_reducible refine wpList_box_row rfl _ _ rfl (cs := cb) rfl ?_; intro w2 hw2; obtain ⟨⟨a0, a1, a2, a3⟩, ⟨b0, b1, b2, b3⟩, hC2⟩ := HF.out w1 w2 hw1 hw2; have EE := HEE.out w2) | (with_reducible refine wpList_load_w 29 _ rfl ?_ w.heap.size 2 rfl hb _ a2 Try.underlying29 rfl hi ?_; focus (first | (simp [Region.wanted, yielded]; done) | (go_simp; done))) | (with_reducible refine wpList_load_w 29 _ rfl ?_ w1.heap.size 2 rfl hb _ b2 Try.underlying29 rfl hi ?_; focus (first | (simp [Region.wanted, yielded]; done) | (go_simp; done))) | (with_reducible refine wpList_neq_w 29 _ _ _ rfl ?_ (xs := hb.toArray) (ys := hb.toArray) rfl rfl hash_guard EE ?_; focus (first | (simp [Region.wanted, yielded]; done) | (go_simp; done))))
  go_loopw [5] (fun i wr => ∃ k : Nat, k ≤ n ∧ i = .int .i64 (k : Int) ∧ Chg Non w2 wr) (fun i _ => n - (intOf i).toNat)
  case atStart => exact ⟨0, by omega, rfl, Chg.refl _ _⟩
  case round =>
    obtain ⟨k, hk, rfl, hC⟩ := hrel
    have a3' := hC.cell a3 (fun f => f)
    have b3' := hC.cell b3 (fun f => f)
    by_cases hlt : k < n
    · have hkl : k < l.length := by rw [HL.out]; exact hlt
      have hx := List.getElem?_eq_getElem hkl
      obtain ⟨a, ao, rfl, _, r1⟩ := (HM.out.chg (hC2.trans hC (fun _ f => f.elim))) k _ hx
      obtain ⟨b, bo, rfl, _, r2⟩ := (HN.out.chg (hC2.trans hC (fun _ f => f.elim))) k _ hx
      generalize l[k] = y at *
      obtain ⟨p0, p1⟩ := rangeAt_cons r1
      obtain ⟨p1, p2⟩ := rangeAt_cons p1
      obtain ⟨p2, _⟩ := rangeAt_cons p2
      obtain ⟨q0, q1⟩ := rangeAt_cons r2
      obtain ⟨q1, q2⟩ := rangeAt_cons q1
      obtain ⟨q2, _⟩ := rangeAt_cons q2
      have hki : (k : Int) < (n : Int) := by omega
      clear r1 r2 hx hkl
      go_wp2_with fail
      go_quiet (fail)
      go_wp2_with fail
      go_roundw
      case rel => exact ⟨k + 1, by omega, by go_num, hC.drewN _⟩
      case measure => simp [intOf]; omega
    · obtain rfl : k = n := by omega
      go_wp2
      go_ret
      exact ⟨rfl, hC2.trans hC (fun _ f => f.elim)⟩

set_option maxHeartbeats 3200000 in
theorem sameLight_yes (w : World) (A1 A2 A3 B1 B2 B3 : Option Addr) (c1 c2 c3 d1 d2 d3 : Nat) (x : Lt) (ox : x.Ok) (hl1 : x.commit.seals.length ≤ maxLen) (hl2 : x.set.length ≤ maxLen) (hl3 : x.next.length ≤ maxLen)
    (M1 : LstM w A1 x.commit.seals Se.cells 3) (M2 : LstM w A2 x.set Va.cells 2) (M3 : LstM w A3 x.next Va.cells 2) (N1 : LstM w B1 x.commit.seals Se.cells 3) (N2 : LstM w B2 x.set Va.cells 2) (N3 : LstM w B3 x.next Va.cells 2) :
    Calls Try.prog 13 #[.agg (x.cells (.slice A1 x.commit.seals.length c1) (.slice A2 x.set.length c2) (.slice A3 x.next.length c3)).toArray, .agg (x.cells (.slice B1 x.commit.seals.length d1) (.slice B2 x.set.length d2) (.slice B3 x.next.length d3)).toArray] w (Zero w (.bool true)) := by
  have hh := x.header.cells_len ox.header
  have hcl := x.commit.cells_len ox.commit
  have hih : (Try.prog.info? 36).map (·.size) = some x.header.cells.length := by rw [hh]; kernel_rfl
  have hic : ∀ s, (Try.prog.info? 32).map (·.size) = some (x.commit.cells s).length := fun s => by rw [hcl]; exact commit_row
  have hic1 := hic (.slice A1 x.commit.seals.length c1)
  have hic2 := hic (.slice B1 x.commit.seals.length d1)
  have FACTS : ∀ w1 w2, Hid (w1 = w.alloc (.cells (x.cells (.slice A1 x.commit.seals.length c1) (.slice A2 x.set.length c2) (.slice A3 x.next.length c3)).toArray 38)) → Hid (w2 = w1.alloc (.cells (x.cells (.slice B1 x.commit.seals.length d1) (.slice B2 x.set.length d2) (.slice B3 x.next.length d3)).toArray 38)) →
      Hid (∀ w3, Chg Non w2 w3 → (w3.rangeAt w.heap.size 0 x.header.cells ∧ w3.rangeAt w.heap.size 163 (x.commit.cells (.slice A1 x.commit.seals.length c1)) ∧ w3.cell? ⟨w.heap.size, 198, none⟩ = some (.slice A2 x.set.length c2) ∧ w3.cell? ⟨w.heap.size, 199, none⟩ = some (.slice A3 x.next.length c3)) ∧
      (w3.rangeAt w1.heap.size 0 x.header.cells ∧ w3.rangeAt w1.heap.size 163 (x.commit.cells (.slice B1 x.commit.seals.length d1)) ∧ w3.cell? ⟨w1.heap.size, 198, none⟩ = some (.slice B2 x.set.length d2) ∧ w3.cell? ⟨w1.heap.size, 199, none⟩ = some (.slice B3 x.next.length d3))) ∧ Chg Non w w2 := by
    intro w1 w2 h1 h2
    have hC1 : Chg Non w w1 := by rw [h1.out]; exact (Chg.refl Non w).alloc _
    have hC2 : Chg Non w1 w2 := by rw [h2.out]; exact (Chg.refl Non w1).alloc _
    have b1 : Hb w1 w.heap.size 38 (x.cells (.slice A1 x.commit.seals.length c1) (.slice A2 x.set.length c2) (.slice A3 x.next.length c3)).toArray := by rw [h1.out]; exact Hb.new w _ _
    have b2 : Hb w2 w1.heap.size 38 (x.cells (.slice B1 x.commit.seals.length d1) (.slice B2 x.set.length d2) (.slice B3 x.next.length d3)).toArray := by rw [h2.out]; exact Hb.new w1 _ _
    refine ⟨Lib.hid fun w3 k3 => ?_, hC1.trans hC2 (fun _ f => f.elim)⟩
    have key : ∀ (n : Nat) (s t u : Value), w3.rangeAt n 0 (x.cells s t u) → w3.rangeAt n 0 x.header.cells ∧ w3.rangeAt n 163 (x.commit.cells s) ∧ w3.cell? ⟨n, 198, none⟩ = some t ∧ w3.cell? ⟨n, 199, none⟩ = some u := by
      intro n s t u R
      obtain ⟨f0, r2⟩ := rangeAt_app R
      obtain ⟨f1, r3⟩ := rangeAt_app r2
      obtain ⟨f2, r4⟩ := rangeAt_cons r3
      obtain ⟨f3, _⟩ := rangeAt_cons r4
      rw [hh] at f1
      rw [hh, hcl] at f2 f3
      exact ⟨f0, by simpa using f1, by simpa using f2, by simpa using f3⟩
    exact ⟨key _ _ _ _ ((b1.chg hC2 (fun f => f)).chg k3 (fun f => f)).range0, key _ _ _ _ (b2.chg k3 (fun f => f)).range0⟩
  have HF := Lib.hid FACTS
  have HC : ∀ w', Chg Non w w' → Calls Try.prog 12 #[.agg (x.commit.cells (.slice A1 x.commit.seals.length c1)).toArray, .agg (x.commit.cells (.slice B1 x.commit.seals.length d1)).toArray] w' (Zero w' (.bool true)) := fun w' k => sameCommit_yes w' A1 B1 c1 d1 x.commit ox.commit hl1 (M1.chg k) (N1.chg k)
  have H2 : ∀ w', Chg Non w w' → Calls Try.prog 11 #[.slice A2 x.set.length c2, .slice B2 x.set.length d2] w' (Zero w' (.bool true)) := fun w' k => sameSet_yes w' A2 B2 c2 d2 x.set hl2 (M2.chg k) (N2.chg k)
  have H3 : ∀ w', Chg Non w w' → Calls Try.prog 11 #[.slice A3 x.next.length c3, .slice B3 x.next.length d3] w' (Zero w' (.bool true)) := fun w' k => sameSet_yes w' A3 B3 c3 d3 x.next hl3 (M3.chg k) (N3.chg k)
  have HE : ∀ w' : World, (Op.equalIn 10000 36 (.agg x.header.cells.toArray) (.agg x.header.cells.toArray)).run Try.prog w' = .ok true w' := fun w' => by rw [run_eq_header 9997 w' x.header x.header ox.header ox.header]; simp
  have HCC := Lib.hid HC
  have HH2 := Lib.hid H2
  have HH3 := Lib.hid H3
  have HEE := Lib.hid HE
  generalize (x.cells (.slice A1 x.commit.seals.length c1) (.slice A2 x.set.length c2) (.slice A3 x.next.length c3)).toArray = ca at *
  generalize (x.cells (.slice B1 x.commit.seals.length d1) (.slice B2 x.set.length d2) (.slice B3 x.next.length d3)).toArray = cb at *
  generalize x.commit.cells (.slice A1 x.commit.seals.length c1) = k1 at *
  generalize x.commit.cells (.slice B1 x.commit.seals.length d1) = k2 at *
  generalize x.header.cells = kh at *
  clear FACTS HC H2 H3 HE M1 M2 M3 N1 N2 N3 hh hcl hic hl1 hl2 hl3
  go_enter Try.func13, Try.ntmps13
  go_wp2_with (first | (with_reducible refine wpList_box_row rfl _ _ rfl (cs := ca) rfl ?_; intro w1 hw1) | (with_reducible refine wpList_box_row rfl _ _ rfl (cs := cb) rfl ?_; intro w2 hw2; obtain ⟨FF, hC2⟩ := HF.out w1 w2 hw1 hw2; obtain ⟨⟨a0, a1, a2, a3⟩, ⟨b0, b1, b2, b3⟩⟩ := FF.out w2 (Chg.refl _ _)) | (with_reducible refine wpList_load_mid rfl 32 _ rfl w.heap.size 163 rfl k1 _ a1 Try.underlying32 rfl hic1 ?_) | (with_reducible refine wpList_load_mid rfl 32 _ rfl w1.heap.size 163 rfl k2 _ b1 Try.underlying32 rfl hic2 ?_))
  refine (HCC.out w2 hC2).mono ?_
  rintro e w3 ⟨rfl, q3⟩
  clear a0 a1 a2 a3 b0 b1 b2 b3
  obtain ⟨⟨a0, a1, a2, a3⟩, ⟨b0, b1, b2, b3⟩⟩ := FF.out w3 q3
  go_wp2_with fail
  refine (HH2.out w3 (hC2.trans q3 (fun _ f => f.elim))).mono ?_
  rintro e w4 ⟨rfl, q4⟩
  clear a0 a1 a2 a3 b0 b1 b2 b3
  have q24 := q3.trans q4 (fun _ f => f.elim)
  obtain ⟨⟨a0, a1, a2, a3⟩, ⟨b0, b1, b2, b3⟩⟩ := FF.out w4 q24
  go_wp2_with fail
  refine (HH3.out w4 (hC2.trans q24 (fun _ f => f.elim))).mono ?_
  rintro e w5 ⟨rfl, q5⟩
  clear a0 a1 a2 a3 b0 b1 b2 b3
  have q25 := q24.trans q5 (fun _ f => f.elim)
  obtain ⟨⟨a0, a1, a2, a3⟩, ⟨b0, b1, b2, b3⟩⟩ := FF.out w5 q25
  have EE := HEE.out w5
  go_wp2_with (first | (with_reducible refine wpList_load_mid rfl 36 _ rfl w.heap.size 0 rfl kh _ a0 Try.underlying36 rfl hih ?_) | (with_reducible refine wpList_load_mid rfl 36 _ rfl w1.heap.size 0 rfl kh _ b0 Try.underlying36 rfl hih ?_) | (with_reducible refine wpList_eql_w 36 _ _ _ rfl ?_ (xs := kh.toArray) (ys := kh.toArray) rfl rfl header_guard EE ?_; focus (first | (simp [Region.wanted, yielded]; done) | (go_simp; done))))
  go_ret
  exact ⟨rfl, hC2.trans q25 (fun _ f => f.elim)⟩
end Go.Proofs.Yteglpgakikigiaa

/- Decoding and reading of lists, commits and light blocks, packed for the law. -/
namespace Go.Proofs.Yteglpgakikigiaa
open Go.RowKit
set_option linter.unusedVariables false
set_option linter.unusedSimpArgs false
set_option maxRecDepth 20000

def SAny (w : World) (l : List Va) (n : Nat) (k : Int) (e : Ending) (w' : World) : Prop :=
  Chg Non w w' ∧ ∃ A c, e = .returned (.tuple #[.slice A n c, .int .i64 k]) ∧ LstM w' A l Va.cells 2
def CAny (w : World) (l : List Se) (f : Option Addr → Nat → List Value) (k : Int) (e : Ending) (w' : World) : Prop :=
  Chg Non w w' ∧ ∃ A c, e = .returned (.tuple #[.agg (f A c).toArray, .int .i64 k]) ∧ LstM w' A l Se.cells 3
def TAny (w : World) (l1 : List Se) (l2 l3 : List Va) (f : Option Addr → Option Addr → Option Addr → Nat → Nat → Nat → List Value) (k : Int) (e : Ending) (w' : World) : Prop :=
  Chg Non w w' ∧ ∃ A1 A2 A3 c1 c2 c3, e = .returned (.tuple #[.agg (f A1 A2 A3 c1 c2 c3).toArray, .int .i64 k]) ∧ LstM w' A1 l1 Se.cells 3 ∧ LstM w' A2 l2 Va.cells 2 ∧ LstM w' A3 l3 Va.cells 2
theorem lstM_none {α : Type} (w : World) (cells : α → List Value) (sz : Nat) : LstM w none [] cells sz := fun i x hx => by simp at hx
theorem lt_one (x : Lt) (a b c : Value) (ha : a.oneCell' = true) (hb : b.oneCell' = true) (hc : c.oneCell' = true) : ∀ v ∈ x.cells a b c, v.oneCell' = true := by
  intro v hv
  unfold Lt.cells at hv
  rcases List.mem_append.1 hv with h | h
  · exact x.header.one v h
  · rcases List.mem_append.1 h with h | h
    · exact cm_one x.commit.height x.commit.round x.commit.block x.commit.seals a ha v h
    · simp at h
      rcases h with rfl | rfl <;> assumption
theorem lt_len (x : Lt) (ox : x.Ok) (a b c : Value) : (x.cells a b c).length = 200 := by
  unfold Lt.cells
  rw [List.length_append, List.length_append, x.header.cells_len ox.header, x.commit.cells_len ox.commit]
  rfl
theorem if_get {α : Type} {p : Prop} [Decidable p] {x z : α} {Q : α → Prop} (hx : Q x) (hz : Q z) : Q ((if p then some x else none).getD z) := by split <;> assumption
theorem set_pack (bs : List UInt8) (hb : bs.length ≤ 20000) : ∃ (l : List Va) (n : Nat) (k : Int),
    (∀ (w : World) (A : Option Addr) (c : Nat), Rd w A bs → Calls Try.prog 5 #[.slice A bs.length c] w (SAny w l n k)) ∧
    (∀ (w : World) (A : Option Addr) (c : Nat), Rd w A bs → bs.length ≤ c → c ≤ maxLen → (bs ≠ [] → ∀ j, abl A j → j < w.heap.size) → Calls Try.prog 6 #[.slice A bs.length c] w (SAny w l n k)) ∧
    (∀ (w : World) (A B : Option Addr) (c d : Nat), LstM w A l Va.cells 2 → LstM w B l Va.cells 2 → Calls Try.prog 11 #[.slice A n c, .slice B n d] w (Zero w (.bool true))) := by
  have hl : ((whole (dSet (some bs))).getD []).length ≤ 64 := by
    rw [as_whole (rSet_is (some bs))]
    exact if_get (Q := fun l : List Va => l.length ≤ 64) (by have := (inR_iff.1 (rSet_right (some bs))).2; omega) (by simp)
  refine ⟨(whole (dSet (some bs))).getD [], ((whole (dSet (some bs))).getD []).length, if (whole (dSet (some bs))).isSome then 0 else 61, fun w A c hr => ?_, fun w A c hr hc hcm hA => ?_, fun w A B c d M N => sameSet_yes w A B c d _ (by unfold maxLen; omega) M N⟩
  · refine (DecodeSet_any w A bs.length c bs rfl hr (by omega)).mono fun e w' ⟨h1, h2⟩ => ⟨h1, ?_⟩
    cases hx : whole (dSet (some bs)) with
    | none => rw [hx] at h2; exact ⟨none, 0, h2, lstM_none _ _ _⟩
    | some l => rw [hx] at h2; obtain ⟨nb, _, he, B⟩ := h2; exact ⟨_, _, he, lstM_new (fun _ => rfl) B⟩
  · refine (ReadSet_any w A c bs hr hc hcm hA).mono fun e w' ⟨h1, h2⟩ => ⟨h1, ?_⟩
    cases hx : whole (dSet (some bs)) with
    | none => rw [hx] at h2; exact ⟨none, 0, h2, lstM_none _ _ _⟩
    | some l => rw [hx] at h2; obtain ⟨A', c', he, M⟩ := h2; exact ⟨_, _, he, M⟩
def cz : Cm := ⟨0, 0, noH, []⟩
theorem cz_ok : cz.Ok := by
  constructor <;> first | exact ⟨by decide, by decide⟩ | decide | rfl | (intro x hx; cases hx)
theorem hz_ok : Hd.zero.Ok := by
  constructor <;> first | exact ⟨by decide, by decide⟩ | decide | (show (0 : Nat) ≤ maxLen; unfold maxLen; omega) | rfl
theorem commit_pack (bs : List UInt8) (hb : bs.length ≤ 20000) : ∃ (l : List Se) (f : Option Addr → Nat → List Value) (k : Int), (∀ A c, (f A c).length = 35) ∧ (∀ A c, ∀ v ∈ f A c, v.oneCell' = true) ∧
    (∀ (w : World) (A : Option Addr) (c : Nat), Rd w A bs → Calls Try.prog 7 #[.slice A bs.length c] w (CAny w l f k)) ∧
    (∀ (w : World) (A : Option Addr) (c : Nat), Rd w A bs → bs.length ≤ c → c ≤ maxLen → (bs ≠ [] → ∀ j, abl A j → j < w.heap.size) → Calls Try.prog 8 #[.slice A bs.length c] w (CAny w l f k)) ∧
    (∀ (w : World) (A B : Option Addr) (c d : Nat), LstM w A l Se.cells 3 → LstM w B l Se.cells 3 → Calls Try.prog 12 #[.agg (f A c).toArray, .agg (f B d).toArray] w (Zero w (.bool true))) := by
  have hl : ((whole (dCommit (some bs))).getD cz).Ok ∧ ((whole (dCommit (some bs))).getD cz).seals.length ≤ 64 := by
    rw [as_whole (rCommit_is (some bs))]
    exact if_get (Q := fun x : Cm => x.Ok ∧ x.seals.length ≤ 64) ⟨rCommit_ok _, by have := (inR_iff.1 (rCommit_len (some bs))).2; omega⟩ ⟨cz_ok, by decide⟩
  refine ⟨((whole (dCommit (some bs))).getD cz).seals, fun A c => ((whole (dCommit (some bs))).getD cz).cells (.slice A ((whole (dCommit (some bs))).getD cz).seals.length c), if (whole (dCommit (some bs))).isSome then 0 else 61, fun A c => Cm.cells_len _ hl.1 _, fun A c => cm_one _ _ _ _ _ rfl, fun w A c hr => ?_, fun w A c hr hc hcm hA => ?_, fun w A B c d M N => sameCommit_yes w A B c d _ hl.1 (by unfold maxLen; omega) M N⟩
  · refine (DecodeCommit_any w A bs.length c bs rfl hr (by omega)).mono fun e w' ⟨h1, h2⟩ => ⟨h1, ?_⟩
    cases hx : whole (dCommit (some bs)) with
    | none => rw [hx] at h2; exact ⟨none, 0, h2, lstM_none _ _ _⟩
    | some x => rw [hx] at h2; obtain ⟨nb, _, he, B⟩ := h2; exact ⟨_, _, he, lstM_new (fun _ => rfl) B⟩
  · refine (ReadCommit_any w A c bs hr hc hcm hA).mono fun e w' ⟨h1, h2⟩ => ⟨h1, ?_⟩
    cases hx : whole (dCommit (some bs)) with
    | none => rw [hx] at h2; exact ⟨none, 0, h2, lstM_none _ _ _⟩
    | some x => rw [hx] at h2; obtain ⟨A', c', he, M⟩ := h2; exact ⟨_, _, he, M⟩
theorem lz_ok : Lt.zero.Ok := ⟨hz_ok, cz_ok, fun x hx => (List.not_mem_nil hx).elim, fun x hx => (List.not_mem_nil hx).elim⟩
theorem light_pack (bs : List UInt8) (hb : bs.length ≤ 20000) : ∃ (l1 : List Se) (l2 l3 : List Va) (f : Option Addr → Option Addr → Option Addr → Nat → Nat → Nat → List Value) (k : Int), (∀ A1 A2 A3 c1 c2 c3, (f A1 A2 A3 c1 c2 c3).length = 200) ∧ (∀ A1 A2 A3 c1 c2 c3, ∀ v ∈ f A1 A2 A3 c1 c2 c3, v.oneCell' = true) ∧
    (∀ (w : World) (A : Option Addr) (c : Nat), Rd w A bs → Calls Try.prog 9 #[.slice A bs.length c] w (TAny w l1 l2 l3 f k)) ∧
    (∀ (w : World) (A : Option Addr) (c : Nat), Rd w A bs → bs.length ≤ c → c ≤ maxLen → (bs ≠ [] → ∀ j, abl A j → j < w.heap.size) → Calls Try.prog 10 #[.slice A bs.length c] w (TAny w l1 l2 l3 f k)) ∧
    (∀ (w : World) (A1 A2 A3 B1 B2 B3 : Option Addr) (c1 c2 c3 d1 d2 d3 : Nat), LstM w A1 l1 Se.cells 3 → LstM w A2 l2 Va.cells 2 → LstM w A3 l3 Va.cells 2 → LstM w B1 l1 Se.cells 3 → LstM w B2 l2 Va.cells 2 → LstM w B3 l3 Va.cells 2 → Calls Try.prog 13 #[.agg (f A1 A2 A3 c1 c2 c3).toArray, .agg (f B1 B2 B3 d1 d2 d3).toArray] w (Zero w (.bool true))) := by
  have hl : ((whole (dLight (some bs))).getD Lt.zero).Ok ∧ ((whole (dLight (some bs))).getD Lt.zero).commit.seals.length ≤ 64 ∧ ((whole (dLight (some bs))).getD Lt.zero).set.length ≤ 64 ∧ ((whole (dLight (some bs))).getD Lt.zero).next.length ≤ 64 := by
    rw [as_whole (rLight_is (some bs))]
    have hle1 := (inR_iff.1 (rCommit_len (rHeader (rBeg 5 (some bs))).2)).2
    have hle2 := (inR_iff.1 (rSet_right (rCommit (rHeader (rBeg 5 (some bs))).2).2)).2
    have hle3 := (inR_iff.1 (rSet_right (rSet (rCommit (rHeader (rBeg 5 (some bs))).2).2).2)).2
    refine if_get (Q := fun x : Lt => x.Ok ∧ x.commit.seals.length ≤ 64 ∧ x.set.length ≤ 64 ∧ x.next.length ≤ 64) ⟨rLight_ok _, ?_, ?_, ?_⟩ ⟨lz_ok, by decide, by decide, by decide⟩
    · show (rCommit (rHeader (rBeg 5 (some bs))).2).1.seals.length ≤ 64; omega
    · show (rSet (rCommit (rHeader (rBeg 5 (some bs))).2).2).1.length ≤ 64; omega
    · show (rSet (rSet (rCommit (rHeader (rBeg 5 (some bs))).2).2).2).1.length ≤ 64; omega
  refine ⟨((whole (dLight (some bs))).getD Lt.zero).commit.seals, ((whole (dLight (some bs))).getD Lt.zero).set, ((whole (dLight (some bs))).getD Lt.zero).next, fun A1 A2 A3 c1 c2 c3 => ((whole (dLight (some bs))).getD Lt.zero).cells (.slice A1 ((whole (dLight (some bs))).getD Lt.zero).commit.seals.length c1) (.slice A2 ((whole (dLight (some bs))).getD Lt.zero).set.length c2) (.slice A3 ((whole (dLight (some bs))).getD Lt.zero).next.length c3), if (whole (dLight (some bs))).isSome then 0 else 61, fun A1 A2 A3 c1 c2 c3 => lt_len _ hl.1 _ _ _, fun A1 A2 A3 c1 c2 c3 => lt_one _ _ _ _ rfl rfl rfl, fun w A c hr => ?_, fun w A c hr hc hcm hA => ?_, fun w A1 A2 A3 B1 B2 B3 c1 c2 c3 d1 d2 d3 M1 M2 M3 N1 N2 N3 => sameLight_yes w A1 A2 A3 B1 B2 B3 c1 c2 c3 d1 d2 d3 _ hl.1 (by unfold maxLen; omega) (by unfold maxLen; omega) (by unfold maxLen; omega) M1 M2 M3 N1 N2 N3⟩
  · refine (DecodeLight_any w A bs.length c bs rfl hr (by omega)).mono fun e w' ⟨h1, h2⟩ => ⟨h1, ?_⟩
    cases hx : whole (dLight (some bs)) with
    | none => rw [hx] at h2; exact ⟨none, none, none, 0, 0, 0, h2, lstM_none _ _ _, lstM_none _ _ _, lstM_none _ _ _⟩
    | some x => rw [hx] at h2; obtain ⟨n1, n2, n3, _, _, _, he, B1, B2, B3⟩ := h2; exact ⟨_, _, _, _, _, _, he, lstM_new (fun _ => rfl) B1, lstM_new (fun _ => rfl) B2, lstM_new (fun _ => rfl) B3⟩
  · refine (ReadLight_any w A c bs hr hc hcm hA).mono fun e w' ⟨h1, h2⟩ => ⟨h1, ?_⟩
    cases hx : whole (dLight (some bs)) with
    | none => rw [hx] at h2; exact ⟨none, none, none, 0, 0, 0, h2, lstM_none _ _ _, lstM_none _ _ _, lstM_none _ _ _⟩
    | some x => rw [hx] at h2; obtain ⟨A1, A2, A3, c1, c2, c3, he, M1, M2, M3⟩ := h2; exact ⟨_, _, _, _, _, _, he, M1, M2, M3⟩
end Go.Proofs.Yteglpgakikigiaa
