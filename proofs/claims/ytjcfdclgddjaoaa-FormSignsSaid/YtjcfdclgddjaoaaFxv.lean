/- Package forms: EncodeVote, DecodeVote, SignBytes. -/
import Derived.Test.YtjcfdclgddjaoaaChecked
import Derived.WalkKit
import Derived.WalkLawsBesides
import Derived.Lib.Hide
import Derived.Test.YtjcfdclgddjaoaaFdv
import Derived.Test.YtjcfdclgddjaoaaFw
import Derived.Test.YtjcfdclgddjaoaaFx
namespace Go.Proofs.Ytjcfdclgddjaoaa
open Go.RowKit
set_option linter.unusedVariables false
set_option maxRecDepth 20000

theorem Vt.enc_len (x : Vt) (h : x.right = true) (ox : x.Ok) : x.enc.length ≤ 1000 := by
  unfold Vt.right at h
  simp only [Bool.and_eq_true, decide_eq_true_eq] at h
  have := nameOk_size h.1
  unfold Vt.enc
  simp [num_length, tx_length, be_length, ox.block]
  have e1 : x.chain.data.size = x.chain.size := rfl
  omega
theorem Vt.cells_len (x : Vt) (ox : x.Ok) : x.cells.length = 39 := by
  unfold Vt.cells
  simp [bv_length, ox.block]

theorem EncodeVote_any (w : World) (x : Vt) (ox : x.Ok) : Calls Try.prog 34 #[.agg x.cells.toArray] w (Enc w x.right x.enc) := by
  have hC := (Chg.refl Non w).alloc (.cells x.cells.toArray 50)
  have hb := Hb.new w 50 x.cells.toArray
  have hs : (w.alloc (.cells x.cells.toArray 50)).heap.size = w.heap.size + 1 := by simp
  have H := encoded_Vote (w.alloc (.cells x.cells.toArray 50)) ⟨w.heap.size, 0, none⟩ x.right x.enc (fun h => by have := x.enc_len h ox; omega) (fun w1 g k hg hw => by
    have hb1 := hb.chg k (fun f => f)
    exact vote_w g [] w1 _ w.heap.size 0 x hw hb1.range0 (by rintro (h | h); omega; cases h) (by have := hb1.lt; omega) ox (by simp))
  have HH := Lib.hid H
  have HC := Lib.hid hC
  clear H hC hb hs
  generalize x.cells = cs at *
  go_enter Try.func34, Try.ntmps34
  go_wp2_with fail
  refine HH.out.mono ?_
  rintro e w1 ⟨h1, h2⟩
  clear HH
  have h0 := HC.out.trans h1 (fun _ f => f.elim)
  generalize x.right = ok at *
  cases ok with
  | true =>
    obtain ⟨v, rfl, ho, hl⟩ := h2
    go_wp2
    go_ret2
    exact ⟨h0, v, rfl, ho, fun k hk => by have := hl k hk; have := HC.out.size; omega⟩
  | false =>
    obtain rfl := h2
    go_wp2
    go_ret2
    exact ⟨h0, rfl⟩

/-- Without who signs. -/
def Vt.bare (x : Vt) : Vt := { x with key := 0, r := 0, s := 0 }
theorem Vt.bare_ok {x : Vt} (ox : x.Ok) : x.bare.Ok := ⟨ox.chain, ox.height, ox.round, ox.type, ox.block, by show 0 < _; omega, by show 0 < _; omega, by show 0 < _; omega⟩
theorem Vt.bare_row (x : Vt) : x.bare.cells = [.string x.chain, .int .i64 x.height, .int .i64 x.round, .int .i64 x.type] ++ (bv x.block ++ [.int .u64 0, .int .u64 0, .int .u64 0]) := rfl
/-- A row of a vote. -/
def vrow (x : Vt) (a b c : Value) : List Value := ([.string x.chain, .int .i64 x.height, .int .i64 x.round, .int .i64 x.type] ++ bv x.block) ++ [a, b, c]
theorem vrow_cells (x : Vt) : x.cells = vrow x (.int .u64 (x.key : Int)) (.int .u64 (x.r : Int)) (.int .u64 (x.s : Int)) := by unfold Vt.cells vrow; rw [List.append_assoc]
theorem vrow_key {w : World} {n : Nat} {t : TypeId} {x : Vt} (ox : x.Ok) {a b c : Value} (h : Hb w n t (vrow x a b c).toArray) (u : Value) : w.cell? ⟨n, 36, none⟩ = some a ∧ w.frozen? ⟨n, 36, none⟩ = false ∧ Hb (w.setCell ⟨n, 36, none⟩ u) n t (vrow x u b c).toArray := by
  have hl : ([Value.string x.chain, .int .i64 x.height, .int .i64 x.round, .int .i64 x.type] ++ bv x.block).length = 36 := by simp [bv_length, ox.block]
  unfold vrow at h ⊢
  refine ⟨?_, h.frozen _, ?_⟩
  · rw [h.cell, List.getElem?_toArray, ← hl, List.getElem?_append_right (by omega), Nat.sub_self]; rfl
  · have h2 := h.set 36 u
    rw [← hl, row_set, hl] at h2
    exact h2
theorem vrow_sig {w : World} {n : Nat} {t : TypeId} {x : Vt} (ox : x.Ok) {a b c : Value} (h : Hb w n t (vrow x a b c).toArray) (u v : Value) : w.there n 37 2 ∧ w.rangeAt n 37 [b, c] ∧ Hb (w.setCells n 37 [u, v]) n t (vrow x a u v).toArray := by
  have hl : (([Value.string x.chain, .int .i64 x.height, .int .i64 x.round, .int .i64 x.type] ++ bv x.block) ++ [a]).length = 37 := by simp [bv_length, ox.block]
  have e : ∀ y z, vrow x a y z = (([Value.string x.chain, .int .i64 x.height, .int .i64 x.round, .int .i64 x.type] ++ bv x.block) ++ [a]) ++ ([y, z] ++ []) := fun y z => by unfold vrow; simp
  rw [e] at h ⊢
  refine ⟨?_, ?_, ?_⟩
  · intro j hj
    refine ⟨?_, h.frozen _⟩
    rw [h.cell, List.getElem?_toArray, ← hl, List.getElem?_append_right (by omega), Nat.add_sub_cancel_left, List.append_nil, List.getElem?_eq_getElem (by simpa using hj)]
    rfl
  · intro j y hj
    rw [h.cell, List.getElem?_toArray, ← hl, List.getElem?_append_right (by omega), Nat.add_sub_cancel_left, List.append_nil]
    exact hj
  · have h2 := Hb.setCells [u, v] [b, c] _ [] w rfl h
    rw [hl] at h2
    exact h2

theorem SignBytes_any (w : World) (x : Vt) (ox : x.Ok) : Calls Try.prog 37 #[.agg x.cells.toArray] w (Enc w x.right x.bare.enc) := by
  have hrow : (Try.prog.info? 50).map (·.size) = some x.bare.cells.length := by rw [x.bare.cells_len (Vt.bare_ok ox)]; kernel_rfl
  have FACTS : ∀ w1, Hid (w1 = w.alloc (.cells x.cells.toArray 50)) → (∃ k, w1.cell? ⟨w.heap.size, 36, none⟩ = some k) ∧ w1.frozen? ⟨w.heap.size, 36, none⟩ = false ∧ (w1.setCell ⟨w.heap.size, 36, none⟩ (.int .u64 0)).there w.heap.size 37 (#[Value.int .u64 0, .int .u64 0]).size ∧
      ((w1.setCell ⟨w.heap.size, 36, none⟩ (.int .u64 0)).setCells w.heap.size 37 [.int .u64 0, .int .u64 0]).rangeAt w.heap.size 0 x.bare.cells ∧
      Hid (Calls Try.prog 34 #[.agg x.bare.cells.toArray] ((w1.setCell ⟨w.heap.size, 36, none⟩ (.int .u64 0)).setCells w.heap.size 37 [.int .u64 0, .int .u64 0]) (Enc ((w1.setCell ⟨w.heap.size, 36, none⟩ (.int .u64 0)).setCells w.heap.size 37 [.int .u64 0, .int .u64 0]) x.right x.bare.enc)) ∧
      Hid (Chg Non w ((w1.setCell ⟨w.heap.size, 36, none⟩ (.int .u64 0)).setCells w.heap.size 37 [.int .u64 0, .int .u64 0])) := by
    intro w1 h1
    have hb : Hb w1 w.heap.size 50 (vrow x (.int .u64 (x.key : Int)) (.int .u64 (x.r : Int)) (.int .u64 (x.s : Int))).toArray := by rw [h1.out, ← vrow_cells]; exact Hb.new w _ _
    obtain ⟨c36, f36, hb1⟩ := vrow_key ox hb (.int .u64 0)
    obtain ⟨th, _, hb2⟩ := vrow_sig ox hb1 (.int .u64 0) (.int .u64 0)
    have e : vrow x (.int .u64 0) (.int .u64 0) (.int .u64 0) = x.bare.cells := by rw [Vt.bare_row]; unfold vrow; rw [List.append_assoc]
    rw [e] at hb2
    refine ⟨⟨_, c36⟩, f36, th, hb2.range0, Lib.hid (EncodeVote_any _ x.bare (Vt.bare_ok ox)), Lib.hid ?_⟩
    have hC : Chg Non w w1 := by rw [h1.out]; exact (Chg.refl Non w).alloc _
    exact hC.trans (Chg.setCells (S := fun j => j = w.heap.size) rfl _ _ 37 ((Chg.refl (fun j => j = w.heap.size) w1).setCell (p := ⟨w.heap.size, 36, none⟩) (.inl rfl) _)) (fun j hj => .inr (by omega))
  have hsr : (Try.prog.info? 48).map (·.size) = some (#[Value.int .u64 0, .int .u64 0]).size := sig_row
  have hs1 : (#[Value.int .u64 0, .int .u64 0]).all (·.oneCell') = true := by simp [Value.oneCell']
  generalize x.cells = cs at *
  generalize x.right = ok at *
  generalize x.bare.enc = bs at *
  generalize x.bare.cells = cs2 at *
  have FF := Lib.hid FACTS
  clear FACTS
  go_enter Try.func37, Try.ntmps37
  go_wp2_with (first | (with_reducible refine wpList_box_row rfl _ _ rfl (cs := cs.toArray) rfl ?_; intro w1 hw1; obtain ⟨⟨k36, c36⟩, f36, th, hr2, HH, HC⟩ := FF.out w1 hw1) | (with_reducible refine wpList_store_mid rfl 48 _ _ rfl w.heap.size 37 #[.int .u64 0, .int .u64 0] rfl rfl th hsr hs1 ?_) | (with_reducible refine wpList_load_mid rfl 50 _ rfl w.heap.size 0 rfl cs2 _ hr2 Try.underlying50 rfl hrow ?_))
  refine HH.out.mono ?_
  rintro e w2 ⟨h1, h2⟩
  clear HH
  have h0 := HC.out.trans h1 (fun _ f => f.elim)
  cases ok with
  | true =>
    obtain ⟨v, rfl, ho, hl⟩ := h2
    go_wp2
    go_ret2
    exact ⟨h0, v, rfl, ho, fun k hk => by have := hl k hk; have := HC.out.size; omega⟩
  | false =>
    obtain rfl := h2
    go_wp2
    go_ret2
    exact ⟨h0, rfl⟩
end Go.Proofs.Ytjcfdclgddjaoaa
