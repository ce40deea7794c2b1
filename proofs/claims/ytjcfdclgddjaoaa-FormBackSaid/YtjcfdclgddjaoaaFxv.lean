/- Package forms: EncodeVote, DecodeVote, SignBytes. -/
import Derived.Test.YtjcfdclgddjaoaaChecked
import Derived.WalkKit
import Derived.WalkLawsBesides
import Derived.Lib.Hide
import Derived.Test.YtjcfdclgddjaoaaFdv
import Derived.Test.YtjcfdclgddjaoaaFw
import Derived.Test.YtjcfdclgddjaoaaFx
namespace Go.Proofs.Ytjcfdclgddjaoaa
open Go.RowKit
set_option linter.unusedVariables false
set_option linter.unusedSimpArgs false
set_option maxRecDepth 20000

theorem Vt.enc_len (x : Vt) (h : x.right = true) (ox : x.Ok) : x.enc.length ≤ 1000 := by
  unfold Vt.right at h
  simp only [Bool.and_eq_true, decide_eq_true_eq] at h
  have := nameOk_size h.1
  unfold Vt.enc
  simp [num_length, tx_length, be_length, ox.block]
  have e1 : x.chain.data.size = x.chain.size := rfl
  omega
theorem Vt.cells_len (x : Vt) (ox : x.Ok) : x.cells.length = 39 := by
  unfold Vt.cells
  simp [bv_length, ox.block]

theorem dVote_len {st : St} {y : Vt × St} (h : dVote st = some y) : y.1.cells.length = 39 := by
  unfold dVote at h
  simp only [Option.bind_eq_some_iff, Option.some.injEq, Prod.exists] at h
  obtain ⟨s1, h1, c, s2, h2, ht, s3, h3, rd, s4, h4, ty, s5, h5, rfl⟩ := h
  simp [Vt.cells, bv_length, vH_length]
theorem whole_some {α : Type} {r : Option (α × St)} {y : α} (h : whole r = some y) : r = some (y, some []) := by
  match r, h with
  | some (x, some []), h => simp only [whole, Option.some.injEq] at h; rw [h]

theorem dVote.r (st : St) : ∀ (L : List Value) (s : St), (dVote st).map (fun y => ([] ++ (y.1.cells ++ []), y.2)) = some (L, s) → L.length = 39 ∧ ∀ v ∈ L, v.oneCell' = true := by
  intro L s h
  obtain ⟨y, hy, h2⟩ := Option.map_eq_some_iff.1 h
  simp only [Prod.mk.injEq, List.nil_append, List.append_nil] at h2
  obtain ⟨rfl, _⟩ := h2
  exact ⟨dVote_len hy, y.1.one⟩
theorem DecodeVote_any (w : World) (A : Option Addr) (n c : Nat) (bs : List UInt8) (hn : n = bs.length) (hr : Rd w A bs) (hsz : bs.length ≤ 1000000000) : Calls Try.prog 15 #[.slice A n c] w (Dec w Vt.zero.cells ((whole (dVote (some bs))).map Vt.cells)) := by
  have hz := dVote.alloc0 w
  have hzl := dVote.zlen
  have hrow := dVote.row
  have hC := (Chg.refl Non w).alloc (.cells Vt.zero.cells.toArray 50)
  have hb := Hb.new w 50 Vt.zero.cells.toArray
  have H := decoded_Vote (w.alloc (.cells Vt.zero.cells.toArray 50)) A n c bs ((dVote (some bs)).map (fun y => ([] ++ (y.1.cells ++ []), y.2))) hn (hr.chg hC (fun _ _ f => f)) hsz (dVote.r _) (fun w1 g F S => by
    generalize (w.alloc (.cells Vt.zero.cells.toArray 50)).heap.size = tb at *
    generalize Vt.zero.cells = z at *
    have h := vote_r w1 g F tb 0 50 [] [] z (some bs) (S.eq (by rw [List.append_nil, List.nil_append])) rfl hzl
    rw [List.append_nil, List.nil_append, hzl] at h
    exact h)
  have hw : whole ((dVote (some bs)).map (fun y => ([] ++ (y.1.cells ++ []), y.2))) = (whole (dVote (some bs))).map Vt.cells := by
    cases dVote (some bs) with
    | none => rfl
    | some y =>
      obtain ⟨y, st⟩ := y
      match st with
      | none => rfl
      | some [] => simp [whole]
      | some (_ :: _) => rfl
  have hone : ∀ L, (whole (dVote (some bs))).map Vt.cells = some L → L.length = 39 ∧ ∀ v ∈ L, v.oneCell' = true := by
    intro L h
    obtain ⟨y, hy, rfl⟩ := Option.map_eq_some_iff.1 h
    exact ⟨dVote_len (whole_some hy), y.one⟩
  rw [hw] at H
  generalize (whole (dVote (some bs))).map Vt.cells = r at *
  have hzone : ∀ v ∈ Vt.zero.cells, v.oneCell' = true := Vt.zero.one
  have HH := Lib.hid H
  have HC := Lib.hid hC
  clear H hC hw hn hr
  generalize Vt.zero.cells = z at *
  go_enter Try.func15, Try.ntmps15
  go_wp2_with (with_reducible refine wpList_alloc_row rfl _ rfl z hz ?_)
  refine HH.out.mono ?_
  rintro e w1 ⟨h1, h2⟩
  clear HH
  have hb1 := hb.chg h1 (fun f => f)
  have h0 := HC.out.trans h1 (fun _ f => f.elim)
  obtain ⟨L, k, rfl, hL1, hL2, hk⟩ : ∃ (L : List Value) (k : Int), e = .returned (.tuple #[.agg L.toArray, .int .i64 k]) ∧ L.length = 39 ∧ (∀ v ∈ L, v.oneCell' = true) ∧ (match r with | some L => Ending.returned (.tuple #[.agg L.toArray, .int .i64 0]) | none => .returned (.tuple #[.agg z.toArray, .int .i64 61])) = .returned (.tuple #[.agg L.toArray, .int .i64 k]) := by
    cases r with
    | some L => exact ⟨L, 0, h2, (hone L rfl).1, (hone L rfl).2, rfl⟩
    | none => exact ⟨z, 61, h2, hzl, hzone, rfl⟩
  have hLs : L.toArray.size = 39 := by rw [List.size_toArray, hL1]
  have hth := hb1.there0
  rw [hzl] at hth
  have hb2 := hb1.sets0 (L' := L) (by rw [hzl, hL1])
  clear hone h2
  go_wp2_with (with_reducible refine wpList_store_mid rfl 50 _ _ rfl w.heap.size 0 L.toArray rfl rfl (by rw [hLs]; exact hth) (by rw [hLs, hrow]) (one_mem hL2) ?_)
  refine bodyPost_ret ((results_cell_tmp rfl _ _ _).trans ?_) rfl (R := Dec w z r) (v := .tuple #[.agg L.toArray, .int .i64 k]) ?_
  · simp only [asAddr, Sem.run_pure, Result.andThen_ok]
    have hl := load_row hb2 Try.underlying50 rfl (by rw [hrow, hL1])
    simp [hl]
  · refine ⟨Chg.trans h0 (Chg.setCells (S := fun j => j = w.heap.size) rfl L _ 0 (Chg.refl _ _)) (fun j hj => .inr (by omega)), ?_⟩
    rw [← hk]
    rfl

theorem EncodeVote_any (w : World) (x : Vt) (ox : x.Ok) : Calls Try.prog 34 #[.agg x.cells.toArray] w (Enc w x.right x.enc) := by
  have hC := (Chg.refl Non w).alloc (.cells x.cells.toArray 50)
  have hb := Hb.new w 50 x.cells.toArray
  have hs : (w.alloc (.cells x.cells.toArray 50)).heap.size = w.heap.size + 1 := by simp
  have H := encoded_Vote (w.alloc (.cells x.cells.toArray 50)) ⟨w.heap.size, 0, none⟩ x.right x.enc (fun h => by have := x.enc_len h ox; omega) (fun w1 g k hg hw => by
    have hb1 := hb.chg k (fun f => f)
    exact vote_w g [] w1 _ w.heap.size 0 x hw hb1.range0 (by rintro (h | h); omega; cases h) (by have := hb1.lt; omega) ox (by simp))
  have HH := Lib.hid H
  have HC := Lib.hid hC
  clear H hC hb hs
  generalize x.cells = cs at *
  go_enter Try.func34, Try.ntmps34
  go_wp2_with fail
  refine HH.out.mono ?_
  rintro e w1 ⟨h1, h2⟩
  clear HH
  have h0 := HC.out.trans h1 (fun _ f => f.elim)
  generalize x.right = ok at *
  cases ok with
  | true =>
    obtain ⟨v, rfl, ho, hl⟩ := h2
    go_wp2
    go_ret2
    exact ⟨h0, v, rfl, ho, fun k hk => by have := hl k hk; have := HC.out.size; omega⟩
  | false =>
    obtain rfl := h2
    go_wp2
    go_ret2
    exact ⟨h0, rfl⟩

/-- Without who signs. -/
def Vt.bare (x : Vt) : Vt := { x with key := 0, r := 0, s := 0 }
theorem Vt.bare_ok {x : Vt} (ox : x.Ok) : x.bare.Ok := ⟨ox.chain, ox.height, ox.round, ox.type, ox.block, by show 0 < _; omega, by show 0 < _; omega, by show 0 < _; omega⟩
theorem Vt.bare_row (x : Vt) : x.bare.cells = [.string x.chain, .int .i64 x.height, .int .i64 x.round, .int .i64 x.type] ++ (bv x.block ++ [.int .u64 0, .int .u64 0, .int .u64 0]) := rfl
/-- A row of a vote. -/
def vrow (x : Vt) (a b c : Value) : List Value := ([.string x.chain, .int .i64 x.height, .int .i64 x.round, .int .i64 x.type] ++ bv x.block) ++ [a, b, c]
theorem vrow_cells (x : Vt) : x.cells = vrow x (.int .u64 (x.key : Int)) (.int .u64 (x.r : Int)) (.int .u64 (x.s : Int)) := by unfold Vt.cells vrow; rw [List.append_assoc]
theorem vrow_key {w : World} {n : Nat} {t : TypeId} {x : Vt} (ox : x.Ok) {a b c : Value} (h : Hb w n t (vrow x a b c).toArray) (u : Value) : w.cell? ⟨n, 36, none⟩ = some a ∧ w.frozen? ⟨n, 36, none⟩ = false ∧ Hb (w.setCell ⟨n, 36, none⟩ u) n t (vrow x u b c).toArray := by
  have hl : ([Value.string x.chain, .int .i64 x.height, .int .i64 x.round, .int .i64 x.type] ++ bv x.block).length = 36 := by simp [bv_length, ox.block]
  unfold vrow at h ⊢
  refine ⟨?_, h.frozen _, ?_⟩
  · rw [h.cell, List.getElem?_toArray, ← hl, List.getElem?_append_right (by omega), Nat.sub_self]; rfl
  · have h2 := h.set 36 u
    rw [← hl, row_set, hl] at h2
    exact h2
theorem vrow_sig {w : World} {n : Nat} {t : TypeId} {x : Vt} (ox : x.Ok) {a b c : Value} (h : Hb w n t (vrow x a b c).toArray) (u v : Value) : w.there n 37 2 ∧ w.rangeAt n 37 [b, c] ∧ Hb (w.setCells n 37 [u, v]) n t (vrow x a u v).toArray := by
  have hl : (([Value.string x.chain, .int .i64 x.height, .int .i64 x.round, .int .i64 x.type] ++ bv x.block) ++ [a]).length = 37 := by simp [bv_length, ox.block]
  have e : ∀ y z, vrow x a y z = (([Value.string x.chain, .int .i64 x.height, .int .i64 x.round, .int .i64 x.type] ++ bv x.block) ++ [a]) ++ ([y, z] ++ []) := fun y z => by unfold vrow; simp
  rw [e] at h ⊢
  refine ⟨?_, ?_, ?_⟩
  · intro j hj
    refine ⟨?_, h.frozen _⟩
    rw [h.cell, List.getElem?_toArray, ← hl, List.getElem?_append_right (by omega), Nat.add_sub_cancel_left, List.append_nil, List.getElem?_eq_getElem (by simpa using hj)]
    rfl
  · intro j y hj
    rw [h.cell, List.getElem?_toArray, ← hl, List.getElem?_append_right (by omega), Nat.add_sub_cancel_left, List.append_nil]
    exact hj
  · have h2 := Hb.setCells [u, v] [b, c] _ [] w rfl h
    rw [hl] at h2
    exact h2

theorem SignBytes_any (w : World) (x : Vt) (ox : x.Ok) : Calls Try.prog 37 #[.agg x.cells.toArray] w (Enc w x.right x.bare.enc) := by
  have hrow : (Try.prog.info? 50).map (·.size) = some x.bare.cells.length := by rw [x.bare.cells_len (Vt.bare_ok ox)]; kernel_rfl
  have FACTS : ∀ w1, Hid (w1 = w.alloc (.cells x.cells.toArray 50)) → (∃ k, w1.cell? ⟨w.heap.size, 36, none⟩ = some k) ∧ w1.frozen? ⟨w.heap.size, 36, none⟩ = false ∧ (w1.setCell ⟨w.heap.size, 36, none⟩ (.int .u64 0)).there w.heap.size 37 (#[Value.int .u64 0, .int .u64 0]).size ∧
      ((w1.setCell ⟨w.heap.size, 36, none⟩ (.int .u64 0)).setCells w.heap.size 37 [.int .u64 0, .int .u64 0]).rangeAt w.heap.size 0 x.bare.cells ∧
      Hid (Calls Try.prog 34 #[.agg x.bare.cells.toArray] ((w1.setCell ⟨w.heap.size, 36, none⟩ (.int .u64 0)).setCells w.heap.size 37 [.int .u64 0, .int .u64 0]) (Enc ((w1.setCell ⟨w.heap.size, 36, none⟩ (.int .u64 0)).setCells w.heap.size 37 [.int .u64 0, .int .u64 0]) x.right x.bare.enc)) ∧
      Hid (Chg Non w ((w1.setCell ⟨w.heap.size, 36, none⟩ (.int .u64 0)).setCells w.heap.size 37 [.int .u64 0, .int .u64 0])) := by
    intro w1 h1
    have hb : Hb w1 w.heap.size 50 (vrow x (.int .u64 (x.key : Int)) (.int .u64 (x.r : Int)) (.int .u64 (x.s : Int))).toArray := by rw [h1.out, ← vrow_cells]; exact Hb.new w _ _
    obtain ⟨c36, f36, hb1⟩ := vrow_key ox hb (.int .u64 0)
    obtain ⟨th, _, hb2⟩ := vrow_sig ox hb1 (.int .u64 0) (.int .u64 0)
    have e : vrow x (.int .u64 0) (.int .u64 0) (.int .u64 0) = x.bare.cells := by rw [Vt.bare_row]; unfold vrow; rw [List.append_assoc]
    rw [e] at hb2
    refine ⟨⟨_, c36⟩, f36, th, hb2.range0, Lib.hid (EncodeVote_any _ x.bare (Vt.bare_ok ox)), Lib.hid ?_⟩
    have hC : Chg Non w w1 := by rw [h1.out]; exact (Chg.refl Non w).alloc _
    exact hC.trans (Chg.setCells (S := fun j => j = w.heap.size) rfl _ _ 37 ((Chg.refl (fun j => j = w.heap.size) w1).setCell (p := ⟨w.heap.size, 36, none⟩) (.inl rfl) _)) (fun j hj => .inr (by omega))
  have hsr : (Try.prog.info? 48).map (·.size) = some (#[Value.int .u64 0, .int .u64 0]).size := sig_row
  have hs1 : (#[Value.int .u64 0, .int .u64 0]).all (·.oneCell') = true := by simp [Value.oneCell']
  generalize x.cells = cs at *
  generalize x.right = ok at *
  generalize x.bare.enc = bs at *
  generalize x.bare.cells = cs2 at *
  have FF := Lib.hid FACTS
  clear FACTS
  go_enter Try.func37, Try.ntmps37
  go_wp2_with (first | (with_reducible refine wpList_box_row rfl _ _ rfl (cs := cs.toArray) rfl ?_; intro w1 hw1; obtain ⟨⟨k36, c36⟩, f36, th, hr2, HH, HC⟩ := FF.out w1 hw1) | (with_reducible refine wpList_store_mid rfl 48 _ _ rfl w.heap.size 37 #[.int .u64 0, .int .u64 0] rfl rfl th hsr hs1 ?_) | (with_reducible refine wpList_load_mid rfl 50 _ rfl w.heap.size 0 rfl cs2 _ hr2 Try.underlying50 rfl hrow ?_))
  refine HH.out.mono ?_
  rintro e w2 ⟨h1, h2⟩
  clear HH
  have h0 := HC.out.trans h1 (fun _ f => f.elim)
  cases ok with
  | true =>
    obtain ⟨v, rfl, ho, hl⟩ := h2
    go_wp2
    go_ret2
    exact ⟨h0, v, rfl, ho, fun k hk => by have := hl k hk; have := HC.out.size; omega⟩
  | false =>
    obtain rfl := h2
    go_wp2
    go_ret2
    exact ⟨h0, rfl⟩
end Go.Proofs.Ytjcfdclgddjaoaa
