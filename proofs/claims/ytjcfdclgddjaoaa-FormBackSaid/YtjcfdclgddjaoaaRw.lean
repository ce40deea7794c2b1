/- What the document's own bytes of a field are: contracts of nuncioref02. -/
import Derived.Test.YtjcfdclgddjaoaaChecked
import Derived.WalkKit
import Derived.Lib.Hide
import Derived.Test.YtjcfdclgddjaoaaFi
namespace Go.Proofs.Ytjcfdclgddjaoaa
open Go.RowKit
set_option linter.unusedVariables false
set_option maxRecDepth 20000

/-- The answer is a new slice of these bytes. -/
def Newb (w : World) (l : List UInt8) (e : Ending) (w' : World) : Prop :=
  ∃ v, e = .returned v ∧ Own 5 w' v l ∧ (∀ k, vbl v k → w.heap.size ≤ k) ∧ Chg Non w w'

theorem be_take (n i : Nat) (hi : i < 8) : (be 8 n).take (i + 1) = (be 8 n).take i ++ [UInt8.ofNat (n / 256 ^ (7 - i) % 256)] := by
  have h : i < (be 8 n).length := by rw [be_length]; exact hi
  rw [List.take_succ_eq_append_getElem h]
  congr 2
  simp [be]

/-- One more byte. -/
structure Grow (w : World) (wr : World) (v : Value) (l : List UInt8) : Prop where
  own : Own 5 wr v l
  new : ∀ k, vbl v k → w.heap.size ≤ k
  chg : Chg Non w wr
theorem Grow.more {w wr w1 w2 : World} {v v2 : Value} {l l2 : List UInt8} (h : Grow w wr v l) (h1 : Chg Non wr w1) (ho : Own 5 w2 v2 (l ++ l2)) (hg : w1.grownBy w2 v.ownBlock) (hl : v2.ownBlock = v.ownBlock ∨ v2.ownBlock = some w1.heap.size) : Grow w w2 v2 (l ++ l2) := by
  refine ⟨ho, fun k hk => ?_, ((h.chg.trans h1 (fun _ h => .inl h)).mono (S' := fun k => w.heap.size ≤ k) (fun _ f => f.elim)).grown hg (fun k hk => .inl (h.new k hk)) |>.mono (fun _ h => .inr h)⟩
  rcases hl with h2 | h2
  · exact h.new k (by unfold vbl at hk ⊢; rw [← h2]; exact hk)
  · unfold vbl at hk
    rw [h2] at hk
    injection hk with hk
    have := h.chg.size
    have := h1.size
    omega

theorem rd_one (w : World) (x : Int) (b : UInt8) (hx : x = (b.toNat : Int)) : Rd (w.alloc (.cells #[.int .u8 x] 5)) (some ⟨w.heap.size, 0, none⟩) [b] := by
  subst hx
  exact rd_of_blk (Hb.new w _ _) (fun j c h => by
    match j, h with
    | 0, h => simp at h; subst h; rfl)

theorem rd_one' (w : World) (x : Int) (h0 : 0 ≤ x) (h1 : x < 256) : Rd (w.alloc (.cells #[.int .u8 x] 5)) (some ⟨w.heap.size, 0, none⟩) [UInt8.ofNat x.toNat] :=
  rd_one w x _ (by rw [UInt8.toNat_ofNat']; omega)
theorem Grow.eq {w w1 : World} {v : Value} {l : List UInt8} {b b' : UInt8} (h : Grow w w1 v (l ++ [b])) (e : b = b') : Grow w w1 v (l ++ [b']) := by subst e; exact h

set_option maxHeartbeats 1600000 in
theorem refWord_any (w : World) (n : Nat) (hn : n < 18446744073709551616) : Calls Try.prog 84 #[.int .u64 (n : Int)] w (Newb w (be 8 n)) := by
  go_enter Try.func84, Try.ntmps84
  go_wp2
  go_loopw [3, 4] (fun o i wr => ∃ k : Nat, k ≤ 8 ∧ i = .int .i64 (56 - 8 * (k : Int)) ∧ Grow w wr o ((be 8 n).take k)) (fun _ i _ => (intOf i + 8).toNat)
  case atStart => exact ⟨0, by omega, rfl, Own.nil _ _, fun k hk => (by cases hk), Chg.refl _ _⟩
  case round =>
    obtain ⟨k, hk, rfl, G⟩ := hrel
    obtain ⟨o, rfl⟩ : ∃ o, o = u3 := ⟨_, rfl⟩
    by_cases hlt : k < 8
    · have HS := Lib.hid (be_take n k hlt)
      have hsz : ((be 8 n).take k).length ≤ 8 := by simp; omega
      generalize (be 8 n).take k = l at *
      rcases (by omega : k = 0 ∨ k = 1 ∨ k = 2 ∨ k = 3 ∨ k = 4 ∨ k = 5 ∨ k = 6 ∨ k = 7) with h | h | h | h | h | h | h | h
      · subst h
        go_wp2_with (at_builtin; refine wpList_app byt _ rfl _ _ rfl (v := o) rfl (G.own.chg ((Chg.refl Non wr).alloc _) (fun _ _ f => f)) rfl (l2 := [_]) rfl (rd_one' _ _ (by omega) (by omega)) (by simp; omega) ?_; intro v' w1 hown' hgr hloc)
        go_roundw
        case rel =>
          refine ⟨1, by omega, by go_num, ?_⟩
          rw [HS.out]
          refine (G.more ((Chg.refl Non wr).alloc _) hown' hgr hloc).eq ?_
          congr 1
          try simp only [Nat.reduceSub, Nat.reducePow]
          try omega
        case measure => simp [intOf]
      · subst h
        go_wp2_with (at_builtin; refine wpList_app byt _ rfl _ _ rfl (v := o) rfl (G.own.chg ((Chg.refl Non wr).alloc _) (fun _ _ f => f)) rfl (l2 := [_]) rfl (rd_one' _ _ (by omega) (by omega)) (by simp; omega) ?_; intro v' w1 hown' hgr hloc)
        go_roundw
        case rel =>
          refine ⟨2, by omega, by go_num, ?_⟩
          rw [HS.out]
          refine (G.more ((Chg.refl Non wr).alloc _) hown' hgr hloc).eq ?_
          congr 1
          try simp only [Nat.reduceSub, Nat.reducePow]
          try omega
        case measure => simp [intOf]
      · subst h
        go_wp2_with (at_builtin; refine wpList_app byt _ rfl _ _ rfl (v := o) rfl (G.own.chg ((Chg.refl Non wr).alloc _) (fun _ _ f => f)) rfl (l2 := [_]) rfl (rd_one' _ _ (by omega) (by omega)) (by simp; omega) ?_; intro v' w1 hown' hgr hloc)
        go_roundw
        case rel =>
          refine ⟨3, by omega, by go_num, ?_⟩
          rw [HS.out]
          refine (G.more ((Chg.refl Non wr).alloc _) hown' hgr hloc).eq ?_
          congr 1
          try simp only [Nat.reduceSub, Nat.reducePow]
          try omega
        case measure => simp [intOf]
      · subst h
        go_wp2_with (at_builtin; refine wpList_app byt _ rfl _ _ rfl (v := o) rfl (G.own.chg ((Chg.refl Non wr).alloc _) (fun _ _ f => f)) rfl (l2 := [_]) rfl (rd_one' _ _ (by omega) (by omega)) (by simp; omega) ?_; intro v' w1 hown' hgr hloc)
        go_roundw
        case rel =>
          refine ⟨4, by omega, by go_num, ?_⟩
          rw [HS.out]
          refine (G.more ((Chg.refl Non wr).alloc _) hown' hgr hloc).eq ?_
          congr 1
          try simp only [Nat.reduceSub, Nat.reducePow]
          try omega
        case measure => simp [intOf]
      · subst h
        go_wp2_with (at_builtin; refine wpList_app byt _ rfl _ _ rfl (v := o) rfl (G.own.chg ((Chg.refl Non wr).alloc _) (fun _ _ f => f)) rfl (l2 := [_]) rfl (rd_one' _ _ (by omega) (by omega)) (by simp; omega) ?_; intro v' w1 hown' hgr hloc)
        go_roundw
        case rel =>
          refine ⟨5, by omega, by go_num, ?_⟩
          rw [HS.out]
          refine (G.more ((Chg.refl Non wr).alloc _) hown' hgr hloc).eq ?_
          congr 1
          try simp only [Nat.reduceSub, Nat.reducePow]
          try omega
        case measure => simp [intOf]
      · subst h
        go_wp2_with (at_builtin; refine wpList_app byt _ rfl _ _ rfl (v := o) rfl (G.own.chg ((Chg.refl Non wr).alloc _) (fun _ _ f => f)) rfl (l2 := [_]) rfl (rd_one' _ _ (by omega) (by omega)) (by simp; omega) ?_; intro v' w1 hown' hgr hloc)
        go_roundw
        case rel =>
          refine ⟨6, by omega, by go_num, ?_⟩
          rw [HS.out]
          refine (G.more ((Chg.refl Non wr).alloc _) hown' hgr hloc).eq ?_
          congr 1
          try simp only [Nat.reduceSub, Nat.reducePow]
          try omega
        case measure => simp [intOf]
      · subst h
        go_wp2_with (at_builtin; refine wpList_app byt _ rfl _ _ rfl (v := o) rfl (G.own.chg ((Chg.refl Non wr).alloc _) (fun _ _ f => f)) rfl (l2 := [_]) rfl (rd_one' _ _ (by omega) (by omega)) (by simp; omega) ?_; intro v' w1 hown' hgr hloc)
        go_roundw
        case rel =>
          refine ⟨7, by omega, by go_num, ?_⟩
          rw [HS.out]
          refine (G.more ((Chg.refl Non wr).alloc _) hown' hgr hloc).eq ?_
          congr 1
          try simp only [Nat.reduceSub, Nat.reducePow]
          try omega
        case measure => simp [intOf]
      · subst h
        go_wp2_with (at_builtin; refine wpList_app byt _ rfl _ _ rfl (v := o) rfl (G.own.chg ((Chg.refl Non wr).alloc _) (fun _ _ f => f)) rfl (l2 := [_]) rfl (rd_one' _ _ (by omega) (by omega)) (by simp; omega) ?_; intro v' w1 hown' hgr hloc)
        go_roundw
        case rel =>
          refine ⟨8, by omega, by go_num, ?_⟩
          rw [HS.out]
          refine (G.more ((Chg.refl Non wr).alloc _) hown' hgr hloc).eq ?_
          congr 1
          try simp only [Nat.reduceSub, Nat.reducePow]
          try omega
        case measure => simp [intOf]
    · obtain rfl : k = 8 := by omega
      go_wp2
      go_ret
      have e : (be 8 n).take 8 = be 8 n := List.take_of_length_le (by rw [be_length]; omega)
      rw [e] at G
      exact ⟨_, rfl, G.own, G.new, G.chg⟩

set_option maxHeartbeats 800000 in
theorem refHash_any (w : World) (h : List UInt8) (hl : h.length = 32) : Calls Try.prog 46 #[.agg (bv h).toArray] w (Newb w h) := by
  have hb := Hb.new w 45 (bv h).toArray
  have hc0 := (Chg.refl Non w).alloc (.cells (bv h).toArray 45)
  have HL := Lib.hid hl
  clear hl
  go_enter Try.func46, Try.ntmps46
  go_wp2
  go_loopw [3, 4] (fun o i wr => ∃ k : Nat, k ≤ 32 ∧ i = .int .i64 (k : Int) ∧ Grow w wr o (h.take k) ∧ Hb wr w.heap.size 45 (bv h).toArray ∧ ¬ vbl o w.heap.size) (fun _ i _ => 32 - (intOf i).toNat)
  case atStart => exact ⟨0, by omega, rfl, ⟨Own.nil _ _, fun k hk => (by cases hk), hc0⟩, hb, fun hk => (by cases hk)⟩
  case round =>
    obtain ⟨k, hk, rfl, G, hb', hne⟩ := hrel
    obtain ⟨o, rfl⟩ : ∃ o, o = u3 := ⟨_, rfl⟩
    by_cases hlt : k < 32
    · have hkl : k < h.length := by rw [HL.out]; exact hlt
      have hcell := hb'.cell k
      have hbv : (bv h).toArray[k]? = some (.int .u8 (h[k].toNat : Int)) := by rw [List.getElem?_toArray]; exact bv_get h k _ (List.getElem?_eq_getElem hkl)
      rw [hbv] at hcell
      have HS := Lib.hid (List.take_succ_eq_append_getElem hkl)
      have hsz : (h.take k).length ≤ 32 := by simp; omega
      have hbt := h[k].toNat_lt
      generalize h[k] = b at *
      generalize h.take k = l at *
      clear hbv hkl
      go_wp2_with (at_builtin; refine wpList_app byt _ rfl _ _ rfl (v := o) rfl (G.own.chg ((Chg.refl Non wr).alloc _) (fun _ _ f => f)) rfl (l2 := [b]) rfl (rd_one _ _ _ rfl) (by simp; omega) ?_; intro v' w1 hown' hgr hloc)
      go_roundw
      case rel =>
        refine ⟨k + 1, by omega, by go_num, ?_, ?_, ?_⟩
        · rw [HS.out]; exact G.more ((Chg.refl Non wr).alloc _) hown' hgr hloc
        · exact (hb'.alloc _).grown hgr (fun e => hne e.symm)
        · intro e
          have hlt1 := hb'.lt
          rcases hloc with h1 | h1
          · exact hne (by unfold vbl at e ⊢; rw [← h1]; exact e)
          · unfold vbl at e; rw [h1] at e; injection e with e; simp at e; omega
      case measure => simp [intOf]; omega
    · obtain rfl : k = 32 := by omega
      go_wp2
      go_ret
      have e : h.take 32 = h := List.take_of_length_le (by rw [HL.out]; omega)
      rw [e] at G
      exact ⟨_, rfl, G.own, G.new, G.chg⟩

theorem own_two (w : World) (x y : Int) (hx : 0 ≤ x) (hx2 : x < 256) (hy : 0 ≤ y) (hy2 : y < 256) : Own 5 (w.alloc (.cells #[.int .u8 x, .int .u8 y] 5)) (.slice (some ⟨w.heap.size, 0, none⟩) 2 2) [UInt8.ofNat x.toNat, UInt8.ofNat y.toNat] := by
  refine ⟨by simp [bv], .inr ⟨w.heap.size, 2, _, rfl, Nat.zero_le _, heap_alloc_new w _, by simp, by unfold maxLen; omega, by simp, ?_⟩⟩
  simp only [bv, List.map_cons, List.map_nil, UInt8.toNat_ofNat']
  have e1 : ((x.toNat % 2 ^ 8 : Nat) : Int) = x := by omega
  have e2 : ((y.toNat % 2 ^ 8 : Nat) : Int) = y := by omega
  rw [e1, e2]
  rfl

theorem tx_two (s : ByteArray) (hs : s.size ≤ 4096) : tx s.data.toList = [UInt8.ofNat ((s.size : Int) / 256).toNat, UInt8.ofNat ((s.size : Int) % 256).toNat] ++ s.data.toList := by
  have hl : s.data.toList.length = s.size := by rw [Array.length_toList]; rfl
  unfold tx
  rw [hl]
  congr 1
  have e1 : ((s.size : Int) / 256).toNat = s.size / 256 ^ 1 % 256 := by omega
  have e2 : ((s.size : Int) % 256).toNat = s.size / 256 ^ 0 % 256 := by omega
  rw [e1, e2]
  rfl

theorem refText_any (w : World) (s : ByteArray) (hs : s.size ≤ 4096) : Calls Try.prog 42 #[.string s] w (Newb w (tx s.data.toList)) := by
  rw [tx_two s hs]
  have ho := own_two w ((s.size : Int) / 256) ((s.size : Int) % 256) (by omega) (by omega) (by omega) (by omega)
  go_enter Try.func42, Try.ntmps42
  go_wp2_with (at_builtin; go_loud (refine wpList_appS byt _ rfl _ _ rfl (v := .slice (some ⟨w.heap.size, 0, none⟩) 2 2) rfl ho rfl (by simp; omega) ?_); intro v' w1 hown' hgr hloc)
  go_ret
  refine ⟨v', rfl, hown', ?_, ?_⟩
  · intro k hk
    rcases hloc with h1 | h1
    · unfold vbl at hk; rw [h1] at hk; have hk' : some w.heap.size = some k := hk; injection hk' with e; omega
    · have := h1 k hk; simp at this; omega
  · refine (((Chg.refl Non w).alloc _).grown hgr (fun k hk => ?_))
    have hk' : some w.heap.size = some k := hk
    injection hk' with e
    exact .inr (by omega)

theorem refWordI_any (w : World) (x : Int) (h0 : 0 ≤ x) (h1 : x < 18446744073709551616) : Calls Try.prog 84 #[.int .u64 x] w (Newb w (be 8 x.toNat)) := by
  obtain ⟨n, rfl⟩ : ∃ n : Nat, x = (n : Int) := ⟨x.toNat, by omega⟩
  exact refWord_any w n (by omega)
end Go.Proofs.Ytjcfdclgddjaoaa
