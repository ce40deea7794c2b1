/- first: the iterator over who proposes. -/
import Derived.Test.YtmmacimneaehiaaChecked
import Derived.RangeFuncNested
import Derived.RangeFuncBound
import Derived.RangeFuncCalls
import Derived.RangeFuncLeaves
import Derived.Shelf.Abstract
import Derived.Shelf.RegionOpen
import Derived.WalkKit
import Derived.OwnWalkIn
import Derived.TacticsInMore
import Derived.LoopNIn
import Derived.LoopIn
import Derived.Laws.MakeOwn
import Derived.WalkLawsBesides
import Derived.Test.YtmmacimneaehiaaTl
import Derived.Test.YtmmacimneaehiaaTk
namespace Go.Proofs.Ytmmacimneaehiaa
open Go.RowKit Go.Shelf
attribute [local go_sem] Oper.semAt_some
set_option linter.unusedVariables false
set_option linter.unusedSimpArgs false
set_option maxRecDepth 20000

theorem int_info : (Try.prog.info? 3).map (fun i => (i.zero, i.size, i.bytes)) = some (some (.int .i64 0), 1, 8) := by kernel_rfl
theorem made_zero (n : Nat) : madeCells #[Value.int .i64 0] n = rowI (List.replicate n 0) := by
  apply Array.ext_getElem?
  intro i
  by_cases h : i < n
  · simp [madeCells, rowI, h, Nat.mod_one]
  · simp [madeCells, rowI, h]
theorem make_ints (W : World) (n : Nat) (hn : n ≤ 64) : (Instr.makeSlice 43 (.int .i64 (n : Int)) (.int .i64 (n : Int))).run Try.prog W = .ok (.slice (some ⟨W.heap.size, 0, none⟩) n n) (W.alloc (.cells (rowI (List.replicate n 0)) 3)) := by
  obtain ⟨i0, hi, hz0, hz1, hz2⟩ := info_parts int_info
  have h := run_make (P := Try.prog) W 43 3 i0 (.int .i64 0) Try.underlying43 hi hz0 .i64 .i64 n n (by omega) (by omega) (by rw [hz2]; omega) (by omega)
  rw [h, hz1]
  simp only [Int.toNat_natCast, Nat.mul_one, Value.cells]
  rw [made_zero]

set_option maxHeartbeats 1600000 in
theorem first_any (w : World) (A : Option Addr) (len c : Nat) (P n : Int) : Calls Try.prog 11 #[.slice A len c, .int .i64 P, .int .i64 n] w fun e w' =>
    e = .returned (.func (.func 13) #[] #[.pointer (some ⟨w.heap.size, 0, none⟩), .pointer (some ⟨w.heap.size + 2, 0, none⟩), .pointer (some ⟨w.heap.size + 1, 0, none⟩)]) ∧
      w' = ((w.alloc (.cells #[.slice A len c] 22)).alloc (.cells #[.int .i64 P] 3)).alloc (.cells #[.int .i64 n] 3) := by
  go_enter Try.func11, Try.ntmps11
  go_wp2_with fail
  go_ret
  exact ⟨rfl, rfl⟩

/-- What the iterator has caught: the set, how many turns, and all power. -/
structure Caught (w : World) (Fr : Nat → Prop) (bl bn ba : Nat) (A : Option Addr) (c : Nat) (l : List Va) (n : Nat) : Prop where
  l0 : ¬ Fr bl
  l1 : ¬ Fr bn
  l2 : ¬ Fr ba
  hA : ∀ j, abl A j → ¬ Fr j
  top : ∀ j, w.heap.size ≤ j → Fr j
  set : w.cell? ⟨bl, 0, none⟩ = some (.slice A l.length c)
  num : w.cell? ⟨bn, 0, none⟩ = some (.int .i64 (n : Int))
  all : w.cell? ⟨ba, 0, none⟩ = some (.int .i64 (sumP l))
  lst : LstM w A l Va.cells 2
theorem Caught.chg {w w' : World} {Fr : Nat → Prop} {bl bn ba : Nat} {A : Option Addr} {c : Nat} {l : List Va} {n : Nat} (h : Caught w Fr bl bn ba A c l n) (k : Chg Fr w w') : Caught w' Fr bl bn ba A c l n where
  l0 := h.l0
  l1 := h.l1
  l2 := h.l2
  hA := h.hA
  top := fun j hj => h.top j (Nat.le_trans k.size hj)
  set := k.cell h.set h.l0
  num := k.cell h.num h.l1
  all := k.cell h.all h.l2
  lst := h.lst.chgS k h.hA

set_option maxHeartbeats 3200000 in
theorem first_gives (w0 : World) (Fr : Nat → Prop) (bl bn ba : Nat) (A : Option Addr) (c : Nat) (l : List Va) (hr : Rt l) (ol : ∀ x ∈ l, x.Ok) (n : Nat) (hn : n ≤ 4096) (hc : Caught w0 Fr bl bn ba A c l n) :
    Gives 3 3 Try.prog 13 #[.pointer (some ⟨bl, 0, none⟩), .pointer (some ⟨bn, 0, none⟩), .pointer (some ⟨ba, 0, none⟩)] (fun k : Nat => #[Value.int .u64 (k : Int)]) Fr (ords l n) w0 := by
  intro lo J W hW hJ hY h0
  have HC := Lib.hid (hc.chg (hW.mono fun _ f => f.elim))
  have HY := Lib.hid hY
  have HJ := Lib.hid hJ
  have HR := Lib.hid hr
  have HO := Lib.hid ol
  have hlen := hr.2.1
  have hpos := hr.1
  have hmk := make_ints W l.length hlen
  obtain ⟨W1, hW1⟩ : ∃ W1, W.alloc (.cells (rowI (List.replicate l.length 0)) 3) = W1 := ⟨_, rfl⟩
  have hR1 : NumR W1 W.heap.size (state l (sumP l) 0) := by rw [← hW1]; exact Hb.new W _ _
  have hC1 : Chg Non W W1 := by rw [← hW1]; exact (Chg.refl _ _).alloc _
  have h1 : J (ords l 0) W1 := hJ _ _ _ h0 (hC1.mono fun _ f => f.elim)
  rw [hW1] at hmk
  have K1 := HC.out.chg (hC1.mono fun _ f => f.elim)
  have k0 := HC.out.set
  have k1 := K1.num
  have HK1 := Lib.hid K1
  have HR1 := Lib.hid hR1
  have H1 := Lib.hid h1
  have HC1 := Lib.hid hC1
  clear hc hY hJ hr ol h0 hW hW1 K1 hR1 h1 hC1
  have HT : Hid (Fr W.heap.size) := Lib.hid (HC.out.top _ (Nat.le_refl _))
  generalize hg : W.heap.size = g at *
  have HG := Lib.hid hg
  clear hg
  generalize hlenq : l.length = len at *
  have HL := Lib.hid hlenq
  clear hlenq
  refine callsIn_of_wp Try.func13 rfl trivial ?_ rfl
  simp only [Try.ntmps13, List.size_toArray, List.length_cons, List.length_nil, Nat.reduceAdd, Nat.reduceSub, Array.replicate_succ, Array.replicate_zero, List.push_toArray, List.append_toArray, List.nil_append, List.cons_append]
  gi_wp2
  gi_loopw [11] (fun i wr => ∃ k : Nat, k ≤ n ∧ i = .int .i64 (k : Int) ∧ Hid (NumR wr g (state l (sumP l) k)) ∧ Hid (J (ords l k) wr) ∧ Chg Fr W wr) (fun i _ => n - (intOf i).toNat)
  case atStart => exact ⟨0, by omega, rfl, HR1, H1, HC1.out.mono fun _ f => f.elim⟩
  case round =>
    obtain ⟨k, hk, rfl, hN, hJk, hCk⟩ := hrel
    by_cases hlt : k < n
    · have hki : (k : Int) < (n : Int) := by omega
      have HCk := HC.out.chg hCk
      have c0 := HCk.set
      have c2 := HCk.all
      rw [HL.out] at c0
      have hsm := sm_of_rt HR.out
      have HTk := take_any wr A c l HR.out.1 HR.out.2.1 HO.out HCk.lst g len (state l (sumP l) k) (state_len _ _ _) (sumP l) hsm k (by omega) (state_bd hsm k) hN.out (fun j hj e => HC.out.hA j hj (by rw [e]; exact HT.out))
      rw [HL.out] at HTk
      have hw : who l (sumP l) k < l.length := who_lt HR.out.1 _ _
      obtain ⟨x, hx⟩ : ∃ x, l[who l (sumP l) k]? = some x := ⟨_, List.getElem?_eq_getElem hw⟩
      have hpre : ords l k ++ [x.key] <+: ords l n := by
        rw [← keyAt_get hx, ← ords_next, ← ords_take (show k + 1 ≤ n by omega)]
        exact List.take_prefix _ _
      have hnext : ords l k ++ [x.key] = ords l (k + 1) := by rw [← keyAt_get hx, ← ords_next]
      have HX := Lib.hid hx
      have HPre := Lib.hid hpre
      have HNx := Lib.hid hnext
      have HCK := Lib.hid HCk
      have hww : pick l (state l (sumP l) k) = who l (sumP l) k := rfl
      rw [hww] at HTk
      have HTK := Lib.hid HTk
      have hst : turn l (sumP l) (state l (sumP l) k) = state l (sumP l) (k + 1) := rfl
      rw [hst] at HTk
      rw [HL.out] at hw
      clear HTK hww hst hpre hnext HCk hx hsm
      generalize who l (sumP l) k = s at *
      have hsi : (s : Int) < (len : Int) := by omega
      gi_wp2_with (refine ⟨trivial, ?_⟩; gi_at_call 14; refine (callsIn_wide.2 HTk).mono ?_; rintro e w1 ⟨kC, hN1, rfl⟩; have kN := Lib.hid hN1; have kJ := Lib.hid (HJ.out _ _ _ hJk.out (kC.mono fun j hj => .inl ⟨by omega, by rw [hj]; exact ⟨_, _, hN.out⟩⟩)); have kk : Chg Fr W w1 := hCk.trans kC (fun j hj => .inl (by rw [hj]; exact HT.out)); have HC1' := HC.out.chg kk; have d0 := HC1'.set; rw [HL.out] at d0; obtain ⟨b, bo, rfl, hbl, r1⟩ := HC1'.lst _ _ HX.out; obtain ⟨p0, _⟩ := rangeAt_cons r1; obtain ⟨fn, tmps, assign, body, hy, hRd⟩ := HY.out _ _ w1 kJ.out HPre.out; clear hN1 HC1' r1 HTk)
      refine hRd.mono ?_
      rintro e w3 ⟨rfl, hJ3, k3⟩
      have hN3 : NumR w3 g (state l (sumP l) (k + 1)) := NumR.chg kN.out k3 (fun hj => hj.2 ⟨_, _, kN.out⟩)
      have hC3 : Chg Fr W w3 := kk.trans k3 (fun j hj => .inl hj.1)
      rw [HNx.out] at hJ3
      have HN3 := Lib.hid hN3
      have HJ3 := Lib.hid hJ3
      clear hN3 hJ3 k3 hRd hy
      gi_wp2
      go_roundw
      case rel => exact ⟨k + 1, by omega, by go_num, HN3, HJ3, hC3⟩
      case measure => simp [intOf]; omega
    · obtain rfl : k = n := by omega
      gi_wp2
      go_end0
      exact ⟨⟨_, rfl⟩, hJk.out⟩
end Go.Proofs.Ytmmacimneaehiaa
