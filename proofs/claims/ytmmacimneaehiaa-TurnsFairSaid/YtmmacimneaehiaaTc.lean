/- Keys in a slice of the call's own; slices.AppendSeq and slices.Collect over first. -/
import Derived.Test.YtmmacimneaehiaaChecked
import Derived.RangeFuncNested
import Derived.RangeFuncBound
import Derived.RangeFuncCalls
import Derived.RangeFuncLeaves
import Derived.Shelf.Abstract
import Derived.Shelf.RegionOpen
import Derived.WalkKit
import Derived.OwnWalkIn
import Derived.TacticsInMore
import Derived.LoopNIn
import Derived.LoopIn
import Derived.RangeFuncBox
import Derived.Maps.AppendAt
import Derived.WalkLawsBesides
import Derived.Test.YtmmacimneaehiaaTf
namespace Go.Proofs.Ytmmacimneaehiaa
open Go.RowKit Go.Shelf
attribute [local go_sem] Oper.semAt_some
set_option linter.unusedVariables false
set_option linter.unusedSimpArgs false
set_option maxRecDepth 20000

def keyV64 (k : Nat) : Value := .int .u64 (k : Int)
def keyC (k : Nat) : List Value := [.int .u64 (k : Int)]
/-- The value v is a slice of the call's own, in a block from n₀ on, that holds the keys ks. -/
def OwnK (n₀ : Nat) (w : World) (v : Value) (ks : List Nat) : Prop := w.ownsRow n₀ 30 1 v ks.length (ks.map keyV64)
section
variable {w w' : World} {v : Value} {ks : List Nat} {n₀ : Nat}
theorem OwnK.nil (w : World) (n₀ : Nat) : OwnK n₀ w (.slice none 0 0) [] := World.ownsRow_nil w n₀ _ 1
theorem OwnK.chg {S : Nat → Prop} (h : OwnK n₀ w v ks) (k : Chg S w w') (hS : ∀ j, vbl v j → ¬ S j) : OwnK n₀ w' v ks := by
  refine ⟨h.1, ?_⟩
  rcases h.2 with h0 | ⟨g, cap, cur, rfl, hb, hg, r⟩
  · exact .inl h0
  · exact .inr ⟨g, cap, cur, rfl, hb, (k.block g (Array.getElem?_eq_some_iff.1 hg).1 (hS g rfl)).trans hg, r⟩
theorem OwnK.mine (h : OwnK n₀ w v ks) {j : Nat} (hj : vbl v j) : n₀ ≤ j ∧ Mine 3 w j := by
  rcases h.2 with ⟨rfl, _⟩ | ⟨g, cap, cur, rfl, hb, hg, r⟩
  · cases hj
  · injection hj with hj
    subst hj
    exact ⟨hb, _, _, _, hg, by decide⟩
theorem OwnK.low (h : OwnK n₀ w v ks) : OwnK 0 w v ks := by
  refine ⟨h.1, ?_⟩
  rcases h.2 with h0 | ⟨g, cap, cur, rfl, hb, r⟩
  · exact .inl h0
  · exact .inr ⟨g, cap, cur, rfl, Nat.zero_le _, r⟩
theorem OwnK.slice (h : OwnK n₀ w v ks) : ∃ A c, v = .slice A ks.length c ∧ ks.length ≤ c ∧ c ≤ maxLen ∧ LstM w A ks keyC 1 := by
  rcases h.2 with ⟨rfl, h0⟩ | ⟨g, cap, cur, rfl, hb, hg, hn, hm, hs, ht⟩
  · refine ⟨none, 0, by rw [h0], by omega, by unfold maxLen; omega, fun i x hx => ?_⟩
    have := List.eq_nil_of_length_eq_zero h0
    subst this
    simp at hx
  · refine ⟨some ⟨g, 0, none⟩, cap, rfl, hn, hm, fun i x hx => ⟨g, 0, rfl, (Array.getElem?_eq_some_iff.1 hg).1, fun j u hu => ?_⟩⟩
    have hil := (List.getElem?_eq_some_iff.1 hx).1
    have hg' : Hb w g 30 cur := hg
    rw [hg'.cell]
    match j, hu with
    | 0, hu =>
      injection hu with hu
      subst hu
      have h1 : (ks.map keyV64)[i]? = some (keyV64 x) := by simp [hx]
      rw [← ht, List.getElem?_take, if_pos (by omega)] at h1
      simpa [keyV64] using h1
    | j + 1, hu => simp [keyC] at hu
end
theorem key_info : (Try.prog.info? 30).map (fun i => (i.zero, i.size, i.bytes)) = some (some (.int .u64 0), 1, 8) := by kernel_rfl

set_option maxHeartbeats 3200000 in
theorem appendSeq_any (w : World) (bl bn ba : Nat) (A : Option Addr) (c : Nat) (l : List Va) (hr : Rt l) (ol : ∀ x ∈ l, x.Ok) (n : Nat) (hn : n ≤ 4096) (hc : Caught w (fun j => w.heap.size ≤ j) bl bn ba A c l n) :
    Calls Try.prog 12 #[.slice none 0 0, .func (.func 13) #[] #[.pointer (some ⟨bl, 0, none⟩), .pointer (some ⟨bn, 0, none⟩), .pointer (some ⟨ba, 0, none⟩)]] w
      fun e w' => Chg Non w w' ∧ ∃ v, e = .returned v ∧ OwnK w.heap.size w' v (ords l n) := by
  have HG := first_gives w (fun j => w.heap.size ≤ j) bl bn ba A c l hr ol n hn hc
  have hlen := ords_len l n
  obtain ⟨i0, hi, hz0, hz1, hz2⟩ := info_parts key_info
  clear hc
  refine (callsIn_wide (n := 4)).1 ?_
  refine callsIn_of_wp_marks Try.func12 rfl trivial ?_ rfl
  simp only [Try.ntmps12, List.size_toArray, List.length_cons, List.length_nil, Nat.reduceAdd, Nat.reduceSub, Array.replicate_succ, Array.replicate_zero, List.push_toArray, List.append_toArray, List.nil_append, List.cons_append]
  gi_wp2
  have bO := Boxed.new w 27 (.slice none 0 0)
  refine range_walk (T := 3) (Fr := fun j => w.heap.size ≤ j) (by omega) rfl (enters_of Try.func13 (by kernel_rfl) rfl) HG ((Chg.refl _ _).alloc _) (fun k hk => by simp at hk; omega) (fun _ => rfl)
    (fun pre W => (∃ v, Boxed W w.heap.size 27 v ∧ OwnK w.heap.size W v pre) ∧ Chg Non w W) ?hI ⟨⟨_, bO, OwnK.nil _ _⟩, (Chg.refl _ _).alloc _⟩
    (fun x => { tmps := #[.slice none 0 0, .func (.func 13) #[] #[.pointer (some ⟨bl, 0, none⟩), .pointer (some ⟨bn, 0, none⟩), .pointer (some ⟨ba, 0, none⟩)], .pointer (some ⟨w.heap.size, 0, none⟩), undef, .slice none 0 0, .int .u64 (x : Int), .func (.func 13) #[] #[.pointer (some ⟨bl, 0, none⟩), .pointer (some ⟨bn, 0, none⟩), .pointer (some ⟨ba, 0, none⟩)], .int .u64 (x : Int), undef, undef, undef, undef, undef], defers := [] }) ?assign ?body ?done
  case hI =>
    rintro s X Y ⟨⟨v, hv, hk⟩, hC⟩ hXY
    refine ⟨⟨v, (hXY.block _ hv.lt (fun hj => hj.2 ⟨_, _, _, hv, by decide⟩)).trans hv, hk.chg hXY (fun j hj h => h.2 (hk.mine hj).2)⟩, hC.trans hXY (fun j hj => .inr ?_)⟩
    have := hj.1
    simp at this
    omega
  case assign =>
    intro lo x W K hK
    gi_wp2
    exact hK
  case body =>
    rintro lo pre x W ⟨⟨v, hv, hrow⟩, hC⟩ hpre
    have hc := hv.cell
    have hpl : pre.length < n := by
      have := hpre.length_le
      rw [hlen] at this
      simp at this
      omega
    have hW := hC.size
    gi_wp2_with (gi_at_builtin; refine wpListIn_append_own _ rfl _ _ 27 rfl w.heap.size 30 i0 (.int .u64 0) 1 8 Try.underlying27 hi hz0 hz1 hz2 rfl (by decide) _ _ _ rfl (World.ownsRow.alloc hrow _) ⟨W.heap.size, 0, none⟩ 1 1 [.int .u64 (x : Int)] rfl rfl (cell_one_new _ _ _) (by simp [Value.oneCell']) (by unfold maxLen; omega) (by omega) (by simp; omega) ?_; intro v' w1 hown' hgrow _; obtain ⟨g', cap', rfl⟩ := ownsRow_succ hown'; obtain ⟨hv1, hv2, hr2, hk2, hb2⟩ := hv.appended (by decide) hrow hW (Nat.le_refl _) hown' hgrow; have hc1 := hv1.cell; have hf1 := hv1.frozen)
    have k1 : Chg (fun k => w.heap.size ≤ k ∧ Mine 3 W k) W w1 := ((Chg.refl _ W).alloc _).grown hgrow (fun k hk => .inl (hrow.mine hk))
    have hmine : w.heap.size ≤ w.heap.size ∧ Mine 3 W w.heap.size := ⟨Nat.le_refl _, _, _, _, hv, by decide⟩
    have k2 := k1.setCell (p := ⟨w.heap.size, 0, none⟩) (.inl hmine) (.slice (some ⟨g', 0, none⟩) (pre.length + 1) cap')
    refine ⟨k2, ⟨_, hv2, ?_⟩, ?_⟩
    · unfold OwnK
      rw [List.length_append, List.map_append]
      exact hr2
    · exact hC.trans k2 (fun j hj => .inr hj.1)
  case done =>
    rintro D W hD ⟨⟨v, hv, hk⟩, hC⟩ hK
    have hc := hv.cell
    gi_wp2
    refine ⟨by simp, .inl ⟨_, _, rfl, run_takeDeferred hK, ?_⟩⟩
    have hDs : w.heap.size ≤ D := by simp at hD; omega
    have kD : Chg (fun k => k = D) W (W.putObj D (.deferred none)) := chg_putObj _ _ _
    refine ⟨_, results_tmp rfl _ _ _, hC.trans kD (fun j hj => .inr (by rw [hj]; exact hDs)), v, rfl, hk.chg kD (fun j hj h => not_mine hK rfl (by rw [← h]; exact (hk.mine hj).2))⟩

set_option maxHeartbeats 1600000 in
theorem collect_any (w : World) (bl bn ba : Nat) (A : Option Addr) (c : Nat) (l : List Va) (hr : Rt l) (ol : ∀ x ∈ l, x.Ok) (n : Nat) (hn : n ≤ 4096) (hc : Caught w (fun j => w.heap.size ≤ j) bl bn ba A c l n) :
    Calls Try.prog 10 #[.func (.func 13) #[] #[.pointer (some ⟨bl, 0, none⟩), .pointer (some ⟨bn, 0, none⟩), .pointer (some ⟨ba, 0, none⟩)]] w
      fun e w' => Chg Non w w' ∧ ∃ v, e = .returned v ∧ OwnK w.heap.size w' v (ords l n) := by
  have HA := Lib.hid (appendSeq_any w bl bn ba A c l hr ol n hn hc)
  clear hc hr ol
  go_enter Try.func10, Try.ntmps10
  go_wp2_with fail
  refine HA.out.mono ?_
  rintro e w1 ⟨k1, v, rfl, hv⟩
  go_wp2_with fail
  go_ret
  exact ⟨k1, v, rfl, hv⟩
end Go.Proofs.Ytmmacimneaehiaa
