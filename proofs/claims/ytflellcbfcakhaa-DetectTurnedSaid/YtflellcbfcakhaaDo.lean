/- rising: the keys of a map that are so, sorted. -/
import Derived.Test.YtflellcbfcakhaaChecked
import Derived.WalkKit
import Derived.WalkLawsBesides
import Derived.OwnWalk
import Derived.Lib.Hide
import Derived.Maps.RangeWalk
import Derived.Maps.AppendAt
import Derived.Deep.MidRow
import Derived.Test.YtflellcbfcakhaaDn
namespace Go.Proofs.Ytflellcbfcakhaa
open Go.RowKit
set_option linter.unusedVariables false
set_option linter.unusedSimpArgs false
set_option maxRecDepth 20000

/-- The value v is a slice of the call's own, in a block from n₀ on, that holds the keys ks. -/
def OwnK (n₀ : Nat) (w : World) (v : Value) (ks : List Nat) : Prop := w.ownsRow n₀ 43 1 v ks.length (ks.map keyV64)
section
variable {w w' : World} {v : Value} {ks : List Nat} {n₀ : Nat}
theorem OwnK.nil (w : World) (n₀ : Nat) : OwnK n₀ w (.slice none 0 0) [] := World.ownsRow_nil w n₀ _ 1
theorem OwnK.chg {S : Nat → Prop} (h : OwnK n₀ w v ks) (k : Chg S w w') (hS : ∀ j, vbl v j → ¬ S j) : OwnK n₀ w' v ks := by
  refine ⟨h.1, ?_⟩
  rcases h.2 with h0 | ⟨g, cap, cur, rfl, hb, hg, r⟩
  · exact .inl h0
  · exact .inr ⟨g, cap, cur, rfl, hb, (k.block g (Array.getElem?_eq_some_iff.1 hg).1 (hS g rfl)).trans hg, r⟩
theorem OwnK.low (h : OwnK n₀ w v ks) : OwnK 0 w v ks := by
  refine ⟨h.1, ?_⟩
  rcases h.2 with h0 | ⟨g, cap, cur, rfl, hb, r⟩
  · exact .inl h0
  · exact .inr ⟨g, cap, cur, rfl, Nat.zero_le _, r⟩
theorem OwnK.row (h : OwnK n₀ w v ks) {j : Nat} (hj : vbl v j) : n₀ ≤ j ∧ ∃ cs, Hb w j 43 cs := by
  rcases h.2 with ⟨rfl, _⟩ | ⟨g, cap, cur, rfl, hb, hg, r⟩
  · cases hj
  · injection hj with hj
    subst hj
    exact ⟨hb, cur, hg⟩
end
theorem grown_of {w w' : World} (k : Chg Non w w') : w.grownBy w' none := ⟨k.os, k.tape, k.output, k.size, fun i hi _ => k.block i hi (fun f => f)⟩
theorem chg_of_grown {w w' : World} {r : Nat} (h : w.grownBy w' (some r)) : Chg (· = r) w w' := (Chg.refl (· = r) w).grown h (fun j e => .inl (by injection e with e; exact e.symm))
theorem chg_of_grown0 {w w' : World} (h : w.grownBy w' none) : Chg Non w w' := (Chg.refl Non w).grown h (fun j e => by cases e)
theorem same_lit (q : IntKind) (a b : Int) : (Lit.int q a).sameKey (.int q b) = decide (a = b) := by
  by_cases e : a = b
  · subst e
    rw [WideAt.sameKey_self (lit_key q a), decide_eq_true rfl]
  · rw [Maps.sameKey_ne (lit_ne e), decide_eq_false e]
/-- What slices.Sort does to lists of at most N distinct keys of the call's own. -/
def SortOK (N : Nat) : Prop := ∀ (n₀ : Nat) (w : World) (v : Value) (ks : List Nat), OwnK n₀ w v ks → ks.length ≤ N → (∀ k ∈ ks, k < 18446744073709551616) → ks.Nodup →
  Calls Try.prog 24 #[v] w fun e w' => e = .returned (.tuple #[]) ∧ Chg (vbl v) w w' ∧ ∃ rs, OwnK n₀ w' v rs ∧ rs.Perm ks ∧ rs.Pairwise (· ≤ ·)
/-- The keys that were met. -/
structure Met (m : Int → Option Int) (p : Nat → Bool) (left : Lit → Bool) (ks : List Nat) : Prop where
  nodup : ks.Nodup
  mem : ∀ k : Nat, k ∈ ks ↔ k < 18446744073709551616 ∧ (m (k : Int)).isSome = true ∧ p k = true ∧ left (.int .u64 (k : Int)) = false
theorem Met.start (m : Int → Option Int) (p : Nat → Bool) {left : Lit → Bool} (h : ∀ k : Nat, left (.int .u64 (k : Int)) = (m (k : Int)).isSome) : Met m p left [] :=
  ⟨List.nodup_nil, fun k => ⟨fun hk => (by cases hk), fun ⟨_, h1, _, h2⟩ => by rw [h k, h1] at h2; cases h2⟩⟩
theorem Met.yes {m : Int → Option Int} {p : Nat → Bool} {left : Lit → Bool} {ks : List Nat} (h : Met m p left ks) {x : Nat} (hx : x < 18446744073709551616) (hm : (m (x : Int)).isSome = true) (hp : p x = true) (hl : left (.int .u64 (x : Int)) = true) :
    Met m p (fun z => left z && !z.sameKey (.int .u64 (x : Int))) (ks ++ [x]) := by
  have hn : ¬ x ∈ ks := fun e => by have := ((h.mem x).1 e).2.2.2; rw [hl] at this; cases this
  refine ⟨List.nodup_append.2 ⟨h.nodup, by simp, fun a ha b hb e => hn (by rw [List.mem_singleton] at hb; subst hb; subst e; exact ha)⟩, fun k => ?_⟩
  rw [List.mem_append, List.mem_singleton, h.mem k, same_lit]
  by_cases e : k = x
  · subst e
    simp [hx, hm, hp]
  · have e' : ¬ (k : Int) = (x : Int) := by omega
    simp [e, e']
theorem Met.no {m : Int → Option Int} {p : Nat → Bool} {left : Lit → Bool} {ks : List Nat} (h : Met m p left ks) {x : Nat} (hp : p x = false) :
    Met m p (fun z => left z && !z.sameKey (.int .u64 (x : Int))) ks := by
  refine ⟨h.nodup, fun k => ?_⟩
  rw [h.mem k, same_lit]
  by_cases e : k = x
  · subst e
    simp [hp]
  · have e' : ¬ (k : Int) = (x : Int) := by omega
    simp [e, e']
/-- What rising leaves: the keys that are so, rising. -/
def Ris (m : Int → Option Int) (p : Nat → Bool) (w : World) (e : Ending) (w' : World) : Prop := Chg Non w w' ∧ ∃ v rs, e = .returned v ∧ OwnK w.heap.size w' v rs ∧ rs.Pairwise (· < ·) ∧ ∀ k : Nat, k ∈ rs ↔ k < 18446744073709551616 ∧ (m (k : Int)).isSome = true ∧ p k = true
theorem isSome_of {q : IntKind} {D : DataW Unit} {m : Int → Option Int} (hs : Says q D m) {x c : Int} (h : ∀ zd, D.atKey (.int q x) zd = .lit (.int .i64 c)) : (m x).isSome = true := by
  rw [← (hs x).1]
  exact Maps.has_true_of_atKey h

theorem rng_ne {P : Program} {k t : TypeId} {R : Value → Option (DataW Unit × List MemPlace)} {w : World} {b r n j cnt : Nat} {D : DataW Unit} {left : Lit → Bool} {cs : Array Value} (h : w.ranges P k R b r n D left cnt) (hb : Hb w j t cs) : j ≠ b ∧ j ≠ r := by
  obtain ⟨es, clock, since, seen, c0, h1, _, _, _, h2, _⟩ := h
  unfold Hb at hb
  refine ⟨fun e => ?_, fun e => ?_⟩
  · subst e; rw [h1] at hb; cases hb
  · subst e; rw [h2] at hb; cases hb
set_option maxHeartbeats 6400000 in
theorem rising_any (N : Nat) (hN : N ≤ 100000) (hS : SortOK N) (w : World) (b : Nat) (m : Int → Option Int) (hM : MapI .u64 43 w b N m) (fn : FuncId) (he : ∀ args w, (callFunc fn args).run Try.prog w = .ok (.enter fn args) w) (caps : Array Value) (p : Nat → Bool)
    (hp : ∀ (w' : World) (k : Nat), Chg Non w w' → k < 18446744073709551616 → Calls Try.prog fn (#[.int .u64 (k : Int)] ++ caps) w' (Zero w' (.bool (p k)))) :
    Calls Try.prog 19 #[.map (some b), .func (.func fn) #[] caps] w (Ris m p w) := by
  obtain ⟨D, hown, hs⟩ := hM
  have HP := Lib.hid hp
  have HS := Lib.hid hS
  have HSY := Lib.hid hs
  have HSZ := Lib.hid (World.ownsMap.size_le hown)
  have K64 := Maps.int_keyed Try.underlying43
  obtain ⟨i0, hi, hz0, hz1, hz2⟩ := info_parts u64_info
  have HST : Hid (∀ k : Nat, Maps.has D (.int .u64 (k : Int)) = (m (k : Int)).isSome) := Lib.hid fun k => (hs k).1
  clear hp hS hs
  go_enter Try.func19, Try.ntmps19
  go_wp2_with (first | (at_range; refine wpList_range_own _ rfl _ 63 rfl 43 3 K64 map_of64 _ b N _ rfl hown ?_; intro w0 hrg0 hg0 hs0) | go_in)
  go_frame
  have HG0 := Lib.hid (chg_of_grown0 hg0)
  go_loopw [5, 6] (fun s5 s6 wr => ∃ (left : Lit → Bool) (cnt : Nat) (ks : List Nat), wr.ranges Try.prog 43 (plainElem Try.prog 3) b w.heap.size N D left cnt ∧ Hid (OwnK w.heap.size wr s5 ks) ∧ Hid (Met m p left ks) ∧ ks.length + cnt ≤ N ∧ Hid (Chg Non w wr)) (fun _ _ wr => wr.rangeLeft b w.heap.size)
  case atStart => exact ⟨_, _, [], hrg0, Lib.hid (OwnK.nil _ _), Lib.hid (Met.start m p HST.out), by have := HSZ.out; simp; omega, HG0⟩
  case round =>
    obtain ⟨left, cnt, ks, hrg, hO, hMt, hcn, hC⟩ := hrel
    go_wp2_with (first | (at_next; refine wpList_next_ranges_ii _ rfl _ rfl 43 3 .u64 .i64 K64 Try.underlying43 Try.underlying3 b w.heap.size N _ _ _ rfl hrg ?_ ?_) | go_in)
    · intro _ hl0
      have hl64 : ks.length ≤ N := by omega
      clear hN hcn
      go_wp2_with fail
      refine (HS.out w.heap.size wr u5 ks hO.out hl64 (fun k hk => ((hMt.out.mem k).1 hk).1) hMt.out.nodup).mono ?_
      rintro e w9 ⟨rfl, k9, rs, hO9, hperm, hsort⟩
      have hstrict : rs.Pairwise (· < ·) := (hsort.and (hperm.nodup_iff.2 hMt.out.nodup)).imp (fun {a b} h => Nat.lt_of_le_of_ne h.1 h.2)
      have hmem : ∀ k : Nat, k ∈ rs ↔ k < 18446744073709551616 ∧ (m (k : Int)).isSome = true ∧ p k = true := fun k => by
        rw [hperm.mem_iff, hMt.out.mem k, hl0]
        simp
      have HFIN : Hid (Ris m p w (.returned u5) w9) := Lib.hid ⟨hC.out.trans k9 (fun j hj => .inr (hO.out.row hj).1), u5, rs, rfl, hO9, hstrict, hmem⟩
      clear hstrict hmem hperm hsort hO9 k9 hl0
      go_wp2_with fail
      go_ret
      exact HFIN.out
    · intro x c w1 cnt1 hwx hwc hlx hat hrg1 hlt hg1 hs1 hen
      obtain ⟨k, rfl, hk⟩ := u64_nat hwx
      have hms := isSome_of HSY.out hat
      have hO1 : OwnK w.heap.size w1 u5 ks := hO.out.chg (chg_of_grown hg1) (fun j hj => by obtain ⟨_, cs, hb⟩ := hO.out.row hj; exact (rng_ne hrg hb).2)
      have K1 : Chg Non w w1 := hC.out.trans (chg_of_grown hg1) (fun j hj => .inr (Nat.le_of_eq hj.symm))
      have HPK := Lib.hid (HP.out w1 k K1 hk)
      have HO1 := Lib.hid hO1
      have HK1 := Lib.hid K1
      have HHK : Hid (k < 18446744073709551616 ∧ (m (k : Int)).isSome = true ∧ left (.int .u64 (k : Int)) = true) := Lib.hid ⟨hk, hms, hlx⟩
      have hkl : ks.length ≤ 100000 := by omega
      have HCN : Hid (ks.length + cnt ≤ N ∧ cnt1 < cnt ∧ ks.length + 1 ≤ maxLen ∧ (ks.length + 1) * 8 ≤ 140737488355328) := Lib.hid ⟨hcn, hlt, by unfold maxLen; omega, by omega⟩
      have HR1 := Lib.hid hrg1
      have HR0 := Lib.hid hrg
      clear hs1 hg1 hO1 K1 hms hat hlx hwx hwc hk hcn hlt hN hrg1 hrg hkl
      cases hpk : p k with
      | false =>
        rw [hpk] at HPK
        have HNO := Lib.hid (hMt.out.no hpk)
        clear hpk
        go_wp2_with fail
        refine HPK.out.mono ?_
        rintro e w2 ⟨rfl, k2⟩
        have hrg2 := HR1.out.kept (grown_of k2) (by simp) (by simp)
        have HO2 := Lib.hid (HO1.out.chg k2 (fun _ _ f => f))
        have HK2 := Lib.hid (HK1.out.trans k2 (fun _ f => f.elim))
        go_wp2_with fail
        go_roundw
        case rel => exact ⟨_, cnt1, ks, hrg2, HO2, HNO, by have := HCN.out; omega, HK2⟩
        case measure => rw [hrg2.left_eq, HR0.out.left_eq]; exact HCN.out.2.1
      | true =>
        rw [hpk] at HPK
        have HYES := Lib.hid (hMt.out.yes HHK.out.1 HHK.out.2.1 hpk HHK.out.2.2)
        clear hpk
        go_wp2_with fail
        refine HPK.out.mono ?_
        rintro e w2 ⟨rfl, k2⟩
        have HR2 := Lib.hid (HR1.out.kept (grown_of k2) (by simp) (by simp))
        have HO2 := Lib.hid (HO1.out.chg k2 (fun _ _ f => f))
        have HK2 := Lib.hid (HK1.out.trans k2 (fun _ f => f.elim))
        have hnw := cell_one_new w2 (.int .u64 (k : Int)) 43
        have HNW := Lib.hid hnw
        clear hnw k2
        go_wp2_with (at_builtin; refine wpList_append_own _ rfl _ _ 36 rfl w.heap.size 43 i0 (.int .u64 0) 1 8 Try.underlying36 hi hz0 hz1 hz2 rfl (by decide) u5 _ _ rfl (World.ownsRow.alloc HO2.out _) ⟨w2.heap.size, 0, none⟩ 1 1 [.int .u64 (k : Int)] rfl rfl HNW.out (by simp [Value.oneCell']) HCN.out.2.2.1 HCN.out.2.2.2 (by rw [World.size_alloc]; have := HK2.out.size; omega) ?_; intro v' w5 hown' hgrow _)
        have k5 : Chg Non w w5 := (HK2.out.alloc _).grown hgrow (fun j hj => .inr (HO2.out.row hj).1)
        have hO5 : OwnK w.heap.size w5 v' (ks ++ [k]) := by
          unfold OwnK
          rw [List.length_append, List.map_append]
          exact hown'
        have hrg5 := (HR2.out.alloc (.cells #[.int .u64 (k : Int)] 43)).kept hgrow (fun e => by obtain ⟨_, cs, hb⟩ := HO2.out.row (j := b) e.symm; exact (rng_ne HR2.out hb).1 rfl) (fun e => by obtain ⟨_, cs, hb⟩ := HO2.out.row (j := w.heap.size) e.symm; exact (rng_ne HR2.out hb).2 rfl)
        go_roundw
        case rel => exact ⟨_, cnt1, ks ++ [k], hrg5, Lib.hid hO5, HYES, by have := HCN.out; simp; omega, Lib.hid k5⟩
        case measure => rw [hrg5.left_eq, HR0.out.left_eq]; exact HCN.out.2.1
end Go.Proofs.Ytflellcbfcakhaa
