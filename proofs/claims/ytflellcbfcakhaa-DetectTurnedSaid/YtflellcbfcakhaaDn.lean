/- signers; once. -/
import Derived.Test.YtflellcbfcakhaaChecked
import Derived.WalkKit
import Derived.WalkLawsBesides
import Derived.Lib.Hide
import Derived.Laws.MakeOwn
import Derived.Deep.MidRow
import Derived.Test.YtflellcbfcakhaaDl
namespace Go.Proofs.Ytflellcbfcakhaa
open Go.RowKit
set_option linter.unusedVariables false
set_option linter.unusedSimpArgs false
set_option maxRecDepth 20000

def keyV64 (k : Nat) : Value := .int .u64 (k : Int)
/-- A row of keys. -/
def rowK (ks : List Nat) : Array Value := (ks.map keyV64).toArray
theorem rowK_get {ks : List Nat} {k x : Nat} (h : ks[k]? = some x) : (rowK ks)[k]? = some (.int .u64 (x : Int)) := by simp [rowK, h, keyV64]
theorem u64_info : (Try.prog.info? 43).map (fun i => (i.zero, i.size, i.bytes)) = some (some (.int .u64 0), 1, 8) := by kernel_rfl
theorem made_zero64 (n : Nat) : madeCells #[Value.int .u64 0] n = rowK (List.replicate n 0) := by
  apply Array.ext_getElem?
  intro i
  by_cases h : i < n
  · simp [madeCells, rowK, keyV64, h, Nat.mod_one]
  · simp [madeCells, rowK, keyV64, h]
theorem make_keys (W : World) (n : Nat) (hn : n ≤ 100000) : (Instr.makeSlice 36 (.int .i64 (n : Int)) (.int .i64 (n : Int))).run Try.prog W = .ok (.slice (some ⟨W.heap.size, 0, none⟩) n n) (W.alloc (.cells (rowK (List.replicate n 0)) 43)) := by
  obtain ⟨i0, hi, hz0, hz1, hz2⟩ := info_parts u64_info
  have h := run_make (P := Try.prog) W 36 43 i0 (.int .u64 0) Try.underlying36 hi hz0 .i64 .i64 n n (by omega) (by omega) (by rw [hz2]; omega) (by omega)
  rw [h, hz1]
  simp only [Int.toNat_natCast, Nat.mul_one, Value.cells]
  rw [made_zero64]
/-- The first keys, and noughts behind. -/
def part (ks : List Nat) (k : Nat) : List Nat := ks.take k ++ List.replicate (ks.length - k) 0
theorem part_zero (ks : List Nat) : part ks 0 = List.replicate ks.length 0 := by simp [part]
theorem part_all (ks : List Nat) : part ks ks.length = ks := by simp [part]
theorem part_len (ks : List Nat) {k : Nat} (hk : k ≤ ks.length) : (part ks k).length = ks.length := by simp [part]; omega
theorem part_set {ks : List Nat} {k x : Nat} (h : ks[k]? = some x) : (rowK (part ks k)).setIfInBounds k (.int .u64 (x : Int)) = rowK (part ks (k + 1)) := by
  have hk := (List.getElem?_eq_some_iff.1 h).1
  obtain ⟨n, hn⟩ : ∃ n, ks.length - k = n + 1 := ⟨ks.length - k - 1, by omega⟩
  have hn' : ks.length - (k + 1) = n := by omega
  have h1 : part ks k = ks.take k ++ (0 :: List.replicate n 0) := by unfold part; rw [hn]; rfl
  have h2 : part ks (k + 1) = ks.take k ++ (x :: List.replicate n 0) := by unfold part; rw [hn', take_one h, List.append_assoc]; rfl
  rw [h1, h2]
  unfold rowK
  rw [List.map_append, List.map_append, List.map_cons, List.map_cons, List.setIfInBounds_toArray]
  congr 1
  have hlen : ((ks.take k).map keyV64).length = k := by simp; omega
  rw [List.set_append_right _ _ (by omega), hlen, Nat.sub_self]
  rfl
theorem seal_zero : ∃ z : List Value, z.length = 3 ∧ ∀ w : World, (Instr.alloc 61 true (.tuple #[])).run Try.prog w = .ok (.pointer (some ⟨w.heap.size, 0, none⟩)) (w.alloc (.cells z.toArray 61)) :=
  ⟨[.int .u64 0, .int .u64 0, .int .u64 0], rfl, fun w => by kernel_rfl⟩
def skeys (l : List Se) : List Nat := l.map (·.key)

set_option maxHeartbeats 3200000 in
theorem signers_any (w : World) (x : Li) (ox : x.Ok) (nx : x.In w) (hl : x.se.length ≤ 100000) :
    Calls Try.prog 18 #[.agg x.cells.toArray] w fun e w' => Chg Non w w' ∧ ∃ g, w.heap.size ≤ g ∧ e = .returned (.slice (some ⟨g, 0, none⟩) x.se.length x.se.length) ∧ Hid (Hb w' g 43 (rowK (skeys x.se))) := by
  have HM := Lib.hid nx.se
  have HF : Hid (∀ w1, Chg Non w w1 → Hid (Hb w1 w.heap.size 31 x.cells.toArray) → w1.cell? ⟨w.heap.size, 197, none⟩ = some (.slice x.A1 x.se.length x.c1) ∧ ∀ o, (w1.alloc o).cell? ⟨w.heap.size, 197, none⟩ = some (.slice x.A1 x.se.length x.c1)) := Lib.hid fun w1 k h => ⟨by simpa using (Li.rows ox h.out.range0).se, fun o => by simpa using (Li.rows ox (h.out.alloc o).range0).se⟩
  obtain ⟨zs, hzs, hal⟩ := seal_zero
  clear nx ox
  generalize x.cells = cs at *
  generalize x.A1 = A at *
  generalize x.c1 = c at *
  generalize x.se = l at *
  clear x
  have HLK : Hid ((skeys l).length = l.length) := Lib.hid (by simp [skeys])
  generalize hks : skeys l = ks at *
  have HKS := Lib.hid hks
  clear hks
  generalize hn : l.length = n at *
  have HL := Lib.hid hn
  clear hn
  go_enter Try.func18, Try.ntmps18
  have hmk := fun W => make_keys W n hl
  go_wp2_with (first | (with_reducible refine wpList_box_h rfl _ _ rfl cs rfl ?_; intro w1 k1 h1; obtain ⟨p1, p2⟩ := HF.out w1 k1 h1))
  have hb2 := Hb.new w1 43 (rowK (List.replicate n 0))
  have k2 := k1.alloc (.cells (rowK (List.replicate n 0)) 43)
  have hb1 := h1.out.alloc (.cells (rowK (List.replicate n 0)) 43)
  have hlt := h1.out.lt
  have HG : Hid (w.heap.size ≤ w1.heap.size ∧ w.heap.size < w1.heap.size) := Lib.hid ⟨k1.size, hlt⟩
  generalize hw2 : w1.alloc (.cells (rowK (List.replicate n 0)) 43) = w2 at *
  have K2 := Lib.hid k2
  have HB2 : Hid (Hb w2 w1.heap.size 43 (rowK (part ks 0))) := Lib.hid (by rw [part_zero, HLK.out]; exact hb2)
  clear hmk hb1 hb2 k2 p1 p2 h1 hw2 k1 hlt
  generalize hg1 : w1.heap.size = g1 at *
  clear hg1 HF
  go_loopw [4, 5, 15] (fun s4 s5 i wr => ∃ k : Nat, k ≤ n ∧ i = .int .i64 (k : Int) ∧ Hid (Hb wr g1 43 (rowK (part ks k))) ∧ Hid (Chg Non w wr)) (fun _ _ i _ => n - (intOf i).toNat)
  case atStart => exact ⟨0, by omega, rfl, HB2, K2⟩
  case round =>
    obtain ⟨k, hk, rfl, hB, hC⟩ := hrel
    by_cases hlt : k < n
    · have hkl : k < l.length := by rw [HL.out]; exact hlt
      have hx := List.getElem?_eq_getElem hkl
      obtain ⟨a, ao, rfl, _, r1⟩ := (HM.out.chg hC.out) _ _ hx
      have HKX : Hid (ks[k]? = some l[k].key) := Lib.hid (by rw [← HKS.out]; simp [skeys, hx])
      generalize l[k] = x at *
      have hki : (k : Int) < (n : Int) := by omega
      have hrow : (Try.prog.info? 61).map (·.size) = some x.cells.length := by kernel_rfl
      have hone := x.one
      have hzx : zs.length = x.cells.length := hzs
      have HFA : Hid (∀ wa wb, Chg Non wr wa → Chg (· = wr.heap.size) wa wb → Hid (Hb wb wr.heap.size 61 x.cells.toArray) → wb.cell? ⟨wr.heap.size, 0, none⟩ = some (.int .u64 (x.key : Int)) ∧ wb.frozen? ⟨g1, k, none⟩ = false ∧ (∃ u, wb.cell? ⟨g1, k, none⟩ = some u) ∧ Hid (Hb wb g1 43 (rowK (part ks k))) ∧ Hid (Chg Non w wb)) := Lib.hid fun wa wb ka kb h => by
        have kf := ka.fresh kb
        have hb := hB.out.chg kf (fun f => f)
        refine ⟨by rw [h.out.cell]; rfl, hb.frozen _, ?_, Lib.hid hb, Lib.hid (hC.out.trans kf (fun _ f => f.elim))⟩
        rw [hb.cell]
        have hsz : k < (rowK (part ks k)).size := by unfold rowK; rw [List.size_toArray, List.length_map, part_len ks (by rw [HLK.out]; omega), HLK.out]; exact hlt
        exact ⟨_, Array.getElem?_eq_getElem hsz⟩
      clear hx hkl
      generalize x.cells = cx at *
      go_wp2_with (first | (with_reducible refine wpList_load_mid rfl 61 _ rfl a (ao + k * 3) rfl cx _ r1 Try.underlying61 rfl hrow ?_) | (with_reducible refine wpList_alloc_h rfl _ rfl zs hal ?_; intro wa ka hA) | (with_reducible refine wpList_store_h rfl 61 _ _ rfl wr.heap.size zs cx rfl rfl hA.out hzx hrow hone ?_; intro wb kb hB2; obtain ⟨p1, p2, ⟨u, p3⟩, p4, p5⟩ := HFA.out wa wb ka kb hB2))
      go_roundw
      case rel => exact ⟨k + 1, by omega, by go_num, Lib.hid (by rw [← part_set HKX.out]; exact p4.out.set k _), Lib.hid (p5.out.setCell (p := ⟨g1, k, none⟩) (.inr HG.out.1) _)⟩
      case measure => simp [intOf]; omega
    · obtain rfl : k = n := by omega
      go_wp2
      go_ret
      refine ⟨hC.out, g1, HG.out.1, rfl, Lib.hid ?_⟩
      have e := part_all ks
      rw [HLK.out] at e
      rw [← e]
      exact hB.out

/-- How often each key is there. -/
def cntM (ks : List Nat) : Int → Option Int := fun j => if (ks.map fun (k : Nat) => (k : Int)).count j = 0 then none else some ((ks.map fun (k : Nat) => (k : Int)).count j)
theorem cntM_nil : cntM [] = fun _ => none := by funext j; simp [cntM]
theorem cntM_getD (ks : List Nat) (j : Int) : (cntM ks j).getD 0 = ((ks.map fun (k : Nat) => (k : Int)).count j : Nat) := by
  unfold cntM
  by_cases h : (ks.map fun (k : Nat) => (k : Int)).count j = 0
  · rw [if_pos h, h]; rfl
  · rw [if_neg h]; rfl
theorem cntM_snoc (ks : List Nat) (x : Nat) : updM (cntM ks) (x : Int) ((cntM ks (x : Int)).getD 0 + 1) = cntM (ks ++ [x]) := by
  funext j
  rw [cntM_getD]
  unfold updM cntM
  rw [List.map_append, List.count_append]
  by_cases e : j = (x : Int)
  · subst e
    simp
  · rw [if_neg e]
    have e' : ¬ (x : Int) = j := fun h => e h.symm
    simp [e']
theorem cntM_some {ks : List Nat} {x : Nat} : (cntM ks (x : Int)).isSome = true ↔ x ∈ ks := by
  unfold cntM
  by_cases h : (ks.map fun (k : Nat) => (k : Int)).count (x : Int) = 0
  · rw [if_pos h]
    rw [List.count_eq_zero] at h
    simp at h
    have h' : ¬ x ∈ ks := fun hx => h x hx rfl
    simp [h']
  · rw [if_neg h]
    have := List.count_pos_iff.1 (Nat.pos_of_ne_zero h)
    simp at this
    obtain ⟨y, hy, e⟩ := this
    have e' : y = x := by omega
    subst e'
    simp [hy]
theorem cntM_le (ks : List Nat) (j : Int) : 0 ≤ (cntM ks j).getD 0 ∧ (cntM ks j).getD 0 ≤ ks.length := by
  rw [cntM_getD]
  have := List.count_le_length (a := j) (l := ks.map fun (k : Nat) => (k : Int))
  rw [List.length_map] at this
  omega
theorem map_of64 : Try.prog.underlying 63 = some (.map 43 3) := by kernel_rfl

set_option maxHeartbeats 3200000 in
theorem once_any (w : World) (g c : Nat) (ks : List Nat) (hl : ks.length ≤ 100000) (hk : ∀ k ∈ ks, k < 18446744073709551616) (hb : Hb w g 43 (rowK ks)) :
    Calls Try.prog 17 #[.slice (some ⟨g, 0, none⟩) ks.length c] w fun e w' => Chg Non w w' ∧ ∃ b, w.heap.size ≤ b ∧ e = .returned (.map (some b)) ∧ Hid (MapI .u64 43 w' b ks.length (cntM ks)) := by
  have HB := Lib.hid hb
  have HK := Lib.hid hk
  clear hb hk
  generalize hn : ks.length = n at *
  have HL := Lib.hid hn
  clear hn
  have hmk := @run_makeMap Try.prog
  go_enter Try.func17, Try.ntmps17
  go_wp2_with fail
  have k0 := (Chg.refl Non w).alloc (.map #[] 0)
  have f0 : Hid (MapI .u64 43 (w.alloc (.map #[] 0)) w.heap.size 0 (cntM (ks.take 0))) := Lib.hid (by rw [List.take_zero, cntM_nil]; exact MapI.made .u64 43 w)
  generalize w.alloc (.map #[] 0) = w0 at *
  have K0 := Lib.hid k0
  clear hmk k0
  go_loopw [5, 9] (fun s5 i wr => ∃ k : Nat, k ≤ n ∧ i = .int .i64 (k : Int) ∧ Hid (MapI .u64 43 wr w.heap.size k (cntM (ks.take k))) ∧ Hid (Chg Non w wr)) (fun _ i _ => n - (intOf i).toNat)
  case atStart => exact ⟨0, by omega, rfl, f0, K0⟩
  case round =>
    obtain ⟨k, hk, rfl, hM, hC⟩ := hrel
    by_cases hlt : k < n
    · have hkl : k < ks.length := by rw [HL.out]; exact hlt
      have hx := List.getElem?_eq_getElem hkl
      have HX := Lib.hid hx
      have hwf := u64_wf (HK.out _ (List.getElem_mem hkl))
      generalize ks[k] = x at *
      have hki : (k : Int) < (n : Int) := by omega
      have c0 : wr.cell? ⟨g, k, none⟩ = some (.int .u64 (x : Int)) := by rw [(HB.out.chg hC.out (fun f => f)).cell]; exact rowK_get HX.out
      have HS : Hid (updM (cntM (ks.take k)) (x : Int) ((cntM (ks.take k) (x : Int)).getD 0 + 1) = cntM (ks.take (k + 1))) := Lib.hid (by rw [cntM_snoc, take_one HX.out])
      obtain ⟨q1, q2⟩ := cntM_le (ks.take k) (x : Int)
      have q3 : (cntM (ks.take k) (x : Int)).getD 0 ≤ 100000 := by
        have : (ks.take k).length ≤ n := by rw [List.length_take, HL.out]; omega
        omega
      have HV : Hid ((cntM (ks.take k) (x : Int)).getD 0 = (cntM (ks.take k) (x : Int)).getD 0) := Lib.hid rfl
      generalize hcc : (cntM (ks.take k) (x : Int)).getD 0 = cc at HS q1 q2 q3 HV
      have HV : Hid ((cntM (ks.take k) (x : Int)).getD 0 = cc) := Lib.hid hcc
      have hwc : (Lit.int .i64 (cc + 1)).wf = true := i64_wf ⟨by omega, by omega⟩
      have hc1 : cc + 1 ≤ 9223372036854775807 := by omega
      have hc2 : -9223372036854775808 ≤ cc + 1 := by omega
      have hkm : k < maxLen := by unfold maxLen; omega
      clear hx hkl hcc
      go_wp2_with (first | (with_reducible refine wpList_look' rfl _ _ _ rfl map_of64 Try.underlying43 rfl hM.out rfl hwf HV.out ?_) | (with_reducible refine wpList_put rfl _ _ _ _ rfl map_of64 Try.underlying43 rfl hM.out hkm rfl hwf rfl hwc ?_; intro wc mc kc _))
      go_roundw
      case rel => exact ⟨k + 1, by omega, by go_num, Lib.hid (by rw [← HS.out]; exact mc), Lib.hid (hC.out.trans kc (fun j e => .inr (Nat.le_of_eq e.symm)))⟩
      case measure => simp [intOf]; omega
    · obtain rfl : k = n := by omega
      go_wp2
      go_ret
      refine ⟨hC.out, w.heap.size, Nat.le_refl _, rfl, Lib.hid ?_⟩
      have e : ks.take k = ks := List.take_of_length_le (by have := HL.out; omega)
      rw [e] at hM
      exact hM.out
end Go.Proofs.Ytflellcbfcakhaa
