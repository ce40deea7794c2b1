/- Whom evidence blames. -/
import Derived.Test.YtflellcbfcakhaaChecked
import Derived.WalkKit
import Derived.WalkLawsBesides
import Derived.Lib.Hide
import Derived.Deep.MidRow
import Derived.Test.YtflellcbfcakhaaVr
import Derived.Test.YtflellcbfcakhaaDo
import Derived.Test.YtflellcbfcakhaaDm
namespace Go.Proofs.Ytflellcbfcakhaa
open Go.RowKit
set_option linter.unusedVariables false
set_option linter.unusedSimpArgs false
set_option maxRecDepth 20000

theorem ent_b1 (args : Array Value) (w : World) : (callFunc 20 args).run Try.prog w = .ok (.enter 20 args) w := enters_of Try.func20 (by kernel_rfl) rfl args w
theorem ent_b2 (args : Array Value) (w : World) : (callFunc 22 args).run Try.prog w = .ok (.enter 22 args) w := enters_of Try.func22 (by kernel_rfl) rfl args w
set_option maxHeartbeats 1600000 in
theorem so1_any (w : World) (g k : Nat) (x : Li) (ox : x.Ok) (nx : x.In w) (hb : Hb w g 31 x.cells.toArray) :
    Calls Try.prog 20 #[.int .u64 (k : Int), .pointer (some ⟨g, 0, none⟩)] w (Zero w (.bool (decide (pw x.nx k ≠ 0)))) := by
  have c0 : w.cell? ⟨g, 199, none⟩ = some (.slice x.A3 x.nx.length x.c3) := by simpa using (Li.rows ox hb.range0).nx
  have HP := Lib.hid (Power_any w x.A3 x.c3 k x.nx ox.l3 nx.nx)
  clear hb nx ox
  generalize hv : pw x.nx k = v at *
  have hd : decide (v ≠ 0) = !(v == 0) := by
    by_cases e : v = 0
    · subst e; rfl
    · simp [e]
  rw [hd]
  generalize x.A3 = A at *
  generalize x.c3 = c at *
  generalize x.nx.length = n at *
  clear hv hd
  go_enter Try.func20, Try.ntmps20
  go_wp2_with fail
  refine HP.out.mono ?_
  rintro e w1 ⟨rfl, k1⟩
  go_wp2_with fail
  go_ret
  exact ⟨rfl, k1⟩
set_option maxHeartbeats 1600000 in
theorem so2_any (w : World) (g gm bM k n : Nat) (y : Li) (oy : y.Ok) (ny : y.In w) (hb : Hb w g 31 y.cells.toArray) (ks : List Nat) (hm : w.cell? ⟨gm, 0, none⟩ = some (.map (some bM))) (hM : MapI .u64 43 w bM n (cntM ks)) (hk : k < 18446744073709551616) :
    Calls Try.prog 22 #[.int .u64 (k : Int), .pointer (some ⟨gm, 0, none⟩), .pointer (some ⟨g, 0, none⟩)] w (Zero w (.bool (decide (k ∈ ks) && decide (pw y.sv k ≠ 0)))) := by
  have c0 : w.cell? ⟨g, 198, none⟩ = some (.slice y.A2 y.sv.length y.c2) := by simpa using (Li.rows oy hb.range0).sv
  have HP := Lib.hid (Power_any w y.A2 y.c2 k y.sv oy.l2 ny.sv)
  have hwf := u64_wf hk
  have HIN : Hid (decide (k ∈ ks) = decide (0 < (cntM ks (k : Int)).getD 0)) := Lib.hid (by
    rw [decide_eq_decide, ← cntM_some]
    rw [cntM_getD]
    unfold cntM
    by_cases e : (ks.map fun (k : Nat) => (k : Int)).count (k : Int) = 0
    · rw [if_pos e, e]; simp
    · rw [if_neg e]; exact ⟨fun _ => by have := Nat.pos_of_ne_zero e; omega, fun _ => rfl⟩)
  clear hb ny oy
  generalize hv : pw y.sv k = v at *
  have HD : Hid (decide (v ≠ 0) = !(v == 0)) := Lib.hid (by
    by_cases e : v = 0
    · subst e; rfl
    · simp [e])
  obtain ⟨bb, hbb⟩ : ∃ bb, (decide (k ∈ ks) && decide (v ≠ 0)) = bb := ⟨_, rfl⟩
  have HB := Lib.hid hbb
  rw [hbb]
  have HC : Hid ((cntM ks (k : Int)).getD 0 = (cntM ks (k : Int)).getD 0) := Lib.hid rfl
  generalize hcc : (cntM ks (k : Int)).getD 0 = cc at HIN HC
  have HCC := Lib.hid hcc
  generalize y.A2 = A at *
  generalize y.c2 = c at *
  generalize y.sv.length = l at *
  clear hv hbb hcc
  go_enter Try.func22, Try.ntmps22
  by_cases hpos : 0 < cc
  · have hp2 : decide (0 < cc) = true := by simpa using hpos
    go_wp2_with (first | (with_reducible refine wpList_look' rfl _ _ _ rfl map_of64 Try.underlying43 rfl hM rfl hwf HCC.out ?_))
    refine HP.out.mono ?_
    rintro e w1 ⟨rfl, k1⟩
    go_wp2_with fail
    go_ret
    refine ⟨?_, k1⟩
    rw [← HB.out, HIN.out, hp2, HD.out]
    rfl
  · have hp2 : decide (0 < cc) = false := by simpa using hpos
    go_wp2_with (first | (with_reducible refine wpList_look' rfl _ _ _ rfl map_of64 Try.underlying43 rfl hM rfl hwf HCC.out ?_))
    go_ret
    refine ⟨?_, Chg.refl _ _⟩
    rw [← HB.out, HIN.out, hp2]
    rfl
/-- Is a key named? -/
def Nam (x y z : Li) (k : Nat) : Prop := k ∈ skeys y.se ∧ (kd y z = sLun ∧ pw x.nx k ≠ 0 ∨ kd y z = sEqu ∧ k ∈ skeys z.se ∧ pw y.sv k ≠ 0)
/-- The keys that are named, rising. -/
def Keys (x y z : Li) (w : World) (v : Value) : Prop := ∃ rs, OwnK 0 w v rs ∧ rs.Pairwise (· < ·) ∧ ∀ k, k ∈ rs ↔ Nam x y z k
theorem ris_blk {x y z : Li} {m : Int → Option Int} {p : Nat → Bool} {w0 w w' : World} {e : Ending} (k0 : Chg Non w0 w) (h : Ris m p w e w') (hm : ∀ k : Nat, (k < 18446744073709551616 ∧ (m (k : Int)).isSome = true ∧ p k = true) ↔ Nam x y z k) : BlK (Keys x y z) w0 e w' := by
  obtain ⟨k1, v, rs, rfl, hO, hp, hmem⟩ := h
  have hsz := k0.size
  obtain ⟨A, n, c, rfl⟩ := own_slv hO
  refine ⟨k0.trans k1 (fun _ f => f.elim), A, n, c, rfl, fun w3 k3 => ⟨rs, (hO.chg k3 (fun j hj e => by have := (hO.row hj).1; omega)).low, hp, fun k => ?_⟩⟩
  rw [hmem k, hm k]
theorem nil_blk {x y z : Li} {w w' : World} (k : Chg Non w w') (h : ∀ k, ¬ Nam x y z k) : BlK (Keys x y z) w (.returned (.slice none 0 0)) w' :=
  ⟨k, none, 0, 0, rfl, fun w3 _ => ⟨[], OwnK.nil _ _, List.Pairwise.nil, fun k => ⟨fun e => (by cases e), fun e => absurd e (h k)⟩⟩⟩
theorem kd_cases (y z : Li) : kd y z = sLun ∨ kd y z = sEqu ∨ kd y z = sAmn := by
  unfold kd
  cases (decide (y.hd.set = z.hd.set) && (decide (y.hd.next = z.hd.next) && decide (y.hd.app = z.hd.app))) with
  | false => exact .inl rfl
  | true =>
    cases decide (y.r = z.r) with
    | false => exact .inr (.inr rfl)
    | true => exact .inr (.inl rfl)
theorem skeys_ok {x : Li} (ox : x.Ok) : ∀ k ∈ skeys x.se, k < 18446744073709551616 := by
  intro k hk
  unfold skeys at hk
  rw [List.mem_map] at hk
  obtain ⟨s, hs, rfl⟩ := hk
  exact (ox.se s hs).key
end Go.Proofs.Ytflellcbfcakhaa
