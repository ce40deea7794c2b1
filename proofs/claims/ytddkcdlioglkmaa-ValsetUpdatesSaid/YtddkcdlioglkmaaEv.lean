/- Library functions at validators: cmp.Compare, Grow, Concat. -/
import Derived.Test.YtddkcdlioglkmaaChecked
import Derived.WalkKit
import Derived.WalkLawsBesides
import Derived.Lib.Hide
import Derived.Lib.AppendZeros
import Derived.Test.YtddkcdlioglkmaaRv
namespace Go.Proofs.Ytddkcdlioglkmaa
open Go.RowKit
set_option linter.unusedVariables false
set_option linter.unusedSimpArgs false
set_option maxRecDepth 20000

/-- Which of two numbers comes first. -/
def cmpN (a b : Nat) : Int := if a < b then -1 else if b < a then 1 else 0

set_option maxHeartbeats 800000 in
theorem isNaN_any (w : World) (a : Nat) : Calls Try.prog 36 #[.int .u64 (a : Int)] w fun e w' => e = .returned (.bool false) ∧ w' = w := by
  go_enter Try.func36, Try.ntmps36
  go_wp2
  go_ret
  simp

set_option maxHeartbeats 1600000 in
theorem compare_any (w : World) (a b : Nat) : Calls Try.prog 28 #[.int .u64 (a : Int), .int .u64 (b : Int)] w fun e w' => e = .returned (.int .i64 (cmpN a b)) ∧ w' = w := by
  by_cases h1 : a < b
  · have h1' : (a : Int) < (b : Int) := by omega
    have e : cmpN a b = -1 := if_pos h1
    rw [e]
    clear e
    go_enter Try.func28, Try.ntmps28
    go_wp2_with (go_at_call 36; refine (isNaN_any _ _).mono ?_; rintro e w' ⟨rfl, rfl⟩)
    go_ret
    exact ⟨rfl, rfl⟩
  · have h1' : ¬ (a : Int) < (b : Int) := by omega
    by_cases h2 : b < a
    · have h2' : (b : Int) < (a : Int) := by omega
      have e : cmpN a b = 1 := by unfold cmpN; rw [if_neg h1, if_pos h2]
      rw [e]
      clear e
      go_enter Try.func28, Try.ntmps28
      go_wp2_with (go_at_call 36; refine (isNaN_any _ _).mono ?_; rintro e w' ⟨rfl, rfl⟩)
      go_ret
      exact ⟨rfl, rfl⟩
    · have h2' : ¬ (b : Int) < (a : Int) := by omega
      have e : cmpN a b = 0 := by unfold cmpN; rw [if_neg h1, if_neg h2]
      rw [e]
      clear e
      go_enter Try.func28, Try.ntmps28
      go_wp2_with (go_at_call 36; refine (isNaN_any _ _).mono ?_; rintro e w' ⟨rfl, rfl⟩)
      go_ret
      exact ⟨rfl, rfl⟩

/-- A key's cells, without power. -/
def encK (k : Nat) : List Value := [.int .u64 (k : Int), .int .i64 0]

set_option maxHeartbeats 1600000 in
theorem grow_any (w : World) (n : Nat) (h0 : 0 < n) (hn : n ≤ 1000000) :
    Calls Try.prog 33 #[.slice none 0 0, .int .i64 (n : Int)] w fun e w' => ∃ v, e = .returned v ∧ OwnV w' v [] ∧ Chg Non w w' ∧ ∀ k, vbl v k → w.heap.size ≤ k := by
  obtain ⟨i, z, hi, hz, hzs, hsi, hby⟩ := va_parts
  have hrun := Lib.run_append_nil_zeros (P := Try.prog) w 22 3 22 26 i z .i64 .i64 Try.underlying22 Try.underlying3 hi hz n h0 (by omega) (by omega) (by rw [hby]; omega)
  have hge := grownCap_ge w n 0 26
  have hcm : grownCap w n 0 26 ≤ maxLen := grownCap_le_maxLen w n 0 26 (by unfold maxLen; omega)
  have hown : OwnV (w.drew.alloc (.cells (Builtin.zeroCells z.cells n ++ Builtin.zeroCells z.cells (grownCap w n 0 26 - n)) 26)) (.slice (some ⟨w.heap.size, 0, none⟩) 0 (grownCap w n 0 26)) [] := by
    refine ⟨rfl, .inr ⟨_, _, _, rfl, Nat.zero_le _, heap_alloc_new w.drew _, Nat.zero_le _, hcm, ?_, rfl⟩⟩
    rw [Array.size_append, size_zeroCells, size_zeroCells, hzs, ← Nat.add_mul]
    congr 1
    omega
  have hC : Chg Non w (w.drew.alloc (.cells (Builtin.zeroCells z.cells n ++ Builtin.zeroCells z.cells (grownCap w n 0 26 - n)) 26)) := ((Chg.refl _ _).drew).alloc _
  generalize (w.drew.alloc (.cells (Builtin.zeroCells z.cells n ++ Builtin.zeroCells z.cells (grownCap w n 0 26 - n)) 26)) = w1 at *
  generalize hcap : grownCap w n 0 26 = cap at *
  have h0' : (0 : Int) < (n : Int) := by omega
  have h1' : ¬ ((n : Int) < 0) := by omega
  clear hz hi hzs hsi hby
  go_enter Try.func33, Try.ntmps33
  go_wp2_with (at_builtin; refine Lib.wpList_append_run _ rfl _ _ _ _ rfl _ _ rfl rfl _ _ hrun ?_)
  go_ret
  exact ⟨_, rfl, hown, hC, fun k hk => by simp [vbl, Value.ownBlock] at hk; omega⟩

theorem own_next {W w : World} {v v' : Value} (hb : ∀ j, vbl v j → W.heap.size ≤ j) (k : Chg Non W w) (b : v'.ownBlock = v.ownBlock ∨ v'.ownBlock = some w.heap.size) : ∀ j, vbl v' j → W.heap.size ≤ j := by
  intro j hj
  unfold vbl at hj hb
  rcases b with b | b
  · exact hb j (b ▸ hj)
  · rw [b] at hj
    injection hj with hj
    have := k.size
    omega

set_option maxHeartbeats 3200000 in
theorem concat_any (w : World) (s c ca cb : Nat) (A B : Option Addr) (l m : List Va) (hA : w.cell? ⟨s, 0, none⟩ = some (.slice A l.length ca)) (hB : w.cell? ⟨s, 1, none⟩ = some (.slice B m.length cb)) (h0 : 0 < l.length) (hl : l.length ≤ 100) (hm : m.length ≤ 100)
    (M : LstM w A l Va.cells 2) (N : LstM w B m Va.cells 2) :
    Calls Try.prog 25 #[.slice (some ⟨s, 0, none⟩) 2 c] w fun e w' => Chg Non w w' ∧ ∃ v, e = .returned v ∧ OwnV w' v (l ++ m) ∧ ∀ k, vbl v k → w.heap.size ≤ k := by
  have HM := Lib.hid M
  have HN := Lib.hid N
  have HA := Lib.hid hA
  have HB := Lib.hid hB
  have HG : Hid (∀ w', Calls Try.prog 33 #[.slice none 0 0, .int .i64 ((l.length + m.length : Nat) : Int)] w' fun e w'' => ∃ v, e = .returned v ∧ OwnV w'' v [] ∧ Chg Non w' w'' ∧ ∀ k, vbl v k → w'.heap.size ≤ k) := Lib.hid fun w' => grow_any w' _ (by omega) (by omega)
  have HLM : Hid (l.length + m.length ≤ 200) := Lib.hid (by omega)
  clear M N hA hB
  generalize hn : l.length = n at *
  generalize hk : m.length = k at *
  have EN := Lib.hid hn
  have EK := Lib.hid hk
  clear hn hk
  go_enter Try.func25, Try.ntmps25
  go_wp2_with fail
  go_loopw [3, 5, 11] (fun sz _ i wr => ∃ a b : Nat, i = .int .i64 (a : Int) ∧ sz = .int .i64 (b : Int) ∧ (a = 0 ∧ b = 0 ∨ a = 1 ∧ b = n ∨ a = 2 ∧ b = n + k) ∧ Chg Non w wr) (fun _ _ i _ => 2 - (intOf i).toNat)
  case atStart => exact ⟨0, 0, rfl, rfl, .inl ⟨rfl, rfl⟩, Chg.refl _ _⟩
  case round =>
    obtain ⟨a, b, rfl, rfl, ⟨rfl, rfl⟩ | ⟨rfl, rfl⟩ | ⟨rfl, rfl⟩, hC⟩ := hrel
    · have p := hC.cell HA.out (fun f => f)
      have hneg : ¬ ((n : Int) < 0) := by omega
      go_wp2_with fail
      go_roundw
      case rel => exact ⟨1, n, by go_num, by go_num, .inr (.inl ⟨rfl, rfl⟩), hC⟩
      case measure => simp [intOf]
    · have p := hC.cell HB.out (fun f => f)
      have hneg : ¬ (((b : Int) + (k : Int)) < 0) := by omega
      go_wp2_with fail
      go_roundw
      case rel => exact ⟨2, b + k, by go_num, by go_num, .inr (.inr ⟨rfl, rfl⟩), hC⟩
      case measure => simp [intOf]
    · go_wp2_with fail
      refine (HG.out _).mono ?_
      rintro e w1 ⟨v, rfl, o1, k1, b1⟩
      have hC1 := hC.trans k1 (fun _ f => f.elim)
      have hb1 : ∀ j, vbl v j → w.heap.size ≤ j := fun j hj => Nat.le_trans hC.size (b1 j hj)
      clear b1
      go_wp2_with fail
      go_loopw [6, 8, 27] (fun v _ i wr => ∃ a : Nat, i = .int .i64 (a : Int) ∧ Hid (a = 0 ∧ OwnV wr v [] ∨ a = 1 ∧ OwnV wr v l ∨ a = 2 ∧ OwnV wr v (l ++ m)) ∧ Hid (∀ j, vbl v j → w.heap.size ≤ j) ∧ Chg Non w wr) (fun _ _ i _ => 2 - (intOf i).toNat)
      case atStart => exact ⟨0, rfl, Lib.hid (.inl ⟨rfl, o1⟩), Lib.hid hb1, hC1⟩
      case round =>
        obtain ⟨a, rfl, hR, hb, hC2⟩ := hrel
        have hR' := hR.out
        rcases hR' with ⟨rfl, o⟩ | ⟨rfl, o⟩ | ⟨rfl, o⟩
        · have p := hC2.cell HA.out (fun f => f)
          clear hR
          go_wp2_with (at_builtin; refine wpList_appV _ rfl _ _ rfl rfl o (A := A) (c := ca) rfl EN.out.symm (HM.out.chg hC2) (by have := HLM.out; have := EN.out; simp; omega) ?_; intro v1 w2 o' g' b')
          go_roundw
          case rel => exact ⟨1, by go_num, Lib.hid (.inr (.inl ⟨rfl, by simpa using o'⟩)), Lib.hid (own_next hb.out hC2 b'), hC2.grown g' (fun j hj => .inr (hb.out j hj))⟩
          case measure => simp [intOf]
        · have p := hC2.cell HB.out (fun f => f)
          clear hR
          go_wp2_with (at_builtin; refine wpList_appV _ rfl _ _ rfl rfl o (A := B) (c := cb) rfl EK.out.symm (HN.out.chg hC2) (by have := HLM.out; have := EN.out; have := EK.out; omega) ?_; intro v1 w2 o' g' b')
          go_roundw
          case rel => exact ⟨2, by go_num, Lib.hid (.inr (.inr ⟨rfl, o'⟩)), Lib.hid (own_next hb.out hC2 b'), hC2.grown g' (fun j hj => .inr (hb.out j hj))⟩
          case measure => simp [intOf]
        · clear hR
          go_wp2_with fail
          go_ret
          exact ⟨hC2, _, rfl, o, hb.out⟩
end Go.Proofs.Ytddkcdlioglkmaa
