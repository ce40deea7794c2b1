/- The tape's calls that change nothing: counted, Clone, New, Safe, Calls, Read. -/
import Derived.Test.YtenhicipgkjckaaChecked
import Derived.WalkKit
import Derived.WalkLawsBesides
import Derived.Lib.Hide
import Derived.Test.YtenhicipgkjckaaJb
namespace Go.Proofs.Ytenhicipgkjckaa
open Go.RowKit
set_option linter.unusedVariables false
set_option linter.unusedSimpArgs false
set_option maxRecDepth 20000

theorem byt : Byt Try.prog 23 5 9 := ⟨Try.underlying23, Try.underlying5, Try.underlying9, by kernel_rfl⟩

theorem pick_pos (c : Int) (n : Nat) (h : ¬ c < 0) : Int.tmod c (n : Int) = (pick c n : Int) := by
  obtain ⟨k, rfl⟩ := Int.eq_ofNat_of_zero_le (by omega : 0 ≤ c)
  unfold pick
  rw [if_neg (by omega), Int.toNat_natCast]
  simp [Int.tmod]
theorem pick_neg (c : Int) (n : Nat) (h : c < 0) : Int.tmod (-(c + 1)) (n : Int) = (pick c n : Int) := by
  obtain ⟨k, hk⟩ := Int.eq_ofNat_of_zero_le (by omega : 0 ≤ -(c + 1))
  unfold pick
  rw [if_pos h, hk, Int.toNat_natCast]
  simp [Int.tmod]
theorem pick_lt (c : Int) (n : Nat) (h : 0 < n) : pick c n < n := Nat.mod_lt _ h

theorem counted_any (w : World) (c : Int) (n : Nat) (h1 : -9223372036854775808 ≤ c) (h2 : c ≤ 9223372036854775807) (hn : n ≤ 1000000000000) :
    Calls Try.prog 22 #[.int .i64 c, .int .i64 (n : Int)] w fun e w' => e = .returned (.int .i64 (pick c (n + 1) : Int)) ∧ w' = w := by
  have e1 := pick_pos c (n + 1)
  have e2 := pick_neg c (n + 1)
  rw [show ((n + 1 : Nat) : Int) = (n : Int) + 1 by omega] at e1 e2
  by_cases hc : c < 0
  · have e2 := e2 hc
    generalize (pick c (n + 1) : Int) = r at *
    go_enter Try.func22, Try.ntmps22
    go_wp2
    go_ret
    exact ⟨by first | rfl | (simp [e2]; done) | (rw [← e2]; congr 2; simp), rfl⟩
  · have e1 := e1 hc
    generalize (pick c (n + 1) : Int) = r at *
    go_enter Try.func22, Try.ntmps22
    go_wp2
    go_ret
    exact ⟨by first | rfl | (simp [e1]; done) | (rw [← e1]; congr 2; simp), rfl⟩

theorem run_eql_nilS (w : World) (A : Option Addr) (n c : Nat) : (binOp .eql 23 (.slice A n c) (.slice none 0 0)).run Try.prog w = .ok (.bool A.isNone) w := by
  have h := run_equal_slice_nil (P := Try.prog) w 23 5 A n c Try.underlying23
  simp [binOp, Sem.run_bind, h]
/-- slices.Clone of bytes. -/
theorem clone_any (w : World) (A : Option Addr) (n c : Nat) (l : List UInt8) (hn : n = l.length) (hc : c ≤ maxLen) (hnc : n ≤ c) (hr : Rd w A l) (hl : l.length ≤ 1000000000000) :
    Calls Try.prog 20 #[.slice A n c] w fun e w' => ∃ v, e = .returned v ∧ Own 5 w' v l ∧ (∀ j, vbl v j → w.heap.size ≤ j) ∧ Chg Non w w' := by
  subst hn
  by_cases hA : A.isNone = true
  · have h0 : l = [] := by
      cases l with
      | nil => rfl
      | cons b l2 => obtain ⟨_, h, _⟩ := hr 0 b rfl; rw [h] at hA; cases hA
    subst h0
    have hq : ∀ (n : Nat) (w : World), (binOp .eql 23 (.slice A n c) (.slice none 0 0)).run Try.prog w = .ok (.bool true) w := fun n w => (run_eql_nilS w A n c).trans (by rw [hA])
    go_enter Try.func20, Try.ntmps20
    go_wp2
    go_ret
    exact ⟨.slice none 0 0, rfl, Own.nil _ _, (fun j hj => by cases hj), Chg.refl _ _⟩
  · have hA : A.isNone = false := by revert hA; cases A <;> simp
    have hq : ∀ (n : Nat) (w : World), (binOp .eql 23 (.slice A n c) (.slice none 0 0)).run Try.prog w = .ok (.bool false) w := fun n w => (run_eql_nilS w A n c).trans (by rw [hA])
    have own0 : Own 5 (w.alloc (.cells #[] 5)) (.slice (some ⟨w.heap.size, 0, none⟩) 0 0) [] :=
      ⟨rfl, .inr ⟨w.heap.size, 0, #[], rfl, Nat.zero_le _, heap_alloc_new w _, Nat.le_refl _, by unfold maxLen; omega, rfl, rfl⟩⟩
    have k0 := (Chg.refl Non w).alloc (.cells #[] 5)
    have hr1 := hr.chg k0 (fun _ _ f => f)
    go_enter Try.func20, Try.ntmps20
    go_wp2_with (at_builtin; refine wpList_app byt _ rfl _ _ rfl (v := .slice (some ⟨w.heap.size, 0, none⟩) 0 0) (l := []) rfl own0 rfl rfl hr1 (by simp; omega) ?_; intro v' w' hown' hgr hloc)
    go_ret
    refine ⟨v', rfl, by simpa using hown', ?_, ?_⟩
    · intro j hj
      rcases hloc with h | h
      · unfold vbl at hj; rw [h] at hj; have : some w.heap.size = some j := hj; injection this with this; omega
      · unfold vbl at hj; rw [h] at hj; injection hj with hj; simp at hj; omega
    · exact (k0.trans ((Chg.refl (fun j => j = w.heap.size) _).grown hgr (fun k hk => .inl (by simpa [Value.ownBlock] using hk.symm))) (fun j hj => .inr (by omega)))
end Go.Proofs.Ytenhicipgkjckaa
