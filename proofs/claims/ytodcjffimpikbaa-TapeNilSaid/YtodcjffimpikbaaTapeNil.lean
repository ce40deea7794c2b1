/- Of the program at this commit: the law TapeNil answers true for every op (on no tape each call answers ErrArg, or nothing); no condition. -/
import Derived.Test.YtodcjffimpikbaaRows
import Derived.WalkKit
import Derived.ProofKit
import Derived.Test.YtodcjffimpikbaaJl
namespace Go.Proofs.Ytodcjffimpikbaa.tapeNil
open Go.ChangeShapes Go.WideShapes Go.ChangeAt Go.RowKit
set_option linter.unusedVariables false

set_option maxRecDepth 100000 in
set_option maxHeartbeats 1600000 in
theorem walk (W : World) (v0 : Value) (h0 : Okv Try.prog W 24 v0) :
    Calls Try.prog 3 #[v0] W fun e W' => e = .returned (.bool true) ∧ Below W.heap.size W W' := by
  obtain ⟨⟨k, n, m, A, b, c⟩, rfl, ok⟩ := op_arg h0
  have kb := (Chg.refl Non W).alloc (.cells #[.int .i64 k, .int .i64 n, .int .i64 m, .slice A b.length c] 24)
  have hb := Hb.new W 24 #[.int .i64 k, .int .i64 n, .int .i64 m, .slice A b.length c]
  have HOK := Lib.hid ok
  clear h0 ok
  go_enter Try.func3, Try.ntmps3
  go_wp2_with fail
  refine (alive_any _).mono ?_
  rintro e w1 ⟨rfl, k1⟩
  have hb1 := hb.chg k1 (fun f => f)
  have c1 : w1.cell? ⟨W.heap.size, 1, none⟩ = some (.int .i64 n) := hb1.cell 1
  have c2 : w1.cell? ⟨W.heap.size, 2, none⟩ = some (.int .i64 m) := hb1.cell 2
  have c3 : w1.cell? ⟨W.heap.size, 3, none⟩ = some (.slice A b.length c) := hb1.cell 3
  have HK := Lib.hid (kb.trans k1 (fun _ f => .inl f))
  clear kb k1 hb hb1
  go_wp2_with (first
    | (go_at_call 5; refine (Append_nil _ _ _ _).mono ?_; rintro e w5 ⟨rfl, rfl⟩)
    | (go_at_call 6; refine (Sync_nil _).mono ?_; rintro e w5 ⟨rfl, rfl⟩)
    | (go_at_call 7; refine (Trim_nil _ _).mono ?_; rintro e w5 ⟨rfl, rfl⟩)
    | (go_at_call 8; refine (Read_nil _).mono ?_; rintro e w5 ⟨rfl, rfl⟩)
    | (go_at_call 9; refine (Safe_nil _).mono ?_; rintro e w5 ⟨rfl, rfl⟩)
    | (go_at_call 10; refine (Calls_nil _).mono ?_; rintro e w5 ⟨rfl, rfl⟩)
    | (go_at_call 11; refine (Cut_nil _ _ _).mono ?_; rintro e w5 ⟨rfl, rfl⟩))
  go_ret
  exact ⟨rfl, HK.out.below (Nat.le_refl _) (fun _ f => f.elim)⟩

/-! ### The row's frame -/
theorem own : ownKnob Try.prog.godebug = none := by kernel_rfl
theorem walkA (W : World) (args : Array Value) (hsz : args.size = Try.f3.params.size) (hok : ∀ (j : Nat) (t : TypeId) (v : Value), Try.f3.params[j]? = some t → args[j]? = some v → Okv Try.prog W t v) :
    Calls Try.prog 3 args W fun e W' => e = .returned (.bool true) ∧ Below W.heap.size W W' := by
  rw [Try.params3] at hsz hok
  obtain ⟨v0, rfl⟩ : ∃ v0 : Value, args = #[v0] := by
    obtain ⟨l⟩ := args
    match l, hsz with
    | [v0], _ => exact ⟨v0, rfl⟩
  exact walk W v0 (hok 0 24 v0 rfl rfl)
set_option maxRecDepth 100000 in
theorem lifted (os : Os) (started : os.Started) (H : Type) (enc : TypeId × Value → H) :
    ReturnsInHanded {} Try.checked os 3 .any (Rows.tapeNilSpec.pre6 enc Try.prog Try.f3 Rows.tapeNilRow.domain false) (Rows.tapeNilSpec.post enc Try.prog Try.f3 false true false false) :=
  lifted_of_walk (C := Try.checked) (s := Rows.tapeNilSpec) (conds := Rows.tapeNilRow.domain) (apart := false) (fresh := true) (T := 4) own started (by kernel_rfl) Try.func3
    (ChangeSpec.witness6 (enc := enc) (C := Try.checked) false ⟨#[], #[.agg (Opn.cells ⟨0, 0, 0, none, [], 0⟩).toArray], []⟩ 8 (by kernel_rfl) (by kernel_rfl) (by kernel_rfl) (by kernel_rfl))
    rfl (fun ds hd => by
      rw [Try.params3] at hd
      match ds, hd with
      | [d0], _ => exact ⟨rfl, rfl, rfl⟩)
    (by kernel_rfl) Try.underlying4 (by kernel_rfl) (by rw [Try.params3]; intro t ht; simp only [List.mem_cons, List.not_mem_nil, or_false] at ht; subst ht; exact ⟨by kernel_rfl, of_decide_eq_true (by kernel_rfl)⟩) walkA

theorem holds : Rows.tapeNilRow.holds Try.pinned (OpenSpec.ofChange Rows.tapeNilSpec) :=
  OpenClaim.holds_of_wide 3 Try.f3 rfl rfl rfl rfl rfl rfl rfl ⟨rfl, rfl, rfl, rfl, rfl⟩ rfl rfl rfl rfl rfl (by kernel_rfl) Try.func3 (by kernel_rfl)
    (of_decide_eq_true (by kernel_rfl)) (by unfold Func.isWrapper; first | (rw [if_pos (by decide +kernel)]; kernel_rfl) | (rw [if_neg (by decide +kernel)]; exact ⟨rfl, rfl⟩))
    (fun os started H enc _ => lifted os started H enc)
end Go.Proofs.Ytodcjffimpikbaa.tapeNil
namespace Go.Proofs.Ytodcjffimpikbaa
/-- The statement. -/
theorem tapeNil_holds : Rows.TapeNilSaid := tapeNil.holds
end Go.Proofs.Ytodcjffimpikbaa
