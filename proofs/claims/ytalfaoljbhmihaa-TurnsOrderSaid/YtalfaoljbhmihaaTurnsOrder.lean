/- Of the program at this commit: the law TurnsOrder answers true for every set, every number of turns and every height and round (who proposes at the first turns, and at any turn, and the turn of a height and round, are as the document says, or the error); no condition. -/
import Derived.Test.YtalfaoljbhmihaaRows
import Derived.WalkKit
import Derived.ProofKit
import Derived.Test.YtalfaoljbhmihaaTb
import Derived.Deep.RegionHeld3
namespace Go.Proofs.Ytalfaoljbhmihaa.turnsOrder
open Go.ChangeShapes Go.WideShapes Go.ChangeAt Go.RowKit
set_option linter.unusedVariables false

set_option maxRecDepth 100000 in
set_option maxHeartbeats 3200000 in
theorem walk (W : World) (v0 v1 v2 : Value) (h0 : Okv Try.prog W 22 v0) (h1 : Okv Try.prog W 3 v1) (h2 : Okv Try.prog W 23 v2) :
    Calls Try.prog 3 #[v0, v1, v2] W fun e W' => e = .returned (.bool true) ∧ Below W.heap.size W W' := by
  obtain ⟨A, c, l, rfl, hl, M, ol⟩ := set_arg h0
  obtain ⟨n, rfl, hn⟩ := int_arg h1
  obtain ⟨a, b, rfl, ha, hb⟩ := pair_arg h2
  clear h0 h1 h2
  have HAL := Lib.hid (fun w => alive_any w)
  have DONE : ∀ w', Chg Non W w' → Below W.heap.size W w' := fun w' k => k.below (Nat.le_refl _) (fun _ f => f.elim)
  have HD := Lib.hid DONE
  clear DONE
  have k1 : Chg Non W (W.alloc (.cells #[.int .i64 a, .int .i64 b] 23)) := (Chg.refl _ _).alloc _
  have b1 : Hb (W.alloc (.cells #[.int .i64 a, .int .i64 b] 23)) W.heap.size 23 #[.int .i64 a, .int .i64 b] := Hb.new W _ _
  have c0 : (W.alloc (.cells #[.int .i64 a, .int .i64 b] 23)).cell? ⟨W.heap.size, 0, none⟩ = some (.int .i64 a) := b1.cell 0
  have c1 : (W.alloc (.cells #[.int .i64 a, .int .i64 b] 23)).cell? ⟨W.heap.size, 1, none⟩ = some (.int .i64 b) := b1.cell 1
  clear b1
  by_cases b70 : 70 < l.length
  · have b1' : (70 : Int) < (l.length : Int) := by omega
    clear M ol
    generalize l.length = n1 at *
    go_enter Try.func3, Try.ntmps3
    go_wp2_with (go_at_call 4; with_reducible refine (HAL.out _).mono ?_; rintro e w2 ⟨k2, rfl⟩)
    go_ret
    exact ⟨rfl, HD.out _ (k1.trans k2 (fun _ f => f.elim))⟩
  have b70' : ¬ (70 : Int) < (l.length : Int) := by omega
  by_cases hbig : 500 < n ∧ n ≤ 4096
  · obtain ⟨g1, g2⟩ := hbig
    clear M ol
    generalize l.length = n1 at *
    go_enter Try.func3, Try.ntmps3
    go_wp2_with (go_at_call 4; with_reducible refine (HAL.out _).mono ?_; rintro e w2 ⟨k2, rfl⟩)
    go_ret
    exact ⟨rfl, HD.out _ (k1.trans k2 (fun _ f => f.elim))⟩
  have HO : Hid (∀ w', Chg Non W w' → _) := Lib.hid fun w' k => (Order_any w' A c l hl ol (M.chg k) n).mono fun e w'' h => ord_is h
  have HO' : Hid (∀ w', Chg Non W w' → _) := Lib.hid fun w' k => (rOrder_any w' A c l hl ol (M.chg k) n).mono fun e w'' h => ord_is h
  have HP : Hid (∀ w', Chg Non W w' → _) := Lib.hid fun w' k => (Proposer_any w' A c l hl ol (M.chg k) n).mono fun e w'' h => pro_is h
  have HP' : Hid (∀ w', Chg Non W w' → _) := Lib.hid fun w' k => (rProposer_any w' A c l hl ol (M.chg k) n).mono fun e w'' h => pro_is h
  have HTu := Lib.hid (fun w => Turn_any w a b ha hb)
  have HTu' := Lib.hid (fun w => rTurn_any w a b ha hb)
  have hol := oks_len l n
  have hSM : Hid (∀ w' A c B d, LstM w' A (oks l n) keyC 1 → LstM w' B (oks l n) keyC 1 → Calls Try.prog 9 #[.slice A (oks l n).length c, .slice B (oks l n).length d] w' fun e w'' => Chg Non w' w'' ∧ e = .returned (.bool true)) := Lib.hid fun w' A c B d L L' => by
    have := same_any w' A B c d (oks l n) (oks l n) (by unfold maxLen; omega) (by unfold maxLen; omega) L L'
    simpa using this
  clear M ol hl ha hb
  generalize hol : (oks l n).length = m at *
  generalize oks l n = ks at *
  generalize oer l n = er at *
  generalize pks l n = pk at *
  generalize per l n = pe at *
  generalize tv a b = tu at *
  generalize l.length = n1 at *
  by_cases g1 : 500 < n
  · have g2 : ¬ n ≤ 4096 := by omega
    go_enter Try.func3, Try.ntmps3
    go_wp2_with (first
      | (go_at_call 5; refine (HO.out _ k1).mono ?_; rintro e w2 ⟨k2, A2, c2, rfl, L2⟩; have q2 := Lib.hid (k1.trans k2 (fun _ f => f.elim)); have HL2 := Lib.hid L2; clear L2)
      | (go_at_call 6; refine (HO'.out _ q2.out).mono ?_; rintro e w3 ⟨k3, A3, c3, rfl, L3⟩; have q3 := Lib.hid (q2.out.trans k3 (fun _ f => f.elim)); have HL3 := Lib.hid L3; have HL2' := Lib.hid (HL2.out.chg k3); clear L3)
      | (go_at_call 7; refine (HP.out _ q3.out).mono ?_; rintro e w4 ⟨k4, rfl⟩; have q4 := Lib.hid (q3.out.trans k4 (fun _ f => f.elim)))
      | (go_at_call 8; refine (HP'.out _ q4.out).mono ?_; rintro e w5 ⟨k5, rfl⟩; have q5 := Lib.hid (q4.out.trans k5 (fun _ f => f.elim)); have z := Lib.hid (k4.trans k5 (fun _ f => f.elim)))
      | (go_at_call 9; refine (hSM.out _ _ _ _ _ (HL2'.out.chg z.out) (HL3.out.chg z.out)).mono ?_; rintro e w6 ⟨k6, rfl⟩; have q6 := Lib.hid (q5.out.trans k6 (fun _ f => f.elim)); have kk6 := ((((k2.trans k3 (fun _ f => f.elim)).trans k4 (fun _ f => f.elim)).trans k5 (fun _ f => f.elim)).trans k6 (fun _ f => f.elim)); have d0 := kk6.cell c0 (fun f => f); have d1 := kk6.cell c1 (fun f => f)))
    clear HO HO' HP HP' hSM HL2 HL3 HL2' c0 c1
    go_region_held3 (fun w' => w'.cell? ⟨W.heap.size, 0, none⟩ = some (.int .i64 a) ∧ w'.cell? ⟨W.heap.size, 1, none⟩ = some (.int .i64 b)) (first | exact ⟨d0, d1⟩ | exact ⟨s0, s1⟩ | assumption) (first | (go_at_call 4; refine (HAL.out _).mono ?_; rintro e w7 ⟨k7, rfl⟩; have s0 := k7.cell d0 (fun f => f); have s1 := k7.cell d1 (fun f => f)) | (go_at_call 10; refine (HTu.out _).mono ?_; rintro e w8 ⟨rfl, rfl⟩) | (go_at_call 11; refine (HTu'.out _).mono ?_; rintro e w9 ⟨rfl, rfl⟩))
    all_goals go_wp2_with fail
    all_goals go_ret
    all_goals exact ⟨rfl, HD.out _ (by first | exact q6.out.trans k7 (fun _ f => f.elim) | exact (q6.out.drew).trans k7 (fun _ f => f.elim))⟩
  · go_enter Try.func3, Try.ntmps3
    go_wp2_with (first
      | (go_at_call 5; refine (HO.out _ k1).mono ?_; rintro e w2 ⟨k2, A2, c2, rfl, L2⟩; have q2 := Lib.hid (k1.trans k2 (fun _ f => f.elim)); have HL2 := Lib.hid L2; clear L2)
      | (go_at_call 6; refine (HO'.out _ q2.out).mono ?_; rintro e w3 ⟨k3, A3, c3, rfl, L3⟩; have q3 := Lib.hid (q2.out.trans k3 (fun _ f => f.elim)); have HL3 := Lib.hid L3; have HL2' := Lib.hid (HL2.out.chg k3); clear L3)
      | (go_at_call 7; refine (HP.out _ q3.out).mono ?_; rintro e w4 ⟨k4, rfl⟩; have q4 := Lib.hid (q3.out.trans k4 (fun _ f => f.elim)))
      | (go_at_call 8; refine (HP'.out _ q4.out).mono ?_; rintro e w5 ⟨k5, rfl⟩; have q5 := Lib.hid (q4.out.trans k5 (fun _ f => f.elim)); have z := Lib.hid (k4.trans k5 (fun _ f => f.elim)))
      | (go_at_call 9; refine (hSM.out _ _ _ _ _ (HL2'.out.chg z.out) (HL3.out.chg z.out)).mono ?_; rintro e w6 ⟨k6, rfl⟩; have q6 := Lib.hid (q5.out.trans k6 (fun _ f => f.elim)); have kk6 := ((((k2.trans k3 (fun _ f => f.elim)).trans k4 (fun _ f => f.elim)).trans k5 (fun _ f => f.elim)).trans k6 (fun _ f => f.elim)); have d0 := kk6.cell c0 (fun f => f); have d1 := kk6.cell c1 (fun f => f)))
    clear HO HO' HP HP' hSM HL2 HL3 HL2' c0 c1
    go_region_held3 (fun w' => w'.cell? ⟨W.heap.size, 0, none⟩ = some (.int .i64 a) ∧ w'.cell? ⟨W.heap.size, 1, none⟩ = some (.int .i64 b)) (first | exact ⟨d0, d1⟩ | exact ⟨s0, s1⟩ | assumption) (first | (go_at_call 4; refine (HAL.out _).mono ?_; rintro e w7 ⟨k7, rfl⟩; have s0 := k7.cell d0 (fun f => f); have s1 := k7.cell d1 (fun f => f)) | (go_at_call 10; refine (HTu.out _).mono ?_; rintro e w8 ⟨rfl, rfl⟩) | (go_at_call 11; refine (HTu'.out _).mono ?_; rintro e w9 ⟨rfl, rfl⟩))
    all_goals go_wp2_with fail
    all_goals go_ret
    all_goals exact ⟨rfl, HD.out _ (by first | exact q6.out.trans k7 (fun _ f => f.elim) | exact (q6.out.drew).trans k7 (fun _ f => f.elim))⟩

/-! ### The row's frame -/
theorem own : ownKnob Try.prog.godebug = none := by kernel_rfl
theorem walkA (W : World) (args : Array Value) (hsz : args.size = Try.f3.params.size) (hok : ∀ (j : Nat) (t : TypeId) (v : Value), Try.f3.params[j]? = some t → args[j]? = some v → Okv Try.prog W t v) :
    Calls Try.prog 3 args W fun e W' => e = .returned (.bool true) ∧ Below W.heap.size W W' := by
  rw [Try.params3] at hsz hok
  obtain ⟨v0, v1, v2, rfl⟩ : ∃ v0 v1 v2 : Value, args = #[v0, v1, v2] := by
    obtain ⟨l⟩ := args
    match l, hsz with
    | [v0, v1, v2], _ => exact ⟨v0, v1, v2, rfl⟩
  exact walk W v0 v1 v2 (hok 0 22 v0 rfl rfl) (hok 1 3 v1 rfl rfl) (hok 2 23 v2 rfl rfl)
set_option maxRecDepth 100000 in
theorem lifted (os : Os) (started : os.Started) (H : Type) (enc : TypeId × Value → H) :
    ReturnsInHanded {} Try.checked os 3 .any (Rows.turnsOrderSpec.pre6 enc Try.prog Try.f3 Rows.turnsOrderRow.domain false) (Rows.turnsOrderSpec.post enc Try.prog Try.f3 false true false false) :=
  lifted_of_walk (C := Try.checked) (s := Rows.turnsOrderSpec) (conds := Rows.turnsOrderRow.domain) (apart := false) (fresh := true) (T := 4) own started (by kernel_rfl) Try.func3
    (ChangeSpec.witness6 (enc := enc) (C := Try.checked) false ⟨#[], #[.slice none 0 0, .int .i64 0, .agg #[.int .i64 0, .int .i64 0]], []⟩ 8 (by kernel_rfl) (by kernel_rfl) (by kernel_rfl) (by kernel_rfl))
    rfl (fun ds hd => by
      rw [Try.params3] at hd
      match ds, hd with
      | [d0, d1, d2], _ => exact ⟨rfl, rfl, rfl⟩)
    (by kernel_rfl) Try.underlying4 (by kernel_rfl) (by rw [Try.params3]; intro t ht; simp only [List.mem_cons, List.not_mem_nil, or_false] at ht; rcases ht with rfl | rfl | rfl <;> exact ⟨by kernel_rfl, of_decide_eq_true (by kernel_rfl)⟩) walkA

theorem holds : Rows.turnsOrderRow.holds Try.pinned (OpenSpec.ofChange Rows.turnsOrderSpec) :=
  OpenClaim.holds_of_wide 3 Try.f3 rfl rfl rfl rfl rfl rfl rfl ⟨rfl, rfl, rfl, rfl, rfl⟩ rfl rfl rfl rfl rfl (by kernel_rfl) Try.func3 (by kernel_rfl)
    (of_decide_eq_true (by kernel_rfl)) (by unfold Func.isWrapper; first | (rw [if_pos (by decide +kernel)]; kernel_rfl) | (rw [if_neg (by decide +kernel)]; exact ⟨rfl, rfl⟩))
    (fun os started H enc _ => lifted os started H enc)
end Go.Proofs.Ytalfaoljbhmihaa.turnsOrder
namespace Go.Proofs.Ytalfaoljbhmihaa
/-- The statement. -/
theorem turnsOrder_holds : Rows.TurnsOrderSaid := turnsOrder.holds
end Go.Proofs.Ytalfaoljbhmihaa
