/- Of the program at this commit: the law WireBroken answers true for all bytes and every list of fields (once a field was missing all answers are zero, and the end is never reached); no condition. -/
import Derived.Test.YtjaaaehgggnhbaaRows
import Derived.WalkKit
import Derived.ProofKit
import Derived.Test.YtjaaaehgggnhbaaFi
namespace Go.Proofs.Ytjaaaehgggnhbaa.wireBroken
open Go.ChangeShapes Go.WideShapes Go.ChangeAt Go.RowKit
set_option linter.unusedVariables false

/-- A reader of b behind k words. -/
def stw (b : List UInt8) (k : Nat) : Option (List UInt8) := if 8 * k ≤ b.length then some (b.drop (8 * k)) else none
theorem stw_next (b : List UInt8) (k : Nat) : (((stw b k).bind fWord).map fun x => ((Value.int .u64 (x.1 : Int)), x.2)).map (·.2) = stw b (k + 1) := by
  unfold stw fWord
  by_cases h : 8 * k ≤ b.length
  · rw [if_pos h, Option.bind_some]
    by_cases h2 : 8 * (k + 1) ≤ b.length
    · rw [if_pos h2, if_neg (by simp; omega)]
      simp [List.drop_drop]
      congr 1
    · rw [if_neg h2, if_pos (by simp; omega)]
      rfl
  · rw [if_neg h, if_neg (by omega)]
    rfl

/-- The reader, and all that was there ahead. -/
structure Rel (W : World) (g : Nat) (F : Nat → Prop) (w : World) (st : Option (List UInt8)) : Prop where
  rdr : Rdr w g F st
  g : W.heap.size ≤ g
  F : ∀ j, F j → W.heap.size ≤ j
  below : Below W.heap.size W w

theorem Rel.step {W : World} {g : Nat} {F : Nat → Prop} {w w1 : World} {st st1 : Option (List UInt8)} (h : Rel W g F w st) (h1 : Rdr w1 g F st1) (hC : Chg (Eqg g) w w1) : Rel W g F w1 st1 :=
  ⟨h1, h.g, h.F, h.below.trans (hC.below h.below.size (fun j hj => by unfold Eqg at hj; subst hj; exact h.g))⟩

set_option maxRecDepth 100000 in
set_option maxHeartbeats 1600000 in
theorem walk (W : World) (v0 v1 : Value) (h0 : Okv Try.prog W 26 v0) (h1 : Okv Try.prog W 22 v1) :
    Calls Try.prog 6 #[v0, v1] W fun e W' => e = .returned (.bool true) ∧ Below W.heap.size W W' := by
  obtain ⟨A0, c0, b, rfl, hbc, hb63, hrb, hbl⟩ := bytes_arg h0
  obtain ⟨A, n, c, L, rfl, hnc, hcm, hL⟩ := fields_of h1
  have hn63 : n ≤ 9223372036854775807 := by unfold maxLen at hcm; omega
  have hb63' : b.length ≤ 9223372036854775807 := by unfold maxLen at hb63; omega
  clear h0 h1 hb63 hbl
  by_cases hbig : 20000 < b.length
  · go_enter Try.func6, Try.ntmps6
    go_wp2_with fail
    refine (alive_any _).mono ?_
    rintro e w1 ⟨rfl, hc1⟩
    go_wp2
    go_ret
    exact ⟨rfl, hc1.below (Nat.le_refl _) (fun _ f => f.elim)⟩
  · go_enter Try.func6, Try.ntmps6
    go_wp2_with fail
    refine (newReader_any _ A0 b.length c0 b rfl hrb (by omega)).mono ?_
    rintro e w1 ⟨g, F, rfl, hR1, hg, hF, hC1⟩
    go_wp2_with fail
    refine (alive_any _).mono ?_
    rintro e w2 ⟨rfl, hC2⟩
    have R0 : Rel W g F w2 (stw b 0) := ⟨by
      have e : stw b 0 = some b := by unfold stw; rw [if_pos (by omega)]; rfl
      rw [e]; exact hR1.chg hC2 (fun f => f) (fun _ _ f => f), hg, hF, (hC1.trans hC2 (fun _ h => .inl h)).below (Nat.le_refl _) (fun _ f => f.elim)⟩
    clear hR1 hC1 hC2 hg hF
    go_wp2_with fail
    go_loopw [6] (fun i wr => ∃ k : Nat, k ≤ b.length / 8 + 2 ∧ i = .int .i64 (k : Int) ∧ Rel W g F wr (stw b k)) (fun i _ => b.length / 8 + 2 - (intOf i).toNat)
    case atStart => exact ⟨0, by omega, rfl, R0⟩
    case round =>
      obtain ⟨k, hk, rfl, R⟩ := hrel
      by_cases hlt : k < b.length / 8 + 2
      · have H := wordR_any wr g F (stw b k) R.rdr
        have HS := Lib.hid (stw_next b k)
        have hlt' : (k : Int) < (b.length : Int) / 8 + 2 := by omega
        generalize hoo : ((stw b k).bind fWord).map (fun x => ((Value.int .u64 (x.1 : Int)), x.2)) = o at H HS
        clear hoo
        go_wp2_with fail
        refine H.mono ?_
        rintro e w3 ⟨rfl, h2, h3⟩
        have R2 := R.step h2 h3
        clear h2 h3 H
        generalize (o.map (·.1)).getD _ = vv
        go_wp2_with fail
        go_roundw
        case rel => exact ⟨k + 1, by omega, by go_num, by rw [← HS.out]; exact R2⟩
        case measure => simp [intOf]; omega
      · have e : stw b k = none := by unfold stw; rw [if_neg (by omega)]
        rw [e] at R
        have hge : ¬ (k : Int) < (b.length : Int) / 8 + 2 := by omega
        clear e R0
        have H : Calls Try.prog 25 #[.pointer (some ⟨g, 0, none⟩)] wr (Readd wr g F (.agg (bv noH).toArray) none) := hashR_any wr g F none R.rdr
        go_wp2_with fail
        refine H.mono ?_
        rintro e w3 ⟨rfl, h2, h3⟩
        have R1 : Rel W g F w3 none := R.step h2 h3
        clear h2 h3 H R
        go_wp2_with fail
        go_loopw [7] (fun i wr => ∃ k : Nat, k ≤ 40 ∧ i = .int .i64 (k : Int) ∧ Rel W g F wr none) (fun i _ => 40 - (intOf i).toNat)
        case atStart => exact ⟨0, by omega, rfl, R1⟩
        case round =>
          obtain ⟨m, hm, rfl, R2⟩ := hrel
          clear R1 hge hlt
          obtain ⟨x0, rfl⟩ : ∃ x0, x0 = wr := ⟨_, rfl⟩
          by_cases hmn : m < n
          · by_cases hm4 : m < 40
            · have hm' : decide ((m : Int) < 40) = true := by simp; omega
              obtain ⟨ok, a, rfl, hat⟩ := hL m hmn
              have halt := hat.lt
              generalize L m = f at *
              have H2 : Calls Try.prog 21 #[.pointer (some ⟨g, 0, none⟩)] x0 (Readd x0 g F (.int .i64 0) none) := numberR_any x0 g F none R2.rdr
              go_wp2_with fail
              refine H2.mono ?_
              rintro e x2 ⟨rfl, h2, h3⟩
              have R3 : Rel W g F x2 none := R2.step h2 h3
              clear h2 h3 H2
              have H3 : Calls Try.prog 23 #[.pointer (some ⟨g, 0, none⟩)] x2 (Readd x2 g F (.int .u64 0) none) := wordR_any x2 g F none R3.rdr
              go_wp2_with fail
              refine H3.mono ?_
              rintro e x3 ⟨rfl, h2, h3⟩
              have R4 : Rel W g F x3 none := R3.step h2 h3
              clear h2 h3 H3
              have H4 : Calls Try.prog 25 #[.pointer (some ⟨g, 0, none⟩)] x3 (Readd x3 g F (.agg (bv noH).toArray) none) := hashR_any x3 g F none R4.rdr
              go_wp2_with fail
              refine H4.mono ?_
              rintro e x4 ⟨rfl, h2, h3⟩
              have R5 : Rel W g F x4 none := R4.step h2 h3
              clear h2 h3 H4
              have HE := run_eq_zero x4 noH_length
              have H5 : Calls Try.prog 27 #[.pointer (some ⟨g, 0, none⟩)] x4 (Readd x4 g F (.string ⟨#[]⟩) none) := textR_any x4 g F none R5.rdr
              go_wp2_with fail
              refine H5.mono ?_
              rintro e x5 ⟨rfl, h2, h3⟩
              have R6 : Rel W g F x5 none := R5.step h2 h3
              clear h2 h3 H5
              clear HE
              have hfn := (hat.below R6.below halt).n
              have H6 : Calls Try.prog 29 #[.pointer (some ⟨g, 0, none⟩), .int .i64 f.n] x5 (Readd x5 g F (.int .i64 0) none) := countR_any x5 g F none f.n R6.rdr
              go_wp2_with fail
              refine H6.mono ?_
              rintro e x6 ⟨rfl, h2, h3⟩
              have R7 : Rel W g F x6 none := R6.step h2 h3
              clear h2 h3 H6
              have H7 : Calls Try.prog 31 #[.pointer (some ⟨g, 0, none⟩)] x6 fun e w' => e = .returned (.int .i64 21) ∧ w' = x6 := endR_any x6 g F none R7.rdr
              go_wp2_with fail
              refine H7.mono ?_
              rintro e x7 ⟨rfl, rfl⟩
              clear H7 hfn
              go_wp2_with fail
              go_roundw
              case rel => exact ⟨m + 1, by omega, by go_num, R7⟩
              case measure => simp [intOf]; omega
            · have hm' : decide ((m : Int) < 40) = false := by simp; omega
              have H7 : Calls Try.prog 31 #[.pointer (some ⟨g, 0, none⟩)] x0 fun e w' => e = .returned (.int .i64 21) ∧ w' = x0 := endR_any x0 g F none R2.rdr
              go_wp2_with fail
              refine H7.mono ?_
              rintro e x7 ⟨rfl, rfl⟩
              go_wp2
              go_ret
              exact ⟨rfl, R2.below⟩
          · have H7 : Calls Try.prog 31 #[.pointer (some ⟨g, 0, none⟩)] x0 fun e w' => e = .returned (.int .i64 21) ∧ w' = x0 := endR_any x0 g F none R2.rdr
            go_wp2_with fail
            refine H7.mono ?_
            rintro e x7 ⟨rfl, rfl⟩
            go_wp2
            go_ret
            exact ⟨rfl, R2.below⟩

/-! ### The row's frame -/
theorem own : ownKnob Try.prog.godebug = none := by kernel_rfl
theorem walkA (W : World) (args : Array Value) (hsz : args.size = Try.f6.params.size) (hok : ∀ (j : Nat) (t : TypeId) (v : Value), Try.f6.params[j]? = some t → args[j]? = some v → Okv Try.prog W t v) :
    Calls Try.prog 6 args W fun e W' => e = .returned (.bool true) ∧ Below W.heap.size W W' := by
  rw [Try.params6] at hsz hok
  obtain ⟨v0, v1, rfl⟩ : ∃ v0 v1 : Value, args = #[v0, v1] := by
    obtain ⟨l⟩ := args
    match l, hsz with
    | [v0, v1], _ => exact ⟨v0, v1, rfl⟩
  exact walk W v0 v1 (hok 0 26 v0 rfl rfl) (hok 1 22 v1 rfl rfl)
set_option maxRecDepth 100000 in
theorem lifted (os : Os) (started : os.Started) (H : Type) (enc : TypeId × Value → H) :
    ReturnsInHanded {} Try.checked os 6 .any (Rows.wireBrokenSpec.pre6 enc Try.prog Try.f6 Rows.wireBrokenRow.domain false) (Rows.wireBrokenSpec.post enc Try.prog Try.f6 false true false false) :=
  lifted_of_walk (C := Try.checked) (s := Rows.wireBrokenSpec) (conds := Rows.wireBrokenRow.domain) (apart := false) (fresh := true) (T := 4) own started (by kernel_rfl) Try.func6
    (ChangeSpec.witness6 (enc := enc) (C := Try.checked) false ⟨#[], #[.slice none 0 0, .slice none 0 0], []⟩ 8 (by kernel_rfl) (by kernel_rfl) (by kernel_rfl) (by kernel_rfl))
    rfl (fun ds hd => by
      rw [Try.params6] at hd
      match ds, hd with
      | [d0, d1], _ => exact ⟨rfl, rfl, rfl⟩)
    (by kernel_rfl) Try.underlying4 (by kernel_rfl) (by rw [Try.params6]; intro t ht; simp only [List.mem_cons, List.not_mem_nil, or_false] at ht; rcases ht with rfl | rfl <;> exact ⟨by kernel_rfl, of_decide_eq_true (by kernel_rfl)⟩) walkA

theorem holds : Rows.wireBrokenRow.holds Try.pinned (OpenSpec.ofChange Rows.wireBrokenSpec) :=
  OpenClaim.holds_of_wide 6 Try.f6 rfl rfl rfl rfl rfl rfl rfl ⟨rfl, rfl, rfl, rfl, rfl⟩ rfl rfl rfl rfl rfl (by kernel_rfl) Try.func6 (by kernel_rfl)
    (of_decide_eq_true (by kernel_rfl)) (by unfold Func.isWrapper; first | (rw [if_pos (by decide +kernel)]; kernel_rfl) | (rw [if_neg (by decide +kernel)]; exact ⟨rfl, rfl⟩))
    (fun os started H enc _ => lifted os started H enc)
end Go.Proofs.Ytjaaaehgggnhbaa.wireBroken
namespace Go.Proofs.Ytjaaaehgggnhbaa
/-- The statement. -/
theorem wireBroken_holds : Rows.WireBrokenSaid := wireBroken.holds
end Go.Proofs.Ytjaaaehgggnhbaa
