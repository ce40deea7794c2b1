/- Of the program at this commit: the law BankNil answers true for any act (on no bank each call is ErrArg, or nothing); no condition but that the library's tables hold what the program's text lays in them (tied). -/
import Derived.Test.YtgoolonmkejpcaaDoorRows
import Derived.Test.YtgoolonmkejpcaaDoorCards
import Derived.Test.YtgoolonmkejpcaaDoorTie
import Derived.WalkKit
import Derived.ProofKit
import Derived.SevenTiedAt
import Derived.Stop.Joined
import Derived.Test.YtgoolonmkejpcaaDoorLf
import Derived.Test.YtgoolonmkejpcaaDoorKj
import Derived.Test.YtgoolonmkejpcaaDoorKi
namespace Go.Proofs.YtgoolonmkejpcaaDoor.bankNil
open Go.ChangeShapes Go.WideShapes Go.ChangeAt Go.RowKit
set_option linter.unusedVariables false

theorem Copy_nil (w : World) : Calls Tryd.prog 10 #[.pointer none] w (Zero w (.pointer none)) := by
  go_enter Tryd.func10, Tryd.ntmps10
  go_wp2_with fail
  go_ret
  exact ⟨rfl, Chg.refl _ _⟩
set_option maxHeartbeats 3200000 in
set_option maxRecDepth 20000 in
theorem walk (W : World) (v0 : Value) (h0 : Okv Tryd.prog W 32 v0) (hT : Tab W) :
    Calls Tryd.prog 6 #[v0] W fun e W' => e = .returned (.bool true) ∧ Below W.heap.size W W' := by
  obtain ⟨x, rfl, ox⟩ := act_arg h0
  obtain ⟨k, s, t, d, n⟩ := x
  have HF : Hid (∀ w', Chg Non (W.alloc (.cells (Ac.cells ⟨k, s, t, d, n⟩).toArray 32)) w' → Chg Non W w' ∧ w'.cell? ⟨W.heap.size, 1, none⟩ = some (.string s) ∧ w'.cell? ⟨W.heap.size, 2, none⟩ = some (.string t) ∧ w'.cell? ⟨W.heap.size, 3, none⟩ = some (.string d) ∧ w'.cell? ⟨W.heap.size, 4, none⟩ = some (.int .u64 (n : Int))) := Lib.hid fun w' k => by
    have h := (Hb.new W 32 (Ac.cells ⟨_, s, t, d, n⟩).toArray).chg k (fun f => f)
    exact ⟨((Chg.refl _ _).alloc _).trans k (fun _ f => f.elim), by rw [h.cell]; rfl, by rw [h.cell]; rfl, by rw [h.cell]; rfl, by rw [h.cell]; rfl⟩
  clear h0 hT ox
  unfold Ac.cells at HF ⊢
  go_enter Tryd.func6, Tryd.ntmps6
  go_wp2_with fail
  have K0 : Hid (Chg Non (W.alloc (.cells #[.int .i64 k, .string s, .string t, .string d, .int .u64 (n : Int)] 32)) (W.alloc (.cells #[.int .i64 k, .string s, .string t, .string d, .int .u64 (n : Int)] 32))) := Lib.hid (Chg.refl _ _)
  refine (alive_any _).mono ?_
  rintro e w1 ⟨rfl, k1⟩
  have K1 := Lib.hid (K0.out.trans k1 (fun _ f => f.elim))
  obtain ⟨_, p11, p12, p13, p14⟩ := HF.out w1 K1.out
  clear k1
  go_wp2_with fail
  refine (Mint_nil _ t d (n : Int)).mono ?_
  rintro e w2 ⟨rfl, k2⟩
  have K2 := Lib.hid (K1.out.trans k2 (fun _ f => f.elim))
  obtain ⟨_, p21, p22, p23, p24⟩ := HF.out w2 K2.out
  clear k2
  clear p11 p12 p13 p14
  go_wp2_with fail
  refine (Burn_nil _ s d (n : Int)).mono ?_
  rintro e w3 ⟨rfl, k3⟩
  have K3 := Lib.hid (K2.out.trans k3 (fun _ f => f.elim))
  obtain ⟨_, p31, p32, p33, p34⟩ := HF.out w3 K3.out
  clear k3
  clear p21 p22 p23 p24
  go_wp2_with fail
  refine (Move_nil _ s t d (n : Int)).mono ?_
  rintro e w4 ⟨rfl, k4⟩
  have K4 := Lib.hid (K3.out.trans k4 (fun _ f => f.elim))
  obtain ⟨_, p41, p42, p43, p44⟩ := HF.out w4 K4.out
  clear k4
  clear p31 p32 p33 p34
  go_wp2_with fail
  refine (Balance_nil _ t d).mono ?_
  rintro e w5 ⟨rfl, k5⟩
  have K5 := Lib.hid (K4.out.trans k5 (fun _ f => f.elim))
  obtain ⟨_, p51, p52, p53, p54⟩ := HF.out w5 K5.out
  clear k5
  clear p41 p42 p43 p44
  go_wp2_with fail
  refine (Supply_nil _ d).mono ?_
  rintro e w6 ⟨rfl, k6⟩
  have K6 := Lib.hid (K5.out.trans k6 (fun _ f => f.elim))
  obtain ⟨_, p61, p62, p63, p64⟩ := HF.out w6 K6.out
  clear k6
  clear p51 p52 p53 p54
  go_wp2_with fail
  refine (Entries_nil _).mono ?_
  rintro e w7 ⟨rfl, k7⟩
  have K7 := Lib.hid (K6.out.trans k7 (fun _ f => f.elim))
  obtain ⟨_, p71, p72, p73, p74⟩ := HF.out w7 K7.out
  clear k7
  clear p61 p62 p63 p64
  go_wp2_with fail
  refine (Copy_nil _).mono ?_
  rintro e w8 ⟨rfl, k8⟩
  have K8 := Lib.hid (K7.out.trans k8 (fun _ f => f.elim))
  obtain ⟨_, p81, p82, p83, p84⟩ := HF.out w8 K8.out
  clear k8
  clear p71 p72 p73 p74
  go_wp2_with fail
  go_ret
  exact ⟨rfl, (HF.out _ K8.out).1.below (Nat.le_refl _) (fun _ f => f.elim)⟩

/-! ### The row's frame -/
theorem own : ownKnob Tryd.prog.godebug = none := by kernel_rfl
theorem walkA (W : World) (args : Array Value) (hsz : args.size = Tryd.f6.params.size) (hok : ∀ (j : Nat) (t : TypeId) (v : Value), Tryd.f6.params[j]? = some t → args[j]? = some v → Okv Tryd.prog W t v) (hL : laidMetH Tryd.prog laidL W) :
    Calls Tryd.prog 6 args W fun e W' => e = .returned (.bool true) ∧ Below W.heap.size W W' := by
  rw [Tryd.params6] at hsz hok
  obtain ⟨v0, rfl⟩ : ∃ v0 : Value, args = #[v0] := by
    obtain ⟨l⟩ := args
    match l, hsz with
    | [v0], _ => exact ⟨v0, rfl⟩
  exact walk W v0 (hok 0 32 v0 rfl rfl) (tab_of_laid hL)
set_option maxRecDepth 100000 in
theorem lifted (os : Os) (started : os.Started) (H : Type) (enc : TypeId × Value → H) :
    ReturnsInHanded {} Tryd.checked os 6 .any (fun w args => (Rows.bankNilSpec.pre enc Tryd.prog Tryd.f6 Rows.bankNilRow.domain false w args ∧ laidMetH Tryd.prog laidL w) ∧ sizedMet enc Tryd.prog Tryd.f6 (OpenSpec.ofChange Rows.bankNilSpec) false w args) (Rows.bankNilSpec.post enc Tryd.prog Tryd.f6 false true false false) :=
  lifted_of_walk_laid (C := Tryd.checked) (s := Rows.bankNilSpec) (conds := Rows.bankNilRow.domain) (apart := false) (fresh := true) (T := 4) (laid := laidL) own started (by kernel_rfl) Tryd.func6
    (ChangeSpec.witness_at (enc := enc) (C := Tryd.checked) (os := os) (X := fun w _ => laidMetH Tryd.prog laidL w) false (laidWorld os) #[.agg #[.int .i64 0, .string ⟨#[]⟩, .string ⟨#[]⟩, .string ⟨#[]⟩, .int .u64 0]] 8 rfl (by kernel_rfl) (by kernel_rfl) (by kernel_rfl) (by kernel_rfl) (by kernel_rfl) (laidWorld_met os _))
    rfl (fun ds hd => by
      rw [Tryd.params6] at hd
      match ds, hd with
      | [d0], _ => exact ⟨rfl, rfl, rfl⟩)
    (by kernel_rfl) Tryd.underlying4 (by kernel_rfl) (by rw [Tryd.params6]; intro t ht; simp only [List.mem_cons, List.not_mem_nil, or_false] at ht; subst ht; exact ⟨by kernel_rfl, of_decide_eq_true (by kernel_rfl)⟩) walkA

theorem holds : Rows.bankNilRow.holds Tryd.pinned (OpenSpec.ofChange Rows.bankNilSpec) :=
  OpenClaim.holds_of_wide 6 Tryd.f6 rfl rfl rfl rfl rfl rfl rfl ⟨rfl, rfl, rfl, rfl, rfl⟩ rfl rfl rfl rfl rfl (by kernel_rfl) Tryd.func6 (by kernel_rfl)
    (of_decide_eq_true (by kernel_rfl)) (by unfold Func.isWrapper; first | (rw [if_pos (by decide +kernel)]; kernel_rfl) | (rw [if_neg (by decide +kernel)]; exact ⟨rfl, rfl⟩))
    (fun os started H enc _ => lifted os started H enc)
theorem card : Rows.BankNilCardSaid :=
  Claim7.holds_tied_plain_at .later [] [.data, .data, .data] true Rows.bankNilCard.stood.harness true
    holds (fun _ h => by cases h) (by kernel_rfl) (fun _ h => by cases h) bankNil_row_tie rfl ⟨rfl, rfl⟩ (by kernel_rfl) rfl
    (fun f fn hf hfn => by
      obtain rfl : f = 6 := (Option.some.inj ((show Tryd.prog.funcNamed "nuncio/nunciolaw18.BankNil" = some 6 by kernel_rfl).symm.trans hf)).symm
      obtain rfl : fn = Tryd.f6 := (Option.some.inj (Tryd.func6.symm.trans hfn)).symm
      exact ⟨by kernel_rfl, fun j t ht => by
        rw [Tryd.params6] at ht
        have hm : t ∈ [32] := List.mem_of_getElem? (i := j) (by simpa using ht)
        simp only [List.mem_cons, List.not_mem_nil, or_false] at hm
        subst hm
        exact (show Tryd.prog.wantsStandIn 32 = false by kernel_rfl)⟩)
    (by kernel_rfl)
end Go.Proofs.YtgoolonmkejpcaaDoor.bankNil
namespace Go.Proofs.YtgoolonmkejpcaaDoor
/-- The statement. -/
theorem bankNil_holds : Rows.BankNilCardSaid := bankNil.card
end Go.Proofs.YtgoolonmkejpcaaDoor
