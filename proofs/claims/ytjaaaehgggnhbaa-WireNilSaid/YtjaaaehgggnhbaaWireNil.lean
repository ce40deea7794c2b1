/- Of the program at this commit: the law WireNil answers true for every field (on no writer nothing is done and Bytes answers ErrArg; on no reader all answers are zero and End answers ErrArg); no condition. -/
import Derived.Test.YtjaaaehgggnhbaaRows
import Derived.WalkKit
import Derived.ProofKit
import Derived.Test.YtjaaaehgggnhbaaEh
namespace Go.Proofs.Ytjaaaehgggnhbaa.wireNil
open Go.ChangeShapes Go.WideShapes Go.ChangeAt Go.RowKit
set_option linter.unusedVariables false

theorem walk (W : World) (v0 : Value) (h0 : Okv Try.prog W 31 v0) :
    Calls Try.prog 7 #[v0] W fun e W' => e = .returned (.bool true) ∧ Below W.heap.size W W' := by
  obtain ⟨hv, ho⟩ := h0
  simp only [Try.underlying31] at hv
  obtain ⟨cs, rfl⟩ := hv
  obtain ⟨f, hf, ok⟩ := field_of (ho 3)
  have hb := Hb.new W 31 cs
  have hc0 := (Chg.refl Non W).alloc (.cells cs 31)
  have c1 : cs[1]? = some (.int .i64 f.n) := by rw [← Array.getElem?_toList]; show (Value.cells (.agg cs)).toList[1]? = _; rw [hf]; rfl
  have c2 : cs[2]? = some (.int .u64 (f.w : Int)) := by rw [← Array.getElem?_toList]; show (Value.cells (.agg cs)).toList[2]? = _; rw [hf]; rfl
  have c3 : ∀ (j : Nat) (b : UInt8), f.h[j]? = some b → cs[3 + j]? = some (.int .u8 (b.toNat : Int)) := by
    intro j b hj
    have hjl := (List.getElem?_eq_some_iff.1 hj).1
    rw [← Array.getElem?_toList]
    show (Value.cells (.agg cs)).toList[3 + j]? = _
    rw [hf]
    unfold Fd.cells
    rw [List.append_assoc, List.getElem?_append_right (by simp), List.getElem?_append_left (by rw [bv_length]; simp; omega)]
    simpa using bv_get f.h j b hj
  have c4 : cs[35]? = some (.string f.s) := by
    rw [← Array.getElem?_toList]
    show (Value.cells (.agg cs)).toList[35]? = _
    rw [hf]
    unfold Fd.cells
    rw [List.getElem?_append_right (by simp [bv_length, ok.h])]
    simp [bv_length, ok.h]
  have hrd : ∀ w, Hb w W.heap.size 31 cs → Rd w (some ⟨W.heap.size, 3, none⟩) f.h := by
    intro w hw j b hj
    refine ⟨_, rfl, ?_⟩
    have : (⟨W.heap.size, 3, none⟩ : Addr).add j = ⟨W.heap.size, 3 + j, none⟩ := by unfold Addr.add; split <;> simp_all
    rw [this, hw.cell]
    exact c3 j b hj
  have HRD := Lib.hid hrd
  have HC3 := Lib.hid c3
  have HF := Lib.hid hf
  have k4 := hb.cell 35
  rw [c4] at k4
  have HBD := Lib.hid build_noH
  have oh := ok.h
  have OH := Lib.hid oh
  clear hf ho c3 hrd oh
  go_enter Try.func7, Try.ntmps7
  go_wp2_with fail
  refine (numberW_nil _ f.n ok.n1 ok.n2).mono ?_
  rintro e w1 ⟨rfl, hC1⟩
  have hb1 := hb.chg hC1 (fun e => e)
  have q2 := hb1.cell 2
  rw [c2] at q2
  go_wp2_with fail
  refine (wordW_nil _ f.w ok.w).mono ?_
  rintro e w2 ⟨rfl, hC2⟩
  clear q2
  have hb2 := hb1.chg hC2 (fun e => e)
  have r2 := HRD.out _ hb2
  go_wp2_with (with_reducible refine wpList_load_hash rfl _ rfl (h := f.h) rfl OH.out r2 ?_)
  refine (hashW_nil _ f.h OH.out).mono ?_
  rintro e w3 ⟨rfl, hC3⟩
  clear r2
  have hb3 := hb2.chg hC3 (fun e => e)
  have q4 := hb3.cell 35
  rw [c4] at q4
  go_wp2_with fail
  refine (textW_nil _ f.s ok.s).mono ?_
  rintro e w4 ⟨rfl, hC4⟩
  clear q4
  have hb4 := hb3.chg hC4 (fun e => e)
  go_wp2_with fail
  refine (bytesW_nil _).mono ?_
  rintro e w5 ⟨rfl, rfl⟩
  go_wp2_with fail
  refine (alive_any _).mono ?_
  rintro e w5 ⟨rfl, hC5⟩
  go_wp2_with fail
  refine (numberR_nil _).mono ?_
  rintro e w6 ⟨rfl, hC6⟩
  go_wp2_with fail
  refine (wordR_nil _).mono ?_
  rintro e w7 ⟨rfl, hC7⟩
  go_wp2_with fail
  refine (hashR_nil _).mono ?_
  rintro e w8 ⟨rfl, hC8⟩
  have HE := run_eq_zero w8 noH_length
  go_wp2_with fail
  refine (textR_nil _).mono ?_
  rintro e w9 ⟨rfl, hC9⟩
  have hb9 := (((((hb4.chg hC5 (fun e => e)).chg hC6 (fun e => e)).chg hC7 (fun e => e)).chg hC8 (fun e => e)).chg hC9 (fun e => e))
  have q1 := hb9.cell 1
  rw [c1] at q1
  go_wp2_with fail
  refine (countR_nil _ f.n).mono ?_
  rintro e w10 ⟨rfl, hC10⟩
  clear q1
  go_wp2_with fail
  refine (endR_nil _).mono ?_
  rintro e w11 ⟨rfl, rfl⟩
  go_wp2
  go_ret
  refine ⟨rfl, ?_⟩
  have hn : ∀ j : Nat, Non j → Non j ∨ W.heap.size ≤ j := fun _ h => .inl h
  exact ((((((((((hc0.trans hC1 hn).trans hC2 hn).trans hC3 hn).trans hC4 hn).trans hC5 hn).trans hC6 hn).trans hC7 hn).trans hC8 hn).trans hC9 hn).trans hC10 hn).below (Nat.le_refl _) (fun _ h => h.elim)

/-! ### The row's frame -/
theorem own : ownKnob Try.prog.godebug = none := by kernel_rfl
theorem walkA (W : World) (args : Array Value) (hsz : args.size = Try.f7.params.size) (hok : ∀ (j : Nat) (t : TypeId) (v : Value), Try.f7.params[j]? = some t → args[j]? = some v → Okv Try.prog W t v) :
    Calls Try.prog 7 args W fun e W' => e = .returned (.bool true) ∧ Below W.heap.size W W' := by
  rw [Try.params7] at hsz hok
  obtain ⟨v0, rfl⟩ : ∃ v0 : Value, args = #[v0] := by
    obtain ⟨l⟩ := args
    match l, hsz with
    | [v0], _ => exact ⟨v0, rfl⟩
  exact walk W v0 (hok 0 31 v0 rfl rfl)
set_option maxRecDepth 100000 in
theorem lifted (os : Os) (started : os.Started) (H : Type) (enc : TypeId × Value → H) :
    ReturnsInHanded {} Try.checked os 7 .any (Rows.wireNilSpec.pre6 enc Try.prog Try.f7 Rows.wireNilRow.domain false) (Rows.wireNilSpec.post enc Try.prog Try.f7 false true false false) :=
  lifted_of_walk (C := Try.checked) (s := Rows.wireNilSpec) (conds := Rows.wireNilRow.domain) (apart := false) (fresh := true) (T := 4) own started (by kernel_rfl) Try.func7
    (ChangeSpec.witness6 (enc := enc) (C := Try.checked) false ⟨#[], #[.agg (Fd.cells ⟨0, 0, 0, noH, ⟨#[]⟩⟩).toArray], []⟩ 8 (by kernel_rfl) (by kernel_rfl) (by kernel_rfl) (by kernel_rfl))
    rfl (fun ds hd => by
      rw [Try.params7] at hd
      match ds, hd with
      | [d0], _ => exact ⟨rfl, rfl, rfl⟩)
    (by kernel_rfl) Try.underlying4 (by kernel_rfl) (by rw [Try.params7]; intro t ht; simp only [List.mem_cons, List.not_mem_nil, or_false] at ht; subst ht; exact ⟨by kernel_rfl, of_decide_eq_true (by kernel_rfl)⟩) walkA

theorem holds : Rows.wireNilRow.holds Try.pinned (OpenSpec.ofChange Rows.wireNilSpec) :=
  OpenClaim.holds_of_wide 7 Try.f7 rfl rfl rfl rfl rfl rfl rfl ⟨rfl, rfl, rfl, rfl, rfl⟩ rfl rfl rfl rfl rfl (by kernel_rfl) Try.func7 (by kernel_rfl)
    (of_decide_eq_true (by kernel_rfl)) (by unfold Func.isWrapper; first | (rw [if_pos (by decide +kernel)]; kernel_rfl) | (rw [if_neg (by decide +kernel)]; exact ⟨rfl, rfl⟩))
    (fun os started H enc _ => lifted os started H enc)
end Go.Proofs.Ytjaaaehgggnhbaa.wireNil
namespace Go.Proofs.Ytjaaaehgggnhbaa
/-- The statement. -/
theorem wireNil_holds : Rows.WireNilSaid := wireNil.holds
end Go.Proofs.Ytjaaaehgggnhbaa
