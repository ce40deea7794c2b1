/- Of the program at this commit: the law TapePlays answers true for every script of ops (each is answered as the document says, and leaves what it says, losses of power too); no condition. -/
import Derived.Test.YtnlkghacimnnpaaRows
import Derived.WalkKit
import Derived.ProofKit
import Derived.Test.YtnlkghacimnnpaaJt
import Derived.Test.YtnlkghacimnnpaaJu
namespace Go.Proofs.Ytnlkghacimnnpaa.tapePlays
open Go.ChangeShapes Go.WideShapes Go.ChangeAt Go.RowKit
set_option linter.unusedVariables false

theorem mAppend_len (H : List St) (b : List UInt8) : (mAppend H b).2.length ≤ H.length + 1 := by
  unfold mAppend
  split <;> simp
theorem mTrim_len (H : List St) (n : Int) : (mTrim H n).2.length ≤ H.length + 1 := by
  unfold mTrim
  split <;> simp
theorem mSync_len (H : List St) : (mSync H).2.length ≤ H.length + 1 := by
  unfold mSync
  simp
theorem mAct_len (o : Opn) (H : List St) : (mAct o H).2.length ≤ H.length + 1 := by
  unfold mAct
  split
  · exact mAppend_len _ _
  split
  · exact mSync_len _
  split
  · exact mTrim_len _ _
  · exact Nat.le_succ _

set_option maxRecDepth 100000 in
set_option maxHeartbeats 1600000 in
theorem walk (W : World) (v0 : Value) (h0 : Okv Try.prog W 22 v0) :
    Calls Try.prog 3 #[v0] W fun e W' => e = .returned (.bool true) ∧ Below W.heap.size W W' := by
  obtain ⟨A, ca, L, rfl, hl, hM, hok⟩ := ops_arg h0
  have hn63 : L.length ≤ 9223372036854775807 := by unfold maxLen at hl; omega
  have fin : ∀ w, Chg Non W w → Below W.heap.size W w := fun w k => k.below (Nat.le_refl _) (fun _ f => f.elim)
  have HM := Lib.hid hM
  have HOKS := Lib.hid hok
  clear h0 hM hok
  go_enter Try.func3, Try.ntmps3
  go_wp2_with fail
  refine (New_any _).mono ?_
  rintro e w1 ⟨rfl, t1, k1⟩
  go_wp2_with fail
  refine (rNew_any _).mono ?_
  rintro e w2 ⟨rfl, r2, k2⟩
  have t2 := t1.chg k2 (fun _ _ f => f)
  have hs1 : W.heap.size < w1.heap.size := t1.lt _ rfl
  go_wp2_with fail
  refine (alive_any _).mono ?_
  rintro e w3 ⟨rfl, k3⟩
  have B3 : Hid (Bo W w3 W.heap.size (fun j => j = W.heap.size) (w1.heap.size + 1) (fun j => w1.heap.size ≤ j ∧ j < w1.heap.size + 2) [([], 0)]) := Lib.hid (Bo.non ⟨t2, r2, fun j h1 h2 => by omega, fun j hj => by omega, fun j hj => by omega, k1.trans k2 (fun _ f => .inl f)⟩ k3)
  clear t1 t2 r2 k1 k2 k3
  go_wp2_with fail
  go_loopw [3, 4, 5] (fun t m i wr => ∃ (k g : Nat) (F : Nat → Prop) (mm : Nat) (G : Nat → Prop) (H : List St), k ≤ L.length ∧ k ≤ 60 ∧ i = .int .i64 (k : Int) ∧ t = .pointer (some ⟨g, 0, none⟩) ∧ m = .pointer (some ⟨mm, 0, none⟩) ∧ Hid (Bo W wr g F mm G H) ∧ Hid (H.length ≤ k + 1)) (fun _ _ i _ => 60 - (intOf i).toNat)
  case atStart => exact ⟨0, _, _, _, _, _, by omega, by omega, rfl, rfl, rfl, B3, Lib.hid (by simp)⟩
  case round =>
    obtain ⟨k, g, F, mm, G, H, hkL, hk60, rfl, rfl, rfl, B, HL⟩ := hrel
    clear B3
    by_cases hkl : k < L.length
    · have hkl' : (k : Int) < (L.length : Int) := by omega
      by_cases hk : k < 60
      · have hk' : decide ((k : Int) < 60) = true := by simp; omega
        obtain ⟨o, ho⟩ : ∃ o, L[k]? = some o := ⟨_, List.getElem?_eq_getElem hkl⟩
        have OOK := Lib.hid (HOKS.out o (List.mem_of_getElem? ho))
        obtain ⟨eb, eo, rfl, hlt, hrg⟩ := (lstM_below HM.out (fin _ B.out.K)) k o ho
        obtain ⟨ok, on, om, oA, ob, oc⟩ := o
        have d0 := (rangeAt_cons hrg).1
        have d1 := (rangeAt_cons (rangeAt_cons hrg).2).1
        have d2 := (rangeAt_cons (rangeAt_cons (rangeAt_cons hrg).2).2).1
        have d3 := (rangeAt_cons (rangeAt_cons (rangeAt_cons (rangeAt_cons hrg).2).2).2).1
        simp only at d0 d1 d2 d3
        have kb := (Chg.refl Non wr).alloc (.cells #[.int .i64 ok, .int .i64 on, .int .i64 om, .slice oA ob.length oc] 30)
        have BB := Lib.hid (B.out.non kb)
        have bx := Hb.new wr 30 #[.int .i64 ok, .int .i64 on, .int .i64 om, .slice oA ob.length oc]
        clear hrg ho B
        by_cases hbig : 1000 < ob.length
        · have hbig' : (1000 : Int) < (ob.length : Int) := by omega
          go_wp2_with fail
          go_roundw
          case rel => exact ⟨k + 1, g, F, mm, G, H, by omega, by omega, by go_num, rfl, rfl, BB, Lib.hid (by have := HL.out; omega)⟩
          case measure => simp [intOf]; omega
        · have hbig' : ¬ (1000 : Int) < (ob.length : Int) := by omega
          have ob1 := OOK.out.bl
          have on1 := OOK.out.n1
          have on2 := OOK.out.n2
          have om1 := OOK.out.m1
          have om2 := OOK.out.m2
          simp only at ob1 on1 on2 om1 om2
          clear ob1
          by_cases h4 : ok = 4
          · subst h4
            go_wp2_with fail
            refine (Cut_any _ g F H BB.out.t on om on1 on2 om1 om2 (by have := HL.out; omega)).mono ?_
            rintro e w4 ⟨gx, Fx, rfl, tx, hFx, k4⟩
            have B4 := Lib.hid (BB.out.non k4)
            have bx4 := bx.chg k4 (fun f => f)
            have y1 : w4.cell? ⟨wr.heap.size, 1, none⟩ = some (.int .i64 on) := bx4.cell 1
            have y2 : w4.cell? ⟨wr.heap.size, 2, none⟩ = some (.int .i64 om) := bx4.cell 2
            go_wp2_with fail
            refine (rCut_any _ mm G H B4.out.r on om on1 on2 om1 om2 (by have := HL.out; omega)).mono ?_
            rintro e w5 ⟨my, Gy, rfl, ry, hGy, k5⟩
            have B5 := Lib.hid (B4.out.non k5)
            have bx5 := bx4.chg k5 (fun f => f)
            have hdis : ∀ j, Fx j → ¬ Gy j := fun j h1 h2 => by
              have a1 := hFx j h1
              have a2 := tx.lt j h1
              rcases hGy j h2 with h | h
              · have := BB.out.r.lt j h; omega
              · omega
            have hGW : ∀ j, Gy j → W.heap.size ≤ j := fun j hj => by
              rcases hGy j hj with h | h
              · exact B4.out.gw j h
              · exact Nat.le_trans B4.out.K.size h
            have N5 := Lib.hid (show Bo W w5 gx Fx my Gy (mCut H on om) from ⟨tx.chg k5 (fun _ _ f => f), ry, hdis, fun j hj => Nat.le_trans BB.out.K.size (hFx j hj), hGW, B5.out.K⟩)
            clear tx hFx k4 bx4 y1 y2 ry hGy k5 hdis hGW B4 BB bx
            go_wp2_with fail
            refine (alike_any W _ g F mm G H B5.out (by have := HL.out; omega)).mono ?_
            rintro e w6 ⟨rfl, k6⟩
            have B := Lib.hid (N5.out.non k6)
            have bx6 := bx5.chg k6 (fun f => f)
            have HL : Hid ((mCut H on om).length ≤ k + 1) := Lib.hid (by show 1 ≤ k + 1; omega)
            generalize mCut H on om = H at *
            have z0 : w6.cell? ⟨wr.heap.size, 0, none⟩ = some (.int .i64 4) := bx6.cell 0
            have z1 : w6.cell? ⟨wr.heap.size, 1, none⟩ = some (.int .i64 on) := bx6.cell 1
            have z2 : w6.cell? ⟨wr.heap.size, 2, none⟩ = some (.int .i64 om) := bx6.cell 2
            have z3 : w6.cell? ⟨wr.heap.size, 3, none⟩ = some (.slice oA ob.length oc) := bx6.cell 3
            clear B5 N5 k6 bx5 bx6
            go_wp2_with fail
            refine (act_any W _ gx Fx my Gy H B.out ⟨4, on, om, oA, ob, oc⟩ OOK.out (by have := HL.out; omega)).mono ?_
            rintro e w8 ⟨rfl, F8, G8, b8⟩
            have HL8 : Hid ((mAct ⟨4, on, om, oA, ob, oc⟩ H).2.length ≤ H.length + 1) := Lib.hid (mAct_len _ _)
            generalize (mAct ⟨4, on, om, oA, ob, oc⟩ H).1 = code at *
            generalize (mAct ⟨4, on, om, oA, ob, oc⟩ H).2 = H8 at *
            go_wp2_with fail
            refine (alike_any W _ gx F8 my G8 H8 b8 (by have := HL.out; have := HL8.out; omega)).mono ?_
            rintro e w9 ⟨rfl, k9⟩
            have B9 := Lib.hid (b8.non k9)
            clear b8 k9
            go_wp2_with fail
            go_roundw
            case rel => exact ⟨k + 1, gx, F8, my, G8, H8, by omega, by omega, by go_num, rfl, rfl, B9, Lib.hid (by have := HL.out; have := HL8.out; omega)⟩
            case measure => simp [intOf]; omega
          · have h4' : (ok == 4) = false := by simpa using h4
            have B := BB
            clear kb BB
            go_wp2_with fail
            refine (act_any W _ g F mm G H B.out ⟨ok, on, om, oA, ob, oc⟩ OOK.out (by have := HL.out; omega)).mono ?_
            rintro e w8 ⟨rfl, F8, G8, b8⟩
            have HL8 : Hid ((mAct ⟨ok, on, om, oA, ob, oc⟩ H).2.length ≤ H.length + 1) := Lib.hid (mAct_len _ _)
            generalize (mAct ⟨ok, on, om, oA, ob, oc⟩ H).1 = code at *
            generalize (mAct ⟨ok, on, om, oA, ob, oc⟩ H).2 = H8 at *
            go_wp2_with fail
            refine (alike_any W _ g F8 mm G8 H8 b8 (by have := HL.out; have := HL8.out; omega)).mono ?_
            rintro e w9 ⟨rfl, k9⟩
            have B9 := Lib.hid (b8.non k9)
            clear b8 k9
            go_wp2_with fail
            go_roundw
            case rel => exact ⟨k + 1, g, F8, mm, G8, H8, by omega, by omega, by go_num, rfl, rfl, B9, Lib.hid (by have := HL.out; have := HL8.out; omega)⟩
            case measure => simp [intOf]; omega
      · have hk' : decide ((k : Int) < 60) = false := by simp; omega
        go_wp2
        go_ret
        exact ⟨rfl, fin _ B.out.K⟩
    · go_wp2
      go_ret
      exact ⟨rfl, fin _ B.out.K⟩

/-! ### The row's frame -/
theorem own : ownKnob Try.prog.godebug = none := by kernel_rfl
theorem walkA (W : World) (args : Array Value) (hsz : args.size = Try.f3.params.size) (hok : ∀ (j : Nat) (t : TypeId) (v : Value), Try.f3.params[j]? = some t → args[j]? = some v → Okv Try.prog W t v) :
    Calls Try.prog 3 args W fun e W' => e = .returned (.bool true) ∧ Below W.heap.size W W' := by
  rw [Try.params3] at hsz hok
  obtain ⟨v0, rfl⟩ : ∃ v0 : Value, args = #[v0] := by
    obtain ⟨l⟩ := args
    match l, hsz with
    | [v0], _ => exact ⟨v0, rfl⟩
  exact walk W v0 (hok 0 22 v0 rfl rfl)
set_option maxRecDepth 100000 in
theorem lifted (os : Os) (started : os.Started) (H : Type) (enc : TypeId × Value → H) :
    ReturnsInHanded {} Try.checked os 3 .any (Rows.tapePlaysSpec.pre6 enc Try.prog Try.f3 Rows.tapePlaysRow.domain false) (Rows.tapePlaysSpec.post enc Try.prog Try.f3 false true false false) :=
  lifted_of_walk (C := Try.checked) (s := Rows.tapePlaysSpec) (conds := Rows.tapePlaysRow.domain) (apart := false) (fresh := true) (T := 4) own started (by kernel_rfl) Try.func3
    (ChangeSpec.witness6 (enc := enc) (C := Try.checked) false ⟨#[], #[.slice none 0 0], []⟩ 8 (by kernel_rfl) (by kernel_rfl) (by kernel_rfl) (by kernel_rfl))
    rfl (fun ds hd => by
      rw [Try.params3] at hd
      match ds, hd with
      | [d0], _ => exact ⟨rfl, rfl, rfl⟩)
    (by kernel_rfl) Try.underlying4 (by kernel_rfl) (by rw [Try.params3]; intro t ht; simp only [List.mem_cons, List.not_mem_nil, or_false] at ht; subst ht; exact ⟨by kernel_rfl, of_decide_eq_true (by kernel_rfl)⟩) walkA

theorem holds : Rows.tapePlaysRow.holds Try.pinned (OpenSpec.ofChange Rows.tapePlaysSpec) :=
  OpenClaim.holds_of_wide 3 Try.f3 rfl rfl rfl rfl rfl rfl rfl ⟨rfl, rfl, rfl, rfl, rfl⟩ rfl rfl rfl rfl rfl (by kernel_rfl) Try.func3 (by kernel_rfl)
    (of_decide_eq_true (by kernel_rfl)) (by unfold Func.isWrapper; first | (rw [if_pos (by decide +kernel)]; kernel_rfl) | (rw [if_neg (by decide +kernel)]; exact ⟨rfl, rfl⟩))
    (fun os started H enc _ => lifted os started H enc)
end Go.Proofs.Ytnlkghacimnnpaa.tapePlays
namespace Go.Proofs.Ytnlkghacimnnpaa
/-- The statement. -/
theorem tapePlays_holds : Rows.TapePlaysSaid := tapePlays.holds
end Go.Proofs.Ytnlkghacimnnpaa
