/- Of the program at this commit: the law TapeSafe answers true for every script, every further ops and every moment (what was safe is kept whatever power leaves, and what is there is the beginning of what was written); no condition. -/
import Derived.Test.YtenhicipgkjckaaRows
import Derived.WalkKit
import Derived.ProofKit
import Derived.Deep.CutRange
import Derived.StillTailTactics
import Derived.Test.YtenhicipgkjckaaJf
import Derived.Test.YtenhicipgkjckaaJu
namespace Go.Proofs.Ytenhicipgkjckaa.tapeSafe
open Go.ChangeShapes Go.WideShapes Go.ChangeAt Go.RowKit
set_option linter.unusedVariables false

theorem mAppend_len (H : List St) (b : List UInt8) : (mAppend H b).2.length ≤ H.length + 1 := by
  unfold mAppend
  split <;> simp
theorem mTrim_len (H : List St) (n : Int) : (mTrim H n).2.length ≤ H.length + 1 := by
  unfold mTrim
  split <;> simp
theorem mSync_len (H : List St) : (mSync H).2.length ≤ H.length + 1 := by
  unfold mSync
  simp
theorem mAct_len (o : Opn) (H : List St) : (mAct o H).2.length ≤ H.length + 1 := by
  unfold mAct
  split
  · exact mAppend_len _ _
  split
  · exact mSync_len _
  split
  · exact mTrim_len _ _
  · exact Nat.le_succ _
theorem lastS_app (H : List St) (x : St) : lastS (H ++ [x]) = x := by simp [lastS]

/-- Since the n-th call all that was there begins with l, has it safe, and is a beginning of what is there now. -/
def Gr (l : List UInt8) (n : Nat) (H : List St) : Prop := ∃ P Q, H = P ++ Q ∧ P.length = n ∧ Q ≠ [] ∧ ∀ x ∈ Q, l <+: x.1 ∧ l.length ≤ x.2 ∧ x.1 <+: (lastS H).1
theorem Gr.start (H : List St) (l : List UInt8) : Gr l H.length (H ++ [(l, l.length)]) :=
  ⟨H, [(l, l.length)], rfl, rfl, by simp, fun x hx => by
    rw [List.mem_singleton] at hx
    subst hx
    rw [lastS_app]
    exact ⟨List.prefix_refl _, Nat.le_refl _, List.prefix_refl _⟩⟩
theorem Gr.more {l : List UInt8} {n : Nat} {H : List St} (h : Gr l n H) {y : St} (h1 : (lastS H).1 <+: y.1) (h2 : l.length ≤ y.2) : Gr l n (H ++ [y]) := by
  obtain ⟨P, Q, e, hn, hQ, hx⟩ := h
  refine ⟨P, Q ++ [y], by rw [e, List.append_assoc], hn, by simp, fun x hxm => ?_⟩
  rw [lastS_app]
  rcases List.mem_append.1 hxm with hm | hm
  · obtain ⟨a, b, c⟩ := hx x hm
    exact ⟨a, b, c.trans h1⟩
  · rw [List.mem_singleton] at hm
    subst hm
    obtain ⟨q, hq⟩ := List.exists_mem_of_ne_nil Q hQ
    obtain ⟨a, b, c⟩ := hx q hq
    exact ⟨(a.trans c).trans h1, h2, List.prefix_refl _⟩
theorem Gr.last {l : List UInt8} {n : Nat} {H : List St} (h : Gr l n H) : l <+: (lastS H).1 ∧ l.length ≤ (lastS H).2 := by
  obtain ⟨P, Q, e, hn, hQ, hx⟩ := h
  have hm : lastS H ∈ Q := by
    have h2 : H.getLast? = Q.getLast? := by
      rw [e, List.getLast?_append]
      cases hq : Q.getLast? with
      | none => rw [List.getLast?_eq_none_iff] at hq; exact absurd hq hQ
      | some x => rfl
    unfold lastS
    rw [h2]
    cases hq : Q.getLast? with
    | none => rw [List.getLast?_eq_none_iff] at hq; exact absurd hq hQ
    | some x => exact List.mem_of_getLast? hq
  exact ⟨(hx _ hm).1, (hx _ hm).2.1⟩
theorem Gr.app {l : List UInt8} {n : Nat} {H : List St} (h : Gr l n H) (b : List UInt8) : Gr l n (mAppend H b).2 := by
  unfold mAppend
  split
  · exact h
  · exact h.more (List.prefix_append _ _) h.last.2
theorem Gr.sync {l : List UInt8} {n : Nat} {H : List St} (h : Gr l n H) : Gr l n (mSync H).2 := by
  unfold mSync
  exact h.more (List.prefix_refl _) h.last.1.length_le
theorem Gr.len {l : List UInt8} {n : Nat} {H : List St} (h : Gr l n H) : n < H.length := by
  obtain ⟨P, Q, e, hn, hQ, hx⟩ := h
  have := List.length_pos_iff.2 hQ
  rw [e, List.length_append]
  omega
theorem Gr.get {l : List UInt8} {n : Nat} {H : List St} (h : Gr l n H) {p : Nat} (hp : n + p < H.length) : ∃ x, H[n + p]? = some x ∧ x ∈ H ∧ l <+: x.1 ∧ l.length ≤ x.2 ∧ x.1 <+: (lastS H).1 := by
  obtain ⟨P, Q, e, hn, hQ, hx⟩ := h
  rw [e, List.length_append] at hp
  have h1 : H[n + p]? = some (Q[p]'(by omega)) := by
    rw [e, List.getElem?_append_right (by omega), ← List.getElem?_eq_getElem]
    congr 1
    omega
  exact ⟨_, h1, List.mem_of_getElem? h1, hx _ (List.getElem_mem _)⟩
theorem ent_Calls (args : Array Value) (w : World) : (callFunc 10 args).run Try.prog w = .ok (.enter 10 args) w := enters_of Try.func10 (by kernel_rfl) rfl args w
theorem ent_Cut (args : Array Value) (w : World) : (callFunc 12 args).run Try.prog w = .ok (.enter 12 args) w := enters_of Try.func12 (by kernel_rfl) rfl args w
/-- What a loss of power leaves. -/
theorem Gr.cut {l : List UInt8} {n : Nat} {H : List St} (h : Gr l n H) (ok : ∀ y ∈ H, y.2 ≤ y.1.length ∧ y.1.length ≤ 1048576) (hl : H.length ≤ 1000) {p : Nat} (hp : n + p < H.length) (torn : Int) :
    ∃ b : List UInt8, mCut H ((n : Int) + (p : Int)) torn = [(b, b.length)] ∧ l.length ≤ b.length ∧ b.length ≤ (lastS H).1.length ∧ b = (lastS H).1.take b.length ∧ b.take l.length = l := by
  obtain ⟨x, hx, hxm, h1, h2, h3⟩ := h.get hp
  have hxo := ok x hxm
  have hpk : pick ((n : Int) + (p : Int)) H.length = n + p := by
    unfold pick
    rw [if_neg (by omega), show ((n : Int) + (p : Int)).toNat = n + p by omega, Nat.mod_eq_of_lt hp]
  have hq := pick_lt torn (x.1.length - x.2 + 1) (by omega)
  generalize hqq : pick torn (x.1.length - x.2 + 1) = q at *
  have hlen : (x.1.take (x.2 + q)).length = x.2 + q := by rw [List.length_take]; omega
  obtain ⟨z, hz⟩ := h3
  obtain ⟨y, hy⟩ := h1
  refine ⟨x.1.take (x.2 + q), ?_, by omega, ?_, ?_, ?_⟩
  · rw [mCut_get (x := x) (by rw [hpk]; exact hx)]
    unfold cutOf
    rw [hqq, hlen]
  · rw [hlen, ← hz, List.length_append]; omega
  · rw [hlen, ← hz, List.take_append_of_le_length (by omega)]
  · rw [List.take_take, Nat.min_eq_left (by omega), ← hy, List.take_left]

set_option maxRecDepth 100000 in
set_option maxHeartbeats 3200000 in
theorem walk (W : World) (v0 v1 v2 : Value) (h0 : Okv Try.prog W 22 v0) (h1 : Okv Try.prog W 22 v1) (h2 : Okv Try.prog W 25 v2) :
    Calls Try.prog 3 #[v0, v1, v2] W fun e W' => e = .returned (.bool true) ∧ Below W.heap.size W W' := by
  obtain ⟨A, ca, L, rfl, hl, hM, hok⟩ := ops_arg h0
  obtain ⟨C, cc, D, rfl, hd, hN, hok2⟩ := ops_arg h1
  obtain ⟨⟨pk, pn, pm, pA, pb, pc⟩, rfl, pok⟩ := op_arg h2
  change Calls _ _ #[_, _, .agg #[.int .i64 pk, .int .i64 pn, .int .i64 pm, .slice pA pb.length pc]] _ _
  have hn63 : L.length ≤ 9223372036854775807 := by unfold maxLen at hl; omega
  have hd63 : D.length ≤ 9223372036854775807 := by unfold maxLen at hd; omega
  have kb := (Chg.refl Non W).alloc (.cells #[.int .i64 pk, .int .i64 pn, .int .i64 pm, .slice pA pb.length pc] 25)
  have bx := Hb.new W 25 #[.int .i64 pk, .int .i64 pn, .int .i64 pm, .slice pA pb.length pc]
  have fin : ∀ w, Chg Non (W.alloc (.cells #[.int .i64 pk, .int .i64 pn, .int .i64 pm, .slice pA pb.length pc] 25)) w → Below W.heap.size W w := fun w k => (kb.trans k (fun _ f => .inl f)).below (Nat.le_refl _) (fun _ f => f.elim)
  have hb0 := fin _ (Chg.refl _ _)
  have HM := Lib.hid (lstM_below hM hb0)
  have HN := Lib.hid (lstM_below hN hb0)
  have HOKS := Lib.hid (fun o (ho : o ∈ L) => (hok o ho).below hb0)
  have HOKD := Lib.hid (fun o (ho : o ∈ D) => (hok2 o ho).below hb0)
  have pn1 : -9223372036854775808 ≤ pn := pok.n1
  have pn2 : pn ≤ 9223372036854775807 := pok.n2
  have pm1 : -9223372036854775808 ≤ pm := pok.m1
  have pm2 : pm ≤ 9223372036854775807 := pok.m2
  clear h0 h1 h2 hM hN hok hok2 pok hb0 kb
  go_enter Try.func3, Try.ntmps3
  go_wp2_with fail
  refine (New_any _).mono ?_
  rintro e w1 ⟨rfl, t1, k1⟩
  obtain ⟨W0, hW0⟩ : ∃ W0, W.alloc (.cells #[.int .i64 pk, .int .i64 pn, .int .i64 pm, .slice pA pb.length pc] 25) = W0 := ⟨_, rfl⟩
  rw [hW0] at t1 k1 bx fin HM HN HOKS HOKD ⊢
  clear hW0
  go_wp2_with fail
  refine (alive_any _).mono ?_
  rintro e w2 ⟨rfl, k2⟩
  have t2 := t1.chg k2 (fun _ _ f => f)
  have hs1 : W0.heap.size < w2.heap.size := t2.lt _ rfl
  go_wp2_with fail
  refine (rNew_any _).mono ?_
  rintro e w3 ⟨rfl, r3, k3⟩
  have t3 := t2.chg k3 (fun _ _ f => f)
  have B3 : Hid (Bo W0 w3 W0.heap.size (fun j => j = W0.heap.size) (w2.heap.size + 1) (fun j => w2.heap.size ≤ j ∧ j < w2.heap.size + 2) [([], 0)]) := Lib.hid ⟨t3, r3, fun j h1 h2 => by omega, fun j hj => by omega, fun j hj => by omega, (k1.trans k2 (fun _ f => .inl f)).trans k3 (fun _ f => .inl f)⟩
  clear t1 t2 t3 r3 k1 k2 k3
  generalize W0.heap.size = g at *
  generalize w2.heap.size + 1 = m at *
  have BX := Lib.hid bx
  clear bx
  go_wp2_with fail
  go_loopw [9] (fun i wr => ∃ (k : Nat) (F : Nat → Prop) (G : Nat → Prop) (H : List St), k ≤ L.length ∧ k ≤ 60 ∧ i = .int .i64 (k : Int) ∧ Hid (Bo W0 wr g F m G H) ∧ Hid (H.length ≤ k + 1)) (fun i _ => 60 - (intOf i).toNat)
  case atStart => exact ⟨0, _, _, _, by omega, by omega, rfl, B3, Lib.hid (by simp)⟩
  case round =>
    obtain ⟨k, F, G, H, hkL, hk60, rfl, B, HL⟩ := hrel
    clear B3
    by_cases hgo : k < L.length ∧ k < 60
    · obtain ⟨hkl, hk⟩ := hgo
      have hkl' : (k : Int) < (L.length : Int) := by omega
      have hk' : decide ((k : Int) < 60) = true := by simp; omega
      obtain ⟨o, ho⟩ : ∃ o, L[k]? = some o := ⟨_, List.getElem?_eq_getElem hkl⟩
      have OOK := Lib.hid (HOKS.out o (List.mem_of_getElem? ho))
      obtain ⟨eb, eo, rfl, hlt, hrg⟩ := (lstM_below HM.out (B.out.K.below (Nat.le_refl _) (fun _ f => f.elim))) k o ho
      obtain ⟨ok, on, om, oA, ob, oc⟩ := o
      have d0 := (rangeAt_cons hrg).1
      have d1 := (rangeAt_cons (rangeAt_cons hrg).2).1
      have d2 := (rangeAt_cons (rangeAt_cons (rangeAt_cons hrg).2).2).1
      have d3 := (rangeAt_cons (rangeAt_cons (rangeAt_cons (rangeAt_cons hrg).2).2).2).1
      simp only at d0 d1 d2 d3
      clear hrg ho
      by_cases hbig : 1000 < ob.length
      · have hbig' : ¬ (ob.length : Int) ≤ 1000 := by omega
        go_wp2_with fail
        go_roundw
        case rel => exact ⟨k + 1, F, G, H, by omega, by omega, by go_num, B, Lib.hid (by have := HL.out; omega)⟩
        case measure => simp [intOf]; omega
      · have hbig' : (ob.length : Int) ≤ 1000 := by omega
        go_wp2_with fail
        refine (act_any W0 _ g F m G H B.out ⟨ok, on, om, oA, ob, oc⟩ OOK.out (by have := HL.out; omega)).mono ?_
        rintro e w8 ⟨rfl, F8, G8, b8⟩
        have HL8 : Hid ((mAct ⟨ok, on, om, oA, ob, oc⟩ H).2.length ≤ H.length + 1) := Lib.hid (mAct_len _ _)
        have B8 := Lib.hid b8
        clear b8
        generalize (mAct ⟨ok, on, om, oA, ob, oc⟩ H).1 = code at *
        generalize (mAct ⟨ok, on, om, oA, ob, oc⟩ H).2 = H8 at *
        go_wp2_with fail
        go_roundw
        case rel => exact ⟨k + 1, F8, G8, H8, by omega, by omega, by go_num, B8, Lib.hid (by have := HL.out; have := HL8.out; omega)⟩
        case measure => simp [intOf]; omega
    · by_cases hkl : k < L.length
      · have hk : ¬ k < 60 := fun h => hgo ⟨hkl, h⟩
        have hkl' : (k : Int) < (L.length : Int) := by omega
        have hk' : decide ((k : Int) < 60) = false := by simp; omega
        go_wp2_with fail
        refine (Sync_any _ _ _ _ B.out.t (by have := HL.out; omega)).mono ?_
        rintro e w4 ⟨rfl, k4, F4, t4, hF4⟩
        have fW4 : ∀ j, F4 j → W0.heap.size ≤ j := fun j hj => by
          rcases hF4 j hj with h | h
          · exact B.out.fw j h
          · exact Nat.le_trans B.out.K.size h
        have K4 := B.out.K.trans k4 (fun j hj => .inr (B.out.fw j hj))
        have HL4 : Hid (H.length ≤ 61) := Lib.hid (by have := HL.out; omega)
        have hsy : mSync H = (0, H ++ [((lastS H).1, (lastS H).1.length)]) := rfl
        rw [hsy] at t4 ⊢
        have GR0 := Lib.hid (Gr.start H (lastS H).1)
        go_wp2_with fail
        refine (Read_any _ _ _ _ t4).mono ?_
        rintro e w5 ⟨v5, rfl, o5, b5, k5⟩
        rw [lastS_app] at o5
        have t5 := t4.chg k5 (fun _ _ f => f)
        have K5 := K4.trans k5 (fun _ f => .inl f)
        obtain ⟨As, cs, rfl, hlc, hcm, _⟩ := o5.slice
        have hap5 : ∀ j, vbl (.slice As (lastS H).1.length cs) j → ¬ F4 j := fun j h1 h2 => by have := b5 j h1; have := t4.lt j h2; omega
        have hll := (t5.ok _ (lastS_mem t5.pos)).2
        rw [lastS_app] at hll
        go_wp2_with fail
        refine (Calls_any _ _ _ _ t5).mono ?_
        rintro e w6 ⟨rfl, hw6⟩
        subst hw6
        rw [List.length_append, List.length_singleton, Nat.add_sub_cancel]
        have L0 : Hid (TP w6 g F4 (H ++ [((lastS H).1, (lastS H).1.length)])) := Lib.hid t5
        have O0 : Hid (Own 5 w6 (.slice As (lastS H).1.length cs) (lastS H).1) := Lib.hid o5
        have X0 := Lib.hid hap5
        have FW0 := Lib.hid fW4
        have K0 := Lib.hid K5
        have HLS : Hid ((H ++ [((lastS H).1, (lastS H).1.length)]).length ≤ 62) := Lib.hid (by have := HL4.out; simp; omega)
        clear t4 k4 hF4 o5 b5 k5 t5 hap5 fW4 K4 K5 B HL hsy
        generalize (lastS H).1 = l at *
        generalize (H ++ [(l, l.length)]) = H1 at *
        generalize H.length = n0 at *
        go_wp2_with fail
        go_loopw [12] (fun i wr => ∃ (k : Nat) (F : Nat → Prop) (HX : List St), k ≤ D.length ∧ k ≤ 60 ∧ i = .int .i64 (k : Int) ∧ Hid (TP wr g F HX) ∧ Hid (Own 5 wr (.slice As l.length cs) l) ∧ Hid (∀ j, vbl (.slice As l.length cs) j → ¬ F j) ∧ Hid (∀ j, F j → W0.heap.size ≤ j) ∧ Hid (Chg Non W0 wr) ∧ Hid (Gr l n0 HX) ∧ Hid (HX.length ≤ k + 62)) (fun i _ => 60 - (intOf i).toNat)
        case atStart => exact ⟨0, F4, H1, by omega, by omega, rfl, L0, O0, X0, FW0, K0, GR0, Lib.hid (by have := HLS.out; omega)⟩
        case round =>
          obtain ⟨k, F, HX, hkD, hk60', rfl, TX, OS, XS, FS, KX, GR, HLX⟩ := hrel
          clear L0 O0 X0 FW0 K0 GR0
          by_cases hgo2 : k < D.length ∧ k < 60
          · obtain ⟨hkl, hk⟩ := hgo2
            have hkl' : (k : Int) < (D.length : Int) := by omega
            have hk' : decide ((k : Int) < 60) = true := by simp; omega
            obtain ⟨o, ho⟩ : ∃ o, D[k]? = some o := ⟨_, List.getElem?_eq_getElem hkl⟩
            have OOK := Lib.hid (HOKD.out o (List.mem_of_getElem? ho))
            obtain ⟨eb, eo, rfl, hlt, hrg⟩ := (lstM_below HN.out (KX.out.below (Nat.le_refl _) (fun _ f => f.elim))) k o ho
            obtain ⟨ok, on, om, oA, ob, oc⟩ := o
            have d0 := (rangeAt_cons hrg).1
            have d3 := (rangeAt_cons (rangeAt_cons (rangeAt_cons (rangeAt_cons hrg).2).2).2).1
            simp only at d0 d3
            have hebW : eb < W0.heap.size := by
              obtain ⟨eb', eo', e', h', _⟩ := HN.out k _ ho
              injection e' with e'
              injection e' with e1 _
              omega
            have HRG := Lib.hid hrg
            clear hrg ho
            by_cases h1 : ok = 1
            · subst h1
              by_cases hbig : 1000 < ob.length
              · have hbig' : decide ((ob.length : Int) ≤ 1000) = false := by simp; omega
                go_wp2_with fail
                go_roundw
                case rel => exact ⟨k + 1, F, HX, by omega, by omega, by go_num, TX, OS, XS, FS, KX, GR, Lib.hid (by have := HLX.out; omega)⟩
                case measure => simp [intOf]; omega
              · have hbig' : decide ((ob.length : Int) ≤ 1000) = true := by simp; omega
                go_wp2_with fail
                refine (Append_any _ _ _ _ TX.out oA ob.length oc ob rfl OOK.out.bl (OOK.out.rd.chg KX.out (fun _ _ f => f)) (by have := HLX.out; omega)).mono ?_
                rintro e w8 ⟨rfl, k8, F8, t8, hF8⟩
                have TX8 := Lib.hid t8
                have OS8 := Lib.hid (OS.out.chg k8 (fun j hj => XS.out j hj))
                have XS8 : Hid (∀ j, vbl (.slice As l.length cs) j → ¬ F8 j) := Lib.hid (fun j h1 h2 => by
                  rcases hF8 j h2 with h | h
                  · exact XS.out j h1 h
                  · have := own_lt OS.out j h1; omega)
                have FS8 : Hid (∀ j, F8 j → W0.heap.size ≤ j) := Lib.hid (fun j hj => by
                  rcases hF8 j hj with h | h
                  · exact FS.out j h
                  · exact Nat.le_trans KX.out.size h)
                have KX8 := Lib.hid (KX.out.trans k8 (fun j hj => .inr (FS.out j hj)))
                have GR8 := Lib.hid (GR.out.app ob)
                have HL8 : Hid ((mAppend HX ob).2.length ≤ HX.length + 1) := Lib.hid (mAppend_len _ _)
                have y0 : w8.cell? ⟨eb, eo + k * 4, none⟩ = some (.int .i64 1) := k8.cell d0 (fun h => by have := FS.out _ h; simp at this; omega)
                clear t8 k8 hF8
                generalize (mAppend HX ob).1 = code at *
                generalize (mAppend HX ob).2 = H8 at *
                go_wp2_with fail
                go_roundw
                case rel => exact ⟨k + 1, F8, H8, by omega, by omega, by go_num, TX8, OS8, XS8, FS8, KX8, GR8, Lib.hid (by have := HL8.out; have := HLX.out; omega)⟩
                case measure => simp [intOf]; omega
            have h1' : (ok == 1) = false := by simpa using h1
            by_cases h2 : ok = 2
            · subst h2
              go_wp2_with fail
              refine (Sync_any _ _ _ _ TX.out (by have := HLX.out; omega)).mono ?_
              rintro e w8 ⟨rfl, k8, F8, t8, hF8⟩
              have TX8 := Lib.hid t8
              have OS8 := Lib.hid (OS.out.chg k8 (fun j hj => XS.out j hj))
              have XS8 : Hid (∀ j, vbl (.slice As l.length cs) j → ¬ F8 j) := Lib.hid (fun j h1 h2 => by
                rcases hF8 j h2 with h | h
                · exact XS.out j h1 h
                · have := own_lt OS.out j h1; omega)
              have FS8 : Hid (∀ j, F8 j → W0.heap.size ≤ j) := Lib.hid (fun j hj => by
                rcases hF8 j hj with h | h
                · exact FS.out j h
                · exact Nat.le_trans KX.out.size h)
              have KX8 := Lib.hid (KX.out.trans k8 (fun j hj => .inr (FS.out j hj)))
              have GR8 := Lib.hid (GR.out.sync)
              have HL8 : Hid ((mSync HX).2.length ≤ HX.length + 1) := Lib.hid (mSync_len _)
              clear t8 k8 hF8
              generalize (mSync HX).1 = code at *
              generalize (mSync HX).2 = H8 at *
              go_wp2_with fail
              go_roundw
              case rel => exact ⟨k + 1, F8, H8, by omega, by omega, by go_num, TX8, OS8, XS8, FS8, KX8, GR8, Lib.hid (by have := HL8.out; have := HLX.out; omega)⟩
              case measure => simp [intOf]; omega
            have h2' : (ok == 2) = false := by simpa using h2
            go_wp2_with fail
            go_roundw
            case rel => exact ⟨k + 1, F, HX, by omega, by omega, by go_num, TX, OS, XS, FS, KX, GR, Lib.hid (by have := HLX.out; omega)⟩
            case measure => simp [intOf]; omega
          · by_cases hkl : k < D.length
            · have hk : ¬ k < 60 := fun h => hgo2 ⟨hkl, h⟩
              have hkl' : (k : Int) < (D.length : Int) := by omega
              have hk' : decide ((k : Int) < 60) = false := by simp; omega
              go_wp2_with fail
              refine (Read_any _ _ _ _ TX.out).mono ?_
              rintro e wB ⟨vB, rfl, oB, bB, kB⟩
              obtain ⟨dd, hdd⟩ : ∃ dd, HX.length = n0 + dd + 1 := ⟨HX.length - n0 - 1, by have := GR.out.len; omega⟩
              have T2D := Lib.hid ((TX.out.chg kB (fun _ _ f => f)).chg ((Chg.refl Non wB).drew) (fun _ _ f => f))
              have KB := Lib.hid (KX.out.trans kB (fun _ f => .inl f))
              have OS2 := Lib.hid (OS.out.chg kB (fun _ _ f => f))
              have hbW := BX.out.lt
              have yN : wB.cell? ⟨W.heap.size, 1, none⟩ = some (.int .i64 pn) := (BX.out.chg KB.out (fun f => f)).cell 1
              have yM : wB.cell? ⟨W.heap.size, 2, none⟩ = some (.int .i64 pm) := (BX.out.chg KB.out (fun f => f)).cell 2
              have HCN : Hid (∀ u, TP u g F HX → Calls Try.prog 10 #[.pointer (some ⟨g, 0, none⟩)] u fun e w' => e = .returned (.int .i64 ((n0 : Int) + (dd : Int))) ∧ w' = u) := Lib.hid (fun u t => by
                have := Calls_any u g F HX t
                rw [hdd, Nat.add_sub_cancel, show ((n0 + dd : Nat) : Int) = (n0 : Int) + (dd : Int) by omega] at this
                exact this)
              have hpl := pick_lt pn (dd + 1) (by omega)
              have hn60 : n0 + dd ≤ 1000 := by have := HLX.out; omega
              have HCT := fun (p : Nat) (hp : p < dd + 1) => GR.out.cut TX.out.ok (by have := HLX.out; omega) (p := p) (by omega) pm
              have e1 := pick_pos pn (dd + 1)
              have e2 := pick_neg pn (dd + 1)
              rw [show ((dd + 1 : Nat) : Int) = (dd : Int) + 1 by omega] at e1 e2
              obtain ⟨b, hb1, hb2, hb3, hb4, hb5⟩ := HCT _ hpl
              have HCUT : Hid (∀ u, TP u g F HX → Calls Try.prog 12 #[.pointer (some ⟨g, 0, none⟩), .int .i64 ((n0 : Int) + (pick pn (dd + 1) : Int)), .int .i64 pm] u fun e w' => ∃ g' F', e = .returned (.pointer (some ⟨g', 0, none⟩)) ∧ TP w' g' F' [(b, b.length)] ∧ (∀ j, F' j → u.heap.size ≤ j) ∧ Chg Non u w') := Lib.hid (fun u t => by
                have := Cut_any u g F HX t ((n0 : Int) + (pick pn (dd + 1) : Int)) pm (by omega) (by omega) pm1 pm2 (by have := HLX.out; omega)
                rw [hb1] at this
                exact this)
              have hlm := (TX.out.ok _ (lastS_mem TX.out.pos)).2
              generalize pick pn (dd + 1) = p at *
              generalize (lastS HX).1 = all at *
              obtain ⟨Aa, ca2, hvB, hlca, _, ra, _⟩ := oB.slice
              subst hvB
              have RA := Lib.hid (ra.take b.length)
              have HB4 := Lib.hid hb4
              have HB5 := Lib.hid hb5
              clear bB oB kB TX OS KX GR HLX HCT hb1 ra hb4 hb5
              have e3 : (if pn < 0 then -(pn + 1) else pn).tmod ((dd : Int) + 1) = (p : Int) := by
                split
                · exact e2 (by assumption)
                · exact e1 (by assumption)
              have g1 : IntKind.i64.wrap ((n0 : Int) + (dd : Int) - (n0 : Int)) = (dd : Int) := by rw [IntKind.wrap_i64]; omega
              have g2 : IntKind.i64.wrap ((dd : Int) + 1) = (dd : Int) + 1 := by rw [IntKind.wrap_i64]; omega
              have g3 : ¬ ((dd : Int) + 1 = 0) := by omega
              have g4 : IntKind.i64.wrap ((n0 : Int) + (p : Int)) = (n0 : Int) + (p : Int) := by rw [IntKind.wrap_i64]; omega
              have E3 := Lib.hid e3
              have G1 := Lib.hid g1
              have G2 := Lib.hid g2
              have G3 := Lib.hid g3
              have G4 := Lib.hid g4
              clear e1 e2 e3 g1 g2 g3 g4
              go_upto_if 100 with fail
              go_cut [14] from 101 to 103 (fun s14 wx => s14 = .int .i64 (if pn < 0 then -(pn + 1) else pn) ∧ wx = wB)
              case first =>
                by_cases hneg : pn < 0
                · go_wp2_with fail
                  go_meet
                  exact ⟨by rw [if_pos hneg], rfl⟩
                · go_wp2_with fail
                  go_meet
                  exact ⟨by rw [if_neg (by omega)], rfl⟩
              case rest =>
              obtain ⟨hs14, hw14⟩ := hcut
              subst hs14
              obtain rfl : wB = wc := hw14.symm
              generalize (if pn < 0 then -(pn + 1) else pn) = aa at *
              have e3 := E3.out
              have g1 := G1.out
              have g2 := G2.out
              have g3 := G3.out
              have g4 := G4.out
              go_upto_region 24 with fail
              go_cut [15] from 104 to 116 (fun s15 wx => ∃ gx Fx, s15 = .pointer (some ⟨gx, 0, none⟩) ∧ TP wx gx Fx [(b, b.length)] ∧ Chg Non wB wx)
              case first =>
                refine wp_region_still_tail 12 (by kernel_rfl) (by kernel_rfl) ?_
                simp only [List.take_succ_cons, List.take_zero, List.drop_succ_cons, List.drop_zero]
                iterate 4 still_step
                still_call (HCN.out _ T2D.out)
                repeat still_step
                refine wpStill_nil ?_
                change wpList _ _ _ _ _ wB.drew
                go_wp2_with (go_at_call 12; refine (HCUT.out _ T2D.out).mono ?_; rintro e wC ⟨gx, Fx, rfl, tx, hFx, kC⟩)
                all_goals
                  go_wp2_with fail
                  go_meet
                  exact ⟨gx, Fx, rfl, tx, ((Chg.refl Non wB).drew).trans kC (fun _ f => .inl f)⟩
              case rest =>
              obtain ⟨gx, Fx, hs15, tx, kC⟩ := hcut
              subst hs15
              have OS3 := Lib.hid (OS2.out.chg kC (fun _ _ f => f))
              have RA3 := Lib.hid (RA.out.chg kC (fun _ _ f => f))
              have KC := Lib.hid (KB.out.trans kC (fun _ f => .inl f))
              clear kC e3 g1 g2 g3 g4
              go_wp2_with fail
              refine (Read_any _ _ _ _ tx).mono ?_
              rintro e wR ⟨vR, rfl, oR, bR, kR⟩
              have oR' : Own 5 wR vR b := oR
              obtain ⟨AX, cX, hvR, hcX, _, rX, _⟩ := oR'.slice
              subst hvR
              have txR := Lib.hid (tx.chg kR (fun _ _ f => f))
              have RAR := RA3.out.chg kR (fun _ _ f => f)
              have OSR := OS3.out.chg kR (fun _ _ f => f)
              have KR := Lib.hid (KC.out.trans kR (fun _ f => .inl f))
              have rs : Rd wR As l := by
                obtain ⟨A', c', e', _, _, r', _⟩ := OSR.slice
                injection e' with e' _ _
                subst e'
                exact r'
              have S1 := same_any wR AX Aa b.length b.length cX ca2 b (all.take b.length) rfl (by rw [List.length_take]; omega) rX RAR
              rw [decide_eq_true HB4.out] at S1
              have S2 := same_any wR AX As l.length l.length cX cs (b.take l.length) l (by rw [List.length_take]; omega) rfl (rX.take _) rs
              rw [decide_eq_true HB5.out] at S2
              have S3 := Safe_any wR gx Fx _ txR.out
              rw [show (lastS [(b, b.length)]).2 = b.length from rfl] at S3
              have S4 : Calls Try.prog 10 #[.pointer (some ⟨gx, 0, none⟩)] wR fun e w' => e = .returned (.int .i64 0) ∧ w' = wR := Calls_any wR gx Fx _ txR.out
              have q1 : decide ((l.length : Int) ≤ (b.length : Int)) = true := by simp; omega
              have q2 : decide ((b.length : Int) ≤ (all.length : Int)) = true := by simp; omega
              have q3 : (b.length : Int) ≤ (ca2 : Int) := by omega
              have q4 : (l.length : Int) ≤ (cX : Int) := by omega
              have q5 : b.length ≤ all.length := hb3
              have q6 : l.length ≤ b.length := hb2
              have HS1 := Lib.hid S1
              have HS2 := Lib.hid S2
              have HS3 := Lib.hid S3
              have HS4 := Lib.hid S4
              clear tx oR oR' bR kR RAR OSR rs rX S1 S2 S3 S4 OS3 RA3 KC HB4 HB5
              go_wp2_with (first
                | (go_at_call 13; refine HS1.out.mono ?_; rintro e w5 ⟨rfl, rfl⟩)
                | (go_at_call 13; refine HS2.out.mono ?_; rintro e w5 ⟨rfl, rfl⟩)
                | (go_at_call 14; refine HS3.out.mono ?_; rintro e w5 ⟨rfl, rfl⟩)
                | (go_at_call 10; refine HS4.out.mono ?_; rintro e w5 ⟨rfl, rfl⟩))
              go_ret
              exact ⟨rfl, fin _ KR.out⟩
            · have hkl' : ¬ (k : Int) < (D.length : Int) := by omega
              go_wp2_with fail
              refine (Read_any _ _ _ _ TX.out).mono ?_
              rintro e wB ⟨vB, rfl, oB, bB, kB⟩
              obtain ⟨dd, hdd⟩ : ∃ dd, HX.length = n0 + dd + 1 := ⟨HX.length - n0 - 1, by have := GR.out.len; omega⟩
              have T2D := Lib.hid ((TX.out.chg kB (fun _ _ f => f)).chg ((Chg.refl Non wB).drew) (fun _ _ f => f))
              have KB := Lib.hid (KX.out.trans kB (fun _ f => .inl f))
              have OS2 := Lib.hid (OS.out.chg kB (fun _ _ f => f))
              have hbW := BX.out.lt
              have yN : wB.cell? ⟨W.heap.size, 1, none⟩ = some (.int .i64 pn) := (BX.out.chg KB.out (fun f => f)).cell 1
              have yM : wB.cell? ⟨W.heap.size, 2, none⟩ = some (.int .i64 pm) := (BX.out.chg KB.out (fun f => f)).cell 2
              have HCN : Hid (∀ u, TP u g F HX → Calls Try.prog 10 #[.pointer (some ⟨g, 0, none⟩)] u fun e w' => e = .returned (.int .i64 ((n0 : Int) + (dd : Int))) ∧ w' = u) := Lib.hid (fun u t => by
                have := Calls_any u g F HX t
                rw [hdd, Nat.add_sub_cancel, show ((n0 + dd : Nat) : Int) = (n0 : Int) + (dd : Int) by omega] at this
                exact this)
              have hpl := pick_lt pn (dd + 1) (by omega)
              have hn60 : n0 + dd ≤ 1000 := by have := HLX.out; omega
              have HCT := fun (p : Nat) (hp : p < dd + 1) => GR.out.cut TX.out.ok (by have := HLX.out; omega) (p := p) (by omega) pm
              have e1 := pick_pos pn (dd + 1)
              have e2 := pick_neg pn (dd + 1)
              rw [show ((dd + 1 : Nat) : Int) = (dd : Int) + 1 by omega] at e1 e2
              obtain ⟨b, hb1, hb2, hb3, hb4, hb5⟩ := HCT _ hpl
              have HCUT : Hid (∀ u, TP u g F HX → Calls Try.prog 12 #[.pointer (some ⟨g, 0, none⟩), .int .i64 ((n0 : Int) + (pick pn (dd + 1) : Int)), .int .i64 pm] u fun e w' => ∃ g' F', e = .returned (.pointer (some ⟨g', 0, none⟩)) ∧ TP w' g' F' [(b, b.length)] ∧ (∀ j, F' j → u.heap.size ≤ j) ∧ Chg Non u w') := Lib.hid (fun u t => by
                have := Cut_any u g F HX t ((n0 : Int) + (pick pn (dd + 1) : Int)) pm (by omega) (by omega) pm1 pm2 (by have := HLX.out; omega)
                rw [hb1] at this
                exact this)
              have hlm := (TX.out.ok _ (lastS_mem TX.out.pos)).2
              generalize pick pn (dd + 1) = p at *
              generalize (lastS HX).1 = all at *
              obtain ⟨Aa, ca2, hvB, hlca, _, ra, _⟩ := oB.slice
              subst hvB
              have RA := Lib.hid (ra.take b.length)
              have HB4 := Lib.hid hb4
              have HB5 := Lib.hid hb5
              clear bB oB kB TX OS KX GR HLX HCT hb1 ra hb4 hb5
              have e3 : (if pn < 0 then -(pn + 1) else pn).tmod ((dd : Int) + 1) = (p : Int) := by
                split
                · exact e2 (by assumption)
                · exact e1 (by assumption)
              have g1 : IntKind.i64.wrap ((n0 : Int) + (dd : Int) - (n0 : Int)) = (dd : Int) := by rw [IntKind.wrap_i64]; omega
              have g2 : IntKind.i64.wrap ((dd : Int) + 1) = (dd : Int) + 1 := by rw [IntKind.wrap_i64]; omega
              have g3 : ¬ ((dd : Int) + 1 = 0) := by omega
              have g4 : IntKind.i64.wrap ((n0 : Int) + (p : Int)) = (n0 : Int) + (p : Int) := by rw [IntKind.wrap_i64]; omega
              have E3 := Lib.hid e3
              have G1 := Lib.hid g1
              have G2 := Lib.hid g2
              have G3 := Lib.hid g3
              have G4 := Lib.hid g4
              clear e1 e2 e3 g1 g2 g3 g4
              go_upto_if 100 with fail
              go_cut [14] from 101 to 103 (fun s14 wx => s14 = .int .i64 (if pn < 0 then -(pn + 1) else pn) ∧ wx = wB)
              case first =>
                by_cases hneg : pn < 0
                · go_wp2_with fail
                  go_meet
                  exact ⟨by rw [if_pos hneg], rfl⟩
                · go_wp2_with fail
                  go_meet
                  exact ⟨by rw [if_neg (by omega)], rfl⟩
              case rest =>
              obtain ⟨hs14, hw14⟩ := hcut
              subst hs14
              obtain rfl : wB = wc := hw14.symm
              generalize (if pn < 0 then -(pn + 1) else pn) = aa at *
              have e3 := E3.out
              have g1 := G1.out
              have g2 := G2.out
              have g3 := G3.out
              have g4 := G4.out
              go_upto_region 24 with fail
              go_cut [15] from 104 to 116 (fun s15 wx => ∃ gx Fx, s15 = .pointer (some ⟨gx, 0, none⟩) ∧ TP wx gx Fx [(b, b.length)] ∧ Chg Non wB wx)
              case first =>
                refine wp_region_still_tail 12 (by kernel_rfl) (by kernel_rfl) ?_
                simp only [List.take_succ_cons, List.take_zero, List.drop_succ_cons, List.drop_zero]
                iterate 4 still_step
                still_call (HCN.out _ T2D.out)
                repeat still_step
                refine wpStill_nil ?_
                change wpList _ _ _ _ _ wB.drew
                go_wp2_with (go_at_call 12; refine (HCUT.out _ T2D.out).mono ?_; rintro e wC ⟨gx, Fx, rfl, tx, hFx, kC⟩)
                all_goals
                  go_wp2_with fail
                  go_meet
                  exact ⟨gx, Fx, rfl, tx, ((Chg.refl Non wB).drew).trans kC (fun _ f => .inl f)⟩
              case rest =>
              obtain ⟨gx, Fx, hs15, tx, kC⟩ := hcut
              subst hs15
              have OS3 := Lib.hid (OS2.out.chg kC (fun _ _ f => f))
              have RA3 := Lib.hid (RA.out.chg kC (fun _ _ f => f))
              have KC := Lib.hid (KB.out.trans kC (fun _ f => .inl f))
              clear kC e3 g1 g2 g3 g4
              go_wp2_with fail
              refine (Read_any _ _ _ _ tx).mono ?_
              rintro e wR ⟨vR, rfl, oR, bR, kR⟩
              have oR' : Own 5 wR vR b := oR
              obtain ⟨AX, cX, hvR, hcX, _, rX, _⟩ := oR'.slice
              subst hvR
              have txR := Lib.hid (tx.chg kR (fun _ _ f => f))
              have RAR := RA3.out.chg kR (fun _ _ f => f)
              have OSR := OS3.out.chg kR (fun _ _ f => f)
              have KR := Lib.hid (KC.out.trans kR (fun _ f => .inl f))
              have rs : Rd wR As l := by
                obtain ⟨A', c', e', _, _, r', _⟩ := OSR.slice
                injection e' with e' _ _
                subst e'
                exact r'
              have S1 := same_any wR AX Aa b.length b.length cX ca2 b (all.take b.length) rfl (by rw [List.length_take]; omega) rX RAR
              rw [decide_eq_true HB4.out] at S1
              have S2 := same_any wR AX As l.length l.length cX cs (b.take l.length) l (by rw [List.length_take]; omega) rfl (rX.take _) rs
              rw [decide_eq_true HB5.out] at S2
              have S3 := Safe_any wR gx Fx _ txR.out
              rw [show (lastS [(b, b.length)]).2 = b.length from rfl] at S3
              have S4 : Calls Try.prog 10 #[.pointer (some ⟨gx, 0, none⟩)] wR fun e w' => e = .returned (.int .i64 0) ∧ w' = wR := Calls_any wR gx Fx _ txR.out
              have q1 : decide ((l.length : Int) ≤ (b.length : Int)) = true := by simp; omega
              have q2 : decide ((b.length : Int) ≤ (all.length : Int)) = true := by simp; omega
              have q3 : (b.length : Int) ≤ (ca2 : Int) := by omega
              have q4 : (l.length : Int) ≤ (cX : Int) := by omega
              have q5 : b.length ≤ all.length := hb3
              have q6 : l.length ≤ b.length := hb2
              have HS1 := Lib.hid S1
              have HS2 := Lib.hid S2
              have HS3 := Lib.hid S3
              have HS4 := Lib.hid S4
              clear tx oR oR' bR kR RAR OSR rs rX S1 S2 S3 S4 OS3 RA3 KC HB4 HB5
              go_wp2_with (first
                | (go_at_call 13; refine HS1.out.mono ?_; rintro e w5 ⟨rfl, rfl⟩)
                | (go_at_call 13; refine HS2.out.mono ?_; rintro e w5 ⟨rfl, rfl⟩)
                | (go_at_call 14; refine HS3.out.mono ?_; rintro e w5 ⟨rfl, rfl⟩)
                | (go_at_call 10; refine HS4.out.mono ?_; rintro e w5 ⟨rfl, rfl⟩))
              go_ret
              exact ⟨rfl, fin _ KR.out⟩
      · have hkl' : ¬ (k : Int) < (L.length : Int) := by omega
        go_wp2_with fail
        refine (Sync_any _ _ _ _ B.out.t (by have := HL.out; omega)).mono ?_
        rintro e w4 ⟨rfl, k4, F4, t4, hF4⟩
        have fW4 : ∀ j, F4 j → W0.heap.size ≤ j := fun j hj => by
          rcases hF4 j hj with h | h
          · exact B.out.fw j h
          · exact Nat.le_trans B.out.K.size h
        have K4 := B.out.K.trans k4 (fun j hj => .inr (B.out.fw j hj))
        have HL4 : Hid (H.length ≤ 61) := Lib.hid (by have := HL.out; omega)
        have hsy : mSync H = (0, H ++ [((lastS H).1, (lastS H).1.length)]) := rfl
        rw [hsy] at t4 ⊢
        have GR0 := Lib.hid (Gr.start H (lastS H).1)
        go_wp2_with fail
        refine (Read_any _ _ _ _ t4).mono ?_
        rintro e w5 ⟨v5, rfl, o5, b5, k5⟩
        rw [lastS_app] at o5
        have t5 := t4.chg k5 (fun _ _ f => f)
        have K5 := K4.trans k5 (fun _ f => .inl f)
        obtain ⟨As, cs, rfl, hlc, hcm, _⟩ := o5.slice
        have hap5 : ∀ j, vbl (.slice As (lastS H).1.length cs) j → ¬ F4 j := fun j h1 h2 => by have := b5 j h1; have := t4.lt j h2; omega
        have hll := (t5.ok _ (lastS_mem t5.pos)).2
        rw [lastS_app] at hll
        go_wp2_with fail
        refine (Calls_any _ _ _ _ t5).mono ?_
        rintro e w6 ⟨rfl, hw6⟩
        subst hw6
        rw [List.length_append, List.length_singleton, Nat.add_sub_cancel]
        have L0 : Hid (TP w6 g F4 (H ++ [((lastS H).1, (lastS H).1.length)])) := Lib.hid t5
        have O0 : Hid (Own 5 w6 (.slice As (lastS H).1.length cs) (lastS H).1) := Lib.hid o5
        have X0 := Lib.hid hap5
        have FW0 := Lib.hid fW4
        have K0 := Lib.hid K5
        have HLS : Hid ((H ++ [((lastS H).1, (lastS H).1.length)]).length ≤ 62) := Lib.hid (by have := HL4.out; simp; omega)
        clear t4 k4 hF4 o5 b5 k5 t5 hap5 fW4 K4 K5 B HL hsy
        generalize (lastS H).1 = l at *
        generalize (H ++ [(l, l.length)]) = H1 at *
        generalize H.length = n0 at *
        go_wp2_with fail
        go_loopw [12] (fun i wr => ∃ (k : Nat) (F : Nat → Prop) (HX : List St), k ≤ D.length ∧ k ≤ 60 ∧ i = .int .i64 (k : Int) ∧ Hid (TP wr g F HX) ∧ Hid (Own 5 wr (.slice As l.length cs) l) ∧ Hid (∀ j, vbl (.slice As l.length cs) j → ¬ F j) ∧ Hid (∀ j, F j → W0.heap.size ≤ j) ∧ Hid (Chg Non W0 wr) ∧ Hid (Gr l n0 HX) ∧ Hid (HX.length ≤ k + 62)) (fun i _ => 60 - (intOf i).toNat)
        case atStart => exact ⟨0, F4, H1, by omega, by omega, rfl, L0, O0, X0, FW0, K0, GR0, Lib.hid (by have := HLS.out; omega)⟩
        case round =>
          obtain ⟨k, F, HX, hkD, hk60', rfl, TX, OS, XS, FS, KX, GR, HLX⟩ := hrel
          clear L0 O0 X0 FW0 K0 GR0
          by_cases hgo2 : k < D.length ∧ k < 60
          · obtain ⟨hkl, hk⟩ := hgo2
            have hkl' : (k : Int) < (D.length : Int) := by omega
            have hk' : decide ((k : Int) < 60) = true := by simp; omega
            obtain ⟨o, ho⟩ : ∃ o, D[k]? = some o := ⟨_, List.getElem?_eq_getElem hkl⟩
            have OOK := Lib.hid (HOKD.out o (List.mem_of_getElem? ho))
            obtain ⟨eb, eo, rfl, hlt, hrg⟩ := (lstM_below HN.out (KX.out.below (Nat.le_refl _) (fun _ f => f.elim))) k o ho
            obtain ⟨ok, on, om, oA, ob, oc⟩ := o
            have d0 := (rangeAt_cons hrg).1
            have d3 := (rangeAt_cons (rangeAt_cons (rangeAt_cons (rangeAt_cons hrg).2).2).2).1
            simp only at d0 d3
            have hebW : eb < W0.heap.size := by
              obtain ⟨eb', eo', e', h', _⟩ := HN.out k _ ho
              injection e' with e'
              injection e' with e1 _
              omega
            have HRG := Lib.hid hrg
            clear hrg ho
            by_cases h1 : ok = 1
            · subst h1
              by_cases hbig : 1000 < ob.length
              · have hbig' : decide ((ob.length : Int) ≤ 1000) = false := by simp; omega
                go_wp2_with fail
                go_roundw
                case rel => exact ⟨k + 1, F, HX, by omega, by omega, by go_num, TX, OS, XS, FS, KX, GR, Lib.hid (by have := HLX.out; omega)⟩
                case measure => simp [intOf]; omega
              · have hbig' : decide ((ob.length : Int) ≤ 1000) = true := by simp; omega
                go_wp2_with fail
                refine (Append_any _ _ _ _ TX.out oA ob.length oc ob rfl OOK.out.bl (OOK.out.rd.chg KX.out (fun _ _ f => f)) (by have := HLX.out; omega)).mono ?_
                rintro e w8 ⟨rfl, k8, F8, t8, hF8⟩
                have TX8 := Lib.hid t8
                have OS8 := Lib.hid (OS.out.chg k8 (fun j hj => XS.out j hj))
                have XS8 : Hid (∀ j, vbl (.slice As l.length cs) j → ¬ F8 j) := Lib.hid (fun j h1 h2 => by
                  rcases hF8 j h2 with h | h
                  · exact XS.out j h1 h
                  · have := own_lt OS.out j h1; omega)
                have FS8 : Hid (∀ j, F8 j → W0.heap.size ≤ j) := Lib.hid (fun j hj => by
                  rcases hF8 j hj with h | h
                  · exact FS.out j h
                  · exact Nat.le_trans KX.out.size h)
                have KX8 := Lib.hid (KX.out.trans k8 (fun j hj => .inr (FS.out j hj)))
                have GR8 := Lib.hid (GR.out.app ob)
                have HL8 : Hid ((mAppend HX ob).2.length ≤ HX.length + 1) := Lib.hid (mAppend_len _ _)
                have y0 : w8.cell? ⟨eb, eo + k * 4, none⟩ = some (.int .i64 1) := k8.cell d0 (fun h => by have := FS.out _ h; simp at this; omega)
                clear t8 k8 hF8
                generalize (mAppend HX ob).1 = code at *
                generalize (mAppend HX ob).2 = H8 at *
                go_wp2_with fail
                go_roundw
                case rel => exact ⟨k + 1, F8, H8, by omega, by omega, by go_num, TX8, OS8, XS8, FS8, KX8, GR8, Lib.hid (by have := HL8.out; have := HLX.out; omega)⟩
                case measure => simp [intOf]; omega
            have h1' : (ok == 1) = false := by simpa using h1
            by_cases h2 : ok = 2
            · subst h2
              go_wp2_with fail
              refine (Sync_any _ _ _ _ TX.out (by have := HLX.out; omega)).mono ?_
              rintro e w8 ⟨rfl, k8, F8, t8, hF8⟩
              have TX8 := Lib.hid t8
              have OS8 := Lib.hid (OS.out.chg k8 (fun j hj => XS.out j hj))
              have XS8 : Hid (∀ j, vbl (.slice As l.length cs) j → ¬ F8 j) := Lib.hid (fun j h1 h2 => by
                rcases hF8 j h2 with h | h
                · exact XS.out j h1 h
                · have := own_lt OS.out j h1; omega)
              have FS8 : Hid (∀ j, F8 j → W0.heap.size ≤ j) := Lib.hid (fun j hj => by
                rcases hF8 j hj with h | h
                · exact FS.out j h
                · exact Nat.le_trans KX.out.size h)
              have KX8 := Lib.hid (KX.out.trans k8 (fun j hj => .inr (FS.out j hj)))
              have GR8 := Lib.hid (GR.out.sync)
              have HL8 : Hid ((mSync HX).2.length ≤ HX.length + 1) := Lib.hid (mSync_len _)
              clear t8 k8 hF8
              generalize (mSync HX).1 = code at *
              generalize (mSync HX).2 = H8 at *
              go_wp2_with fail
              go_roundw
              case rel => exact ⟨k + 1, F8, H8, by omega, by omega, by go_num, TX8, OS8, XS8, FS8, KX8, GR8, Lib.hid (by have := HL8.out; have := HLX.out; omega)⟩
              case measure => simp [intOf]; omega
            have h2' : (ok == 2) = false := by simpa using h2
            go_wp2_with fail
            go_roundw
            case rel => exact ⟨k + 1, F, HX, by omega, by omega, by go_num, TX, OS, XS, FS, KX, GR, Lib.hid (by have := HLX.out; omega)⟩
            case measure => simp [intOf]; omega
          · by_cases hkl : k < D.length
            · have hk : ¬ k < 60 := fun h => hgo2 ⟨hkl, h⟩
              have hkl' : (k : Int) < (D.length : Int) := by omega
              have hk' : decide ((k : Int) < 60) = false := by simp; omega
              go_wp2_with fail
              refine (Read_any _ _ _ _ TX.out).mono ?_
              rintro e wB ⟨vB, rfl, oB, bB, kB⟩
              obtain ⟨dd, hdd⟩ : ∃ dd, HX.length = n0 + dd + 1 := ⟨HX.length - n0 - 1, by have := GR.out.len; omega⟩
              have T2D := Lib.hid ((TX.out.chg kB (fun _ _ f => f)).chg ((Chg.refl Non wB).drew) (fun _ _ f => f))
              have KB := Lib.hid (KX.out.trans kB (fun _ f => .inl f))
              have OS2 := Lib.hid (OS.out.chg kB (fun _ _ f => f))
              have hbW := BX.out.lt
              have yN : wB.cell? ⟨W.heap.size, 1, none⟩ = some (.int .i64 pn) := (BX.out.chg KB.out (fun f => f)).cell 1
              have yM : wB.cell? ⟨W.heap.size, 2, none⟩ = some (.int .i64 pm) := (BX.out.chg KB.out (fun f => f)).cell 2
              have HCN : Hid (∀ u, TP u g F HX → Calls Try.prog 10 #[.pointer (some ⟨g, 0, none⟩)] u fun e w' => e = .returned (.int .i64 ((n0 : Int) + (dd : Int))) ∧ w' = u) := Lib.hid (fun u t => by
                have := Calls_any u g F HX t
                rw [hdd, Nat.add_sub_cancel, show ((n0 + dd : Nat) : Int) = (n0 : Int) + (dd : Int) by omega] at this
                exact this)
              have hpl := pick_lt pn (dd + 1) (by omega)
              have hn60 : n0 + dd ≤ 1000 := by have := HLX.out; omega
              have HCT := fun (p : Nat) (hp : p < dd + 1) => GR.out.cut TX.out.ok (by have := HLX.out; omega) (p := p) (by omega) pm
              have e1 := pick_pos pn (dd + 1)
              have e2 := pick_neg pn (dd + 1)
              rw [show ((dd + 1 : Nat) : Int) = (dd : Int) + 1 by omega] at e1 e2
              obtain ⟨b, hb1, hb2, hb3, hb4, hb5⟩ := HCT _ hpl
              have HCUT : Hid (∀ u, TP u g F HX → Calls Try.prog 12 #[.pointer (some ⟨g, 0, none⟩), .int .i64 ((n0 : Int) + (pick pn (dd + 1) : Int)), .int .i64 pm] u fun e w' => ∃ g' F', e = .returned (.pointer (some ⟨g', 0, none⟩)) ∧ TP w' g' F' [(b, b.length)] ∧ (∀ j, F' j → u.heap.size ≤ j) ∧ Chg Non u w') := Lib.hid (fun u t => by
                have := Cut_any u g F HX t ((n0 : Int) + (pick pn (dd + 1) : Int)) pm (by omega) (by omega) pm1 pm2 (by have := HLX.out; omega)
                rw [hb1] at this
                exact this)
              have hlm := (TX.out.ok _ (lastS_mem TX.out.pos)).2
              generalize pick pn (dd + 1) = p at *
              generalize (lastS HX).1 = all at *
              obtain ⟨Aa, ca2, hvB, hlca, _, ra, _⟩ := oB.slice
              subst hvB
              have RA := Lib.hid (ra.take b.length)
              have HB4 := Lib.hid hb4
              have HB5 := Lib.hid hb5
              clear bB oB kB TX OS KX GR HLX HCT hb1 ra hb4 hb5
              have e3 : (if pn < 0 then -(pn + 1) else pn).tmod ((dd : Int) + 1) = (p : Int) := by
                split
                · exact e2 (by assumption)
                · exact e1 (by assumption)
              have g1 : IntKind.i64.wrap ((n0 : Int) + (dd : Int) - (n0 : Int)) = (dd : Int) := by rw [IntKind.wrap_i64]; omega
              have g2 : IntKind.i64.wrap ((dd : Int) + 1) = (dd : Int) + 1 := by rw [IntKind.wrap_i64]; omega
              have g3 : ¬ ((dd : Int) + 1 = 0) := by omega
              have g4 : IntKind.i64.wrap ((n0 : Int) + (p : Int)) = (n0 : Int) + (p : Int) := by rw [IntKind.wrap_i64]; omega
              have E3 := Lib.hid e3
              have G1 := Lib.hid g1
              have G2 := Lib.hid g2
              have G3 := Lib.hid g3
              have G4 := Lib.hid g4
              clear e1 e2 e3 g1 g2 g3 g4
              go_upto_if 100 with fail
              go_cut [14] from 101 to 103 (fun s14 wx => s14 = .int .i64 (if pn < 0 then -(pn + 1) else pn) ∧ wx = wB)
              case first =>
                by_cases hneg : pn < 0
                · go_wp2_with fail
                  go_meet
                  exact ⟨by rw [if_pos hneg], rfl⟩
                · go_wp2_with fail
                  go_meet
                  exact ⟨by rw [if_neg (by omega)], rfl⟩
              case rest =>
              obtain ⟨hs14, hw14⟩ := hcut
              subst hs14
              obtain rfl : wB = wc := hw14.symm
              generalize (if pn < 0 then -(pn + 1) else pn) = aa at *
              have e3 := E3.out
              have g1 := G1.out
              have g2 := G2.out
              have g3 := G3.out
              have g4 := G4.out
              go_upto_region 24 with fail
              go_cut [15] from 104 to 116 (fun s15 wx => ∃ gx Fx, s15 = .pointer (some ⟨gx, 0, none⟩) ∧ TP wx gx Fx [(b, b.length)] ∧ Chg Non wB wx)
              case first =>
                refine wp_region_still_tail 12 (by kernel_rfl) (by kernel_rfl) ?_
                simp only [List.take_succ_cons, List.take_zero, List.drop_succ_cons, List.drop_zero]
                iterate 4 still_step
                still_call (HCN.out _ T2D.out)
                repeat still_step
                refine wpStill_nil ?_
                change wpList _ _ _ _ _ wB.drew
                go_wp2_with (go_at_call 12; refine (HCUT.out _ T2D.out).mono ?_; rintro e wC ⟨gx, Fx, rfl, tx, hFx, kC⟩)
                all_goals
                  go_wp2_with fail
                  go_meet
                  exact ⟨gx, Fx, rfl, tx, ((Chg.refl Non wB).drew).trans kC (fun _ f => .inl f)⟩
              case rest =>
              obtain ⟨gx, Fx, hs15, tx, kC⟩ := hcut
              subst hs15
              have OS3 := Lib.hid (OS2.out.chg kC (fun _ _ f => f))
              have RA3 := Lib.hid (RA.out.chg kC (fun _ _ f => f))
              have KC := Lib.hid (KB.out.trans kC (fun _ f => .inl f))
              clear kC e3 g1 g2 g3 g4
              go_wp2_with fail
              refine (Read_any _ _ _ _ tx).mono ?_
              rintro e wR ⟨vR, rfl, oR, bR, kR⟩
              have oR' : Own 5 wR vR b := oR
              obtain ⟨AX, cX, hvR, hcX, _, rX, _⟩ := oR'.slice
              subst hvR
              have txR := Lib.hid (tx.chg kR (fun _ _ f => f))
              have RAR := RA3.out.chg kR (fun _ _ f => f)
              have OSR := OS3.out.chg kR (fun _ _ f => f)
              have KR := Lib.hid (KC.out.trans kR (fun _ f => .inl f))
              have rs : Rd wR As l := by
                obtain ⟨A', c', e', _, _, r', _⟩ := OSR.slice
                injection e' with e' _ _
                subst e'
                exact r'
              have S1 := same_any wR AX Aa b.length b.length cX ca2 b (all.take b.length) rfl (by rw [List.length_take]; omega) rX RAR
              rw [decide_eq_true HB4.out] at S1
              have S2 := same_any wR AX As l.length l.length cX cs (b.take l.length) l (by rw [List.length_take]; omega) rfl (rX.take _) rs
              rw [decide_eq_true HB5.out] at S2
              have S3 := Safe_any wR gx Fx _ txR.out
              rw [show (lastS [(b, b.length)]).2 = b.length from rfl] at S3
              have S4 : Calls Try.prog 10 #[.pointer (some ⟨gx, 0, none⟩)] wR fun e w' => e = .returned (.int .i64 0) ∧ w' = wR := Calls_any wR gx Fx _ txR.out
              have q1 : decide ((l.length : Int) ≤ (b.length : Int)) = true := by simp; omega
              have q2 : decide ((b.length : Int) ≤ (all.length : Int)) = true := by simp; omega
              have q3 : (b.length : Int) ≤ (ca2 : Int) := by omega
              have q4 : (l.length : Int) ≤ (cX : Int) := by omega
              have q5 : b.length ≤ all.length := hb3
              have q6 : l.length ≤ b.length := hb2
              have HS1 := Lib.hid S1
              have HS2 := Lib.hid S2
              have HS3 := Lib.hid S3
              have HS4 := Lib.hid S4
              clear tx oR oR' bR kR RAR OSR rs rX S1 S2 S3 S4 OS3 RA3 KC HB4 HB5
              go_wp2_with (first
                | (go_at_call 13; refine HS1.out.mono ?_; rintro e w5 ⟨rfl, rfl⟩)
                | (go_at_call 13; refine HS2.out.mono ?_; rintro e w5 ⟨rfl, rfl⟩)
                | (go_at_call 14; refine HS3.out.mono ?_; rintro e w5 ⟨rfl, rfl⟩)
                | (go_at_call 10; refine HS4.out.mono ?_; rintro e w5 ⟨rfl, rfl⟩))
              go_ret
              exact ⟨rfl, fin _ KR.out⟩
            · have hkl' : ¬ (k : Int) < (D.length : Int) := by omega
              go_wp2_with fail
              refine (Read_any _ _ _ _ TX.out).mono ?_
              rintro e wB ⟨vB, rfl, oB, bB, kB⟩
              obtain ⟨dd, hdd⟩ : ∃ dd, HX.length = n0 + dd + 1 := ⟨HX.length - n0 - 1, by have := GR.out.len; omega⟩
              have T2D := Lib.hid ((TX.out.chg kB (fun _ _ f => f)).chg ((Chg.refl Non wB).drew) (fun _ _ f => f))
              have KB := Lib.hid (KX.out.trans kB (fun _ f => .inl f))
              have OS2 := Lib.hid (OS.out.chg kB (fun _ _ f => f))
              have hbW := BX.out.lt
              have yN : wB.cell? ⟨W.heap.size, 1, none⟩ = some (.int .i64 pn) := (BX.out.chg KB.out (fun f => f)).cell 1
              have yM : wB.cell? ⟨W.heap.size, 2, none⟩ = some (.int .i64 pm) := (BX.out.chg KB.out (fun f => f)).cell 2
              have HCN : Hid (∀ u, TP u g F HX → Calls Try.prog 10 #[.pointer (some ⟨g, 0, none⟩)] u fun e w' => e = .returned (.int .i64 ((n0 : Int) + (dd : Int))) ∧ w' = u) := Lib.hid (fun u t => by
                have := Calls_any u g F HX t
                rw [hdd, Nat.add_sub_cancel, show ((n0 + dd : Nat) : Int) = (n0 : Int) + (dd : Int) by omega] at this
                exact this)
              have hpl := pick_lt pn (dd + 1) (by omega)
              have hn60 : n0 + dd ≤ 1000 := by have := HLX.out; omega
              have HCT := fun (p : Nat) (hp : p < dd + 1) => GR.out.cut TX.out.ok (by have := HLX.out; omega) (p := p) (by omega) pm
              have e1 := pick_pos pn (dd + 1)
              have e2 := pick_neg pn (dd + 1)
              rw [show ((dd + 1 : Nat) : Int) = (dd : Int) + 1 by omega] at e1 e2
              obtain ⟨b, hb1, hb2, hb3, hb4, hb5⟩ := HCT _ hpl
              have HCUT : Hid (∀ u, TP u g F HX → Calls Try.prog 12 #[.pointer (some ⟨g, 0, none⟩), .int .i64 ((n0 : Int) + (pick pn (dd + 1) : Int)), .int .i64 pm] u fun e w' => ∃ g' F', e = .returned (.pointer (some ⟨g', 0, none⟩)) ∧ TP w' g' F' [(b, b.length)] ∧ (∀ j, F' j → u.heap.size ≤ j) ∧ Chg Non u w') := Lib.hid (fun u t => by
                have := Cut_any u g F HX t ((n0 : Int) + (pick pn (dd + 1) : Int)) pm (by omega) (by omega) pm1 pm2 (by have := HLX.out; omega)
                rw [hb1] at this
                exact this)
              have hlm := (TX.out.ok _ (lastS_mem TX.out.pos)).2
              generalize pick pn (dd + 1) = p at *
              generalize (lastS HX).1 = all at *
              obtain ⟨Aa, ca2, hvB, hlca, _, ra, _⟩ := oB.slice
              subst hvB
              have RA := Lib.hid (ra.take b.length)
              have HB4 := Lib.hid hb4
              have HB5 := Lib.hid hb5
              clear bB oB kB TX OS KX GR HLX HCT hb1 ra hb4 hb5
              have e3 : (if pn < 0 then -(pn + 1) else pn).tmod ((dd : Int) + 1) = (p : Int) := by
                split
                · exact e2 (by assumption)
                · exact e1 (by assumption)
              have g1 : IntKind.i64.wrap ((n0 : Int) + (dd : Int) - (n0 : Int)) = (dd : Int) := by rw [IntKind.wrap_i64]; omega
              have g2 : IntKind.i64.wrap ((dd : Int) + 1) = (dd : Int) + 1 := by rw [IntKind.wrap_i64]; omega
              have g3 : ¬ ((dd : Int) + 1 = 0) := by omega
              have g4 : IntKind.i64.wrap ((n0 : Int) + (p : Int)) = (n0 : Int) + (p : Int) := by rw [IntKind.wrap_i64]; omega
              have E3 := Lib.hid e3
              have G1 := Lib.hid g1
              have G2 := Lib.hid g2
              have G3 := Lib.hid g3
              have G4 := Lib.hid g4
              clear e1 e2 e3 g1 g2 g3 g4
              go_upto_if 100 with fail
              go_cut [14] from 101 to 103 (fun s14 wx => s14 = .int .i64 (if pn < 0 then -(pn + 1) else pn) ∧ wx = wB)
              case first =>
                by_cases hneg : pn < 0
                · go_wp2_with fail
                  go_meet
                  exact ⟨by rw [if_pos hneg], rfl⟩
                · go_wp2_with fail
                  go_meet
                  exact ⟨by rw [if_neg (by omega)], rfl⟩
              case rest =>
              obtain ⟨hs14, hw14⟩ := hcut
              subst hs14
              obtain rfl : wB = wc := hw14.symm
              generalize (if pn < 0 then -(pn + 1) else pn) = aa at *
              have e3 := E3.out
              have g1 := G1.out
              have g2 := G2.out
              have g3 := G3.out
              have g4 := G4.out
              go_upto_region 24 with fail
              go_cut [15] from 104 to 116 (fun s15 wx => ∃ gx Fx, s15 = .pointer (some ⟨gx, 0, none⟩) ∧ TP wx gx Fx [(b, b.length)] ∧ Chg Non wB wx)
              case first =>
                refine wp_region_still_tail 12 (by kernel_rfl) (by kernel_rfl) ?_
                simp only [List.take_succ_cons, List.take_zero, List.drop_succ_cons, List.drop_zero]
                iterate 4 still_step
                still_call (HCN.out _ T2D.out)
                repeat still_step
                refine wpStill_nil ?_
                change wpList _ _ _ _ _ wB.drew
                go_wp2_with (go_at_call 12; refine (HCUT.out _ T2D.out).mono ?_; rintro e wC ⟨gx, Fx, rfl, tx, hFx, kC⟩)
                all_goals
                  go_wp2_with fail
                  go_meet
                  exact ⟨gx, Fx, rfl, tx, ((Chg.refl Non wB).drew).trans kC (fun _ f => .inl f)⟩
              case rest =>
              obtain ⟨gx, Fx, hs15, tx, kC⟩ := hcut
              subst hs15
              have OS3 := Lib.hid (OS2.out.chg kC (fun _ _ f => f))
              have RA3 := Lib.hid (RA.out.chg kC (fun _ _ f => f))
              have KC := Lib.hid (KB.out.trans kC (fun _ f => .inl f))
              clear kC e3 g1 g2 g3 g4
              go_wp2_with fail
              refine (Read_any _ _ _ _ tx).mono ?_
              rintro e wR ⟨vR, rfl, oR, bR, kR⟩
              have oR' : Own 5 wR vR b := oR
              obtain ⟨AX, cX, hvR, hcX, _, rX, _⟩ := oR'.slice
              subst hvR
              have txR := Lib.hid (tx.chg kR (fun _ _ f => f))
              have RAR := RA3.out.chg kR (fun _ _ f => f)
              have OSR := OS3.out.chg kR (fun _ _ f => f)
              have KR := Lib.hid (KC.out.trans kR (fun _ f => .inl f))
              have rs : Rd wR As l := by
                obtain ⟨A', c', e', _, _, r', _⟩ := OSR.slice
                injection e' with e' _ _
                subst e'
                exact r'
              have S1 := same_any wR AX Aa b.length b.length cX ca2 b (all.take b.length) rfl (by rw [List.length_take]; omega) rX RAR
              rw [decide_eq_true HB4.out] at S1
              have S2 := same_any wR AX As l.length l.length cX cs (b.take l.length) l (by rw [List.length_take]; omega) rfl (rX.take _) rs
              rw [decide_eq_true HB5.out] at S2
              have S3 := Safe_any wR gx Fx _ txR.out
              rw [show (lastS [(b, b.length)]).2 = b.length from rfl] at S3
              have S4 : Calls Try.prog 10 #[.pointer (some ⟨gx, 0, none⟩)] wR fun e w' => e = .returned (.int .i64 0) ∧ w' = wR := Calls_any wR gx Fx _ txR.out
              have q1 : decide ((l.length : Int) ≤ (b.length : Int)) = true := by simp; omega
              have q2 : decide ((b.length : Int) ≤ (all.length : Int)) = true := by simp; omega
              have q3 : (b.length : Int) ≤ (ca2 : Int) := by omega
              have q4 : (l.length : Int) ≤ (cX : Int) := by omega
              have q5 : b.length ≤ all.length := hb3
              have q6 : l.length ≤ b.length := hb2
              have HS1 := Lib.hid S1
              have HS2 := Lib.hid S2
              have HS3 := Lib.hid S3
              have HS4 := Lib.hid S4
              clear tx oR oR' bR kR RAR OSR rs rX S1 S2 S3 S4 OS3 RA3 KC HB4 HB5
              go_wp2_with (first
                | (go_at_call 13; refine HS1.out.mono ?_; rintro e w5 ⟨rfl, rfl⟩)
                | (go_at_call 13; refine HS2.out.mono ?_; rintro e w5 ⟨rfl, rfl⟩)
                | (go_at_call 14; refine HS3.out.mono ?_; rintro e w5 ⟨rfl, rfl⟩)
                | (go_at_call 10; refine HS4.out.mono ?_; rintro e w5 ⟨rfl, rfl⟩))
              go_ret
              exact ⟨rfl, fin _ KR.out⟩

/-! ### The row's frame -/
theorem own : ownKnob Try.prog.godebug = none := by kernel_rfl
theorem walkA (W : World) (args : Array Value) (hsz : args.size = Try.f3.params.size) (hok : ∀ (j : Nat) (t : TypeId) (v : Value), Try.f3.params[j]? = some t → args[j]? = some v → Okv Try.prog W t v) :
    Calls Try.prog 3 args W fun e W' => e = .returned (.bool true) ∧ Below W.heap.size W W' := by
  rw [Try.params3] at hsz hok
  obtain ⟨v0, v1, v2, rfl⟩ : ∃ v0 v1 v2 : Value, args = #[v0, v1, v2] := by
    obtain ⟨l⟩ := args
    match l, hsz with
    | [v0, v1, v2], _ => exact ⟨v0, v1, v2, rfl⟩
  exact walk W v0 v1 v2 (hok 0 22 v0 rfl rfl) (hok 1 22 v1 rfl rfl) (hok 2 25 v2 rfl rfl)
set_option maxRecDepth 100000 in
theorem lifted (os : Os) (started : os.Started) (H : Type) (enc : TypeId × Value → H) :
    ReturnsInHanded {} Try.checked os 3 .any (Rows.tapeSafeSpec.pre6 enc Try.prog Try.f3 Rows.tapeSafeRow.domain false) (Rows.tapeSafeSpec.post enc Try.prog Try.f3 false true false false) :=
  lifted_of_walk (C := Try.checked) (s := Rows.tapeSafeSpec) (conds := Rows.tapeSafeRow.domain) (apart := false) (fresh := true) (T := 4) own started (by kernel_rfl) Try.func3
    (ChangeSpec.witness6 (enc := enc) (C := Try.checked) false ⟨#[], #[.slice none 0 0, .slice none 0 0, .agg (Opn.cells ⟨0, 0, 0, none, [], 0⟩).toArray], []⟩ 8 (by kernel_rfl) (by kernel_rfl) (by kernel_rfl) (by kernel_rfl))
    rfl (fun ds hd => by
      rw [Try.params3] at hd
      match ds, hd with
      | [d0, d1, d2], _ => exact ⟨rfl, rfl, rfl⟩)
    (by kernel_rfl) Try.underlying4 (by kernel_rfl) (by rw [Try.params3]; intro t ht; simp only [List.mem_cons, List.not_mem_nil, or_false] at ht; rcases ht with rfl | rfl | rfl <;> exact ⟨by kernel_rfl, of_decide_eq_true (by kernel_rfl)⟩) walkA

theorem holds : Rows.tapeSafeRow.holds Try.pinned (OpenSpec.ofChange Rows.tapeSafeSpec) :=
  OpenClaim.holds_of_wide 3 Try.f3 rfl rfl rfl rfl rfl rfl rfl ⟨rfl, rfl, rfl, rfl, rfl⟩ rfl rfl rfl rfl rfl (by kernel_rfl) Try.func3 (by kernel_rfl)
    (of_decide_eq_true (by kernel_rfl)) (by unfold Func.isWrapper; first | (rw [if_pos (by decide +kernel)]; kernel_rfl) | (rw [if_neg (by decide +kernel)]; exact ⟨rfl, rfl⟩))
    (fun os started H enc _ => lifted os started H enc)
end Go.Proofs.Ytenhicipgkjckaa.tapeSafe
namespace Go.Proofs.Ytenhicipgkjckaa
/-- The statement. -/
theorem tapeSafe_holds : Rows.TapeSafeSaid := tapeSafe.holds
end Go.Proofs.Ytenhicipgkjckaa
