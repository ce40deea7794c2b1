/- Of the program at this commit: the law TapeOwn answers true for all bytes (what is handed in or was handed out may be written over, the tape stays); no condition. -/
import Derived.Test.YteakdpnhjiphdaaRows
import Derived.WalkKit
import Derived.ProofKit
import Derived.Test.YteakdpnhjiphdaaJf
import Derived.Test.YteakdpnhjiphdaaJl
namespace Go.Proofs.Yteakdpnhjiphdaa.tapeOwn
open Go.ChangeShapes Go.WideShapes Go.ChangeAt Go.RowKit
set_option linter.unusedVariables false

theorem non_of {S : Nat → Prop} {W w w' : World} (h : Chg Non W w) (k : Chg S w w') (hS : ∀ j, S j → W.heap.size ≤ j) : Chg Non W w' := h.trans k (fun j hj => .inr (hS j hj))
/-- A row of bytes, whatever they are. -/
def Byr (w : World) (g n : Nat) : Prop := ∃ cs, Hb w g 5 cs ∧ ∀ j, j < n → ∃ z, cs[j]? = some (.int .u8 z)
theorem Byr.set {w : World} {g n : Nat} (h : Byr w g n) {k : Nat} (hk : k < n) (z : Int) : Byr (w.setCell ⟨g, k, none⟩ (.int .u8 z)) g n := by
  obtain ⟨cs, hb, hc⟩ := h
  refine ⟨_, hb.set k _, fun j hj => ?_⟩
  obtain ⟨z', hz⟩ := hc j hj
  have hjs := (Array.getElem?_eq_some_iff.1 hz).1
  by_cases e : k = j
  · subst e
    exact ⟨z, by simp [hjs]⟩
  · exact ⟨z', by rw [Array.getElem?_setIfInBounds, if_neg e]; exact hz⟩
theorem byr_of {w : World} {A : Option Addr} {l : List UInt8} {c : Nat} (h : Own 5 w (.slice A l.length c) l) : (l.length = 0) ∨ ∃ g, A = some ⟨g, 0, none⟩ ∧ Byr w g l.length := by
  rcases h.2 with ⟨_, h0⟩ | ⟨g, cap, cur, hv, hb, hg, hn, hm, hs, ht⟩
  · exact .inl h0
  · right
    injection hv with hv _ _
    refine ⟨g, hv, cur, hg, fun j hj => ?_⟩
    have h1 : (bv l)[j]? = some (.int .u8 ((l[j]).toNat : Int)) := bv_get l j _ (List.getElem?_eq_getElem hj)
    rw [← ht, List.getElem?_take, if_pos (by omega)] at h1
    exact ⟨_, by simpa using h1⟩

/-- What stands while bytes that are no tape's are written over. -/
def Lp (W : World) (b : List UInt8) (F4 : Nat → Prop) (gx : Nat) (Fx : Nat → Prop) (A : Option Addr) (w : World) : Prop :=
  TP w W.heap.size F4 [([], 0), (b, 0)] ∧ TP w gx Fx [(b, b.length)] ∧ Chg Non W w ∧ (b.length = 0 ∨ ∃ g, A = some ⟨g, 0, none⟩ ∧ Byr w g b.length ∧ W.heap.size ≤ g ∧ ¬ F4 g ∧ ¬ Fx g)
theorem Lp.at {W : World} {b : List UInt8} {F4 : Nat → Prop} {gx : Nat} {Fx : Nat → Prop} {A : Option Addr} {w : World} (h : Lp W b F4 gx Fx A w) {k : Nat} (hk : k < b.length) :
    ∃ g z, A = some ⟨g, 0, none⟩ ∧ w.cell? ⟨g, k, none⟩ = some (.int .u8 z) ∧ w.frozen? ⟨g, k, none⟩ = false ∧ ∀ z : Int, Lp W b F4 gx Fx (some ⟨g, 0, none⟩) (w.setCell ⟨g, k, none⟩ (.int .u8 z)) := by
  obtain ⟨tr, txr, Kr, hz | ⟨g, rfl, hby, hWg, hn4, hnx⟩⟩ := h
  · omega
  obtain ⟨cs, hb, hcs⟩ := id hby
  obtain ⟨z, hz⟩ := hcs k hk
  have ks := fun (z : Int) => (Chg.refl (fun j => j = g) w).setCell (p := ⟨g, k, none⟩) (.inl rfl) (.int .u8 z)
  exact ⟨g, z, rfl, (hb.cell k).trans hz, hb.frozen k, fun z => ⟨tr.chg (ks z) (fun j hj e => by subst e; exact hn4 hj), txr.chg (ks z) (fun j hj e => by subst e; exact hnx hj), non_of Kr (ks z) (fun j hj => by omega), .inr ⟨g, rfl, hby.set hk z, hWg, hn4, hnx⟩⟩⟩
theorem last2 (b : List UInt8) (s : Nat) : lastS [([], 0), (b, s)] = (b, s) := rfl
theorem last1 (b : List UInt8) (s : Nat) : lastS [(b, s)] = (b, s) := rfl
theorem last3 (x y z : St) : lastS [x, y, z] = z := rfl

set_option maxRecDepth 100000 in
set_option maxHeartbeats 1600000 in
theorem walk (W : World) (v0 v1 : Value) (h0 : Okv Try.prog W 22 v0) (h1 : Okv Try.prog W 22 v1) :
    Calls Try.prog 3 #[v0, v1] W fun e W' => e = .returned (.bool true) ∧ Below W.heap.size W W' := by
  obtain ⟨A, ca, b, rfl, hbl, hrb⟩ := bytes_arg h0
  obtain ⟨C, cc, c, rfl, hcl, hrc⟩ := bytes_arg h1
  clear h0 h1
  have hb63 : b.length ≤ 9223372036854775807 := by unfold maxLen at hbl; omega
  have hc63 : c.length ≤ 9223372036854775807 := by unfold maxLen at hcl; omega
  have fin : ∀ w, Chg Non W w → Below W.heap.size W w := fun w k => k.below (Nat.le_refl _) (fun _ f => f.elim)
  by_cases hbb : 1000 < b.length
  · have hb1 : (1000 : Int) < (b.length : Int) := by omega
    go_enter Try.func3, Try.ntmps3
    go_wp2_with fail
    refine (New_any _).mono ?_
    rintro e w1 ⟨rfl, t1, k1⟩
    go_wp2_with fail
    refine (alive_any _).mono ?_
    rintro e w2 ⟨rfl, k2⟩
    go_wp2
    go_ret
    exact ⟨rfl, fin _ (k1.trans k2 (fun _ f => .inl f))⟩
  have hb1 : ¬ (1000 : Int) < (b.length : Int) := by omega
  by_cases hcc : 1000 < c.length
  · have hc1 : (1000 : Int) < (c.length : Int) := by omega
    go_enter Try.func3, Try.ntmps3
    go_wp2_with fail
    refine (New_any _).mono ?_
    rintro e w1 ⟨rfl, t1, k1⟩
    go_wp2_with fail
    refine (alive_any _).mono ?_
    rintro e w2 ⟨rfl, k2⟩
    go_wp2
    go_ret
    exact ⟨rfl, fin _ (k1.trans k2 (fun _ f => .inl f))⟩
  have hc1 : ¬ (1000 : Int) < (c.length : Int) := by omega
  · go_enter Try.func3, Try.ntmps3
    go_wp2_with fail
    refine (New_any _).mono ?_
    rintro e w1 ⟨rfl, t1, k1⟩
    go_wp2_with fail
    refine (alive_any _).mono ?_
    rintro e w2 ⟨rfl, k2⟩
    have t2 := t1.chg k2 (fun _ _ f => f)
    have K2 := k1.trans k2 (fun _ f => .inl f)
    have kn := (Chg.refl Non w2).alloc (.cells #[] 5)
    have tn := t2.chg kn (fun _ _ f => f)
    have Kn := K2.trans kn (fun _ f => .inl f)
    have hs2 : W.heap.size < w2.heap.size := t2.lt _ rfl
    have own0 : Own 5 (w2.alloc (.cells #[] 5)) (.slice (some ⟨w2.heap.size, 0, none⟩) 0 0) [] :=
      ⟨rfl, .inr ⟨w2.heap.size, 0, #[], rfl, Nat.zero_le _, heap_alloc_new w2 _, Nat.le_refl _, by unfold maxLen; omega, rfl, rfl⟩⟩
    have hrb2 := hrb.chg Kn (fun _ _ f => f)
    have KK : ∀ vo w3, Own 5 w3 vo ([] ++ b) → (w2.alloc (.cells #[] 5)).grownBy w3 (some w2.heap.size) → (vo.ownBlock = some w2.heap.size ∨ vo.ownBlock = some (w2.alloc (.cells #[] 5)).heap.size) →
        ∃ Ao co, vo = .slice Ao b.length co ∧ Own 5 w3 (.slice Ao b.length co) b ∧ Rd w3 Ao b ∧ TP w3 W.heap.size (fun j => j = W.heap.size) [([], 0)] ∧ Chg Non W w3 ∧ ∀ j, vbl (.slice Ao b.length co) j → j ≠ W.heap.size ∧ W.heap.size ≤ j := by
      intro vo w3 ho hg hloc
      rw [List.nil_append] at ho
      obtain ⟨Ao, co, rfl, _, _, hr, _⟩ := ho.slice
      have k3 := (Chg.refl (fun j => j = w2.heap.size) (w2.alloc (.cells #[] 5))).grown hg (fun k hk => .inl (by injection hk with hk; exact hk.symm))
      refine ⟨Ao, co, rfl, ho, hr, tn.chg k3 (fun j hj e => by omega), non_of Kn k3 (fun j hj => by omega), fun j hj => ?_⟩
      unfold vbl at hj
      rcases hloc with h | h
      · rw [h] at hj; injection hj with hj; omega
      · rw [h] at hj; injection hj with hj; simp at hj; omega
    have HKK := Lib.hid KK
    have HRB2 := Lib.hid hrb2
    have HOWN0 := Lib.hid own0
    clear KK t1 t2 tn k1 k2 kn K2 Kn hrb2 own0
    go_wp2_with (at_builtin; refine wpList_app byt _ rfl _ _ rfl (v := .slice (some ⟨w2.heap.size, 0, none⟩) 0 0) (l := []) rfl HOWN0.out rfl rfl HRB2.out (by simp; omega) ?_; intro vo w3 ho3 hg3 hloc3; obtain ⟨Ao, co, rfl, o3, r3, t3, K3, b3⟩ := HKK.out _ _ ho3 hg3 hloc3; clear ho3 hg3 hloc3)
    have m1 : mAppend [([], 0)] b = (0, [([], 0), (b, 0)]) := by
      unfold mAppend
      have : lastS [(([] : List UInt8), 0)] = ([], 0) := rfl
      rw [this]
      rw [if_neg (by simp; omega)]
      rfl
    refine (Append_any _ _ _ _ t3 _ _ _ b rfl hbl r3 (by decide)).mono ?_
    rintro e w4 ⟨rfl, k4, F4, t4, hF4⟩
    rw [m1] at t4 ⊢
    have o4 := o3.chg k4 (fun j hj e => (b3 j hj).1 e)
    have K4 := non_of K3 k4 (fun j hj => by omega)
    have f4 : ∀ j, F4 j → W.heap.size ≤ j ∧ ¬ vbl (.slice Ao b.length co) j := fun j hj => by
      rcases hF4 j hj with h | h
      · exact ⟨by omega, fun hv => (b3 j hv).1 h⟩
      · exact ⟨Nat.le_trans K3.size h, fun hv => by have := own_lt o3 j hv; omega⟩
    clear t3 K3 k4 hF4 r3 o3
    have m2 : mCut [([], 0), (b, 0)] 1 (b.length : Int) = [(b, b.length)] := by
      have h1 : pick 1 2 = 1 := by decide
      have h2 : pick (b.length : Int) (b.length + 1) = b.length := by
        unfold pick
        rw [if_neg (by omega), Int.toNat_natCast, Nat.mod_eq_of_lt (by omega)]
      rw [mCut_get (x := (b, 0)) (by show ([([], 0), (b, 0)] : List St)[pick 1 2]? = _; rw [h1]; rfl)]
      unfold cutOf
      simp [h2]
    go_wp2_with fail
    refine (Cut_any _ _ _ _ t4 1 (b.length : Int) (by omega) (by omega) (by omega) (by omega) (by simp)).mono ?_
    rintro e w5 ⟨gx, Fx, rfl, tx5, fx5, k5⟩
    rw [m2] at tx5
    have t5 := t4.chg k5 (fun _ _ f => f)
    have o5 := o4.chg k5 (fun _ _ f => f)
    have K5 := K4.trans k5 (fun _ f => .inl f)
    have hby : b.length = 0 ∨ ∃ g, Ao = some ⟨g, 0, none⟩ ∧ Byr w5 g b.length ∧ W.heap.size ≤ g ∧ ¬ F4 g ∧ ¬ Fx g := by
      rcases byr_of o5 with h | ⟨g, rfl, h⟩
      · exact .inl h
      · exact .inr ⟨g, rfl, h, (b3 g rfl).2, fun hf => (f4 g hf).2 rfl, fun hf => by have := fx5 g hf; have := own_lt o4 g rfl; omega⟩
    have dis : ∀ j, F4 j → ¬ Fx j := fun j h1 h2 => by have := fx5 j h2; have := t4.lt j h1; omega
    have fx : ∀ j, Fx j → W.heap.size ≤ j := fun j hj => Nat.le_trans K4.size (fx5 j hj)
    have L5 : Hid (Lp W b F4 gx Fx Ao w5) := Lib.hid ⟨t5, tx5, K5, hby⟩
    have DIS := Lib.hid dis
    have FX := Lib.hid fx
    have F4W : Hid (∀ j, F4 j → W.heap.size ≤ j) := Lib.hid (fun j hj => (f4 j hj).1)
    clear t4 t5 o5 o4 K5 hby tx5 k5 K4 fx5 m1 m2 dis fx f4 b3 hs2
    go_wp2_with fail
    go_loopw [8] (fun i wr => ∃ k : Nat, k ≤ b.length ∧ i = .int .i64 (k : Int) ∧ Hid (Lp W b F4 gx Fx Ao wr)) (fun i _ => b.length - (intOf i).toNat)
    case atStart => exact ⟨0, by omega, rfl, L5⟩
    case round =>
      obtain ⟨k, hk, rfl, L⟩ := hrel
      clear L5
      by_cases hkb : k < b.length
      · obtain ⟨g, z, rfl, hcell, hfr, hn⟩ := L.out.at hkb
        have hkb' : (k : Int) < (b.length : Int) := by omega
        have HN := Lib.hid hn
        clear hn L
        go_wp2_with fail
        go_roundw
        case rel => exact ⟨k + 1, by omega, by go_num, Lib.hid (HN.out _)⟩
        case measure => simp [intOf]; omega
      · obtain rfl : k = b.length := by omega
        go_wp2_with fail
        refine (Read_any _ _ _ _ L.out.1).mono ?_
        rintro e w6 ⟨v6, rfl, o6, b6, k6⟩
        rw [last2] at o6
        obtain ⟨A6, c6, rfl, _⟩ := o6.slice
        have hby6 : b.length = 0 ∨ ∃ g, A6 = some ⟨g, 0, none⟩ ∧ Byr w6 g b.length ∧ W.heap.size ≤ g ∧ ¬ F4 g ∧ ¬ Fx g := by
          rcases byr_of o6 with h | ⟨g, rfl, h⟩
          · exact .inl h
          · have h6 := b6 g rfl
            exact .inr ⟨g, rfl, h, Nat.le_trans L.out.2.2.1.size h6, fun hf => by have := L.out.1.lt g hf; omega, fun hf => by have := L.out.2.1.lt g hf; omega⟩
        have L6 : Hid (Lp W b F4 gx Fx A6 w6) := Lib.hid ⟨L.out.1.chg k6 (fun _ _ f => f), L.out.2.1.chg k6 (fun _ _ f => f), L.out.2.2.1.trans k6 (fun _ f => .inl f), hby6⟩
        clear L hby6 o6 b6 k6
        go_wp2_with fail
        go_loopw [10] (fun i wr => ∃ k : Nat, k ≤ b.length ∧ i = .int .i64 (k : Int) ∧ Hid (Lp W b F4 gx Fx A6 wr)) (fun i _ => b.length - (intOf i).toNat)
        case atStart => exact ⟨0, by omega, rfl, L6⟩
        case round =>
          obtain ⟨k, hk, rfl, L⟩ := hrel
          clear L6
          by_cases hkb : k < b.length
          · obtain ⟨g, z, rfl, hcell, hfr, hn⟩ := L.out.at hkb
            have hkb' : (k : Int) < (b.length : Int) := by omega
            have HN := Lib.hid hn
            clear hn L
            go_wp2_with fail
            go_roundw
            case rel => exact ⟨k + 1, by omega, by go_num, Lib.hid (HN.out _)⟩
            case measure => simp [intOf]; omega
          · obtain rfl : k = b.length := by omega
            obtain ⟨t7, tx7, K7, _⟩ := L.out
            clear L
            have hrc7 := hrc.chg K7 (fun _ _ f => f)
            go_wp2_with fail
            refine (Append_any _ _ _ _ tx7 _ _ _ c rfl hcl hrc7 (by simp)).mono ?_
            rintro e w8 ⟨rfl, k8, F8, tx8, hF8⟩
            have t8 := t7.chg k8 (fun j hj h => DIS.out j hj h)
            have K8 := non_of K7 k8 (fun j hj => FX.out j hj)
            have hrc8 := hrc.chg K8 (fun _ _ f => f)
            have dis8 : ∀ j, F8 j → ¬ F4 j := fun j h1 h2 => by
              rcases hF8 j h1 with h | h
              · exact DIS.out j h2 h
              · have := t7.lt j h2; omega
            have mx : mAppend [(b, b.length)] c = (0, [(b, b.length), (b ++ c, b.length)]) := by
              unfold mAppend
              rw [last1, if_neg (by show ¬ 1048576 < b.length + c.length; omega)]
              rfl
            rw [mx] at tx8 ⊢
            clear t7 tx7 k8 hF8 K7 hrc7 mx
            go_wp2_with fail
            refine (Append_any _ _ _ _ t8 _ _ _ c rfl hcl hrc8 (by simp)).mono ?_
            rintro e w9 ⟨rfl, k9, F9, t9, hF9⟩
            have mt : mAppend [([], 0), (b, 0)] c = (0, [([], 0), (b, 0), (b ++ c, 0)]) := by
              unfold mAppend
              rw [last2, if_neg (by show ¬ 1048576 < b.length + c.length; omega)]
              rfl
            have tx9 := tx8.chg k9 (fun j hj h => dis8 j hj h)
            have K9 := non_of K8 k9 (fun j hj => F4W.out j hj)
            rw [mt] at t9 ⊢
            clear t8 tx8 k9 hF9 K8 hrc8 mt dis8
            have kn := (Chg.refl Non w9).alloc (.cells #[] 5)
            have own9 : Own 5 (w9.alloc (.cells #[] 5)) (.slice (some ⟨w9.heap.size, 0, none⟩) 0 0) [] :=
              ⟨rfl, .inr ⟨w9.heap.size, 0, #[], rfl, Nat.zero_le _, heap_alloc_new w9 _, Nat.le_refl _, by unfold maxLen; omega, rfl, rfl⟩⟩
            have hrb9 := hrb.chg (K9.trans kn (fun _ f => .inl f)) (fun _ _ f => f)
            have hrc9 := hrc.chg K9 (fun _ _ f => f)
            have ka : ∀ va w10, Own 5 w10 va ([] ++ b) → (w9.alloc (.cells #[] 5)).grownBy w10 (some w9.heap.size) → (va.ownBlock = some w9.heap.size ∨ va.ownBlock = some (w9.alloc (.cells #[] 5)).heap.size) →
                Own 5 w10 va b ∧ Rd w10 C c ∧ Chg Non w9 w10 ∧ ∀ j, vbl va j → w9.heap.size ≤ j := by
              intro va w10 ho hg hloc
              have k10 := kn.trans ((Chg.refl (fun j => j = w9.heap.size) (w9.alloc (.cells #[] 5))).grown hg (fun k hk => .inl (by injection hk with hk; exact hk.symm))) (fun j hj => .inr (by omega))
              refine ⟨by simpa using ho, hrc9.chg k10 (fun _ _ f => f), k10, fun j hj => ?_⟩
              unfold vbl at hj
              rcases hloc with h | h
              · rw [h] at hj; injection hj with hj; omega
              · rw [h] at hj; injection hj with hj; simp at hj; omega
            have kb : ∀ va w10 vb w11, Chg Non w9 w10 → (∀ j, vbl va j → w9.heap.size ≤ j) → Own 5 w11 vb (b ++ c) → w10.grownBy w11 va.ownBlock → ∃ Ab cb, vb = .slice Ab (b ++ c).length cb ∧ Rd w11 Ab (b ++ c) ∧ Chg Non w9 w11 := by
              intro va w10 vb w11 k10 hv ho hg
              obtain ⟨Ab, cb, rfl, _, _, hr, _⟩ := ho.slice
              exact ⟨Ab, cb, rfl, hr, k10.trans ((Chg.refl (fun j => vbl va j) w10).grown hg (fun k hk => .inl hk)) (fun j hj => .inr (hv j hj))⟩
            have KA := Lib.hid ka
            have KB := Lib.hid kb
            have O9 := Lib.hid own9
            have RB9 := Lib.hid hrb9
            clear kn own9 hrb9 hrc9 ka kb
            go_wp2_with (at_builtin; first
              | (refine wpList_app byt _ rfl _ _ rfl (v := va) (l := b) (by rfl) o10 (by rfl) rfl r10 (by omega) ?_; intro vb w11 o11 g11 l11; obtain ⟨Ab, cb, rfl, r11, k11⟩ := KB.out _ _ _ _ k10 h10 o11 g11)
              | (refine wpList_app byt _ rfl _ _ rfl (v := .slice (some ⟨w9.heap.size, 0, none⟩) 0 0) (l := []) rfl O9.out rfl rfl RB9.out (by simp; omega) ?_; intro va w10 o10 g10 l10; obtain ⟨o10, r10, k10, h10⟩ := KA.out _ _ o10 g10 l10))
            have t11 := t9.chg k11 (fun _ _ f => f)
            refine (Read_any _ _ _ _ t11).mono ?_
            rintro e w12 ⟨v12, rfl, o12, b12, k12⟩
            rw [last3] at o12
            obtain ⟨A12, c12, rfl, _, _, r12, _⟩ := o12.slice
            have r11b := r11.chg k12 (fun _ _ f => f)
            have tx12 := (tx9.chg k11 (fun _ _ f => f)).chg k12 (fun _ _ f => f)
            have K12 := Lib.hid ((K9.trans k11 (fun _ f => .inl f)).trans k12 (fun _ f => .inl f))
            clear t9 tx9 K9 t11 o12 b12 k12 k11 r11 o11 g11 l11 o10 g10 l10 r10 k10 h10 KA KB O9 RB9
            go_wp2_with fail
            refine (same_any _ A12 Ab (b.length + c.length) (b.length + c.length) c12 cb (b ++ c) (b ++ c) List.length_append.symm List.length_append.symm r12 r11b).mono ?_
            rintro e w13 ⟨rfl, rfl⟩
            go_wp2_with fail
            refine (Read_any _ _ _ _ tx12).mono ?_
            rintro e w14 ⟨v14, rfl, o14, b14, k14⟩
            have o14' : Own 5 w14 v14 (b ++ c) := o14
            obtain ⟨A14, c14, rfl, _, _, r14, _⟩ := o14'.slice
            have r11c := r11b.chg k14 (fun _ _ f => f)
            have K14 := Lib.hid (K12.out.trans k14 (fun _ f => .inl f))
            clear tx12 o14 o14' b14 k14 r12 r11b K12
            go_wp2_with fail
            refine (same_any _ A14 Ab (b.length + c.length) (b.length + c.length) c14 cb (b ++ c) (b ++ c) List.length_append.symm List.length_append.symm r14 r11c).mono ?_
            rintro e w15 ⟨rfl, rfl⟩
            go_wp2
            go_ret
            exact ⟨rfl, fin _ K14.out⟩

/-! ### The row's frame -/
theorem own : ownKnob Try.prog.godebug = none := by kernel_rfl
theorem walkA (W : World) (args : Array Value) (hsz : args.size = Try.f3.params.size) (hok : ∀ (j : Nat) (t : TypeId) (v : Value), Try.f3.params[j]? = some t → args[j]? = some v → Okv Try.prog W t v) :
    Calls Try.prog 3 args W fun e W' => e = .returned (.bool true) ∧ Below W.heap.size W W' := by
  rw [Try.params3] at hsz hok
  obtain ⟨v0, v1, rfl⟩ : ∃ v0 v1 : Value, args = #[v0, v1] := by
    obtain ⟨l⟩ := args
    match l, hsz with
    | [v0, v1], _ => exact ⟨v0, v1, rfl⟩
  exact walk W v0 v1 (hok 0 22 v0 rfl rfl) (hok 1 22 v1 rfl rfl)
set_option maxRecDepth 100000 in
theorem lifted (os : Os) (started : os.Started) (H : Type) (enc : TypeId × Value → H) :
    ReturnsInHanded {} Try.checked os 3 .any (Rows.tapeOwnSpec.pre6 enc Try.prog Try.f3 Rows.tapeOwnRow.domain false) (Rows.tapeOwnSpec.post enc Try.prog Try.f3 false true false false) :=
  lifted_of_walk (C := Try.checked) (s := Rows.tapeOwnSpec) (conds := Rows.tapeOwnRow.domain) (apart := false) (fresh := true) (T := 4) own started (by kernel_rfl) Try.func3
    (ChangeSpec.witness6 (enc := enc) (C := Try.checked) false ⟨#[], #[.slice none 0 0, .slice none 0 0], []⟩ 8 (by kernel_rfl) (by kernel_rfl) (by kernel_rfl) (by kernel_rfl))
    rfl (fun ds hd => by
      rw [Try.params3] at hd
      match ds, hd with
      | [d0, d1], _ => exact ⟨rfl, rfl, rfl⟩)
    (by kernel_rfl) Try.underlying4 (by kernel_rfl) (by rw [Try.params3]; intro t ht; simp only [List.mem_cons, List.not_mem_nil, or_false] at ht; rcases ht with rfl | rfl <;> exact ⟨by kernel_rfl, of_decide_eq_true (by kernel_rfl)⟩) walkA

theorem holds : Rows.tapeOwnRow.holds Try.pinned (OpenSpec.ofChange Rows.tapeOwnSpec) :=
  OpenClaim.holds_of_wide 3 Try.f3 rfl rfl rfl rfl rfl rfl rfl ⟨rfl, rfl, rfl, rfl, rfl⟩ rfl rfl rfl rfl rfl (by kernel_rfl) Try.func3 (by kernel_rfl)
    (of_decide_eq_true (by kernel_rfl)) (by unfold Func.isWrapper; first | (rw [if_pos (by decide +kernel)]; kernel_rfl) | (rw [if_neg (by decide +kernel)]; exact ⟨rfl, rfl⟩))
    (fun os started H enc _ => lifted os started H enc)
end Go.Proofs.Yteakdpnhjiphdaa.tapeOwn
namespace Go.Proofs.Yteakdpnhjiphdaa
/-- The statement. -/
theorem tapeOwn_holds : Rows.TapeOwnSaid := tapeOwn.holds
end Go.Proofs.Yteakdpnhjiphdaa
