/- The document's bank: names, an amount's errors, what accounts have, supplies. -/
import Derived.Test.YtahlfncijbkcoaaDoorChecked
import Derived.WalkKit
import Derived.WalkLawsBesides
import Derived.Lib.Hide
import Derived.Deep.MidRow
import Derived.Test.YtahlfncijbkcoaaDoorKz
namespace Go.Proofs.YtahlfncijbkcoaaDoor
open Go.RowKit
set_option linter.unusedVariables false
set_option linter.unusedSimpArgs false
set_option maxRecDepth 20000

/-! ### Names -/
theorem byteL (c : Nat) (h : c < 256) : ((c : Int) < 97 ∨ (122 : Int) < (c : Int)) ↔ ¬ (97 ≤ c ∧ c ≤ 122) := by omega
set_option maxHeartbeats 1600000 in
theorem rName_any (w : World) (s : ByteArray) (hm : s.size ≤ maxLen) : Calls Tryd.prog 45 #[.string s] w (Zero w (.bool (accOk s))) := by
  have HSL := Lib.hid (ba_len s)
  unfold maxLen at hm
  generalize hok : accOk s = ok
  have HOK := Lib.hid hok
  clear hok
  go_enter Tryd.func45, Tryd.ntmps45
  go_wp2_with fail
  go_loopw [3] (fun i wr => ∃ k : Nat, k ≤ s.size ∧ i = .int .i64 (k : Int) ∧ Hid ((s.data.toList.take k).all isL = true) ∧ Hid (Chg Non w wr)) (fun i _ => s.size - (intOf i).toNat)
  case atStart => exact ⟨0, by omega, rfl, Lib.hid rfl, Lib.hid (Chg.refl _ _)⟩
  case round =>
    obtain ⟨k, hk, rfl, hall, hC⟩ := hrel
    by_cases hlt : k < s.size
    · have hki : (k : Int) < (s.size : Int) := by omega
      have hg : Hid (s.data.toList[k]? = some s[k]) := Lib.hid (get_byte hlt)
      have HD : Hid (isL s[k] = (decide (97 ≤ (s[k]).toNat) && decide ((s[k]).toNat ≤ 122))) := Lib.hid rfl
      have HF : Hid (isL s[k] = false → ok = false) := Lib.hid (fun hb => by
        rw [← HOK.out, Bool.eq_false_iff]
        intro h
        unfold accOk at h
        simp only [Bool.and_eq_true] at h
        have := List.all_eq_true.1 h.2.2 _ (List.mem_of_getElem? hg.out)
        rw [hb] at this
        cases this)
      have HN : Hid (isL s[k] = true → (s.data.toList.take (k + 1)).all isL = true) := Lib.hid (fun hb => by
        obtain ⟨hkl, e⟩ := List.getElem?_eq_some_iff.1 hg.out
        rw [List.take_succ_eq_append_getElem hkl, List.all_append, hall.out, e]
        simp [hb])
      by_cases h97 : ((s[k]).toNat : Int) < 97
      · have HF2 : Hid (ok = false) := Lib.hid (HF.out (by rw [HD.out, decide_eq_false (by omega)]; rfl))
        go_wp2_with fail
        go_ret
        exact ⟨by rw [HF2.out]; rfl, hC.out⟩
      · by_cases h122 : (122 : Int) < ((s[k]).toNat : Int)
        · have HF2 : Hid (ok = false) := Lib.hid (HF.out (by rw [HD.out, decide_eq_false (show ¬ (s[k]).toNat ≤ 122 by omega)]; simp))
          go_wp2_with fail
          go_ret
          exact ⟨by rw [HF2.out]; rfl, hC.out⟩
        · have HN2 := Lib.hid (HN.out (by rw [HD.out, decide_eq_true (by omega), decide_eq_true (by omega)]; rfl))
          go_wp2_with fail
          go_roundw
          case rel => exact ⟨k + 1, by omega, by go_num, HN2, hC⟩
          case measure => simp [intOf]; omega
    · obtain rfl : k = s.size := by omega
      have ha : Hid (s.data.toList.all isL = true) := Lib.hid (by have := hall.out; rwa [← HSL.out, List.take_length] at this)
      have HE : Hid (ok = (decide (1 ≤ s.size) && decide (s.size ≤ 16))) := Lib.hid (by
        rw [← HOK.out]
        unfold accOk
        rw [ha.out, Bool.and_true])
      by_cases h1 : (1 : Int) ≤ (s.size : Int)
      · by_cases h2 : (s.size : Int) ≤ 16
        · go_wp2_with fail
          go_ret
          exact ⟨by rw [HE.out, decide_eq_true (by omega), decide_eq_true (by omega)]; rfl, hC.out⟩
        · go_wp2_with fail
          go_ret
          exact ⟨by rw [HE.out, decide_eq_true (by omega), decide_eq_false (by omega)]; rfl, hC.out⟩
      · go_wp2_with fail
        go_ret
        exact ⟨by rw [HE.out, decide_eq_false (by omega)]; rfl, hC.out⟩
set_option maxHeartbeats 3200000 in
theorem rDenom_any (w : World) (s : ByteArray) (hm : s.size ≤ maxLen) : Calls Tryd.prog 46 #[.string s] w (Zero w (.bool (denOk s))) := by
  have HSL := Lib.hid (ba_len s)
  unfold maxLen at hm
  generalize hok : denOk s = ok
  have HOK := Lib.hid hok
  clear hok
  go_enter Tryd.func46, Tryd.ntmps46
  go_wp2_with fail
  go_loopw [3] (fun i wr => ∃ k : Nat, k ≤ s.size ∧ i = .int .i64 (k : Int) ∧ Hid ((s.data.toList.take k).all isD = true) ∧ Hid (Chg Non w wr)) (fun i _ => s.size - (intOf i).toNat)
  case atStart => exact ⟨0, by omega, rfl, Lib.hid rfl, Lib.hid (Chg.refl _ _)⟩
  case round =>
    obtain ⟨k, hk, rfl, hall, hC⟩ := hrel
    by_cases hlt : k < s.size
    · have hki : (k : Int) < (s.size : Int) := by omega
      have hg : Hid (s.data.toList[k]? = some s[k]) := Lib.hid (get_byte hlt)
      have HD : Hid (isD s[k] = ((decide (97 ≤ (s[k]).toNat) && decide ((s[k]).toNat ≤ 122)) || decide ((s[k]).toNat = 47))) := Lib.hid rfl
      have HF : Hid (isD s[k] = false → ok = false) := Lib.hid (fun hb => by
        rw [← HOK.out, Bool.eq_false_iff]
        intro h
        unfold denOk at h
        simp only [Bool.and_eq_true] at h
        have := List.all_eq_true.1 h.2.2.1 _ (List.mem_of_getElem? hg.out)
        rw [hb] at this
        cases this)
      have HN : Hid (isD s[k] = true → (s.data.toList.take (k + 1)).all isD = true) := Lib.hid (fun hb => by
        obtain ⟨hkl, e⟩ := List.getElem?_eq_some_iff.1 hg.out
        rw [List.take_succ_eq_append_getElem hkl, List.all_append, hall.out, e]
        simp [hb])
      by_cases h97 : ((s[k]).toNat : Int) < 97
      · by_cases h47 : ((s[k]).toNat : Int) = 47
        · have HN2 := Lib.hid (HN.out (by rw [HD.out, decide_eq_true (show (s[k]).toNat = 47 by omega)]; simp))
          have H47 : (((s[k]).toNat : Int) == 47) = true := by simpa using h47
          clear h47
          go_wp2_with (exfalso; omega)
          go_roundw
          case rel => exact ⟨k + 1, by omega, by go_num, HN2, hC⟩
          case measure => simp [intOf]; omega
        · have HF2 : Hid (ok = false) := Lib.hid (HF.out (by rw [HD.out, decide_eq_false (show ¬ 97 ≤ (s[k]).toNat by omega), decide_eq_false (show ¬ (s[k]).toNat = 47 by omega)]; rfl))
          have H47 : (((s[k]).toNat : Int) == 47) = false := by simpa using h47
          clear h47
          go_wp2_with fail
          go_ret
          exact ⟨by rw [HF2.out]; rfl, hC.out⟩
      · by_cases h122 : (122 : Int) < ((s[k]).toNat : Int)
        · have HF2 : Hid (ok = false) := Lib.hid (HF.out (by rw [HD.out, decide_eq_false (show ¬ (s[k]).toNat ≤ 122 by omega), decide_eq_false (show ¬ (s[k]).toNat = 47 by omega)]; simp))
          have H47 : (((s[k]).toNat : Int) == 47) = false := by simpa using (by omega : ¬ ((s[k]).toNat : Int) = 47)
          go_wp2_with fail
          go_ret
          exact ⟨by rw [HF2.out]; rfl, hC.out⟩
        · have HN2 := Lib.hid (HN.out (by rw [HD.out, decide_eq_true (show 97 ≤ (s[k]).toNat by omega), decide_eq_true (show (s[k]).toNat ≤ 122 by omega)]; rfl))
          go_wp2_with fail
          go_roundw
          case rel => exact ⟨k + 1, by omega, by go_num, HN2, hC⟩
          case measure => simp [intOf]; omega
    · obtain rfl : k = s.size := by omega
      have ha : Hid (s.data.toList.all isD = true) := Lib.hid (by have := hall.out; rwa [← HSL.out, List.take_length] at this)
      have HE : Hid (ok = (decide (1 ≤ s.size) && (decide (s.size ≤ 40) && (firstOk s && lastOk s)))) := Lib.hid (by
        rw [← HOK.out]
        unfold denOk
        rw [ha.out, Bool.true_and])
      by_cases h1 : (1 : Int) ≤ (s.size : Int)
      · by_cases h2 : (s.size : Int) ≤ 40
        · have h0 : 0 < s.size := by omega
          have hl : s.size - 1 < s.size := by omega
          have e0 : Hid (firstOk s = !(decide ((s[0]).toNat = 47))) := Lib.hid (by
            unfold firstOk
            rw [get_byte h0]
            congr 1
            rw [decide_eq_decide, Option.some.injEq, ← UInt8.toNat_inj]
            rfl)
          have e1 : Hid (lastOk s = !(decide ((s[s.size - 1]).toNat = 47))) := Lib.hid (by
            unfold lastOk
            rw [get_byte hl]
            congr 1
            rw [decide_eq_decide, Option.some.injEq, ← UInt8.toNat_inj]
            rfl)
          have r0 : ∀ W, (Instr.index 9 (.string s) (.int .i64 0)).run Tryd.prog W = .ok (.int .u8 ((s[0]).toNat : Int)) W := fun W => by
            rw [run_index_string W _ s .i64 0 Tryd.underlying9, dif_pos ⟨by omega, by omega⟩]
            rfl
          have r1 : ∀ W, (Instr.index 9 (.string s) (.int .i64 ((s.size : Int) - 1))).run Tryd.prog W = .ok (.int .u8 ((s[s.size - 1]).toNat : Int)) W := fun W => by
            rw [run_index_string W _ s .i64 ((s.size : Int) - 1) Tryd.underlying9, dif_pos ⟨by omega, by omega⟩]
            have e : ((s.size : Int) - 1).toNat = s.size - 1 := by omega
            simp only [e]
          generalize (s[0]).toNat = c0 at *
          generalize (s[s.size - 1]).toNat = c1 at *
          have HV : Hid (ok = ((c0 : Int) != 47 && (c1 : Int) != 47)) := Lib.hid (by
            rw [HE.out, decide_eq_true (show 1 ≤ s.size by omega), decide_eq_true (show s.size ≤ 40 by omega), e0.out, e1.out]
            have b : ∀ c : Nat, (!(decide (c = 47))) = ((c : Int) != 47) := fun c => by
              by_cases h : c = 47
              · subst h; rfl
              · have : ((c : Int) != 47) = true := by simpa using (by omega : ¬ (c : Int) = 47)
                rw [this, decide_eq_false h]; rfl
            rw [b, b]
            rfl)
          go_wp2_with fail
          all_goals
            go_ret
            refine ⟨?_, hC.out⟩
            rw [HV.out]
            first
              | rfl
              | (simp_all; done)
        · have HE2 : Hid (ok = false) := Lib.hid (by rw [HE.out, decide_eq_false (show ¬ s.size ≤ 40 by omega)]; simp)
          go_wp2_with fail
          go_ret
          exact ⟨by rw [HE2.out]; rfl, hC.out⟩
      · have HE2 : Hid (ok = false) := Lib.hid (by rw [HE.out, decide_eq_false (show ¬ 1 ≤ s.size by omega)]; rfl)
        go_wp2_with fail
        go_ret
        exact ⟨by rw [HE2.out]; rfl, hC.out⟩
set_option maxHeartbeats 1600000 in
theorem may_any (w : World) (s t d : ByteArray) (hs : s.size ≤ maxLen) (ht : t.size ≤ maxLen) (hd : d.size ≤ maxLen) (n : Nat) (hn : n < 18446744073709551616) :
    Calls Tryd.prog 36 #[.string s, .string t, .string d, .int .u64 (n : Int)] w (Zero w (.int .i64 (errN ((accOk s && accOk t) && denOk d) n))) := by
  have H1 := Lib.hid (fun w => rName_any w s hs)
  have H2 := Lib.hid (fun w => rName_any w t ht)
  have H3 := Lib.hid (fun w => rDenom_any w d hd)
  clear hs ht hd
  have HE : Hid (∀ b, errN b n = if b = true then (if n = 0 then 1 else 0) else 183) := Lib.hid fun b => rfl
  generalize hb1 : accOk s = x1 at *
  generalize hb2 : accOk t = x2 at *
  generalize hb3 : denOk d = x3 at *
  clear hb1 hb2 hb3
  go_enter Tryd.func36, Tryd.ntmps36
  go_wp2_with fail
  refine (H1.out w).mono ?_
  rintro e w1 ⟨rfl, k1⟩
  have HK1 := Lib.hid k1
  clear k1
  go_wp2_with fail
  refine (H2.out w1).mono ?_
  rintro e w2 ⟨rfl, k2⟩
  have HK2 := Lib.hid (HK1.out.trans k2 (fun _ f => f.elim))
  clear k2
  go_wp2_with fail
  refine (H3.out w2).mono ?_
  rintro e w3 ⟨rfl, k3⟩
  have HK3 := Lib.hid (HK2.out.trans k3 (fun _ f => f.elim))
  clear k3
  by_cases h0 : (n : Int) = 0
  · have HR : Hid (∀ b, errN b n = if b = true then 1 else 183) := Lib.hid fun b => by rw [HE.out b, if_pos (show n = 0 by omega)]
    have H0 : ((n : Int) == 0) = true := by simpa using h0
    clear h0 HE
    cases x1 <;> cases x2 <;> cases x3 <;>
      (go_wp2_with fail
       go_ret
       exact ⟨by rw [HR.out]; rfl, HK3.out⟩)
  · have HR : Hid (∀ b, errN b n = if b = true then 0 else 183) := Lib.hid fun b => by rw [HE.out b, if_neg (show ¬ n = 0 by omega)]
    have H0 : ((n : Int) == 0) = false := by simpa using h0
    clear h0 HE
    cases x1 <;> cases x2 <;> cases x3 <;>
      (go_wp2_with fail
       go_ret
       exact ⟨by rw [HR.out]; rfl, HK3.out⟩)

/-! ### Amounts -/
def am (x : Key × Nat) : List Value := [.string x.1.1, .string x.1.2, .int .u64 (x.2 : Int)]
/-- The document's bank in block G: the list l lies at A. -/
structure RbP (w : World) (G : Nat) (l : List (Key × Nat)) : Prop where
  ex : ∃ A c, Hb w G 28 #[.slice A l.length c] ∧ LstM w A l am 3 ∧ ∀ j, abl A j → 0 < l.length → j ≠ G
theorem beqS (a b : ByteArray) : (a.toList == b.toList) = decide (a = b) := by
  by_cases h : a = b
  · subst h; simp
  · rw [decide_eq_false h, beq_eq_false_iff_ne]
    intro e
    rw [ByteArray.toList_eq, ByteArray.toList_eq] at e
    exact h (ba_eq e)
theorem RbP.chg {w w' : World} {G : Nat} {l : List (Key × Nat)} {S : Nat → Prop} (h : RbP w G l) (k : Chg S w w') (hG : ¬ S G) (hA : ∀ A c, Hb w G 28 #[.slice A l.length c] → ∀ j, abl A j → 0 < l.length → ¬ S j) : RbP w' G l := by
  obtain ⟨A, c, hb, hl, hn⟩ := h.ex
  refine ⟨A, c, hb.chg k hG, fun i x hx => ?_, hn⟩
  obtain ⟨eb, eo, rfl, e2, e3⟩ := hl i x hx
  have hlen : 0 < l.length := by have := (List.getElem?_eq_some_iff.1 hx).1; omega
  exact ⟨eb, eo, rfl, Nat.lt_of_lt_of_le e2 k.size, k.range' e3 (hA _ _ hb eb ⟨_, rfl, rfl⟩ hlen)⟩
theorem RbP.non {w w' : World} {G : Nat} {l : List (Key × Nat)} (h : RbP w G l) (k : Chg Non w w') : RbP w' G l := h.chg k (fun f => f) (fun _ _ _ _ _ _ f => f)
theorem RbP.lt {w : World} {G : Nat} {l : List (Key × Nat)} (h : RbP w G l) : G < w.heap.size := by
  obtain ⟨A, c, hb, _⟩ := h.ex
  exact hb.lt
/-- A bank's maps are none of the document's blocks. -/
theorem RbP.maps {w w' : World} {g b1 b2 n G : Nat} {F : Key → Nat} {S : ByteArray → Nat} {l : List (Key × Nat)} (h : RbP w G l) (hB : BkP w g b1 b2 n F S) (k : Chg (Bb b1 b2) w w') : RbP w' G l := by
  have hm : ∀ (j : Nat) (cs : Array Value) (t : TypeId) (fr : Nat × Nat), w.heap[j]? = some (.cells cs t fr) → ¬ Bb b1 b2 j := by
    intro j cs t fr hj e
    rcases e with e | e
    · obtain ⟨D, ⟨ms, ck, hm, _⟩, _⟩ := hB.am
      rw [e, hm] at hj
      cases hj
    · obtain ⟨D, ⟨ms, ck, hm, _⟩, _⟩ := hB.su
      rw [e, hm] at hj
      cases hj
  obtain ⟨A, c, hb, hl, hn⟩ := h.ex
  refine ⟨A, c, hb.chg k (hm _ _ _ _ hb), fun i x hx => ?_, hn⟩
  obtain ⟨eb, eo, rfl, e2, e3⟩ := hl i x hx
  refine ⟨eb, eo, rfl, Nat.lt_of_lt_of_le e2 k.size, k.range' e3 (fun e => ?_)⟩
  have hc := e3 0 _ (rfl : (am x)[0]? = some (.string x.1.1))
  rcases e with e | e
  · obtain ⟨D, ⟨ms, ck, hm, _⟩, _⟩ := hB.am
    rw [e] at hc
    unfold World.cell? at hc
    simp [hm] at hc
  · obtain ⟨D, ⟨ms, ck, hm, _⟩, _⟩ := hB.su
    rw [e] at hc
    unfold World.cell? at hc
    simp [hm] at hc
theorem klook_drop {κ : Type} [DecidableEq κ] {key : κ} {l : List (κ × Nat)} {k : Nat} {x : κ × Nat} (hx : l[k]? = some x) : klook key (l.drop k) = if x.1 = key then x.2 else klook key (l.drop (k + 1)) := by
  obtain ⟨hk, e⟩ := List.getElem?_eq_some_iff.1 hx
  rw [List.drop_eq_getElem_cons hk, e]
  rfl
set_option maxHeartbeats 1600000 in
theorem rBalance_any (w : World) (G : Nat) (l : List (Key × Nat)) (h : RbP w G l) (hl : l.length ≤ 100000) (s d : ByteArray) :
    Calls Tryd.prog 14 #[.pointer (some ⟨G, 0, none⟩), .string s, .string d] w (Zero w (.int .u64 (klook (s, d) l : Int))) := by
  obtain ⟨A, c, hb, M, _⟩ := h.ex
  have HM := Lib.hid M
  have HB : Hid (∀ w', Chg Non w w' → w'.cell? ⟨G, 0, none⟩ = some (.slice A l.length c)) := Lib.hid fun w' k => by rw [(hb.chg k (fun f => f)).cell]; rfl
  have HR : Hid (klook (s, d) l = klook (s, d) (l.drop 0)) := Lib.hid (by rw [List.drop_zero])
  generalize hres : klook (s, d) l = res at *
  have p0 := HB.out w (Chg.refl _ _)
  clear h hb M hres
  generalize hn : l.length = m at *
  have HL := Lib.hid hn
  clear hn
  go_enter Tryd.func14, Tryd.ntmps14
  go_wp2_with fail
  clear p0
  go_loopw [7] (fun i wr => ∃ k : Nat, k ≤ m ∧ i = .int .i64 (k : Int) ∧ Hid (res = klook (s, d) (l.drop k)) ∧ Hid (Chg Non w wr)) (fun i _ => m - (intOf i).toNat)
  case atStart => exact ⟨0, by omega, rfl, HR, Lib.hid (Chg.refl _ _)⟩
  case round =>
    obtain ⟨k, hk, rfl, hK, hC⟩ := hrel
    have p0 := HB.out wr hC.out
    by_cases hlt : k < m
    · have hki : (k : Int) < (m : Int) := by omega
      have hkl : k < l.length := by rw [HL.out]; exact hlt
      have hx := List.getElem?_eq_getElem hkl
      obtain ⟨a, ao, rfl, _, r1⟩ := (HM.out.chg hC.out) k _ hx
      have HD := Lib.hid (klook_drop (key := (s, d)) hx)
      generalize l[k] = x at *
      obtain ⟨⟨xs, xd⟩, xn⟩ := x
      unfold am at r1
      dsimp only at r1 HD
      obtain ⟨c0, r1⟩ := rangeAt_cons r1
      obtain ⟨c1, r1⟩ := rangeAt_cons r1
      obtain ⟨c2, r1⟩ := rangeAt_cons r1
      clear r1 hx hkl
      by_cases e1 : xs = s
      · have f1 : (xs.toList == s.toList) = true := by rw [beqS, decide_eq_true e1]
        by_cases e2 : xd = d
        · have f2 : (xd.toList == d.toList) = true := by rw [beqS, decide_eq_true e2]
          have HV : Hid (res = xn) := Lib.hid (by rw [hK.out, HD.out, if_pos (by rw [e1, e2])])
          clear e1 e2
          go_wp2_with fail
          go_ret
          exact ⟨by rw [HV.out]; rfl, hC.out⟩
        · have f2 : (xd.toList == d.toList) = false := by rw [beqS, decide_eq_false e2]
          have HV : Hid (res = klook (s, d) (l.drop (k + 1))) := Lib.hid (by rw [hK.out, HD.out, if_neg (fun e => e2 (by injection e))])
          clear e1 e2
          go_wp2_with fail
          go_roundw
          case rel => exact ⟨k + 1, by omega, by go_num, HV, hC⟩
          case measure => simp [intOf]; omega
      · have f1 : (xs.toList == s.toList) = false := by rw [beqS, decide_eq_false e1]
        have HV : Hid (res = klook (s, d) (l.drop (k + 1))) := Lib.hid (by rw [hK.out, HD.out, if_neg (fun e => e1 (by injection e))])
        clear e1
        go_wp2_with fail
        go_roundw
        case rel => exact ⟨k + 1, by omega, by go_num, HV, hC⟩
        case measure => simp [intOf]; omega
    · obtain rfl : k = m := by omega
      have HV : Hid (res = 0) := Lib.hid (by rw [hK.out, List.drop_of_length_le (by rw [HL.out]; exact Nat.le_refl _)]; rfl)
      go_wp2_with fail
      go_ret
      exact ⟨by rw [HV.out]; rfl, hC.out⟩
theorem ksup_take {l : List (Key × Nat)} {d : ByteArray} {k : Nat} {x : Key × Nat} (hx : l[k]? = some x) : ksup Prod.snd (l.take (k + 1)) d = ksup Prod.snd (l.take k) d + (if x.1.2 = d then x.2 else 0) := by
  rw [List.take_add_one, hx, ksup_append]
  simp [ksup]
theorem ksup_take_le (l : List (Key × Nat)) (d : ByteArray) (k : Nat) : ksup Prod.snd (l.take k) d ≤ ksup Prod.snd l d := by
  have : ksup Prod.snd l d = ksup Prod.snd (l.take k) d + ksup Prod.snd (l.drop k) d := by rw [← ksup_append, List.take_append_drop]
  omega
set_option maxHeartbeats 1600000 in
theorem rSupply_any (w : World) (G : Nat) (l : List (Key × Nat)) (h : RbP w G l) (hl : l.length ≤ 100000) (d : ByteArray) (hlim : ksup Prod.snd l d < 18446744073709551616) :
    Calls Tryd.prog 16 #[.pointer (some ⟨G, 0, none⟩), .string d] w (Zero w (.int .u64 (ksup Prod.snd l d : Int))) := by
  obtain ⟨A, c, hb, M, _⟩ := h.ex
  have HM := Lib.hid M
  have HB : Hid (∀ w', Chg Non w w' → w'.cell? ⟨G, 0, none⟩ = some (.slice A l.length c)) := Lib.hid fun w' k => by rw [(hb.chg k (fun f => f)).cell]; rfl
  have HLIM := Lib.hid hlim
  have p0 := HB.out w (Chg.refl _ _)
  clear h hb M hlim
  generalize hn : l.length = m at *
  have HL := Lib.hid hn
  clear hn
  go_enter Tryd.func16, Tryd.ntmps16
  go_wp2_with fail
  clear p0
  go_loopw [5, 6] (fun n i wr => ∃ k q : Nat, k ≤ m ∧ i = .int .i64 (k : Int) ∧ n = .int .u64 (q : Int) ∧ Hid (q = ksup Prod.snd (l.take k) d) ∧ Hid (Chg Non w wr)) (fun _ i _ => m - (intOf i).toNat)
  case atStart => exact ⟨0, 0, by omega, rfl, rfl, Lib.hid rfl, Lib.hid (Chg.refl _ _)⟩
  case round =>
    obtain ⟨k, q, hk, rfl, rfl, hK, hC⟩ := hrel
    have p0 := HB.out wr hC.out
    by_cases hlt : k < m
    · have hki : (k : Int) < (m : Int) := by omega
      have hkl : k < l.length := by rw [HL.out]; exact hlt
      have hx := List.getElem?_eq_getElem hkl
      obtain ⟨a, ao, rfl, _, r1⟩ := (HM.out.chg hC.out) k _ hx
      have HD := Lib.hid (ksup_take (d := d) hx)
      have HT := Lib.hid (ksup_take_le l d (k + 1))
      generalize l[k] = x at *
      obtain ⟨⟨xs, xd⟩, xn⟩ := x
      unfold am at r1
      dsimp only at r1 HD
      obtain ⟨c0, r1⟩ := rangeAt_cons r1
      obtain ⟨c1, r1⟩ := rangeAt_cons r1
      obtain ⟨c2, r1⟩ := rangeAt_cons r1
      clear r1 hx hkl
      by_cases e2 : xd = d
      · have f2 : (xd.toList == d.toList) = true := by rw [beqS, decide_eq_true e2]
        have hsum : q + xn < 18446744073709551616 := by
          have h1 := HD.out
          rw [if_pos e2] at h1
          have h2 := HT.out
          have h3 := HLIM.out
          have h4 := hK.out
          omega
        have HV : Hid (q + xn = ksup Prod.snd (l.take (k + 1)) d) := Lib.hid (by rw [HD.out, if_pos e2, hK.out])
        clear e2
        go_wp2_with fail
        go_roundw
        case rel => exact ⟨k + 1, q + xn, by omega, by go_num, by go_num, HV, hC⟩
        case measure => simp [intOf]; omega
      · have f2 : (xd.toList == d.toList) = false := by rw [beqS, decide_eq_false e2]
        have HV : Hid (q = ksup Prod.snd (l.take (k + 1)) d) := Lib.hid (by rw [HD.out, if_neg e2, hK.out]; rfl)
        clear e2
        go_wp2_with fail
        go_roundw
        case rel => exact ⟨k + 1, q, by omega, by go_num, rfl, HV, hC⟩
        case measure => simp [intOf]; omega
    · obtain rfl : k = m := by omega
      have HV : Hid (q = ksup Prod.snd l d) := Lib.hid (by rw [hK.out, ← HL.out, List.take_length])
      go_wp2_with fail
      go_ret
      exact ⟨by rw [← HV.out]; rfl, hC.out⟩
end Go.Proofs.YtahlfncijbkcoaaDoor
