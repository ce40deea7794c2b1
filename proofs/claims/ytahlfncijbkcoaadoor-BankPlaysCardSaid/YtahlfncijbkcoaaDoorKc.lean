/- isLetter, isAccount, isDenom, wrong: may names and an amount be? -/
import Derived.Test.YtahlfncijbkcoaaDoorChecked
import Derived.WalkKit
import Derived.WalkLawsBesides
import Derived.Lib.Hide
import Derived.Deep.MidRow
import Derived.Test.YtahlfncijbkcoaaDoorKb
namespace Go.Proofs.YtahlfncijbkcoaaDoor
open Go.RowKit
set_option linter.unusedVariables false
set_option linter.unusedSimpArgs false
set_option maxRecDepth 20000

theorem isLetter_any (w : World) (c : UInt8) : Calls Tryd.prog 61 #[.int .u8 (c.toNat : Int)] w (Zero w (.bool (isL c))) := by
  have hb := c.toNat_lt
  have HI : Hid (isL c = (decide (97 ≤ c.toNat) && decide (c.toNat ≤ 122))) := Lib.hid rfl
  generalize isL c = ok at *
  generalize c.toNat = n at *
  go_enter Tryd.func61, Tryd.ntmps61
  by_cases h1 : (97 : Int) ≤ (n : Int)
  · by_cases h2 : (n : Int) ≤ 122
    · go_wp2_with fail
      go_ret
      exact ⟨by rw [HI.out, decide_eq_true (by omega), decide_eq_true (by omega)]; rfl, Chg.refl _ _⟩
    · go_wp2_with fail
      go_ret
      exact ⟨by rw [HI.out, decide_eq_true (by omega), decide_eq_false (by omega)]; rfl, Chg.refl _ _⟩
  · go_wp2_with fail
    go_ret
    exact ⟨by rw [HI.out, decide_eq_false (by omega)]; rfl, Chg.refl _ _⟩

set_option maxHeartbeats 1600000 in
theorem isAccount_any (w : World) (s : ByteArray) (hm : s.size ≤ maxLen) : Calls Tryd.prog 42 #[.string s] w (Zero w (.bool (accOk s))) := by
  have hsl : s.data.toList.length = s.size := ba_len s
  have HSL := Lib.hid hsl
  have HL : Hid (∀ w c, Calls Tryd.prog 61 #[.int .u8 (c.toNat : Int)] w (Zero w (.bool (isL c)))) := Lib.hid isLetter_any
  unfold maxLen at hm
  generalize hok : accOk s = ok
  have HOK := Lib.hid hok
  clear hok hsl
  go_enter Tryd.func42, Tryd.ntmps42
  by_cases h1 : (s.size : Int) < 1
  · have HF : Hid (ok = false) := Lib.hid (by rw [← HOK.out]; unfold accOk; rw [decide_eq_false (by omega)]; rfl)
    go_wp2_with fail
    go_ret
    exact ⟨by rw [HF.out]; rfl, Chg.refl _ _⟩
  by_cases h2 : (s.size : Int) > 16
  · have HF : Hid (ok = false) := Lib.hid (by rw [← HOK.out]; unfold accOk; rw [decide_eq_false (show ¬ s.size ≤ 16 by omega)]; simp)
    go_wp2_with fail
    go_ret
    exact ⟨by rw [HF.out]; rfl, Chg.refl _ _⟩
  have HE : Hid (ok = s.data.toList.all isL) := Lib.hid (by rw [← HOK.out]; unfold accOk; rw [decide_eq_true (by omega), decide_eq_true (by omega)]; rfl)
  go_wp2_with fail
  go_loopw [3, 14] (fun _ i wr => ∃ k : Nat, k ≤ s.size ∧ i = .int .i64 (k : Int) ∧ Hid ((s.data.toList.take k).all isL = true) ∧ Hid (Chg Non w wr)) (fun _ i _ => s.size - (intOf i).toNat)
  case atStart => exact ⟨0, by omega, rfl, Lib.hid rfl, Lib.hid (Chg.refl _ _)⟩
  case round =>
    obtain ⟨k, hk, rfl, hall, hC⟩ := hrel
    by_cases hlt : k < s.size
    · have hki : (k : Int) < (s.size : Int) := by omega
      have hg : Hid (s.data.toList[k]? = some s[k]) := Lib.hid (by
        have hkl : k < s.data.toList.length := by rw [HSL.out]; exact hlt
        rw [List.getElem?_eq_getElem hkl]
        rfl)
      go_wp2_with fail
      refine (HL.out wr s[k]).mono ?_
      rintro e w1 ⟨rfl, k1⟩
      have HC1 := Lib.hid (hC.out.trans k1 (fun _ f => f.elim))
      clear k1
      cases hb : isL s[k] with
      | true =>
        have HN : Hid ((s.data.toList.take (k + 1)).all isL = true) := Lib.hid (by
          obtain ⟨hkl, e⟩ := List.getElem?_eq_some_iff.1 hg.out
          rw [List.take_succ_eq_append_getElem hkl, List.all_append, hall.out, e]
          simp [hb])
        clear hb
        go_wp2_with fail
        go_roundw
        case rel => exact ⟨k + 1, by omega, by go_num, HN, HC1⟩
        case measure => simp [intOf]; omega
      | false =>
        have HF : Hid (ok = false) := Lib.hid (by
          rw [HE.out, Bool.eq_false_iff]
          intro h
          have := List.all_eq_true.1 h _ (List.mem_of_getElem? hg.out)
          rw [hb] at this
          cases this)
        clear hb
        go_wp2_with fail
        go_ret
        exact ⟨by rw [HF.out]; rfl, HC1.out⟩
    · obtain rfl : k = s.size := by omega
      have HT : Hid (ok = true) := Lib.hid (by rw [HE.out]; have := hall.out; rwa [← HSL.out, List.take_length] at this)
      go_wp2_with fail
      go_ret
      exact ⟨by rw [HT.out]; rfl, hC.out⟩

theorem get_byte {s : ByteArray} {k : Nat} (h : k < s.size) : s.data.toList[k]? = some s[k] := by
  have hkl : k < s.data.toList.length := by rw [ba_len]; exact h
  rw [List.getElem?_eq_getElem hkl]
  rfl
set_option maxHeartbeats 1600000 in
theorem isDenom_any (w : World) (s : ByteArray) (hm : s.size ≤ maxLen) : Calls Tryd.prog 43 #[.string s] w (Zero w (.bool (denOk s))) := by
  have hsl : s.data.toList.length = s.size := ba_len s
  have HSL := Lib.hid hsl
  have HL : Hid (∀ w c, Calls Tryd.prog 61 #[.int .u8 (c.toNat : Int)] w (Zero w (.bool (isL c)))) := Lib.hid isLetter_any
  unfold maxLen at hm
  generalize hok : denOk s = ok
  have HOK := Lib.hid hok
  clear hok hsl
  go_enter Tryd.func43, Tryd.ntmps43
  by_cases h1 : (s.size : Int) < 1
  · have HF : Hid (ok = false) := Lib.hid (by rw [← HOK.out]; unfold denOk; rw [decide_eq_false (by omega)]; rfl)
    go_wp2_with fail
    go_ret
    exact ⟨by rw [HF.out]; rfl, Chg.refl _ _⟩
  by_cases h2 : (s.size : Int) > 40
  · have HF : Hid (ok = false) := Lib.hid (by rw [← HOK.out]; unfold denOk; rw [decide_eq_false (show ¬ s.size ≤ 40 by omega)]; simp)
    go_wp2_with fail
    go_ret
    exact ⟨by rw [HF.out]; rfl, Chg.refl _ _⟩
  have HE : Hid (ok = (s.data.toList.all isD && (firstOk s && lastOk s))) := Lib.hid (by rw [← HOK.out]; unfold denOk; rw [decide_eq_true (by omega), decide_eq_true (by omega)]; rfl)
  go_wp2_with fail
  go_loopw [3, 14] (fun _ i wr => ∃ k : Nat, k ≤ s.size ∧ i = .int .i64 (k : Int) ∧ Hid ((s.data.toList.take k).all isD = true) ∧ Hid (Chg Non w wr)) (fun _ i _ => s.size - (intOf i).toNat)
  case atStart => exact ⟨0, by omega, rfl, Lib.hid rfl, Lib.hid (Chg.refl _ _)⟩
  case round =>
    obtain ⟨k, hk, rfl, hall, hC⟩ := hrel
    by_cases hlt : k < s.size
    · have hki : (k : Int) < (s.size : Int) := by omega
      have hg : Hid (s.data.toList[k]? = some s[k]) := Lib.hid (get_byte hlt)
      have HN : Hid (isD s[k] = true → (s.data.toList.take (k + 1)).all isD = true) := Lib.hid (fun hb => by
        obtain ⟨hkl, e⟩ := List.getElem?_eq_some_iff.1 hg.out
        rw [List.take_succ_eq_append_getElem hkl, List.all_append, hall.out, e]
        simp [hb])
      have HF : Hid (isD s[k] = false → ok = false) := Lib.hid (fun hb => by
        rw [HE.out, Bool.and_eq_false_iff]
        left
        rw [Bool.eq_false_iff]
        intro h
        have := List.all_eq_true.1 h _ (List.mem_of_getElem? hg.out)
        rw [hb] at this
        cases this)
      have HD : Hid (isD s[k] = (isL s[k] || decide ((s[k]).toNat = 47))) := Lib.hid rfl
      go_wp2_with fail
      refine (HL.out wr s[k]).mono ?_
      rintro e w1 ⟨rfl, k1⟩
      have HC1 := Lib.hid (hC.out.trans k1 (fun _ f => f.elim))
      clear k1
      cases hb : isL s[k] with
      | true =>
        have HN2 : Hid ((s.data.toList.take (k + 1)).all isD = true) := Lib.hid (HN.out (by rw [HD.out, hb]; rfl))
        clear hb
        go_wp2_with fail
        go_roundw
        case rel => exact ⟨k + 1, by omega, by go_num, HN2, HC1⟩
        case measure => simp [intOf]; omega
      | false =>
        by_cases h47 : ((s[k]).toNat : Int) = 47
        · have HN2 : Hid ((s.data.toList.take (k + 1)).all isD = true) := Lib.hid (HN.out (by rw [HD.out, hb, decide_eq_true (by omega)]; rfl))
          have H47 : (((s[k]).toNat : Int) == 47) = true := by simpa using h47
          clear hb h47
          go_wp2_with fail
          go_roundw
          case rel => exact ⟨k + 1, by omega, by go_num, HN2, HC1⟩
          case measure => simp [intOf]; omega
        · have HF2 : Hid (ok = false) := Lib.hid (HF.out (by rw [HD.out, hb, decide_eq_false (by omega)]; rfl))
          have H47 : (((s[k]).toNat : Int) == 47) = false := by simpa using h47
          clear hb h47
          go_wp2_with fail
          go_ret
          exact ⟨by rw [HF2.out]; rfl, HC1.out⟩
    · obtain rfl : k = s.size := by omega
      have HT : Hid (ok = (firstOk s && lastOk s)) := Lib.hid (by rw [HE.out]; have := hall.out; rw [← HSL.out, List.take_length] at this; rw [this]; rfl)
      have h0 : 0 < s.size := by omega
      have hl : s.size - 1 < s.size := by omega
      have e0 : Hid (firstOk s = !(decide ((s[0]).toNat = 47))) := Lib.hid (by
        unfold firstOk
        rw [get_byte h0]
        congr 1
        rw [decide_eq_decide, Option.some.injEq, ← UInt8.toNat_inj]
        rfl)
      have e1 : Hid (lastOk s = !(decide ((s[s.size - 1]).toNat = 47))) := Lib.hid (by
        unfold lastOk
        rw [get_byte hl]
        congr 1
        rw [decide_eq_decide, Option.some.injEq, ← UInt8.toNat_inj]
        rfl)
      have r0 : ∀ W, (Instr.index 9 (.string s) (.int .i64 0)).run Tryd.prog W = .ok (.int .u8 ((s[0]).toNat : Int)) W := fun W => by
        rw [run_index_string W _ s .i64 0 Tryd.underlying9, dif_pos ⟨by omega, by omega⟩]
        rfl
      have r1 : ∀ W, (Instr.index 9 (.string s) (.int .i64 ((s.size : Int) - 1))).run Tryd.prog W = .ok (.int .u8 ((s[s.size - 1]).toNat : Int)) W := fun W => by
        rw [run_index_string W _ s .i64 ((s.size : Int) - 1) Tryd.underlying9, dif_pos ⟨by omega, by omega⟩]
        have e : ((s.size : Int) - 1).toNat = s.size - 1 := by omega
        simp only [e]
      generalize (s[0]).toNat = c0 at *
      generalize (s[s.size - 1]).toNat = c1 at *
      have HV : Hid (ok = ((c0 : Int) != 47 && (c1 : Int) != 47)) := Lib.hid (by
        rw [HT.out, e0.out, e1.out]
        have b : ∀ c : Nat, (!(decide (c = 47))) = ((c : Int) != 47) := fun c => by
          by_cases h : c = 47
          · subst h; rfl
          · have : ((c : Int) != 47) = true := by simpa using (by omega : ¬ (c : Int) = 47)
            rw [this, decide_eq_false h]; rfl
        rw [b, b])
      go_wp2_with fail
      all_goals
        go_ret
        refine ⟨?_, hC.out⟩
        rw [HV.out]
        first
          | rfl
          | (simp_all; done)

/-- The error of names and an amount. -/
def errN (ok : Bool) (n : Nat) : Int := if ok = true then (if n = 0 then 1 else 0) else 183
theorem errN_false (n : Nat) : errN false n = 183 := rfl
theorem errN_zero : errN true 0 = 1 := rfl
theorem errN_pos {n : Nat} (h : ¬ n = 0) : errN true n = 0 := by unfold errN; rw [if_pos rfl, if_neg h]
set_option maxHeartbeats 1600000 in
theorem wrong_any (w : World) (A : Option Addr) (c : Nat) (ns : List ByteArray) (hl : ns.length ≤ 10) (hm : ∀ s ∈ ns, s.size ≤ maxLen) (M : LstM w A ns (fun s => [.string s]) 1) (d : ByteArray) (hd : d.size ≤ maxLen) (n : Nat) (hn : n < 18446744073709551616) :
    Calls Tryd.prog 31 #[.int .u64 (n : Int), .string d, .slice A ns.length c] w (Zero w (.int .i64 (errN (ns.all accOk && denOk d) n))) := by
  have HA : Hid (∀ w s, s.size ≤ maxLen → Calls Tryd.prog 42 #[.string s] w (Zero w (.bool (accOk s)))) := Lib.hid isAccount_any
  have HD : Hid (∀ w, Calls Tryd.prog 43 #[.string d] w (Zero w (.bool (denOk d)))) := Lib.hid fun w => isDenom_any w d hd
  have HM := Lib.hid M
  have HS := Lib.hid hm
  generalize hres : errN (ns.all accOk && denOk d) n = res
  have HR := Lib.hid hres
  clear hres M hm hd
  generalize hln : ns.length = m at *
  have HL := Lib.hid hln
  clear hln
  go_enter Tryd.func31, Tryd.ntmps31
  go_wp2_with fail
  go_loopw [8, 11] (fun _ i wr => ∃ k : Nat, k ≤ m ∧ i = .int .i64 (k : Int) ∧ Hid ((ns.take k).all accOk = true) ∧ Hid (Chg Non w wr)) (fun _ i _ => m - (intOf i).toNat)
  case atStart => exact ⟨0, by omega, rfl, Lib.hid rfl, Lib.hid (Chg.refl _ _)⟩
  case round =>
    obtain ⟨k, hk, rfl, hall, hC⟩ := hrel
    by_cases hlt : k < m
    · have hki : (k : Int) < (m : Int) := by omega
      have hkl : k < ns.length := by rw [HL.out]; exact hlt
      have hx := List.getElem?_eq_getElem hkl
      obtain ⟨g, o, rfl, _, r1⟩ := (HM.out.chg hC.out) _ _ hx
      have HX := Lib.hid hx
      obtain ⟨c0, _⟩ := rangeAt_cons r1
      rw [Nat.mul_one] at c0
      have HSZ := Lib.hid (HS.out ns[k] (List.getElem_mem hkl))
      have HN : Hid (accOk ns[k] = true → (ns.take (k + 1)).all accOk = true) := Lib.hid (fun hb => by
        rw [List.take_succ_eq_append_getElem hkl, List.all_append, hall.out]
        simp [hb])
      have HF : Hid (accOk ns[k] = false → res = 183) := Lib.hid (fun hb => by
        rw [← HR.out]
        have : ns.all accOk = false := by
          rw [Bool.eq_false_iff]
          intro h
          have := List.all_eq_true.1 h _ (List.getElem_mem hkl)
          rw [hb] at this
          cases this
        rw [this]
        rfl)
      generalize ns[k] = s at *
      clear hx r1 hkl
      go_wp2_with fail
      refine (HA.out wr s HSZ.out).mono ?_
      rintro e w1 ⟨rfl, k1⟩
      have HC1 := Lib.hid (hC.out.trans k1 (fun _ f => f.elim))
      clear k1 c0
      cases hb : accOk s with
      | true =>
        have HN2 := Lib.hid (HN.out hb)
        clear hb
        go_wp2_with fail
        go_roundw
        case rel => exact ⟨k + 1, by omega, by go_num, HN2, HC1⟩
        case measure => simp [intOf]; omega
      | false =>
        have HF2 := Lib.hid (HF.out hb)
        clear hb
        go_wp2_with fail
        go_ret
        exact ⟨by rw [HF2.out]; rfl, HC1.out⟩
    · obtain rfl : k = m := by omega
      have HT : Hid (res = errN (denOk d) n) := Lib.hid (by
        rw [← HR.out]
        have := hall.out
        rw [← HL.out, List.take_length] at this
        rw [this]
        rfl)
      go_wp2_with fail
      refine (HD.out wr).mono ?_
      rintro e w1 ⟨rfl, k1⟩
      have HC1 := Lib.hid (hC.out.trans k1 (fun _ f => f.elim))
      clear k1
      cases hb : denOk d with
      | false =>
        have HF2 : Hid (res = 183) := Lib.hid (by rw [HT.out, hb]; rfl)
        clear hb
        go_wp2_with fail
        go_ret
        exact ⟨by rw [HF2.out]; rfl, HC1.out⟩
      | true =>
        by_cases h0 : (n : Int) = 0
        · have HF2 : Hid (res = 1) := Lib.hid (by rw [HT.out, hb]; have : n = 0 := by omega
                                                  rw [this]; rfl)
          have H0 : ((n : Int) == 0) = true := by simpa using h0
          clear hb h0
          go_wp2_with fail
          go_ret
          exact ⟨by rw [HF2.out]; rfl, HC1.out⟩
        · have HF2 : Hid (res = 0) := Lib.hid (by rw [HT.out, hb]; exact errN_pos (by omega))
          have H0 : ((n : Int) == 0) = false := by simpa using h0
          clear hb h0
          go_wp2_with fail
          go_ret
          exact ⟨by rw [HF2.out]; rfl, HC1.out⟩
end Go.Proofs.YtahlfncijbkcoaaDoor
