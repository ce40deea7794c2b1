import Derived.Test.YteglpgakikigiaaChecked
import Derived.WalkKit
import Derived.WalkLawsBesides
import Derived.Lib.Hide
import Derived.Deep.RegionHeld3
import Derived.Deep.RegionLaw
import Derived.Shelf.Abstract
import Derived.Deep.QuietTactic
import Derived.BigQuiet
import Derived.Deep.MidRow
import Derived.Test.YteglpgakikigiaaMFormLists3
import Derived.Test.YteglpgakikigiaaMFormLists4
/- The document's answers for forms: a number's bytes, a range, a name. -/
namespace Go.Proofs.Yteglpgakikigiaa
open Go.RowKit
set_option linter.unusedVariables false
set_option linter.unusedSimpArgs false
set_option maxRecDepth 20000

theorem in_any (w : World) (n lo hi : Int) : Calls Try.prog 50 #[.int .i64 n, .int .i64 lo, .int .i64 hi] w fun e w' => e = .returned (.bool (inR lo hi n)) ∧ w' = w := by
  by_cases h1 : lo ≤ n
  · have k1 : decide (n ≥ lo) = true := decide_eq_true h1
    by_cases h2 : n ≤ hi
    · have e : inR lo hi n = true := inR_iff.2 ⟨h1, h2⟩
      rw [e]
      clear e
      go_enter Try.func50, Try.ntmps50
      go_wp2
      go_ret
      exact ⟨rfl, rfl⟩
    · have e : inR lo hi n = false := by rw [Bool.eq_false_iff]; exact fun h => h2 (inR_iff.1 h).2
      rw [e]
      clear e
      go_enter Try.func50, Try.ntmps50
      go_wp2
      go_ret
      exact ⟨rfl, rfl⟩
  · have e : inR lo hi n = false := by rw [Bool.eq_false_iff]; exact fun h => h1 (inR_iff.1 h).1
    rw [e]
    clear e
    go_enter Try.func50, Try.ntmps50
    go_wp2
    go_ret
    exact ⟨rfl, rfl⟩

theorem refNumber_any (w : World) (n : Int) : Calls Try.prog 51 #[.int .i64 n] w (Newb w (num n)) := by
  have H := fun w' => refWordI_any w' (n % 18446744073709551616) (by omega) (by omega)
  have hw : IntKind.u64.wrap n = n % 18446744073709551616 := by simp [IntKind.wrap, IntKind.bits, IntKind.signed]
  go_enter Try.func51, Try.ntmps51
  go_wp2_with fail
  refine (H w).mono ?_
  rintro e w1 ⟨v, rfl, o, h, k⟩
  go_wp2_with fail
  go_ret
  exact ⟨v, rfl, o, h, k⟩

set_option maxHeartbeats 1600000 in
theorem refName_any (w : World) (s : ByteArray) (hm : s.size ≤ maxLen) : Calls Try.prog 72 #[.string s] w fun e w' => e = .returned (.bool (nameOk s)) ∧ ∃ n, w' = w.drewN n := by
  have hsl : s.data.toList.length = s.size := by rw [Array.length_toList]; rfl
  have HSL := Lib.hid hsl
  unfold maxLen at hm
  generalize hok : nameOk s = ok
  have HOK := Lib.hid hok
  clear hok hsl
  go_enter Try.func72, Try.ntmps72
  go_wp2_with fail
  go_loopw [3] (fun i wr => ∃ k : Nat, k ≤ s.size ∧ i = .int .i64 (k : Int) ∧ Hid ((s.data.toList.take k).all lower = true) ∧ ∃ n, wr = w.drewN n) (fun i _ => s.size - (intOf i).toNat)
  case atStart => exact ⟨0, by omega, rfl, Lib.hid rfl, 0, rfl⟩
  case round =>
    obtain ⟨k, hk, rfl, hall, q, rfl⟩ := hrel
    by_cases hlt : k < s.size
    · have hki : (k : Int) < (s.size : Int) := by omega
      have hg : Hid (s.data.toList[k]? = some s[k]) := Lib.hid (by
        have hkl : k < s.data.toList.length := by rw [HSL.out]; exact hlt
        rw [List.getElem?_eq_getElem hkl]
        rfl)
      by_cases hb : lower s[k] = true
      · have hb2 : Hid (97 ≤ (s[k]).toNat ∧ (s[k]).toNat ≤ 122) := Lib.hid (of_decide_eq_true hb)
        have HN : Hid ((s.data.toList.take (k + 1)).all lower = true) := Lib.hid (by
          obtain ⟨hkl, e⟩ := List.getElem?_eq_some_iff.1 hg.out
          rw [List.take_succ_eq_append_getElem hkl, List.all_append, hall.out, e]
          simp [hb])
        have k1 : ¬ (((s[k]).toNat : Int) < 97) := by have := hb2.out; omega
        have k2 : ¬ ((122 : Int) < ((s[k]).toNat : Int)) := by have := hb2.out; omega
        clear hb
        go_wp2_with fail
        go_roundw
        case rel => exact ⟨k + 1, by omega, by go_num, HN, q, rfl⟩
        case measure => simp [intOf]; omega
      · have HF : Hid (ok = false) := Lib.hid (by
          rw [← HOK.out, Bool.eq_false_iff]
          intro h
          unfold nameOk at h
          simp only [Bool.and_eq_true] at h
          exact hb (List.all_eq_true.1 h.2.2 _ (List.mem_of_getElem? hg.out)))
        have hb2 : Hid (¬ (97 ≤ (s[k]).toNat ∧ (s[k]).toNat ≤ 122)) := Lib.hid fun h => hb (decide_eq_true h)
        clear hb
        by_cases h97 : ((s[k]).toNat : Int) < 97
        · go_wp2_with fail
          go_ret
          exact ⟨by rw [HF.out]; rfl, q, rfl⟩
        · have h122 : (122 : Int) < ((s[k]).toNat : Int) := by have := hb2.out; omega
          go_wp2_with fail
          go_ret
          exact ⟨by rw [HF.out]; rfl, q, rfl⟩
    · obtain rfl : k = s.size := by omega
      have ha : Hid (s.data.toList.all lower = true) := Lib.hid (by have := hall.out; rwa [← HSL.out, List.take_length] at this)
      have HE : Hid (ok = (decide (1 ≤ s.size) && decide (s.size ≤ 16))) := Lib.hid (by
        rw [← HOK.out]
        unfold nameOk
        rw [ha.out, Bool.and_true, Bool.and_comm]
        rfl)
      by_cases h1 : (1 : Int) ≤ (s.size : Int)
      · by_cases h2 : (s.size : Int) ≤ 16
        · go_wp2_with fail
          go_ret
          exact ⟨by rw [HE.out, decide_eq_true (by omega), decide_eq_true (by omega)]; rfl, q, rfl⟩
        · go_wp2_with fail
          go_ret
          exact ⟨by rw [HE.out, decide_eq_true (by omega), decide_eq_false (by omega)]; rfl, q, rfl⟩
      · go_wp2_with fail
        go_ret
        exact ⟨by rw [HE.out, decide_eq_false (by omega)]; rfl, q, rfl⟩
end Go.Proofs.Yteglpgakikigiaa

/- Bytes appended, part by part: words for the document's answers of forms. -/
namespace Go.Proofs.Yteglpgakikigiaa
open Go.RowKit
set_option linter.unusedVariables false
set_option linter.unusedSimpArgs false
set_option maxRecDepth 20000

/-- append of bytes at a step of a region that draws its order. -/
theorem step_app (w : World) {ops : Array Oper} {o : Oper} {a : Act} {K : Act → World → Prop} {Q : Exit → Act → World → Prop} {E : Prop} (hgd : o.guard = none) (sl x : Operand)
    (ho : o.op = .call { callee := .builtin .append, args := #[sl, x], argTypes := #[22, 22] })
    {v : Value} {l l2 : List UInt8} (hs : a.eval sl = v) (hown : Own 5 w v l) {A : Option Addr} {n c : Nat} (hx : a.eval x = .slice A n c) (hn : n = l2.length) (hr : Rd w A l2) (hsz : l.length + l2.length ≤ 140737488355328)
    (h : ∀ v' w', Own 5 w' v' (l ++ l2) → w.grownBy w' v.ownBlock → (v'.ownBlock = v.ownBlock ∨ v'.ownBlock = some w.heap.size) → K (a.put o.dst v') w') :
    if Region.wanted o (yielded ops a.tmps) = true then Oper.wp Try.prog o a w K Q else E := by
  have hw : Region.wanted o (yielded ops a.tmps) = true := by simp [Region.wanted, hgd]
  rw [if_pos hw]
  obtain ⟨v', w', hrun, h2, h3, h4⟩ := run_app byt w o.type hown hn c hr hsz
  unfold Oper.wp execOp
  simp only [ho, resolve, invoke, builtin, Sem.run_bind, Sem.run_pure, Result.andThen_ok, List.map_toArray, List.map_cons, List.map_nil, hs, hx, hrun]
  exact h v' w' h2 h3 h4

/-- append of bytes at an operation that is wanted. -/
theorem wp_appB (w : World) {o : Oper} {a : Act} {K : Act → World → Prop} {Q : Exit → Act → World → Prop} (sl x : Operand)
    (ho : o.op = .call { callee := .builtin .append, args := #[sl, x], argTypes := #[22, 22] })
    {v : Value} {l l2 : List UInt8} (hs : a.eval sl = v) (hown : Own 5 w v l) {A : Option Addr} {n c : Nat} (hx : a.eval x = .slice A n c) (hn : n = l2.length) (hr : Rd w A l2) (hsz : l.length + l2.length ≤ 140737488355328)
    (h : ∀ v' w', Own 5 w' v' (l ++ l2) → w.grownBy w' v.ownBlock → (v'.ownBlock = v.ownBlock ∨ v'.ownBlock = some w.heap.size) → K (a.put o.dst v') w') : Oper.wp Try.prog o a w K Q := by
  obtain ⟨v', w', hrun, h2, h3, h4⟩ := run_app byt w o.type hown hn c hr hsz
  unfold Oper.wp execOp
  simp only [ho, resolve, invoke, builtin, Sem.run_bind, Sem.run_pure, Result.andThen_ok, List.map_toArray, List.map_cons, List.map_nil, hs, hx, hrun]
  exact h v' w' h2 h3 h4

/-- What a part of the bytes leaves: a slice of the call's own, new since W. -/
structure Bts (W w : World) (v : Value) (l : List UInt8) : Prop where
  own : Own 5 w v l
  new : ∀ k, vbl v k → W.heap.size ≤ k
  chg : Chg Non W w
theorem Bts.app {W w w' : World} {v v' : Value} {l l2 : List UInt8} (h : Bts W w v l) (ho : Own 5 w' v' (l ++ l2)) (hg : w.grownBy w' v.ownBlock) (hl : v'.ownBlock = v.ownBlock ∨ v'.ownBlock = some w.heap.size) : Bts W w' v' (l ++ l2) := by
  refine ⟨ho, fun k hk => ?_, h.chg.grown hg (fun k hk => .inr (h.new k hk))⟩
  rcases hl with h2 | h2
  · exact h.new k (by unfold vbl at hk ⊢; rw [← h2]; exact hk)
  · unfold vbl at hk
    rw [h2] at hk
    injection hk with hk
    have := h.chg.size
    omega
theorem Bts.later {W w w' : World} {v : Value} {l : List UInt8} (h : Bts W w v l) (k : Chg Non w w') : Bts W w' v l := ⟨h.own.chg k (fun _ _ f => f), h.new, h.chg.trans k (fun _ f => f.elim)⟩
/-- Bytes that lie somewhere. -/
theorem Own.rd {w : World} {v : Value} {l : List UInt8} (h : Own 5 w v l) : ∃ A c, v = .slice A l.length c ∧ Rd w A l := by
  obtain ⟨A, c, e, _, _, hr, _⟩ := h.slice
  exact ⟨A, c, e, hr⟩
theorem Rd.later {w w' : World} {A : Option Addr} {l : List UInt8} (h : Rd w A l) (k : Chg Non w w') : Rd w' A l := h.chg k (fun _ _ f => f)

end Go.Proofs.Yteglpgakikigiaa

/- A call of a Go function at a step of a region that draws its order. -/
namespace Go.Proofs.Yteglpgakikigiaa
open Go.RowKit
set_option linter.unusedVariables false
set_option linter.unusedSimpArgs false
set_option maxRecDepth 20000

theorem step_call (w : World) {ops : Array Oper} {o : Oper} {a : Act} {K : Act → World → Prop} {Q : Exit → Act → World → Prop} {E : Prop} (hgd : o.guard = none) (f : FuncId) (xs : Array Operand) (ts : Array TypeId)
    (ho : o.op = .call { callee := .value (.func f), args := xs, argTypes := ts }) {vl : List Value} (hx : xs.toList.map a.eval = vl) (he : ∀ args w, (callFunc f args).run Try.prog w = .ok (.enter f args) w)
    {post : Ending → World → Prop} (H : Calls Try.prog f vl.toArray w post) (h : ∀ e w', post e w' → ∃ r, e = .returned r ∧ K (a.put o.dst r) w') :
    if Region.wanted o (yielded ops a.tmps) = true then Oper.wp Try.prog o a w K Q else E := by
  have hw : Region.wanted o (yielded ops a.tmps) = true := by simp [Region.wanted, hgd]
  rw [if_pos hw]
  have hx : xs.map a.eval = vl.toArray := Array.ext' (by rw [Array.toList_map]; exact hx)
  unfold Oper.wp execOp
  simp only [ho, resolve, invoke, Sem.run_bind, Sem.run_pure, Result.andThen_ok, hx]
  have hf : a.eval (Operand.func f) = .func (.func f) #[] #[] := rfl
  simp only [hf, Deferred.ofValue, Sem.run_pure, Result.andThen_ok, Array.append_empty, he]
  simp [Oper.upon, he]
  refine H.mono fun e w' hp => ?_
  obtain ⟨r, rfl, hk⟩ := h e w' hp
  exact hk
theorem step_callW (w : World) {ops : Array Oper} {o : Oper} {a : Act} {K : Act → World → Prop} {Q : Exit → Act → World → Prop} {E : Prop} (hw : Region.wanted o (yielded ops a.tmps) = true) (f : FuncId) (xs : Array Operand) (ts : Array TypeId)
    (ho : o.op = .call { callee := .value (.func f), args := xs, argTypes := ts }) {vl : List Value} (hx : xs.toList.map a.eval = vl) (he : ∀ args w, (callFunc f args).run Try.prog w = .ok (.enter f args) w)
    {post : Ending → World → Prop} (H : Calls Try.prog f vl.toArray w post) (h : ∀ e w', post e w' → ∃ r, e = .returned r ∧ K (a.put o.dst r) w') :
    if Region.wanted o (yielded ops a.tmps) = true then Oper.wp Try.prog o a w K Q else E := by
  rw [if_pos hw]
  have hx : xs.map a.eval = vl.toArray := Array.ext' (by rw [Array.toList_map]; exact hx)
  unfold Oper.wp execOp
  simp only [ho, resolve, invoke, Sem.run_bind, Sem.run_pure, Result.andThen_ok, hx]
  have hf : a.eval (Operand.func f) = .func (.func f) #[] #[] := rfl
  simp only [hf, Deferred.ofValue, Sem.run_pure, Result.andThen_ok, Array.append_empty, he]
  simp [Oper.upon, he]
  refine H.mono fun e w' hp => ?_
  obtain ⟨r, rfl, hk⟩ := h e w' hp
  exact hk
theorem ent_in (args : Array Value) (w : World) : (callFunc 50 args).run Try.prog w = .ok (.enter 50 args) w := enters_of Try.func50 (by kernel_rfl) rfl args w
theorem ent_num (args : Array Value) (w : World) : (callFunc 51 args).run Try.prog w = .ok (.enter 51 args) w := enters_of Try.func51 (by kernel_rfl) rfl args w
end Go.Proofs.Yteglpgakikigiaa

/- The document's own reader: texts and counts. -/
namespace Go.Proofs.Yteglpgakikigiaa
open Go.RowKit
set_option linter.unusedVariables false
set_option maxRecDepth 20000

theorem text_big (st : Option (List UInt8)) (h : 4096 < ofbe (takeB st 2)) : vT st = [] ∧ nT st = none := by
  unfold vT nT fText
  unfold takeB at h
  cases st with
  | none => exact ⟨rfl, rfl⟩
  | some l =>
    simp only at h
    simp only [Option.bind_some]
    by_cases hl : l.length < 2
    · rw [if_pos hl]; exact ⟨rfl, rfl⟩
    · rw [if_pos (by omega)] at h
      rw [if_neg hl, if_pos h]; exact ⟨rfl, rfl⟩
theorem text_none (st : Option (List UInt8)) (h : ¬ 4096 < ofbe (takeB st 2)) (h2 : takeS (takeS st 2) (ofbe (takeB st 2)) = none) : vT st = [] ∧ nT st = none := by
  unfold vT nT fText
  unfold takeB takeS at h2
  unfold takeB at h
  cases st with
  | none => exact ⟨rfl, rfl⟩
  | some l =>
    simp only at h h2
    simp only [Option.bind_some]
    by_cases hl : l.length < 2
    · rw [if_pos hl]; exact ⟨rfl, rfl⟩
    · rw [if_pos (by omega)] at h
      rw [if_pos (by omega), if_pos (by omega)] at h2
      rw [if_neg hl, if_neg h]
      by_cases h3 : ofbe (l.take 2) ≤ (l.drop 2).length
      · simp only at h2; rw [if_pos h3] at h2; cases h2
      · rw [if_pos (by omega)]; exact ⟨rfl, rfl⟩
theorem text_some (st : Option (List UInt8)) (r : List UInt8) (h : ¬ 4096 < ofbe (takeB st 2)) (h2 : takeS (takeS st 2) (ofbe (takeB st 2)) = some r) : vT st = takeB (takeS st 2) (ofbe (takeB st 2)) ∧ nT st = some r := by
  unfold vT nT fText
  unfold takeS at h2
  cases st with
  | none => cases h2
  | some l =>
    simp only at h2
    by_cases hl : l.length < 2
    · rw [if_neg (by omega)] at h2; cases h2
    · have e1 : takeB (some l) 2 = l.take 2 := by unfold takeB; simp only; rw [if_pos (by omega)]
      have e2 : takeS (some l) 2 = some (l.drop 2) := by unfold takeS; simp only; rw [if_pos (by omega)]
      rw [e1] at h h2 ⊢
      rw [e2]
      rw [if_pos (by omega)] at h2
      simp only at h2
      simp only [Option.bind_some]
      rw [if_neg hl, if_neg h]
      by_cases h3 : ofbe (l.take 2) ≤ (l.drop 2).length
      · rw [if_pos h3] at h2
        injection h2 with h2
        rw [if_neg (by omega)]
        unfold takeB
        simp only
        rw [if_pos h3]
        exact ⟨rfl, congrArg some h2⟩
      · rw [if_neg h3] at h2; cases h2

theorem RdF.blk {w : World} {g : Nat} {F : Nat → Prop} {st : Option (List UInt8)} (h : RdF w g F st) : ∃ A m c, Hb w g 56 #[.slice A m c, .bool st.isNone] := by
  cases st with
  | none => obtain ⟨_, A, m, c, hb⟩ := h; exact ⟨A, m, c, hb⟩
  | some l => obtain ⟨_, A, c, hb, _⟩ := h; exact ⟨A, _, c, hb⟩
theorem RdF.drewN {w : World} {g : Nat} {F : Nat → Prop} {st : Option (List UInt8)} (h : RdF w g F st) (n : Nat) : RdF (w.drewN n) g F st := h.chg ((Chg.refl Non w).drewN n) (fun f => f) (fun _ _ f => f)

set_option maxHeartbeats 1600000 in
theorem refRText (w : World) (g : Nat) (F : Nat → Prop) (st : Option (List UInt8)) (h : RdF w g F st) (hFs : ∀ j, F j → j < w.heap.size) :
    Calls Try.prog 56 #[.pointer (some ⟨g, 0, none⟩)] w (Gotf w g F (.string ⟨(vT st).toArray⟩) (nT st)) := by
  have HK : Calls Try.prog 68 #[.pointer (some ⟨g, 0, none⟩), .int .i64 2] w (Tk w g F st 2) := take_any w g F st 2 h hFs (by omega)
  have hl := takeB_length st 2
  have TB := text_big st
  have TN := text_none st
  have TSM := text_some st
  unfold Tk at HK
  generalize takeB st 2 = bs at *
  generalize takeS st 2 = s2 at *
  obtain ⟨x, y, rfl⟩ : ∃ x y, bs = [x, y] := by
    match bs, hl with
    | [x, y], _ => exact ⟨x, y, rfl⟩
  have ho : ofbe [x, y] = x.toNat * 256 + y.toNat := by simp [ofbe]
  rw [ho] at TB TN TSM
  have hx := x.toNat_lt
  have hy := y.toNat_lt
  have TB' := Lib.hid TB
  have TN' := Lib.hid TN
  have TS' := Lib.hid TSM
  clear hl h ho TB TN TSM
  have hcv : IntKind.i64.wrap (x.toNat : Int) = (x.toNat : Int) := by rw [IntKind.wrap_i64]; omega
  have hcy : IntKind.i64.wrap (y.toNat : Int) = (y.toNat : Int) := by rw [IntKind.wrap_i64]; omega
  have hcm : IntKind.i64.wrap ((x.toNat : Int) * 256) = (x.toNat : Int) * 256 := by rw [IntKind.wrap_i64]; omega
  have hca : IntKind.i64.wrap ((x.toNat : Int) * 256 + (y.toNat : Int)) = (x.toNat : Int) * 256 + (y.toNat : Int) := by rw [IntKind.wrap_i64]; omega
  have CV := Lib.hid hcv
  have CY := Lib.hid hcy
  have CM := Lib.hid hcm
  have CA := Lib.hid hca
  clear hcv hcy hcm hca
  by_cases hbig : 4096 < x.toNat * 256 + y.toNat
  · rw [(TB'.out hbig).1, (TB'.out hbig).2]
    go_enter Try.func56, Try.ntmps56
    go_wp2_with fail
    refine HK.mono ?_
    rintro e w1 ⟨A, c, rfl, hc, hr, hR, hC, _⟩
    obtain ⟨ad, rfl, _⟩ := hr.blk_lt (by simp)
    have d0 : w1.cell? ad = some (.int .u8 (x.toNat : Int)) := hr.at_ (j := 0) (by simp)
    have d1 : w1.cell? ⟨ad.block, ad.off + 1, none⟩ = some (.int .u8 (y.toNat : Int)) := hr.at_ (j := 1) (by simp)
    have hcv := CV.out
    have hcy := CY.out
    have hcm := CM.out
    have hca := CA.out
    go_wp2_with fail
    go_quiet (fail)
    clear hcv hcy hcm hca
    have hbi : (4096 : Int) < (x.toNat : Int) * 256 + (y.toNat : Int) := by omega
    obtain ⟨A2, m2, c2, hb2⟩ := hR.blk
    have b1 : w1.cell? ⟨g, 1, none⟩ = some (.bool s2.isNone) := hb2.cell 1
    have b2 : w1.frozen? ⟨g, 1, none⟩ = false := hb2.frozen 1
    go_wp2
    go_ret
    exact ⟨rfl, ⟨hR.nF, A2, m2, c2, (hb2.drewN _).set 1 _⟩, (hC.drewN _).setCell (p := ⟨g, 1, none⟩) (.inl rfl) _⟩
  · obtain ⟨N, hN⟩ : ∃ N : Nat, N = x.toNat * 256 + y.toNat := ⟨_, rfl⟩
    rw [← hN] at hbig TN' TS'
    have HN : ∀ w' : World, RdF w' g F s2 → (∀ j, F j → j < w'.heap.size) → Calls Try.prog 68 #[.pointer (some ⟨g, 0, none⟩), .int .i64 ((x.toNat : Int) * 256 + (y.toNat : Int))] w' (Tk w' g F s2 N) := by
      intro w' h1 h2
      have := take_any w' g F s2 N h1 h2 (by omega)
      rwa [show (N : Int) = (x.toNat : Int) * 256 + (y.toNat : Int) by omega] at this
    have hNI : ¬ (4096 : Int) < (x.toNat : Int) * 256 + (y.toNat : Int) := by omega
    have hlN := takeB_length s2 N
    have HLN := Lib.hid hlN
    have HHN := Lib.hid hN
    clear hN hlN
    cases hs3 : takeS s2 N with
    | none =>
      rw [(TN'.out hbig hs3).1, (TN'.out hbig hs3).2]
      have HS3 := Lib.hid hs3
      clear hs3
      go_enter Try.func56, Try.ntmps56
      go_wp2_with fail
      refine HK.mono ?_
      rintro e w1 ⟨A, c, rfl, hc, hr, hR, hC, _⟩
      obtain ⟨ad, rfl, _⟩ := hr.blk_lt (by simp)
      have d0 : w1.cell? ad = some (.int .u8 (x.toNat : Int)) := hr.at_ (j := 0) (by simp)
      have d1 : w1.cell? ⟨ad.block, ad.off + 1, none⟩ = some (.int .u8 (y.toNat : Int)) := hr.at_ (j := 1) (by simp)
      have hcv := CV.out
      have hcy := CY.out
      have hcm := CM.out
      have hca := CA.out
      go_wp2_with fail
      go_quiet (fail)
      clear hcv hcy hcm hca d0 d1
      go_wp2_with fail
      refine (HN _ (hR.drewN _) (fun j hj => Nat.lt_of_lt_of_le (hFs j hj) hC.size)).mono ?_
      rintro e w3 ⟨A3, c3, rfl, hc3, hr3, hR3, hC3, _⟩
      rw [HS3.out] at hR3
      obtain ⟨A2, m2, c2, hb2⟩ := hR3.blk
      have b1 : w3.cell? ⟨g, 1, none⟩ = some (.bool true) := hb2.cell 1
      go_wp2
      go_ret
      exact ⟨rfl, hR3, (hC.drewN _).trans hC3 (fun _ hj => .inl hj)⟩
    | some r =>
      rw [(TS'.out r hbig hs3).1, (TS'.out r hbig hs3).2]
      have HS3 := Lib.hid hs3
      clear hs3
      go_enter Try.func56, Try.ntmps56
      go_wp2_with fail
      refine HK.mono ?_
      rintro e w1 ⟨A, c, rfl, hc, hr, hR, hC, _⟩
      obtain ⟨ad, rfl, _⟩ := hr.blk_lt (by simp)
      have d0 : w1.cell? ad = some (.int .u8 (x.toNat : Int)) := hr.at_ (j := 0) (by simp)
      have d1 : w1.cell? ⟨ad.block, ad.off + 1, none⟩ = some (.int .u8 (y.toNat : Int)) := hr.at_ (j := 1) (by simp)
      have hcv := CV.out
      have hcy := CY.out
      have hcm := CM.out
      have hca := CA.out
      go_wp2_with fail
      go_quiet (fail)
      clear hcv hcy hcm hca d0 d1
      go_wp2_with fail
      refine (HN _ (hR.drewN _) (fun j hj => Nat.lt_of_lt_of_le (hFs j hj) hC.size)).mono ?_
      rintro e w3 ⟨A3, c3, rfl, hc3, hr3, hR3, hC3, _⟩
      rw [HS3.out] at hR3
      obtain ⟨A2, m2, c2, hb2⟩ := hR3.blk
      have b1 : w3.cell? ⟨g, 1, none⟩ = some (.bool false) := hb2.cell 1
      have hst := run_str byt w3 hr3 c3
      rw [HLN.out] at hst
      go_wp2
      go_ret
      exact ⟨rfl, hR3, (hC.drewN _).trans hC3 (fun _ hj => .inl hj)⟩

theorem refRCount (w : World) (g : Nat) (F : Nat → Prop) (st : Option (List UInt8)) (most : Int) (h : RdF w g F st) (hFs : ∀ j, F j → j < w.heap.size) :
    Calls Try.prog 40 #[.pointer (some ⟨g, 0, none⟩), .int .i64 most] w (Gotf w g F (.int .i64 (vC most st)) (nC most st)) := by
  have H := refRNumber w g F st h hFs
  have hv : vN st = ((st.bind fNumber).map (·.1)).getD 0 := rfl
  have hn : nW st = (st.bind fNumber).map (·.2) := by
    unfold nW fNumber
    cases st with
    | none => rfl
    | some l => simp only [Option.bind_some]; cases fWord l <;> rfl
  have hc : vC most st = (((st.bind fNumber).bind fun x => if 0 ≤ x.1 ∧ x.1 ≤ most then some x else none).map (·.1)).getD 0 := by
    unfold vC fCount
    cases st <;> rfl
  have hd : nC most st = (((st.bind fNumber).bind fun x => if 0 ≤ x.1 ∧ x.1 ≤ most then some x else none).map (·.2)) := by
    unfold nC fCount
    cases st <;> rfl
  rw [hc, hd]
  unfold Gotf at H
  rw [hv, hn] at H
  clear hc hd hv hn h
  cases hf : st.bind fNumber with
  | none =>
    rw [hf] at H
    clear hf
    have H' : Calls Try.prog 27 #[.pointer (some ⟨g, 0, none⟩)] w fun e w' => e = .returned (.int .i64 0) ∧ RdF w' g F none ∧ Chg (Eqg g) w w' := H
    clear H
    by_cases hm : most < 0
    · go_enter Try.func40, Try.ntmps40
      go_wp2_with fail
      refine H'.mono ?_
      rintro e w1 ⟨rfl, hR, hC⟩
      obtain ⟨A2, m2, c2, hb2⟩ := hR.blk
      have b1 : w1.cell? ⟨g, 1, none⟩ = some (.bool true) := hb2.cell 1
      have b2 : w1.frozen? ⟨g, 1, none⟩ = false := hb2.frozen 1
      go_wp2
      go_ret
      exact ⟨rfl, ⟨hR.nF, A2, m2, c2, hb2.set 1 _⟩, hC.setCell (p := ⟨g, 1, none⟩) (.inl rfl) _⟩
    · go_enter Try.func40, Try.ntmps40
      go_wp2_with fail
      refine H'.mono ?_
      rintro e w1 ⟨rfl, hR, hC⟩
      go_wp2
      go_ret
      exact ⟨rfl, hR, hC⟩
  | some x =>
    obtain ⟨n, r⟩ := x
    rw [hf] at H
    clear hf
    have H' : Calls Try.prog 27 #[.pointer (some ⟨g, 0, none⟩)] w fun e w' => e = .returned (.int .i64 n) ∧ RdF w' g F (some r) ∧ Chg (Eqg g) w w' := H
    clear H
    rw [Option.bind_some]
    by_cases h0 : n < 0
    · rw [if_neg (by omega)]
      go_enter Try.func40, Try.ntmps40
      go_wp2_with fail
      refine H'.mono ?_
      rintro e w1 ⟨rfl, hR, hC⟩
      obtain ⟨A2, m2, c2, hb2⟩ := hR.blk
      have b1 : w1.cell? ⟨g, 1, none⟩ = some (.bool false) := hb2.cell 1
      have b2 : w1.frozen? ⟨g, 1, none⟩ = false := hb2.frozen 1
      go_wp2
      go_ret
      exact ⟨rfl, ⟨hR.nF, A2, m2, c2, hb2.set 1 _⟩, hC.setCell (p := ⟨g, 1, none⟩) (.inl rfl) _⟩
    · by_cases h1 : most < n
      · rw [if_neg (by omega)]
        go_enter Try.func40, Try.ntmps40
        go_wp2_with fail
        refine H'.mono ?_
        rintro e w1 ⟨rfl, hR, hC⟩
        obtain ⟨A2, m2, c2, hb2⟩ := hR.blk
        have b1 : w1.cell? ⟨g, 1, none⟩ = some (.bool false) := hb2.cell 1
        have b2 : w1.frozen? ⟨g, 1, none⟩ = false := hb2.frozen 1
        go_wp2
        go_ret
        exact ⟨rfl, ⟨hR.nF, A2, m2, c2, hb2.set 1 _⟩, hC.setCell (p := ⟨g, 1, none⟩) (.inl rfl) _⟩
      · rw [if_pos (by omega)]
        go_enter Try.func40, Try.ntmps40
        go_wp2_with fail
        refine H'.mono ?_
        rintro e w1 ⟨rfl, hR, hC⟩
        go_wp2
        go_ret
        exact ⟨rfl, hR, hC⟩
end Go.Proofs.Yteglpgakikigiaa

/- Package forms: what its small functions leave, reading: contracts. -/
namespace Go.Proofs.Yteglpgakikigiaa
open Go.RowKit
set_option linter.unusedVariables false
set_option linter.unusedSimpArgs false
set_option maxRecDepth 20000

/-- The reader's block, and the block that is read into. -/
def Two (g tb : Nat) (k : Nat) : Prop := k = g ∨ k = tb
/-- A reader, and a row that is read into, behind what was done since the world W. -/
structure Rst (W : World) (g : Nat) (F : Nat → Prop) (tb : Nat) (t : TypeId) (L : List Value) (st : St) (w : World) : Prop where
  rdr : Rdr w g F st
  row : Hb w tb t L.toArray
  chg : Chg (Two g tb) W w
  ne : tb ≠ g
  nF : ¬ F tb
theorem Rst.trans {W w w' : World} {g : Nat} {F : Nat → Prop} {tb : Nat} {t : TypeId} {L L' : List Value} {st st' : St} (S : Rst W g F tb t L st w) (T : Rst w g F tb t L' st' w') : Rst W g F tb t L' st' w' := ⟨T.rdr, T.row, S.chg.trans T.chg (fun _ h => .inl h), T.ne, T.nF⟩
theorem Rst.non {W w w' : World} {g : Nat} {F : Nat → Prop} {tb : Nat} {t : TypeId} {L : List Value} {st : St} (S : Rst W g F tb t L st w) (k : Chg Non w w') : Rst W g F tb t L st w' := ⟨S.rdr.chg k (fun f => f) (fun _ _ f => f), S.row.chg k (fun f => f), S.chg.trans k (fun _ f => f.elim), S.ne, S.nF⟩
theorem Rst.here {W w : World} {g : Nat} {F : Nat → Prop} {tb : Nat} {t : TypeId} {L : List Value} {st : St} (S : Rst W g F tb t L st w) : Rst w g F tb t L st w := ⟨S.rdr, S.row, Chg.refl _ _, S.ne, S.nF⟩
/-- A call on the reader alone. -/
theorem Rst.read {W w w' : World} {g : Nat} {F : Nat → Prop} {tb : Nat} {t : TypeId} {L : List Value} {st st' : St} (S : Rst W g F tb t L st w) (h1 : Rdr w' g F st') (h2 : Chg (Eqg g) w w') : Rst W g F tb t L st' w' :=
  ⟨h1, S.row.chg h2 (fun e => S.ne e), S.chg.trans h2 (fun j hj => .inl (.inl hj)), S.ne, S.nF⟩
theorem row_set (p : List Value) (x u : Value) (q : List Value) : (p ++ x :: q).toArray.setIfInBounds p.length u = (p ++ u :: q).toArray := by simp
theorem Rst.set {W w : World} {g : Nat} {F : Nat → Prop} {tb : Nat} {t : TypeId} {p q : List Value} {x : Value} {st : St} (S : Rst W g F tb t (p ++ x :: q) st w) {o : Nat} (ho : o = p.length) (u : Value) : Rst W g F tb t (p ++ u :: q) st (w.setCell ⟨tb, o, none⟩ u) := by
  subst ho
  refine ⟨S.rdr.chg ((Chg.refl (fun k => k = tb) w).setCell (p := ⟨tb, _, none⟩) (.inl rfl) _) (fun e => S.ne e.symm) (fun j hj e => S.nF (e ▸ hj)), ?_, S.chg.setCell (p := ⟨tb, _, none⟩) (.inl (.inr rfl)) _, S.ne, S.nF⟩
  rw [← row_set p x u q]
  exact S.row.set _ _
theorem Chg.setCells {S : Nat → Prop} {a : World} {tb : Nat} (hs : S tb) : ∀ (vs : List Value) (b : World) (o : Nat), Chg S a b → Chg S a (b.setCells tb o vs)
  | [], _, _, h => h
  | v :: vs, b, o, h => Chg.setCells hs vs _ _ (h.setCell (p := ⟨tb, o, none⟩) (.inl hs) v)
theorem Hb.setCells {t : TypeId} {tb : Nat} : ∀ (new old p q : List Value) (w : World), old.length = new.length → Hb w tb t (p ++ (old ++ q)).toArray → Hb (w.setCells tb p.length new) tb t (p ++ (new ++ q)).toArray
  | [], old, p, q, w, hl, h => by
    obtain rfl : old = [] := List.eq_nil_of_length_eq_zero hl
    exact h
  | v :: vs, [], p, q, w, hl, h => by simp at hl
  | v :: vs, x :: old, p, q, w, hl, h => by
    have h1 : Hb (w.setCell ⟨tb, p.length, none⟩ v) tb t ((p ++ [v]) ++ (old ++ q)).toArray := by
      have h2 := h.set p.length v
      rw [List.cons_append, row_set] at h2
      simpa using h2
    have h3 := Hb.setCells vs old (p ++ [v]) q _ (by simpa using hl) h1
    rw [List.length_append, List.length_singleton] at h3
    simpa [World.setCells] using h3
theorem Rst.sets {W w : World} {g : Nat} {F : Nat → Prop} {tb : Nat} {t : TypeId} {p q old : List Value} {st : St} (S : Rst W g F tb t (p ++ (old ++ q)) st w) {o : Nat} (ho : o = p.length) (new : List Value) (hl : old.length = new.length) : Rst W g F tb t (p ++ (new ++ q)) st (w.setCells tb o new) := by
  subst ho
  exact ⟨S.rdr.chg (Chg.setCells (S := fun k => k = tb) rfl new w _ (Chg.refl (fun k => k = tb) w)) (fun e => S.ne e.symm) (fun j hj e => S.nF (e ▸ hj)), S.row.setCells new old p q w hl, Chg.setCells (.inr rfl) new w _ S.chg, S.ne, S.nF⟩
theorem Rst.cell {W w : World} {g : Nat} {F : Nat → Prop} {tb : Nat} {t : TypeId} {p q : List Value} {x : Value} {st : St} (S : Rst W g F tb t (p ++ x :: q) st w) {o : Nat} (ho : o = p.length) : w.cell? ⟨tb, o, none⟩ = some x ∧ w.frozen? ⟨tb, o, none⟩ = false := by
  subst ho
  refine ⟨?_, S.row.frozen _⟩
  rw [S.row.cell]
  simp
theorem Rst.there {W w : World} {g : Nat} {F : Nat → Prop} {tb : Nat} {t : TypeId} {p q old : List Value} {st : St} (S : Rst W g F tb t (p ++ (old ++ q)) st w) {o : Nat} (ho : o = p.length) : w.there tb o old.length := by
  subst ho
  intro j hj
  refine ⟨?_, S.row.frozen _⟩
  rw [S.row.cell, List.getElem?_toArray, List.getElem?_append_right (by omega), Nat.add_sub_cancel_left, List.getElem?_append_left hj, List.getElem?_eq_getElem hj]
  rfl
theorem Rst.nw {W w : World} {g : Nat} {F : Nat → Prop} {tb : Nat} {t : TypeId} {L : List Value} {st : St} (S : Rst W g F tb t L st w) {k : Nat} (hk : w.heap.size ≤ k) : ¬ Two g tb k := by
  rintro (rfl | rfl)
  · have := S.rdr.lt; omega
  · have := S.row.lt; omega

/-- What a reading leaves: the row with what was read, and the reader behind it; or the panic, if it is not right. -/
def RO (w : World) (g : Nat) (F : Nat → Prop) (tb : Nat) (t : TypeId) (n : Nat) (r : Option (List Value × St)) (e : Ending) (w' : World) : Prop :=
  match r with
  | some x => e = .returned (.tuple #[]) ∧ Rst w g F tb t x.1 x.2 w'
  | none => e = .panicked bad ∧ Chg (Two g tb) w w' ∧ ∃ L' : List Value, L'.length = n ∧ Hb w' tb t L'.toArray
section
variable {W w w' : World} {g : Nat} {F : Nat → Prop} {tb n : Nat} {t : TypeId} {L : List Value} {st : St} {r : Option (List Value × St)} {e : Ending}
theorem RO.after (S : Rst W g F tb t L st w) (h : RO w g F tb t n r e w') : RO W g F tb t n r e w' := by
  cases r with
  | some x => exact ⟨h.1, S.trans h.2⟩
  | none => exact ⟨h.1, S.chg.trans h.2.1 (fun _ h => .inl h), h.2.2⟩
theorem RO.chg (h : RO w g F tb t n r e w') : Chg (Two g tb) w w' := by
  cases r with
  | some x => exact h.2.chg
  | none => exact h.2.1
theorem RO.cases (h : RO w g F tb t n r e w') : (r = none ∧ e = .panicked bad ∧ Chg (Two g tb) w w' ∧ ∃ L' : List Value, L'.length = n ∧ Hb w' tb t L'.toArray) ∨ (∃ x, r = some x ∧ e = .returned (.tuple #[]) ∧ Rst w g F tb t x.1 x.2 w') := by
  cases r with
  | some x => exact .inr ⟨x, rfl, h.1, h.2⟩
  | none => exact .inl ⟨rfl, h.1, h.2⟩
end

theorem word_r (w : World) (g : Nat) (F : Nat → Prop) (tb o : Nat) (t : TypeId) (p q : List Value) (x : Value) (st : St) (S : Rst w g F tb t (p ++ x :: q) st w) (ho : o = p.length) :
    Calls Try.prog 67 #[.agg #[.pointer none, .pointer (some ⟨g, 0, none⟩)], .pointer (some ⟨tb, o, none⟩)] w (RO w g F tb t (p ++ x :: q).length (some (p ++ .int .u64 (vW st : Int) :: q, nW st))) := by
  have HO := Lib.hid ho
  clear ho
  have S1 := S.non ((Chg.refl Non w).alloc (.cells #[.pointer none, .pointer (some ⟨g, 0, none⟩)] 84))
  have hw := S.nw (Nat.le_refl w.heap.size)
  have hx := Hb.new w 84 #[.pointer none, .pointer (some ⟨g, 0, none⟩)]
  go_enter Try.func67, Try.ntmps67
  go_wp2_with fail
  refine (writes_r _ g).mono ?_
  rintro e w1 ⟨rfl, hC⟩
  have S2 := S1.non hC
  have x1 : w1.cell? ⟨w.heap.size, 1, none⟩ = some (.pointer (some ⟨g, 0, none⟩)) := (hx.chg hC (fun f => f)).cell 1
  clear S1 hx hC
  go_wp2_with fail
  refine (wordR_v _ g F st S2.rdr).mono ?_
  rintro e w2 ⟨rfl, h1, h2⟩
  have S3 := S2.read h1 h2
  obtain ⟨c0, f0⟩ := S3.cell HO.out
  go_wp2
  go_end0
  exact ⟨rfl, S3.set HO.out _⟩

theorem hash_r (w : World) (g : Nat) (F : Nat → Prop) (tb o : Nat) (t : TypeId) (p q old : List Value) (st : St) (S : Rst w g F tb t (p ++ (old ++ q)) st w) (ho : o = p.length) (hold : old.length = 32) :
    Calls Try.prog 46 #[.agg #[.pointer none, .pointer (some ⟨g, 0, none⟩)], .pointer (some ⟨tb, o, none⟩)] w (RO w g F tb t (p ++ (old ++ q)).length (some (p ++ (bv (vH st) ++ q), nH st))) := by
  have HO := Lib.hid ho
  clear ho
  have S1 := S.non ((Chg.refl Non w).alloc (.cells #[.pointer none, .pointer (some ⟨g, 0, none⟩)] 84))
  have hw := S.nw (Nat.le_refl w.heap.size)
  have hx := Hb.new w 84 #[.pointer none, .pointer (some ⟨g, 0, none⟩)]
  go_enter Try.func46, Try.ntmps46
  go_wp2_with fail
  refine (writes_r _ g).mono ?_
  rintro e w1 ⟨rfl, hC⟩
  have S2 := S1.non hC
  have x1 : w1.cell? ⟨w.heap.size, 1, none⟩ = some (.pointer (some ⟨g, 0, none⟩)) := (hx.chg hC (fun f => f)).cell 1
  clear S1 hx hC
  go_wp2_with fail
  refine (hashR_v _ g F st S2.rdr).mono ?_
  rintro e w2 ⟨rfl, h1, h2⟩
  have S3 := S2.read h1 h2
  have ht := S3.there HO.out
  have hvl := vH_length st
  rw [hold] at ht
  go_wp2_with (with_reducible refine wpList_store_mid rfl _ _ _ rfl tb o (bv (vH st)).toArray rfl rfl (by rw [List.size_toArray, bv_length, hvl]; exact ht) (by rw [List.size_toArray, bv_length, hvl]; exact hash_row) (all_oneCell_toArray (bv_one _)) ?_)
  go_end0
  exact ⟨rfl, S3.sets HO.out (bv (vH st)) (by rw [bv_length, hvl, hold])⟩

theorem number_r (w : World) (g : Nat) (F : Nat → Prop) (tb o : Nat) (t : TypeId) (p q : List Value) (x : Value) (st : St) (S : Rst w g F tb t (p ++ x :: q) st w) (ho : o = p.length) (lo hi : Int) :
    Calls Try.prog 62 #[.agg #[.pointer none, .pointer (some ⟨g, 0, none⟩)], .pointer (some ⟨tb, o, none⟩), .int .i64 lo, .int .i64 hi] w (RO w g F tb t (p ++ x :: q).length ((dNum lo hi st).map fun y => (p ++ .int .i64 y.1 :: q, y.2))) := by
  have vb := vN_bounds st
  generalize hr : (dNum lo hi st).map _ = r
  have HR := Lib.hid hr
  clear hr
  have HO := Lib.hid ho
  clear ho
  have S1 := S.non ((Chg.refl Non w).alloc (.cells #[.pointer none, .pointer (some ⟨g, 0, none⟩)] 84))
  have hw := S.nw (Nat.le_refl w.heap.size)
  have hx := Hb.new w 84 #[.pointer none, .pointer (some ⟨g, 0, none⟩)]
  go_enter Try.func62, Try.ntmps62
  go_wp2_with fail
  refine (writes_r _ g).mono ?_
  rintro e w1 ⟨rfl, hC⟩
  have S2 := S1.non hC
  have x1 : w1.cell? ⟨w.heap.size, 1, none⟩ = some (.pointer (some ⟨g, 0, none⟩)) := (hx.chg hC (fun f => f)).cell 1
  clear S1 hx hC
  go_wp2_with fail
  refine (numberR_v _ g F st S2.rdr).mono ?_
  rintro e w2 ⟨rfl, h1, h2⟩
  have S3 := S2.read h1 h2
  have HC := Lib.hid (S3.cell HO.out)
  have S4 := S3.set HO.out (.int .i64 (vN st))
  have HC4 := Lib.hid (S4.cell HO.out)
  clear S2 S3 h1 h2 x1
  generalize hvn : vN st = n at *
  have HV := Lib.hid hvn
  clear hvn
  have c0 := HC.out.1
  have f0 := HC.out.2
  have c4 := HC4.out.1
  by_cases hlo : lo ≤ n
  · by_cases hhi : n ≤ hi
    · obtain rfl : r = some (p ++ .int .i64 n :: q, nW st) := by rw [← HR.out]; unfold dNum; rw [HV.out, if_pos (inR_iff.2 ⟨hlo, hhi⟩)]; rfl
      have k1 : decide (n ≥ lo) = true := by simpa using hlo
      have k2 : decide (n ≤ hi) = true := by simpa using hhi
      go_wp2_with (go_at_call 35; refine (insist_yes _).mono ?_; rintro e w5 ⟨rfl, rfl⟩)
      go_end0
      exact ⟨rfl, S4⟩
    · obtain rfl : r = none := by rw [← HR.out]; unfold dNum; rw [HV.out, if_neg (fun h => hhi (inR_iff.1 h).2)]; rfl
      have k1 : decide (n ≥ lo) = true := by simpa using hlo
      have k2 : decide (n ≤ hi) = false := by simpa using hhi
      go_wp2_with (go_at_call 35; refine (insist_no _).mono ?_; rintro e w5 ⟨rfl, rfl⟩)
      exact ⟨rfl, rfl, S4.chg, _, by simp, S4.row⟩
  · obtain rfl : r = none := by rw [← HR.out]; unfold dNum; rw [HV.out, if_neg (fun h => hlo (inR_iff.1 h).1)]; rfl
    have k1 : decide (n ≥ lo) = false := by simpa using hlo
    go_wp2_with (go_at_call 35; refine (insist_no _).mono ?_; rintro e w5 ⟨rfl, rfl⟩)
    exact ⟨rfl, rfl, S4.chg, _, by simp, S4.row⟩

theorem text_r (w : World) (g : Nat) (F : Nat → Prop) (tb o : Nat) (t : TypeId) (p q : List Value) (x : Value) (st : St) (S : Rst w g F tb t (p ++ x :: q) st w) (ho : o = p.length) (most : Nat) (hmost : most ≤ 4096) :
    Calls Try.prog 64 #[.agg #[.pointer none, .pointer (some ⟨g, 0, none⟩)], .pointer (some ⟨tb, o, none⟩), .int .i64 (most : Int)] w (RO w g F tb t (p ++ x :: q).length ((dText most st).map fun y => (p ++ .string y.1 :: q, y.2))) := by
  have vb := vT_small st
  generalize hr : (dText most st).map _ = r
  have HR := Lib.hid hr
  clear hr
  have HO := Lib.hid ho
  clear ho
  have S1 := S.non ((Chg.refl Non w).alloc (.cells #[.pointer none, .pointer (some ⟨g, 0, none⟩)] 84))
  have hw := S.nw (Nat.le_refl w.heap.size)
  have hx := Hb.new w 84 #[.pointer none, .pointer (some ⟨g, 0, none⟩)]
  go_enter Try.func64, Try.ntmps64
  go_wp2_with fail
  refine (writes_r _ g).mono ?_
  rintro e w1 ⟨rfl, hC⟩
  have S2 := S1.non hC
  have x1 : w1.cell? ⟨w.heap.size, 1, none⟩ = some (.pointer (some ⟨g, 0, none⟩)) := (hx.chg hC (fun f => f)).cell 1
  clear S1 hx hC
  go_wp2_with fail
  refine (textR_v _ g F st S2.rdr).mono ?_
  rintro e w2 ⟨rfl, h1, h2⟩
  have S3 := S2.read h1 h2
  have HC := Lib.hid (S3.cell HO.out)
  have S4 := S3.set HO.out (.string ⟨(vT st).toArray⟩)
  have HC4 := Lib.hid (S4.cell HO.out)
  clear S2 S3 h1 h2 x1
  generalize hs : (⟨(vT st).toArray⟩ : ByteArray) = s at *
  have hsz : s.size = (vT st).length := by rw [← hs]; rfl
  have HV := Lib.hid hs
  have HZ := Lib.hid hsz
  rw [← hsz] at vb
  clear hs hsz
  have c0 := HC.out.1
  have f0 := HC.out.2
  have c4 := HC4.out.1
  by_cases hok : s.size ≤ most
  · obtain rfl : r = some (p ++ .string s :: q, nT st) := by rw [← HR.out]; unfold dText; rw [← HZ.out, if_pos hok, HV.out]; rfl
    have k1 : decide ((s.size : Int) ≤ (most : Int)) = true := decide_eq_true (by omega)
    go_wp2_with (go_at_call 35; refine (insist_yes _).mono ?_; rintro e w5 ⟨rfl, rfl⟩)
    go_end0
    exact ⟨rfl, S4⟩
  · obtain rfl : r = none := by rw [← HR.out]; unfold dText; rw [← HZ.out, if_neg hok]; rfl
    have k1 : decide ((s.size : Int) ≤ (most : Int)) = false := decide_eq_false (by omega)
    go_wp2_with (go_at_call 35; refine (insist_no _).mono ?_; rintro e w5 ⟨rfl, rfl⟩)
    exact ⟨rfl, rfl, S4.chg, _, by simp, S4.row⟩

theorem name_r (w : World) (g : Nat) (F : Nat → Prop) (tb o : Nat) (t : TypeId) (p q : List Value) (x : Value) (st : St) (S : Rst w g F tb t (p ++ x :: q) st w) (ho : o = p.length) :
    Calls Try.prog 63 #[.agg #[.pointer none, .pointer (some ⟨g, 0, none⟩)], .pointer (some ⟨tb, o, none⟩)] w (RO w g F tb t (p ++ x :: q).length ((dName st).map fun y => (p ++ .string y.1 :: q, y.2))) := by
  have S1 := S.non ((Chg.refl Non w).alloc (.cells #[.pointer none, .pointer (some ⟨g, 0, none⟩)] 84))
  have vb := vT_small st
  have hsz : (⟨(vT st).toArray⟩ : ByteArray).size = (vT st).length := rfl
  have H := name_gen w none (some ⟨g, 0, none⟩) tb o ⟨(vT st).toArray⟩ (by unfold maxLen; omega) (fun w' => Chg (Two g tb) w w' ∧ (∃ L' : List Value, L'.length = (p ++ x :: q).length ∧ Hb w' tb t L'.toArray) ∧ ((⟨(vT st).toArray⟩ : ByteArray).size ≤ 16 → Rst w g F tb t (p ++ .string ⟨(vT st).toArray⟩ :: q) (nT st) w'))
    (fun w1 w2 ⟨h1, ⟨L', hl, hL⟩, h2⟩ k => ⟨h1.trans k (fun _ f => f.elim), ⟨L', hl, hL.chg k (fun f => f)⟩, fun hs => (h2 hs).non k⟩)
    ((text_r _ g F tb o t p q x st S1.here ho 16 (by omega)).mono fun e w' h1 => by
      have h3 := RO.after S1 h1
      unfold dText at h3
      by_cases hs : (vT st).length ≤ 16
      · rw [if_pos hs] at h3
        rw [decide_eq_true (show (⟨(vT st).toArray⟩ : ByteArray).size ≤ 16 from hs)]
        exact ⟨h3.1, ⟨h3.2.chg, ⟨_, by simp, h3.2.row⟩, fun _ => h3.2⟩, fun _ => (h3.2.cell ho).1⟩
      · rw [if_neg hs] at h3
        rw [decide_eq_false (show ¬ (⟨(vT st).toArray⟩ : ByteArray).size ≤ 16 from hs)]
        exact ⟨h3.1, ⟨h3.2.1, h3.2.2, fun h => absurd h hs⟩, fun h => absurd h hs⟩)
  refine H.mono ?_
  rintro e w' ⟨he, h1, h2, h3⟩
  unfold dName
  cases hk : nameOk ⟨(vT st).toArray⟩ with
  | true => rw [hk] at he; rw [if_pos rfl]; exact ⟨he, h3 (nameOk_size hk)⟩
  | false => rw [hk] at he; rw [if_neg (by simp)]; exact ⟨he, h1, h2⟩

theorem begin_r (w : World) (g : Nat) (F : Nat → Prop) (tb : Nat) (t : TypeId) (L : List Value) (st : St) (S : Rst w g F tb t L st w) (k : Int) :
    Calls Try.prog 37 #[.agg #[.pointer none, .pointer (some ⟨g, 0, none⟩)], .int .i64 k] w (RO w g F tb t L.length ((dBegin k st).map fun s => (L, s))) := by
  have hC := ((Chg.refl Non w).alloc (.cells #[.pointer none, .pointer (some ⟨g, 0, none⟩)] 84)).alloc (.cells #[.int .i64 k] 3)
  have S1 := S.non hC
  have hx0 := ((Hb.new w 84 #[.pointer none, .pointer (some ⟨g, 0, none⟩)]).alloc (.cells #[.int .i64 k] 3)).cell 0
  have hx1 := ((Hb.new w 84 #[.pointer none, .pointer (some ⟨g, 0, none⟩)]).alloc (.cells #[.int .i64 k] 3)).cell 1
  have hn : Hb ((w.alloc (.cells #[.pointer none, .pointer (some ⟨g, 0, none⟩)] 84)).alloc (.cells #[.int .i64 k] 3)) (w.heap.size + 1) 3 #[.int .i64 k] := by
    have := Hb.new (w.alloc (.cells #[.pointer none, .pointer (some ⟨g, 0, none⟩)] 84)) 3 #[.int .i64 k]
    rwa [show (w.alloc (.cells #[.pointer none, .pointer (some ⟨g, 0, none⟩)] 84)).heap.size = w.heap.size + 1 by simp] at this
  have hg := S.rdr.lt
  have ht := S.row.lt
  have SN : Rst _ g F (w.heap.size + 1) 3 ([] ++ .int .i64 k :: []) st _ := ⟨S1.rdr, hn, Chg.refl _ _, by omega, fun hf => by have := S.rdr.Flt _ hf; omega⟩
  have H := number_r _ g F (w.heap.size + 1) 0 3 [] [] (.int .i64 k) st SN rfl k k
  have HH := Lib.hid H
  have vb := vN_bounds st
  have e1 : dNum k k st = (dBegin k st).map fun s => (k, s) := by
    unfold dNum dBegin
    by_cases h : vN st = k
    · rw [if_pos (inR_iff.2 ⟨by omega, by omega⟩), if_pos h, h]; rfl
    · rw [if_neg (fun h2 => by have := inR_iff.1 h2; omega), if_neg h]; rfl
  rw [e1] at HH
  clear H e1 SN
  generalize dBegin k st = d at HH ⊢
  go_enter Try.func37, Try.ntmps37
  go_wp2_with fail
  refine HH.out.mono ?_
  rintro e w1 h1
  clear HH
  cases d with
  | some s =>
    obtain ⟨rfl, h2⟩ := h1
    have hrow := S1.row.chg h2.chg (by rintro (h | h); exact S.ne h; omega)
    go_wp2
    go_end0
    exact ⟨rfl, h2.rdr, hrow, (hC.mono (S' := Two g tb) (fun _ f => f.elim)).trans h2.chg (fun j hj => by rcases hj with rfl | rfl; exact .inl (.inl rfl); exact .inr (by omega)), S.ne, S.nF⟩
  | none =>
    obtain ⟨rfl, h2, _⟩ := h1
    have hrow := S1.row.chg h2 (by rintro (h | h); exact S.ne h; omega)
    go_wp2
    exact ⟨rfl, rfl, (hC.mono (S' := Two g tb) (fun _ f => f.elim)).trans h2 (fun j hj => by rcases hj with rfl | rfl; exact .inl (.inl rfl); exact .inr (by omega)), _, rfl, hrow⟩

theorem height_r (w : World) (g : Nat) (F : Nat → Prop) (tb o : Nat) (t : TypeId) (p q : List Value) (x : Value) (st : St) (S : Rst w g F tb t (p ++ x :: q) st w) (ho : o = p.length) :
    Calls Try.prog 44 #[.agg #[.pointer none, .pointer (some ⟨g, 0, none⟩)], .pointer (some ⟨tb, o, none⟩)] w (RO w g F tb t (p ++ x :: q).length ((dNum 1 1099511627776 st).map fun y => (p ++ .int .i64 y.1 :: q, y.2))) := by
  have S1 := S.non ((Chg.refl Non w).alloc (.cells #[.pointer none, .pointer (some ⟨g, 0, none⟩)] 84))
  have hx0 := (Hb.new w 84 #[.pointer none, .pointer (some ⟨g, 0, none⟩)]).cell 0
  have hx1 := (Hb.new w 84 #[.pointer none, .pointer (some ⟨g, 0, none⟩)]).cell 1
  have H := number_r _ g F tb o t p q x st S1.here ho 1 1099511627776
  generalize (dNum 1 1099511627776 st).map _ = r at H ⊢
  have HH := Lib.hid H
  clear H ho
  go_enter Try.func44, Try.ntmps44
  go_wp2_with fail
  refine HH.out.mono ?_
  rintro e w1 h1
  have h2 := RO.after S1 h1
  clear HH h1
  rcases h2.cases with ⟨rfl, rfl, h3⟩ | ⟨y, rfl, rfl, h3⟩
  · go_wp2
    exact ⟨rfl, rfl, by simpa using h3⟩
  · go_wp2
    go_end0
    exact ⟨rfl, h3⟩

theorem round_r (w : World) (g : Nat) (F : Nat → Prop) (tb o : Nat) (t : TypeId) (p q : List Value) (x : Value) (st : St) (S : Rst w g F tb t (p ++ x :: q) st w) (ho : o = p.length) :
    Calls Try.prog 45 #[.agg #[.pointer none, .pointer (some ⟨g, 0, none⟩)], .pointer (some ⟨tb, o, none⟩)] w (RO w g F tb t (p ++ x :: q).length ((dNum 0 1048576 st).map fun y => (p ++ .int .i64 y.1 :: q, y.2))) := by
  have S1 := S.non ((Chg.refl Non w).alloc (.cells #[.pointer none, .pointer (some ⟨g, 0, none⟩)] 84))
  have hx0 := (Hb.new w 84 #[.pointer none, .pointer (some ⟨g, 0, none⟩)]).cell 0
  have hx1 := (Hb.new w 84 #[.pointer none, .pointer (some ⟨g, 0, none⟩)]).cell 1
  have H := number_r _ g F tb o t p q x st S1.here ho 0 1048576
  generalize (dNum 0 1048576 st).map _ = r at H ⊢
  have HH := Lib.hid H
  clear H ho
  go_enter Try.func45, Try.ntmps45
  go_wp2_with fail
  refine HH.out.mono ?_
  rintro e w1 h1
  have h2 := RO.after S1 h1
  clear HH h1
  rcases h2.cases with ⟨rfl, rfl, h3⟩ | ⟨y, rfl, rfl, h3⟩
  · go_wp2
    exact ⟨rfl, rfl, by simpa using h3⟩
  · go_wp2
    go_end0
    exact ⟨rfl, h3⟩
end Go.Proofs.Yteglpgakikigiaa
