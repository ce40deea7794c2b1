import Derived.Test.YtgonbmcfeehfaaaChecked
import Derived.WalkKit
import Derived.WalkLawsBesides
import Derived.Lib.Hide
import Derived.Deep.RegionHeld3
import Derived.Deep.RegionLaw
import Derived.Shelf.Abstract
import Derived.Deep.CutRange
import Derived.Deep.MidRow
import Derived.Test.YtgonbmcfeehfaaaMFormReads3
import Derived.Test.YtgonbmcfeehfaaaMFormReads4
import Derived.Test.YtgonbmcfeehfaaaMFormReads11
import Derived.Test.YtgonbmcfeehfaaaMFormReads12
/- The document's answers for forms: a number's bytes, a range, a name. -/
namespace Go.Proofs.Ytgonbmcfeehfaaa
open Go.RowKit
set_option linter.unusedVariables false
set_option linter.unusedSimpArgs false
set_option maxRecDepth 20000

theorem in_any (w : World) (n lo hi : Int) : Calls Try.prog 49 #[.int .i64 n, .int .i64 lo, .int .i64 hi] w fun e w' => e = .returned (.bool (inR lo hi n)) ∧ w' = w := by
  by_cases h1 : lo ≤ n
  · have k1 : decide (n ≥ lo) = true := decide_eq_true h1
    by_cases h2 : n ≤ hi
    · have e : inR lo hi n = true := inR_iff.2 ⟨h1, h2⟩
      rw [e]
      clear e
      go_enter Try.func49, Try.ntmps49
      go_wp2
      go_ret
      exact ⟨rfl, rfl⟩
    · have e : inR lo hi n = false := by rw [Bool.eq_false_iff]; exact fun h => h2 (inR_iff.1 h).2
      rw [e]
      clear e
      go_enter Try.func49, Try.ntmps49
      go_wp2
      go_ret
      exact ⟨rfl, rfl⟩
  · have e : inR lo hi n = false := by rw [Bool.eq_false_iff]; exact fun h => h1 (inR_iff.1 h).1
    rw [e]
    clear e
    go_enter Try.func49, Try.ntmps49
    go_wp2
    go_ret
    exact ⟨rfl, rfl⟩

theorem refNumber_any (w : World) (n : Int) : Calls Try.prog 50 #[.int .i64 n] w (Newb w (num n)) := by
  have H := fun w' => refWordI_any w' (n % 18446744073709551616) (by omega) (by omega)
  have hw : IntKind.u64.wrap n = n % 18446744073709551616 := by simp [IntKind.wrap, IntKind.bits, IntKind.signed]
  go_enter Try.func50, Try.ntmps50
  go_wp2_with fail
  refine (H w).mono ?_
  rintro e w1 ⟨v, rfl, o, h, k⟩
  go_wp2_with fail
  go_ret
  exact ⟨v, rfl, o, h, k⟩

set_option maxHeartbeats 1600000 in
theorem refName_any (w : World) (s : ByteArray) (hm : s.size ≤ maxLen) : Calls Try.prog 48 #[.string s] w fun e w' => e = .returned (.bool (nameOk s)) ∧ ∃ n, w' = w.drewN n := by
  have hsl : s.data.toList.length = s.size := by rw [Array.length_toList]; rfl
  have HSL := Lib.hid hsl
  unfold maxLen at hm
  generalize hok : nameOk s = ok
  have HOK := Lib.hid hok
  clear hok hsl
  go_enter Try.func48, Try.ntmps48
  go_wp2_with fail
  go_loopw [3] (fun i wr => ∃ k : Nat, k ≤ s.size ∧ i = .int .i64 (k : Int) ∧ Hid ((s.data.toList.take k).all lower = true) ∧ ∃ n, wr = w.drewN n) (fun i _ => s.size - (intOf i).toNat)
  case atStart => exact ⟨0, by omega, rfl, Lib.hid rfl, 0, rfl⟩
  case round =>
    obtain ⟨k, hk, rfl, hall, q, rfl⟩ := hrel
    by_cases hlt : k < s.size
    · have hki : (k : Int) < (s.size : Int) := by omega
      have hg : Hid (s.data.toList[k]? = some s[k]) := Lib.hid (by
        have hkl : k < s.data.toList.length := by rw [HSL.out]; exact hlt
        rw [List.getElem?_eq_getElem hkl]
        rfl)
      by_cases hb : lower s[k] = true
      · have hb2 : Hid (97 ≤ (s[k]).toNat ∧ (s[k]).toNat ≤ 122) := Lib.hid (of_decide_eq_true hb)
        have HN : Hid ((s.data.toList.take (k + 1)).all lower = true) := Lib.hid (by
          obtain ⟨hkl, e⟩ := List.getElem?_eq_some_iff.1 hg.out
          rw [List.take_succ_eq_append_getElem hkl, List.all_append, hall.out, e]
          simp [hb])
        have k1 : ¬ (((s[k]).toNat : Int) < 97) := by have := hb2.out; omega
        have k2 : ¬ ((122 : Int) < ((s[k]).toNat : Int)) := by have := hb2.out; omega
        clear hb
        go_wp2_with fail
        go_roundw
        case rel => exact ⟨k + 1, by omega, by go_num, HN, q, rfl⟩
        case measure => simp [intOf]; omega
      · have HF : Hid (ok = false) := Lib.hid (by
          rw [← HOK.out, Bool.eq_false_iff]
          intro h
          unfold nameOk at h
          simp only [Bool.and_eq_true] at h
          exact hb (List.all_eq_true.1 h.2.2 _ (List.mem_of_getElem? hg.out)))
        have hb2 : Hid (¬ (97 ≤ (s[k]).toNat ∧ (s[k]).toNat ≤ 122)) := Lib.hid fun h => hb (decide_eq_true h)
        clear hb
        by_cases h97 : ((s[k]).toNat : Int) < 97
        · go_wp2_with fail
          go_ret
          exact ⟨by rw [HF.out]; rfl, q, rfl⟩
        · have h122 : (122 : Int) < ((s[k]).toNat : Int) := by have := hb2.out; omega
          go_wp2_with fail
          go_ret
          exact ⟨by rw [HF.out]; rfl, q, rfl⟩
    · obtain rfl : k = s.size := by omega
      have ha : Hid (s.data.toList.all lower = true) := Lib.hid (by have := hall.out; rwa [← HSL.out, List.take_length] at this)
      have HE : Hid (ok = (decide (1 ≤ s.size) && decide (s.size ≤ 16))) := Lib.hid (by
        rw [← HOK.out]
        unfold nameOk
        rw [ha.out, Bool.and_true, Bool.and_comm]
        rfl)
      by_cases h1 : (1 : Int) ≤ (s.size : Int)
      · by_cases h2 : (s.size : Int) ≤ 16
        · go_wp2_with fail
          go_ret
          exact ⟨by rw [HE.out, decide_eq_true (by omega), decide_eq_true (by omega)]; rfl, q, rfl⟩
        · go_wp2_with fail
          go_ret
          exact ⟨by rw [HE.out, decide_eq_true (by omega), decide_eq_false (by omega)]; rfl, q, rfl⟩
      · go_wp2_with fail
        go_ret
        exact ⟨by rw [HE.out, decide_eq_false (by omega)]; rfl, q, rfl⟩
end Go.Proofs.Ytgonbmcfeehfaaa

/- Bytes appended, part by part: words for the document's answers of forms. -/
namespace Go.Proofs.Ytgonbmcfeehfaaa
open Go.RowKit
set_option linter.unusedVariables false
set_option linter.unusedSimpArgs false
set_option maxRecDepth 20000

/-- append of bytes at a step of a region that draws its order. -/
theorem step_app (w : World) {ops : Array Oper} {o : Oper} {a : Act} {K : Act → World → Prop} {Q : Exit → Act → World → Prop} {E : Prop} (hgd : o.guard = none) (sl x : Operand)
    (ho : o.op = .call { callee := .builtin .append, args := #[sl, x], argTypes := #[22, 22] })
    {v : Value} {l l2 : List UInt8} (hs : a.eval sl = v) (hown : Own 5 w v l) {A : Option Addr} {n c : Nat} (hx : a.eval x = .slice A n c) (hn : n = l2.length) (hr : Rd w A l2) (hsz : l.length + l2.length ≤ 140737488355328)
    (h : ∀ v' w', Own 5 w' v' (l ++ l2) → w.grownBy w' v.ownBlock → (v'.ownBlock = v.ownBlock ∨ v'.ownBlock = some w.heap.size) → K (a.put o.dst v') w') :
    if Region.wanted o (yielded ops a.tmps) = true then Oper.wp Try.prog o a w K Q else E := by
  have hw : Region.wanted o (yielded ops a.tmps) = true := by simp [Region.wanted, hgd]
  rw [if_pos hw]
  obtain ⟨v', w', hrun, h2, h3, h4⟩ := run_app byt w o.type hown hn c hr hsz
  unfold Oper.wp execOp
  simp only [ho, resolve, invoke, builtin, Sem.run_bind, Sem.run_pure, Result.andThen_ok, List.map_toArray, List.map_cons, List.map_nil, hs, hx, hrun]
  exact h v' w' h2 h3 h4

/-- append of bytes at an operation that is wanted. -/
theorem wp_appB (w : World) {o : Oper} {a : Act} {K : Act → World → Prop} {Q : Exit → Act → World → Prop} (sl x : Operand)
    (ho : o.op = .call { callee := .builtin .append, args := #[sl, x], argTypes := #[22, 22] })
    {v : Value} {l l2 : List UInt8} (hs : a.eval sl = v) (hown : Own 5 w v l) {A : Option Addr} {n c : Nat} (hx : a.eval x = .slice A n c) (hn : n = l2.length) (hr : Rd w A l2) (hsz : l.length + l2.length ≤ 140737488355328)
    (h : ∀ v' w', Own 5 w' v' (l ++ l2) → w.grownBy w' v.ownBlock → (v'.ownBlock = v.ownBlock ∨ v'.ownBlock = some w.heap.size) → K (a.put o.dst v') w') : Oper.wp Try.prog o a w K Q := by
  obtain ⟨v', w', hrun, h2, h3, h4⟩ := run_app byt w o.type hown hn c hr hsz
  unfold Oper.wp execOp
  simp only [ho, resolve, invoke, builtin, Sem.run_bind, Sem.run_pure, Result.andThen_ok, List.map_toArray, List.map_cons, List.map_nil, hs, hx, hrun]
  exact h v' w' h2 h3 h4

/-- What a part of the bytes leaves: a slice of the call's own, new since W. -/
structure Bts (W w : World) (v : Value) (l : List UInt8) : Prop where
  own : Own 5 w v l
  new : ∀ k, vbl v k → W.heap.size ≤ k
  chg : Chg Non W w
theorem Bts.app {W w w' : World} {v v' : Value} {l l2 : List UInt8} (h : Bts W w v l) (ho : Own 5 w' v' (l ++ l2)) (hg : w.grownBy w' v.ownBlock) (hl : v'.ownBlock = v.ownBlock ∨ v'.ownBlock = some w.heap.size) : Bts W w' v' (l ++ l2) := by
  refine ⟨ho, fun k hk => ?_, h.chg.grown hg (fun k hk => .inr (h.new k hk))⟩
  rcases hl with h2 | h2
  · exact h.new k (by unfold vbl at hk ⊢; rw [← h2]; exact hk)
  · unfold vbl at hk
    rw [h2] at hk
    injection hk with hk
    have := h.chg.size
    omega
theorem Bts.later {W w w' : World} {v : Value} {l : List UInt8} (h : Bts W w v l) (k : Chg Non w w') : Bts W w' v l := ⟨h.own.chg k (fun _ _ f => f), h.new, h.chg.trans k (fun _ f => f.elim)⟩
/-- Bytes that lie somewhere. -/
theorem Own.rd {w : World} {v : Value} {l : List UInt8} (h : Own 5 w v l) : ∃ A c, v = .slice A l.length c ∧ Rd w A l := by
  obtain ⟨A, c, e, _, _, hr, _⟩ := h.slice
  exact ⟨A, c, e, hr⟩
theorem Rd.later {w w' : World} {A : Option Addr} {l : List UInt8} (h : Rd w A l) (k : Chg Non w w') : Rd w' A l := h.chg k (fun _ _ f => f)

end Go.Proofs.Ytgonbmcfeehfaaa

/- A call of a Go function at a step of a region that draws its order. -/
namespace Go.Proofs.Ytgonbmcfeehfaaa
open Go.RowKit
set_option linter.unusedVariables false
set_option linter.unusedSimpArgs false
set_option maxRecDepth 20000

theorem step_call (w : World) {ops : Array Oper} {o : Oper} {a : Act} {K : Act → World → Prop} {Q : Exit → Act → World → Prop} {E : Prop} (hgd : o.guard = none) (f : FuncId) (xs : Array Operand) (ts : Array TypeId)
    (ho : o.op = .call { callee := .value (.func f), args := xs, argTypes := ts }) {vl : List Value} (hx : xs.toList.map a.eval = vl) (he : ∀ args w, (callFunc f args).run Try.prog w = .ok (.enter f args) w)
    {post : Ending → World → Prop} (H : Calls Try.prog f vl.toArray w post) (h : ∀ e w', post e w' → ∃ r, e = .returned r ∧ K (a.put o.dst r) w') :
    if Region.wanted o (yielded ops a.tmps) = true then Oper.wp Try.prog o a w K Q else E := by
  have hw : Region.wanted o (yielded ops a.tmps) = true := by simp [Region.wanted, hgd]
  rw [if_pos hw]
  have hx : xs.map a.eval = vl.toArray := Array.ext' (by rw [Array.toList_map]; exact hx)
  unfold Oper.wp execOp
  simp only [ho, resolve, invoke, Sem.run_bind, Sem.run_pure, Result.andThen_ok, hx]
  have hf : a.eval (Operand.func f) = .func (.func f) #[] #[] := rfl
  simp only [hf, Deferred.ofValue, Sem.run_pure, Result.andThen_ok, Array.append_empty, he]
  simp [Oper.upon, he]
  refine H.mono fun e w' hp => ?_
  obtain ⟨r, rfl, hk⟩ := h e w' hp
  exact hk
theorem step_callW (w : World) {ops : Array Oper} {o : Oper} {a : Act} {K : Act → World → Prop} {Q : Exit → Act → World → Prop} {E : Prop} (hw : Region.wanted o (yielded ops a.tmps) = true) (f : FuncId) (xs : Array Operand) (ts : Array TypeId)
    (ho : o.op = .call { callee := .value (.func f), args := xs, argTypes := ts }) {vl : List Value} (hx : xs.toList.map a.eval = vl) (he : ∀ args w, (callFunc f args).run Try.prog w = .ok (.enter f args) w)
    {post : Ending → World → Prop} (H : Calls Try.prog f vl.toArray w post) (h : ∀ e w', post e w' → ∃ r, e = .returned r ∧ K (a.put o.dst r) w') :
    if Region.wanted o (yielded ops a.tmps) = true then Oper.wp Try.prog o a w K Q else E := by
  rw [if_pos hw]
  have hx : xs.map a.eval = vl.toArray := Array.ext' (by rw [Array.toList_map]; exact hx)
  unfold Oper.wp execOp
  simp only [ho, resolve, invoke, Sem.run_bind, Sem.run_pure, Result.andThen_ok, hx]
  have hf : a.eval (Operand.func f) = .func (.func f) #[] #[] := rfl
  simp only [hf, Deferred.ofValue, Sem.run_pure, Result.andThen_ok, Array.append_empty, he]
  simp [Oper.upon, he]
  refine H.mono fun e w' hp => ?_
  obtain ⟨r, rfl, hk⟩ := h e w' hp
  exact hk
theorem ent_in (args : Array Value) (w : World) : (callFunc 49 args).run Try.prog w = .ok (.enter 49 args) w := enters_of Try.func49 (by kernel_rfl) rfl args w
theorem ent_num (args : Array Value) (w : World) : (callFunc 50 args).run Try.prog w = .ok (.enter 50 args) w := enters_of Try.func50 (by kernel_rfl) rfl args w
end Go.Proofs.Ytgonbmcfeehfaaa

/- The document's answers for forms: the bytes of a vote. -/
namespace Go.Proofs.Ytgonbmcfeehfaaa
open Go.RowKit
set_option linter.unusedVariables false
set_option linter.unusedSimpArgs false
set_option maxRecDepth 20000

theorem at_Vt {w : World} {b : Nat} {t : TypeId} {x : Vt} (h : Hb w b t x.cells.toArray) (l3 : x.block.length = 32) : w.cell? ⟨b, 0, none⟩ = some (.string x.chain) ∧ w.cell? ⟨b, 1, none⟩ = some (.int .i64 x.height) ∧ w.cell? ⟨b, 2, none⟩ = some (.int .i64 x.round) ∧ w.cell? ⟨b, 3, none⟩ = some (.int .i64 x.type) ∧ w.rangeAt b 4 (bv x.block) ∧ w.cell? ⟨b, 36, none⟩ = some (.int .u64 (x.key : Int)) ∧ w.cell? ⟨b, 37, none⟩ = some (.int .u64 (x.r : Int)) ∧ w.cell? ⟨b, 38, none⟩ = some (.int .u64 (x.s : Int)) := by
  have r := h.range0
  unfold Vt.cells at r
  simp only [List.cons_append, List.nil_append] at r
  obtain ⟨f0, r⟩ := rangeAt_cons r
  obtain ⟨f1, r⟩ := rangeAt_cons r
  obtain ⟨f2, r⟩ := rangeAt_cons r
  obtain ⟨f3, r⟩ := rangeAt_cons r
  obtain ⟨f4, r⟩ := rangeAt_app r
  rw [bv_length, l3] at r
  obtain ⟨f5, r⟩ := rangeAt_cons r
  obtain ⟨f6, r⟩ := rangeAt_cons r
  obtain ⟨f7, r⟩ := rangeAt_cons r
  exact ⟨f0, f1, f2, f3, f4, f5, f6, f7⟩
set_option maxHeartbeats 6400000 in
theorem refVote_any (w : World) (x : Vt) (ox : x.Ok) (hch : x.chain.size ≤ 4096) : Calls Try.prog 18 #[.agg x.cells.toArray] w fun e w' => Chg Non w w' ∧ ∃ v, e = .returned (.tuple #[v, .bool x.right]) ∧ Own 5 w' v x.enc := by
  have HNm : Hid (∀ w', Calls Try.prog 48 #[.string x.chain] w' fun e w'' => e = .returned (.bool (nameOk x.chain)) ∧ ∃ n, w'' = w'.drewN n) := Lib.hid fun w' => refName_any w' x.chain ox.chain
  have HT : Hid (∀ w', Calls Try.prog 51 #[.string x.chain] w' (Newb w' (tx x.chain.data.toList))) := Lib.hid fun w' => refText_any w' x.chain hch
  have hfl : x.chain.data.toList.length = x.chain.size := by rw [Array.length_toList]; rfl
  have H0 : Hid (∀ w', Calls Try.prog 50 #[.int .i64 x.height] w' (Newb w' (num x.height))) := Lib.hid fun w' => refNumber_any w' x.height
  have H1 : Hid (∀ w', Calls Try.prog 50 #[.int .i64 x.round] w' (Newb w' (num x.round))) := Lib.hid fun w' => refNumber_any w' x.round
  have H2 : Hid (∀ w', Calls Try.prog 50 #[.int .i64 x.type] w' (Newb w' (num x.type))) := Lib.hid fun w' => refNumber_any w' x.type
  have H3 : Hid (∀ w', Calls Try.prog 52 #[.agg (bv x.block).toArray] w' (Newb w' x.block)) := Lib.hid fun w' => refHash_any w' x.block ox.block
  have hl3 := Lib.hid ox.block
  have hi3 : (Try.prog.info? 26).map (·.size) = some (bv x.block).length := by rw [bv_length, ox.block]; exact hash_row
  have H4 : Hid (∀ w', Calls Try.prog 53 #[.int .u64 (x.key : Int)] w' (Newb w' (be 8 x.key))) := Lib.hid fun w' => refWord_any w' x.key ox.key
  have H5 : Hid (∀ w', Calls Try.prog 53 #[.int .u64 (x.r : Int)] w' (Newb w' (be 8 x.r))) := Lib.hid fun w' => refWord_any w' x.r ox.r
  have H6 : Hid (∀ w', Calls Try.prog 53 #[.int .u64 (x.s : Int)] w' (Newb w' (be 8 x.s))) := Lib.hid fun w' => refWord_any w' x.s ox.s
  have I0 : Hid (∀ w', Calls Try.prog 49 #[.int .i64 x.height, .int .i64 1, .int .i64 1099511627776] w' fun e w'' => e = .returned (.bool (inR 1 1099511627776 x.height)) ∧ w'' = w') := Lib.hid fun w' => in_any w' _ _ _
  have I1 : Hid (∀ w', Calls Try.prog 49 #[.int .i64 x.round, .int .i64 0, .int .i64 1048576] w' fun e w'' => e = .returned (.bool (inR 0 1048576 x.round)) ∧ w'' = w') := Lib.hid fun w' => in_any w' _ _ _
  have I2 : Hid (∀ w', Calls Try.prog 49 #[.int .i64 x.type, .int .i64 1, .int .i64 2] w' fun e w'' => e = .returned (.bool (inR 1 2 x.type)) ∧ w'' = w') := Lib.hid fun w' => in_any w' _ _ _
  have HR : Hid (x.right = (nameOk x.chain && (inR 1 1099511627776 x.height && (inR 0 1048576 x.round && (inR 1 2 x.type))))) := Lib.hid rfl
  have HE : Hid (x.enc = num 1 ++ (tx x.chain.data.toList ++ (num x.height ++ (num x.round ++ (num x.type ++ (x.block ++ (be 8 x.key ++ (be 8 x.r ++ (be 8 x.s))))))))) := Lib.hid rfl
  have b0 := Hb.new w 31 x.cells.toArray
  have k0 : Chg Non w (w.alloc (.cells x.cells.toArray 31)) := (Chg.refl _ _).alloc _
  have AT : ∀ w1, Hid (w1 = w.alloc (.cells x.cells.toArray 31)) → ∀ w', Chg Non w1 w' → w'.cell? ⟨w.heap.size, 0, none⟩ = some (.string x.chain) ∧ w'.cell? ⟨w.heap.size, 1, none⟩ = some (.int .i64 x.height) ∧ w'.cell? ⟨w.heap.size, 2, none⟩ = some (.int .i64 x.round) ∧ w'.cell? ⟨w.heap.size, 3, none⟩ = some (.int .i64 x.type) ∧ w'.rangeAt w.heap.size 4 (bv x.block) ∧ w'.cell? ⟨w.heap.size, 36, none⟩ = some (.int .u64 (x.key : Int)) ∧ w'.cell? ⟨w.heap.size, 37, none⟩ = some (.int .u64 (x.r : Int)) ∧ w'.cell? ⟨w.heap.size, 38, none⟩ = some (.int .u64 (x.s : Int)) := fun w1 e w' k => at_Vt (b0.chg (by rw [← e.out]; exact k) (fun f => f)) ox.block
  have HAT := Lib.hid AT
  have hc0 := hch
  clear AT b0 hch
  generalize hcs : x.cells = cs at *
  generalize x.right = ok at *
  generalize x.enc = enc at *
  generalize x.chain = ch at *
  generalize x.height = y0 at *
  generalize x.round = y1 at *
  generalize x.type = y2 at *
  generalize x.block = y3 at *
  generalize x.key = y4 at *
  generalize x.r = y5 at *
  generalize x.s = y6 at *
  clear hcs ox
  generalize nameOk ch = nm at *
  generalize inR 1 1099511627776 y0 = p0 at *
  generalize inR 0 1048576 y1 = p1 at *
  generalize inR 1 2 y2 = p2 at *
  go_enter Try.func18, Try.ntmps18
  go_wp2_with (with_reducible refine wpList_box_row rfl _ _ rfl (cs := cs.toArray) rfl ?_; intro w1 hw1; have g0 := (HAT.out w1 hw1 w1 (Chg.refl _ _)).1)
  have hk01 : Chg Non w w1 := by rw [hw1.out]; exact k0
  have HAU := Lib.hid (HAT.out w1 hw1)
  clear hw1 k0
  refine (HNm.out _).mono ?_
  rintro e w2 ⟨rfl, q, hq⟩
  have k2 : Chg Non w1 w2 := by rw [hq]; exact (Chg.refl _ _).drewN q
  clear hq g0
  go_upto_region 2 with fail
  have A2 := HAU.out w2 k2
  obtain ⟨a0, a1, a2, a3, a4, a5, a6, a7⟩ := A2
  go_cut [5] from 10 to 25 (fun s5 wx => s5 = .bool (nm && (p0 && (p1 && (p2)))) ∧ wx = w2)
  case first =>
    cases nm
    · go_wp2_with fail
      go_meet
      exact ⟨by simp, rfl⟩
    · go_wp2_with fail
      refine (I0.out _).mono ?_
      rintro e wi ⟨rfl, hwi⟩
      obtain rfl : w2 = wi := hwi.symm
      cases p0
      · go_wp2_with fail
        go_meet
        exact ⟨by simp, rfl⟩
      · go_wp2_with fail
        refine (I1.out _).mono ?_
        rintro e wi ⟨rfl, hwi⟩
        obtain rfl : w2 = wi := hwi.symm
        cases p1
        · go_wp2_with fail
          go_meet
          exact ⟨by simp, rfl⟩
        · go_wp2_with fail
          refine (I2.out _).mono ?_
          rintro e wi ⟨rfl, hwi⟩
          obtain rfl : w2 = wi := hwi.symm
          go_wp2_with fail
          go_meet
          exact ⟨by simp, rfl⟩
  case rest =>
  obtain ⟨rfl, rfl⟩ := hcut
  clear I0 I1 I2 HNm
  generalize hrr : (nm && (p0 && (p1 && (p2)))) = rr at *
  have HRR := Lib.hid hrr
  clear hrr
  have HA0 := Lib.hid a0
  go_upto_region 3 with fail
  go_cut [6] from 26 to 30 (fun s6 wx => Bts wc wx s6 (num 1 ++ tx ch.data.toList))
  case first =>
    go_region_held3 (fun w' => w'.cell? ⟨w.heap.size, 0, none⟩ = some (.string ch)) (first | exact a0 | exact S8 | exact S7 | exact S6 | assumption)
      (first
        | (go_at_call 50; refine (refNumber_any _ 1).mono ?_; rintro e w6 ⟨v6, rfl, o6, n6, j6⟩; have K6 : Chg Non wc w6 := (by first | exact ((Chg.refl Non wc).drew).trans j6 (fun _ f => f.elim) | exact K7.trans j6 (fun _ f => f.elim)); have B6 : Bts wc w6 v6 (num 1) := ⟨o6, fun k hk => Nat.le_trans (by first | exact Nat.le_refl _ | exact K7.size) (n6 k hk), K6⟩; have S6 := K6.cell a0 (fun f => f))
        | (go_at_call 51; refine (HT.out _).mono ?_; rintro e w7 ⟨v7, rfl, o7, n7, j7⟩; obtain ⟨A7, c7, rfl, R7⟩ := o7.rd; have K7 : Chg Non wc w7 := (by first | exact ((Chg.refl Non wc).drew).trans j7 (fun _ f => f.elim) | exact K6.trans j7 (fun _ f => f.elim)); have S7 := K7.cell a0 (fun f => f))
        | (refine step_app _ (by rfl) _ _ (by rfl) (l := num 1) (l2 := tx ch.data.toList) (by rfl) (by first | exact (B6.later j7).own | exact B6.own) (A := A7) (c := c7) (by rfl) (by rfl) (by first | exact R7 | exact R7.later j6) (by simp only [num_length, tx_length, hfl]; omega) ?_; intro v8 w8 o8 g8 b8; have B8 : Bts wc w8 v8 (num 1 ++ tx ch.data.toList) := (by first | exact (B6.later j7).app o8 g8 b8 | exact B6.app o8 g8 b8); have S8 := B8.chg.cell a0 (fun f => f))
        | fail)
    all_goals
      go_wp2_with fail
      go_meet
      exact B8
  case rest =>
  have B := hcut
  have q := HAU.out _ (k2.trans B.chg (fun _ f => f.elim))
  clear hcut a0 a1 a2 a3 a4 a5 a6 a7 HT
  have d := q.2.1
  go_wp2_with fail
  refine (H0.out _).mono ?_
  rintro e wa ⟨va, rfl, oa, na, ja⟩
  obtain ⟨Aa, ca, rfl, Ra⟩ := oa.rd
  have Ba := B.later ja
  clear d q B oa na ja
  go_wp2_with (first | (at_builtin; refine wpList_app byt _ rfl _ _ rfl rfl Ba.own (A := Aa) (c := ca) rfl rfl Ra (by simp only [List.length_append, num_length, tx_length, be_length, hfl, hl3.out]; omega) ?_; intro v9 w9 o9 g9 b9; have B := Ba.app o9 g9 b9; have q := HAU.out _ (k2.trans B.chg (fun _ f => f.elim)); have d := q.2.2.1))
  clear Ra Ba o9 g9 b9
  refine (H1.out _).mono ?_
  rintro e wa ⟨va, rfl, oa, na, ja⟩
  obtain ⟨Aa, ca, rfl, Ra⟩ := oa.rd
  have Ba := B.later ja
  clear d q B oa na ja
  go_wp2_with (first | (at_builtin; refine wpList_app byt _ rfl _ _ rfl rfl Ba.own (A := Aa) (c := ca) rfl rfl Ra (by simp only [List.length_append, num_length, tx_length, be_length, hfl, hl3.out]; omega) ?_; intro v9 w9 o9 g9 b9; have B := Ba.app o9 g9 b9; have q := HAU.out _ (k2.trans B.chg (fun _ f => f.elim)); have d := q.2.2.2.1))
  clear Ra Ba o9 g9 b9
  refine (H2.out _).mono ?_
  rintro e wa ⟨va, rfl, oa, na, ja⟩
  obtain ⟨Aa, ca, rfl, Ra⟩ := oa.rd
  have Ba := B.later ja
  clear d q B oa na ja
  go_wp2_with (first | (at_builtin; refine wpList_app byt _ rfl _ _ rfl rfl Ba.own (A := Aa) (c := ca) rfl rfl Ra (by simp only [List.length_append, num_length, tx_length, be_length, hfl, hl3.out]; omega) ?_; intro v9 w9 o9 g9 b9; have B := Ba.app o9 g9 b9; have q := HAU.out _ (k2.trans B.chg (fun _ f => f.elim)); have d := q.2.2.2.2.1) | (with_reducible refine wpList_load_mid rfl 26 _ rfl w.heap.size 4 rfl (bv y3) _ d Try.underlying26 rfl hi3 ?_))
  clear Ra Ba o9 g9 b9
  refine (H3.out _).mono ?_
  rintro e wa ⟨va, rfl, oa, na, ja⟩
  obtain ⟨Aa, ca, rfl, Ra⟩ := oa.rd
  have Ba := B.later ja
  clear d q B oa na ja
  go_wp2_with (first | (at_builtin; refine wpList_app byt _ rfl _ _ rfl rfl Ba.own (A := Aa) (c := ca) rfl rfl Ra (by simp only [List.length_append, num_length, tx_length, be_length, hfl, hl3.out]; omega) ?_; intro v9 w9 o9 g9 b9; have B := Ba.app o9 g9 b9; have q := HAU.out _ (k2.trans B.chg (fun _ f => f.elim)); have d := q.2.2.2.2.2.1))
  clear Ra Ba o9 g9 b9
  refine (H4.out _).mono ?_
  rintro e wa ⟨va, rfl, oa, na, ja⟩
  obtain ⟨Aa, ca, rfl, Ra⟩ := oa.rd
  have Ba := B.later ja
  clear d q B oa na ja
  go_wp2_with (first | (at_builtin; refine wpList_app byt _ rfl _ _ rfl rfl Ba.own (A := Aa) (c := ca) rfl rfl Ra (by simp only [List.length_append, num_length, tx_length, be_length, hfl, hl3.out]; omega) ?_; intro v9 w9 o9 g9 b9; have B := Ba.app o9 g9 b9; have q := HAU.out _ (k2.trans B.chg (fun _ f => f.elim)); have d := q.2.2.2.2.2.2.1))
  clear Ra Ba o9 g9 b9
  refine (H5.out _).mono ?_
  rintro e wa ⟨va, rfl, oa, na, ja⟩
  obtain ⟨Aa, ca, rfl, Ra⟩ := oa.rd
  have Ba := B.later ja
  clear d q B oa na ja
  go_wp2_with (first | (at_builtin; refine wpList_app byt _ rfl _ _ rfl rfl Ba.own (A := Aa) (c := ca) rfl rfl Ra (by simp only [List.length_append, num_length, tx_length, be_length, hfl, hl3.out]; omega) ?_; intro v9 w9 o9 g9 b9; have B := Ba.app o9 g9 b9; have q := HAU.out _ (k2.trans B.chg (fun _ f => f.elim)); have d := q.2.2.2.2.2.2.2))
  clear Ra Ba o9 g9 b9
  refine (H6.out _).mono ?_
  rintro e wa ⟨va, rfl, oa, na, ja⟩
  obtain ⟨Aa, ca, rfl, Ra⟩ := oa.rd
  have Ba := B.later ja
  clear d q B oa na ja
  go_wp2_with (at_builtin; refine wpList_app byt _ rfl _ _ rfl rfl Ba.own (A := Aa) (c := ca) rfl rfl Ra (by simp only [List.length_append, num_length, tx_length, be_length, hfl, hl3.out]; omega) ?_; intro v9 w9 o9 g9 b9; have B := Ba.app o9 g9 b9)
  clear Ra Ba o9 g9 b9
  go_ret2
  exact ⟨(hk01.trans k2 (fun _ f => f.elim)).trans B.chg (fun _ f => f.elim), v9, by first | (rw [HR.out]; done) | (rw [HR.out]; rfl) | (rw [HR.out]; simp), by rw [HE.out]; simpa only [List.append_assoc] using B.own⟩
end Go.Proofs.Ytgonbmcfeehfaaa

/- The document's answers for forms: the bytes of a header. -/
namespace Go.Proofs.Ytgonbmcfeehfaaa
open Go.RowKit
set_option linter.unusedVariables false
set_option linter.unusedSimpArgs false
set_option maxRecDepth 20000

theorem at_Hd {w : World} {b : Nat} {t : TypeId} {x : Hd} (h : Hb w b t x.cells.toArray) (l2 : x.last.length = 32) (l3 : x.set.length = 32) (l4 : x.next.length = 32) (l5 : x.data.length = 32) (l6 : x.app.length = 32) : w.cell? ⟨b, 0, none⟩ = some (.string x.chain) ∧ w.cell? ⟨b, 1, none⟩ = some (.int .i64 x.height) ∧ w.cell? ⟨b, 2, none⟩ = some (.int .i64 x.time) ∧ w.rangeAt b 3 (bv x.last) ∧ w.rangeAt b 35 (bv x.set) ∧ w.rangeAt b 67 (bv x.next) ∧ w.rangeAt b 99 (bv x.data) ∧ w.rangeAt b 131 (bv x.app) := by
  have r := h.range0
  unfold Hd.cells at r
  simp only [List.cons_append, List.nil_append] at r
  obtain ⟨f0, r⟩ := rangeAt_cons r
  obtain ⟨f1, r⟩ := rangeAt_cons r
  obtain ⟨f2, r⟩ := rangeAt_cons r
  obtain ⟨f3, r⟩ := rangeAt_app r
  rw [bv_length, l2] at r
  obtain ⟨f4, r⟩ := rangeAt_app r
  rw [bv_length, l3] at r
  obtain ⟨f5, r⟩ := rangeAt_app r
  rw [bv_length, l4] at r
  obtain ⟨f6, r⟩ := rangeAt_app r
  rw [bv_length, l5] at r
  have f7 := r
  exact ⟨f0, f1, f2, f3, f4, f5, f6, f7⟩
set_option maxHeartbeats 6400000 in
theorem refHeader_any (w : World) (x : Hd) (ox : x.Ok) (hch : x.chain.size ≤ 4096) : Calls Try.prog 23 #[.agg x.cells.toArray] w fun e w' => Chg Non w w' ∧ ∃ v, e = .returned (.tuple #[v, .bool x.right]) ∧ Own 5 w' v x.enc := by
  have HNm : Hid (∀ w', Calls Try.prog 48 #[.string x.chain] w' fun e w'' => e = .returned (.bool (nameOk x.chain)) ∧ ∃ n, w'' = w'.drewN n) := Lib.hid fun w' => refName_any w' x.chain ox.chain
  have HT : Hid (∀ w', Calls Try.prog 51 #[.string x.chain] w' (Newb w' (tx x.chain.data.toList))) := Lib.hid fun w' => refText_any w' x.chain hch
  have hfl : x.chain.data.toList.length = x.chain.size := by rw [Array.length_toList]; rfl
  have H0 : Hid (∀ w', Calls Try.prog 50 #[.int .i64 x.height] w' (Newb w' (num x.height))) := Lib.hid fun w' => refNumber_any w' x.height
  have H1 : Hid (∀ w', Calls Try.prog 50 #[.int .i64 x.time] w' (Newb w' (num x.time))) := Lib.hid fun w' => refNumber_any w' x.time
  have H2 : Hid (∀ w', Calls Try.prog 52 #[.agg (bv x.last).toArray] w' (Newb w' x.last)) := Lib.hid fun w' => refHash_any w' x.last ox.last
  have hl2 := Lib.hid ox.last
  have hi2 : (Try.prog.info? 26).map (·.size) = some (bv x.last).length := by rw [bv_length, ox.last]; exact hash_row
  have H3 : Hid (∀ w', Calls Try.prog 52 #[.agg (bv x.set).toArray] w' (Newb w' x.set)) := Lib.hid fun w' => refHash_any w' x.set ox.set
  have hl3 := Lib.hid ox.set
  have hi3 : (Try.prog.info? 26).map (·.size) = some (bv x.set).length := by rw [bv_length, ox.set]; exact hash_row
  have H4 : Hid (∀ w', Calls Try.prog 52 #[.agg (bv x.next).toArray] w' (Newb w' x.next)) := Lib.hid fun w' => refHash_any w' x.next ox.next
  have hl4 := Lib.hid ox.next
  have hi4 : (Try.prog.info? 26).map (·.size) = some (bv x.next).length := by rw [bv_length, ox.next]; exact hash_row
  have H5 : Hid (∀ w', Calls Try.prog 52 #[.agg (bv x.data).toArray] w' (Newb w' x.data)) := Lib.hid fun w' => refHash_any w' x.data ox.data
  have hl5 := Lib.hid ox.data
  have hi5 : (Try.prog.info? 26).map (·.size) = some (bv x.data).length := by rw [bv_length, ox.data]; exact hash_row
  have H6 : Hid (∀ w', Calls Try.prog 52 #[.agg (bv x.app).toArray] w' (Newb w' x.app)) := Lib.hid fun w' => refHash_any w' x.app ox.app
  have hl6 := Lib.hid ox.app
  have hi6 : (Try.prog.info? 26).map (·.size) = some (bv x.app).length := by rw [bv_length, ox.app]; exact hash_row
  have I0 : Hid (∀ w', Calls Try.prog 49 #[.int .i64 x.height, .int .i64 1, .int .i64 1099511627776] w' fun e w'' => e = .returned (.bool (inR 1 1099511627776 x.height)) ∧ w'' = w') := Lib.hid fun w' => in_any w' _ _ _
  have I1 : Hid (∀ w', Calls Try.prog 49 #[.int .i64 x.time, .int .i64 0, .int .i64 1099511627776] w' fun e w'' => e = .returned (.bool (inR 0 1099511627776 x.time)) ∧ w'' = w') := Lib.hid fun w' => in_any w' _ _ _
  have HR : Hid (x.right = (nameOk x.chain && (inR 1 1099511627776 x.height && (inR 0 1099511627776 x.time)))) := Lib.hid rfl
  have HE : Hid (x.enc = num 2 ++ (tx x.chain.data.toList ++ (num x.height ++ (num x.time ++ (x.last ++ (x.set ++ (x.next ++ (x.data ++ (x.app))))))))) := Lib.hid rfl
  have b0 := Hb.new w 36 x.cells.toArray
  have k0 : Chg Non w (w.alloc (.cells x.cells.toArray 36)) := (Chg.refl _ _).alloc _
  have AT : ∀ w1, Hid (w1 = w.alloc (.cells x.cells.toArray 36)) → ∀ w', Chg Non w1 w' → w'.cell? ⟨w.heap.size, 0, none⟩ = some (.string x.chain) ∧ w'.cell? ⟨w.heap.size, 1, none⟩ = some (.int .i64 x.height) ∧ w'.cell? ⟨w.heap.size, 2, none⟩ = some (.int .i64 x.time) ∧ w'.rangeAt w.heap.size 3 (bv x.last) ∧ w'.rangeAt w.heap.size 35 (bv x.set) ∧ w'.rangeAt w.heap.size 67 (bv x.next) ∧ w'.rangeAt w.heap.size 99 (bv x.data) ∧ w'.rangeAt w.heap.size 131 (bv x.app) := fun w1 e w' k => at_Hd (b0.chg (by rw [← e.out]; exact k) (fun f => f)) ox.last ox.set ox.next ox.data ox.app
  have HAT := Lib.hid AT
  have hc0 := hch
  clear AT b0 hch
  generalize hcs : x.cells = cs at *
  generalize x.right = ok at *
  generalize x.enc = enc at *
  generalize x.chain = ch at *
  generalize x.height = y0 at *
  generalize x.time = y1 at *
  generalize x.last = y2 at *
  generalize x.set = y3 at *
  generalize x.next = y4 at *
  generalize x.data = y5 at *
  generalize x.app = y6 at *
  clear hcs ox
  generalize nameOk ch = nm at *
  generalize inR 1 1099511627776 y0 = p0 at *
  generalize inR 0 1099511627776 y1 = p1 at *
  go_enter Try.func23, Try.ntmps23
  go_wp2_with (with_reducible refine wpList_box_row rfl _ _ rfl (cs := cs.toArray) rfl ?_; intro w1 hw1; have g0 := (HAT.out w1 hw1 w1 (Chg.refl _ _)).1)
  have hk01 : Chg Non w w1 := by rw [hw1.out]; exact k0
  have HAU := Lib.hid (HAT.out w1 hw1)
  clear hw1 k0
  refine (HNm.out _).mono ?_
  rintro e w2 ⟨rfl, q, hq⟩
  have k2 : Chg Non w1 w2 := by rw [hq]; exact (Chg.refl _ _).drewN q
  clear hq g0
  go_upto_region 2 with fail
  have A2 := HAU.out w2 k2
  obtain ⟨a0, a1, a2, a3, a4, a5, a6, a7⟩ := A2
  go_cut [5] from 10 to 20 (fun s5 wx => s5 = .bool (nm && (p0 && (p1))) ∧ wx = w2)
  case first =>
    cases nm
    · go_wp2_with fail
      go_meet
      exact ⟨by simp, rfl⟩
    · go_wp2_with fail
      refine (I0.out _).mono ?_
      rintro e wi ⟨rfl, hwi⟩
      obtain rfl : w2 = wi := hwi.symm
      cases p0
      · go_wp2_with fail
        go_meet
        exact ⟨by simp, rfl⟩
      · go_wp2_with fail
        refine (I1.out _).mono ?_
        rintro e wi ⟨rfl, hwi⟩
        obtain rfl : w2 = wi := hwi.symm
        go_wp2_with fail
        go_meet
        exact ⟨by simp, rfl⟩
  case rest =>
  obtain ⟨rfl, rfl⟩ := hcut
  clear I0 I1 HNm
  generalize hrr : (nm && (p0 && (p1))) = rr at *
  have HRR := Lib.hid hrr
  clear hrr
  have HA0 := Lib.hid a0
  go_upto_region 3 with fail
  go_cut [6] from 21 to 25 (fun s6 wx => Bts wc wx s6 (num 2 ++ tx ch.data.toList))
  case first =>
    go_region_held3 (fun w' => w'.cell? ⟨w.heap.size, 0, none⟩ = some (.string ch)) (first | exact a0 | exact S8 | exact S7 | exact S6 | assumption)
      (first
        | (go_at_call 50; refine (refNumber_any _ 2).mono ?_; rintro e w6 ⟨v6, rfl, o6, n6, j6⟩; have K6 : Chg Non wc w6 := (by first | exact ((Chg.refl Non wc).drew).trans j6 (fun _ f => f.elim) | exact K7.trans j6 (fun _ f => f.elim)); have B6 : Bts wc w6 v6 (num 2) := ⟨o6, fun k hk => Nat.le_trans (by first | exact Nat.le_refl _ | exact K7.size) (n6 k hk), K6⟩; have S6 := K6.cell a0 (fun f => f))
        | (go_at_call 51; refine (HT.out _).mono ?_; rintro e w7 ⟨v7, rfl, o7, n7, j7⟩; obtain ⟨A7, c7, rfl, R7⟩ := o7.rd; have K7 : Chg Non wc w7 := (by first | exact ((Chg.refl Non wc).drew).trans j7 (fun _ f => f.elim) | exact K6.trans j7 (fun _ f => f.elim)); have S7 := K7.cell a0 (fun f => f))
        | (refine step_app _ (by rfl) _ _ (by rfl) (l := num 2) (l2 := tx ch.data.toList) (by rfl) (by first | exact (B6.later j7).own | exact B6.own) (A := A7) (c := c7) (by rfl) (by rfl) (by first | exact R7 | exact R7.later j6) (by simp only [num_length, tx_length, hfl]; omega) ?_; intro v8 w8 o8 g8 b8; have B8 : Bts wc w8 v8 (num 2 ++ tx ch.data.toList) := (by first | exact (B6.later j7).app o8 g8 b8 | exact B6.app o8 g8 b8); have S8 := B8.chg.cell a0 (fun f => f))
        | fail)
    all_goals
      go_wp2_with fail
      go_meet
      exact B8
  case rest =>
  have B := hcut
  have q := HAU.out _ (k2.trans B.chg (fun _ f => f.elim))
  clear hcut a0 a1 a2 a3 a4 a5 a6 a7 HT
  have d := q.2.1
  go_wp2_with fail
  refine (H0.out _).mono ?_
  rintro e wa ⟨va, rfl, oa, na, ja⟩
  obtain ⟨Aa, ca, rfl, Ra⟩ := oa.rd
  have Ba := B.later ja
  clear d q B oa na ja
  go_wp2_with (first | (at_builtin; refine wpList_app byt _ rfl _ _ rfl rfl Ba.own (A := Aa) (c := ca) rfl rfl Ra (by simp only [List.length_append, num_length, tx_length, be_length, hfl, hl2.out, hl3.out, hl4.out, hl5.out, hl6.out]; omega) ?_; intro v9 w9 o9 g9 b9; have B := Ba.app o9 g9 b9; have q := HAU.out _ (k2.trans B.chg (fun _ f => f.elim)); have d := q.2.2.1))
  clear Ra Ba o9 g9 b9
  refine (H1.out _).mono ?_
  rintro e wa ⟨va, rfl, oa, na, ja⟩
  obtain ⟨Aa, ca, rfl, Ra⟩ := oa.rd
  have Ba := B.later ja
  clear d q B oa na ja
  go_wp2_with (first | (at_builtin; refine wpList_app byt _ rfl _ _ rfl rfl Ba.own (A := Aa) (c := ca) rfl rfl Ra (by simp only [List.length_append, num_length, tx_length, be_length, hfl, hl2.out, hl3.out, hl4.out, hl5.out, hl6.out]; omega) ?_; intro v9 w9 o9 g9 b9; have B := Ba.app o9 g9 b9; have q := HAU.out _ (k2.trans B.chg (fun _ f => f.elim)); have d := q.2.2.2.1) | (with_reducible refine wpList_load_mid rfl 26 _ rfl w.heap.size 3 rfl (bv y2) _ d Try.underlying26 rfl hi2 ?_))
  clear Ra Ba o9 g9 b9
  refine (H2.out _).mono ?_
  rintro e wa ⟨va, rfl, oa, na, ja⟩
  obtain ⟨Aa, ca, rfl, Ra⟩ := oa.rd
  have Ba := B.later ja
  clear d q B oa na ja
  go_wp2_with (first | (at_builtin; refine wpList_app byt _ rfl _ _ rfl rfl Ba.own (A := Aa) (c := ca) rfl rfl Ra (by simp only [List.length_append, num_length, tx_length, be_length, hfl, hl2.out, hl3.out, hl4.out, hl5.out, hl6.out]; omega) ?_; intro v9 w9 o9 g9 b9; have B := Ba.app o9 g9 b9; have q := HAU.out _ (k2.trans B.chg (fun _ f => f.elim)); have d := q.2.2.2.2.1) | (with_reducible refine wpList_load_mid rfl 26 _ rfl w.heap.size 35 rfl (bv y3) _ d Try.underlying26 rfl hi3 ?_))
  clear Ra Ba o9 g9 b9
  refine (H3.out _).mono ?_
  rintro e wa ⟨va, rfl, oa, na, ja⟩
  obtain ⟨Aa, ca, rfl, Ra⟩ := oa.rd
  have Ba := B.later ja
  clear d q B oa na ja
  go_wp2_with (first | (at_builtin; refine wpList_app byt _ rfl _ _ rfl rfl Ba.own (A := Aa) (c := ca) rfl rfl Ra (by simp only [List.length_append, num_length, tx_length, be_length, hfl, hl2.out, hl3.out, hl4.out, hl5.out, hl6.out]; omega) ?_; intro v9 w9 o9 g9 b9; have B := Ba.app o9 g9 b9; have q := HAU.out _ (k2.trans B.chg (fun _ f => f.elim)); have d := q.2.2.2.2.2.1) | (with_reducible refine wpList_load_mid rfl 26 _ rfl w.heap.size 67 rfl (bv y4) _ d Try.underlying26 rfl hi4 ?_))
  clear Ra Ba o9 g9 b9
  refine (H4.out _).mono ?_
  rintro e wa ⟨va, rfl, oa, na, ja⟩
  obtain ⟨Aa, ca, rfl, Ra⟩ := oa.rd
  have Ba := B.later ja
  clear d q B oa na ja
  go_wp2_with (first | (at_builtin; refine wpList_app byt _ rfl _ _ rfl rfl Ba.own (A := Aa) (c := ca) rfl rfl Ra (by simp only [List.length_append, num_length, tx_length, be_length, hfl, hl2.out, hl3.out, hl4.out, hl5.out, hl6.out]; omega) ?_; intro v9 w9 o9 g9 b9; have B := Ba.app o9 g9 b9; have q := HAU.out _ (k2.trans B.chg (fun _ f => f.elim)); have d := q.2.2.2.2.2.2.1) | (with_reducible refine wpList_load_mid rfl 26 _ rfl w.heap.size 99 rfl (bv y5) _ d Try.underlying26 rfl hi5 ?_))
  clear Ra Ba o9 g9 b9
  refine (H5.out _).mono ?_
  rintro e wa ⟨va, rfl, oa, na, ja⟩
  obtain ⟨Aa, ca, rfl, Ra⟩ := oa.rd
  have Ba := B.later ja
  clear d q B oa na ja
  go_wp2_with (first | (at_builtin; refine wpList_app byt _ rfl _ _ rfl rfl Ba.own (A := Aa) (c := ca) rfl rfl Ra (by simp only [List.length_append, num_length, tx_length, be_length, hfl, hl2.out, hl3.out, hl4.out, hl5.out, hl6.out]; omega) ?_; intro v9 w9 o9 g9 b9; have B := Ba.app o9 g9 b9; have q := HAU.out _ (k2.trans B.chg (fun _ f => f.elim)); have d := q.2.2.2.2.2.2.2) | (with_reducible refine wpList_load_mid rfl 26 _ rfl w.heap.size 131 rfl (bv y6) _ d Try.underlying26 rfl hi6 ?_))
  clear Ra Ba o9 g9 b9
  refine (H6.out _).mono ?_
  rintro e wa ⟨va, rfl, oa, na, ja⟩
  obtain ⟨Aa, ca, rfl, Ra⟩ := oa.rd
  have Ba := B.later ja
  clear d q B oa na ja
  go_wp2_with (at_builtin; refine wpList_app byt _ rfl _ _ rfl rfl Ba.own (A := Aa) (c := ca) rfl rfl Ra (by simp only [List.length_append, num_length, tx_length, be_length, hfl, hl2.out, hl3.out, hl4.out, hl5.out, hl6.out]; omega) ?_; intro v9 w9 o9 g9 b9; have B := Ba.app o9 g9 b9)
  clear Ra Ba o9 g9 b9
  go_ret2
  exact ⟨(hk01.trans k2 (fun _ f => f.elim)).trans B.chg (fun _ f => f.elim), v9, by first | (rw [HR.out]; done) | (rw [HR.out]; rfl) | (rw [HR.out]; simp), by rw [HE.out]; simpa only [List.append_assoc] using B.own⟩
end Go.Proofs.Ytgonbmcfeehfaaa

/- The document's answers for forms: ReadVote, ReadHeader. -/
namespace Go.Proofs.Ytgonbmcfeehfaaa
open Go.RowKit
set_option linter.unusedVariables false
set_option linter.unusedSimpArgs false
set_option maxRecDepth 20000

theorem zero_Vt : Try.prog.built 31 [] = some (Vt.zero.cells).toArray := by kernel_rfl
set_option maxHeartbeats 1600000 in
theorem ReadVote_any (w : World) (A : Option Addr) (c : Nat) (bs : List UInt8) (hr : Rd w A bs) (hc : bs.length ≤ c) (hcm : c ≤ maxLen) (hA : bs ≠ [] → ∀ j, abl A j → j < w.heap.size) :
    Calls Try.prog 6 #[.slice A bs.length c] w (Dec w (Vt.zero.cells) ((whole (dVote (some bs))).map Vt.cells)) := by
  rw [rVote_is]
  have ox := rVote_ok (some bs)
  have hch : (rVote (some bs)).1.chain.size ≤ 4096 := vT_size _
  obtain ⟨hR2, hb2, hk2, hs2⟩ := rdF_new w 31 (Vt.zero.cells) A c bs hr hc hcm hA
  have HV := readVote_any _ (w.heap.size + 1) (fun j => j < w.heap.size) (some bs) hR2 (fun j hj => by rw [hs2]; omega)
  have hz := dVote.alloc0
  have hzl := dVote.zlen
  have hrow := dVote.row
  have hzz := zero_Vt
  have hzone := Vt.zero.one
  have hLl : (rVote (some bs)).1.cells.length = 39 := by simp [Vt.cells, bv_length, ox.block]
  have hLone := (rVote (some bs)).1.one
  have HX : Hid (∀ w', Calls Try.prog 18 #[.agg (rVote (some bs)).1.cells.toArray] w' fun e w'' => Chg Non w' w'' ∧ ∃ v, e = .returned (.tuple #[v, .bool (rVote (some bs)).1.right])) := Lib.hid fun w' => (refVote_any w' _ ox hch).mono fun e w'' ⟨h1, v, h2, _⟩ => ⟨h1, v, h2⟩
  have hres : ((if (rVote (some bs)).2 = some [] ∧ (rVote (some bs)).1.right = true then some (rVote (some bs)).1 else none).map Vt.cells) = if (rVote (some bs)).2 = some [] ∧ (rVote (some bs)).1.right = true then some (rVote (some bs)).1.cells else none := by split <;> rfl
  rw [hres]
  clear hres ox hch
  generalize (rVote (some bs)).1.cells = L at *
  generalize (rVote (some bs)).1.right = ok at *
  generalize (rVote (some bs)).2 = s9 at *
  generalize (Vt.zero.cells) = z at *
  generalize bs.length = n at *
  generalize hrr : (if s9 = some [] ∧ ok = true then some L else none) = rr
  have HRR := Lib.hid hrr
  clear hrr
  have HZ := Lib.hid hz
  have hz0 := hz w
  have HVV := Lib.hid HV
  clear HV hz hr hc hA hR2
  go_enter Try.func6, Try.ntmps6
  go_wp2_with (with_reducible refine wpList_alloc_row rfl _ rfl z hz0 ?_)
  generalize (w.alloc (.cells z.toArray 31)).alloc (.cells #[.slice A n c, .bool false] 56) = w2 at *
  refine HVV.out.mono ?_
  rintro e w3 ⟨rfl, hR3, hK3⟩
  have hb3 := hb2.chg hK3 (fun e => by unfold Eqg at e; omega)
  have hk3 := hk2.trans hK3 (fun j hj => .inr (by unfold Eqg at hj; omega))
  have hw3 := hK3.size
  have hz3 := HZ.out w3
  obtain ⟨K4, hN4, hth4⟩ := storedU w3 31 z L (hzl.trans hLl.symm)
  have hb4 := hb3.chg K4 (fun f => f)
  have hk4 := hk3.trans K4 (fun _ f => f.elim)
  have hR4 := hR3.chg K4 (fun f => f) (fun _ _ f => f)
  have hne : w3.heap.size ≠ w.heap.size := by omega
  have hLs : L.toArray.size = 39 := by rw [List.size_toArray]; exact hLl
  have hLi : (Try.prog.info? 31).map (·.size) = some L.length := by rw [hLl]; exact hrow
  have hzs : z.toArray.size = 39 := by rw [List.size_toArray]; exact hzl
  rw [hLl] at hth4
  clear hb2 hk2 HVV hb3 hk3 hR3 hK3 K4 hz0
  generalize hw4 : (w3.alloc (.cells z.toArray 31)).setCells w3.heap.size 0 L = w4 at *
  have HW4 := Lib.hid hw4
  have r4 := hN4.range0
  clear hw4
  go_wp2_with (first | (with_reducible refine wpList_alloc_row rfl _ rfl z hz3 ?_) | (with_reducible refine wpList_store_mid rfl 31 _ _ rfl w3.heap.size 0 L.toArray rfl rfl (by rw [hLs]; exact hth4) (by rw [hLs, hrow]) (one_mem hLone) ?_; rw [List.toList_toArray, HW4.out]) | (with_reducible refine wpList_load_mid rfl 31 _ rfl w3.heap.size 0 rfl L _ r4 Try.underlying31 rfl hLi ?_))
  clear hz3 hth4 HW4 r4
  generalize w3.heap.size = tb at *
  refine (HX.out _).mono ?_
  rintro e w5 ⟨k5, v, rfl⟩
  have hb5 := hb4.chg k5 (fun f => f)
  have hN5 := hN4.chg k5 (fun f => f)
  have hk5 := hk4.trans k5 (fun _ f => f.elim)
  have hR5 := hR4.chg k5 (fun f => f) (fun _ _ f => f)
  clear hb4 hN4 hk4 hR4 k5 HX
  have HE := ends_any w5 _ _ s9 ok hR5
  have ht5 := hb5.there0
  rw [hzl] at ht5
  have r5 := hN5.range0
  clear hR5
  by_cases hok : s9 = some [] ∧ ok = true
  · rw [if_pos hok] at HE
    obtain rfl : rr = some L := HRR.out.symm.trans (if_pos hok)
    clear hok HRR
    have b9 := hb5.sets0 (L' := L) (hzl.trans hLl.symm)
    go_wp2_with fail
    refine HE.mono ?_
    rintro e w6 ⟨rfl, rfl⟩
    clear HE
    go_wp2_with (first | (with_reducible refine wpList_load_mid rfl 31 _ rfl tb 0 rfl L _ r5 Try.underlying31 rfl hLi ?_) | (with_reducible refine wpList_store_mid rfl 31 _ _ rfl w.heap.size 0 L.toArray rfl rfl (by rw [hLs]; exact ht5) (by rw [hLs, hrow]) (one_mem hLone) ?_))
    refine bodyPost_ret ((results_cell_tmp rfl _ _ _).trans ?_) rfl (R := Dec w z (some L)) (v := .tuple #[.agg L.toArray, .int .i64 0]) ?_
    · simp only [asAddr, Sem.run_pure, Result.andThen_ok]
      have hl := load_row b9 Try.underlying31 rfl hLi
      simp [hl]
    · exact ⟨hk5.trans (Chg.setCells (S := fun j => j = w.heap.size) rfl L _ 0 (Chg.refl _ _)) (fun j hj => .inr (by omega)), rfl⟩
  · rw [if_neg hok] at HE
    obtain rfl : rr = none := HRR.out.symm.trans (if_neg hok)
    clear hok HRR
    have b9 := hb5.sets0 (L' := z) rfl
    have hzi : (Try.prog.info? 31).map (·.size) = some z.length := by rw [hzl]; exact hrow
    go_wp2_with fail
    refine HE.mono ?_
    rintro e w6 ⟨rfl, rfl⟩
    clear HE
    go_wp2_with (first | (with_reducible refine wpList_build_zero rfl 31 rfl hzz ?_) | (with_reducible refine wpList_store_mid rfl 31 _ _ rfl w.heap.size 0 z.toArray rfl rfl (by rw [hzs]; exact ht5) (by rw [hzs, hrow]) (one_mem hzone) ?_))
    refine bodyPost_ret ((results_cell_tmp rfl _ _ _).trans ?_) rfl (R := Dec w z none) (v := .tuple #[.agg z.toArray, .int .i64 61]) ?_
    · simp only [asAddr, Sem.run_pure, Result.andThen_ok]
      have hl := load_row b9 Try.underlying31 rfl hzi
      simp [hl]
    · exact ⟨hk5.trans (Chg.setCells (S := fun j => j = w.heap.size) rfl z _ 0 (Chg.refl _ _)) (fun j hj => .inr (by omega)), rfl⟩
theorem zero_Hd : Try.prog.built 36 [] = some (Hd.zero.cells).toArray := by kernel_rfl
set_option maxHeartbeats 1600000 in
theorem ReadHeader_any (w : World) (A : Option Addr) (c : Nat) (bs : List UInt8) (hr : Rd w A bs) (hc : bs.length ≤ c) (hcm : c ≤ maxLen) (hA : bs ≠ [] → ∀ j, abl A j → j < w.heap.size) :
    Calls Try.prog 8 #[.slice A bs.length c] w (Dec w (Hd.zero.cells) ((whole (dHeader (some bs))).map Hd.cells)) := by
  rw [rHeader_is]
  have ox := rHeader_ok (some bs)
  have hch : (rHeader (some bs)).1.chain.size ≤ 4096 := vT_size _
  obtain ⟨hR2, hb2, hk2, hs2⟩ := rdF_new w 36 (Hd.zero.cells) A c bs hr hc hcm hA
  have HV := readHeader_any _ (w.heap.size + 1) (fun j => j < w.heap.size) (some bs) hR2 (fun j hj => by rw [hs2]; omega)
  have hz := dHeader.alloc0
  have hzl := dHeader.zlen
  have hrow := dHeader.row
  have hzz := zero_Hd
  have hzone := Hd.zero.one
  have hLl : (rHeader (some bs)).1.cells.length = 163 := by simp [Hd.cells, bv_length, ox.last, ox.set, ox.next, ox.data, ox.app]
  have hLone := (rHeader (some bs)).1.one
  have HX : Hid (∀ w', Calls Try.prog 23 #[.agg (rHeader (some bs)).1.cells.toArray] w' fun e w'' => Chg Non w' w'' ∧ ∃ v, e = .returned (.tuple #[v, .bool (rHeader (some bs)).1.right])) := Lib.hid fun w' => (refHeader_any w' _ ox hch).mono fun e w'' ⟨h1, v, h2, _⟩ => ⟨h1, v, h2⟩
  have hres : ((if (rHeader (some bs)).2 = some [] ∧ (rHeader (some bs)).1.right = true then some (rHeader (some bs)).1 else none).map Hd.cells) = if (rHeader (some bs)).2 = some [] ∧ (rHeader (some bs)).1.right = true then some (rHeader (some bs)).1.cells else none := by split <;> rfl
  rw [hres]
  clear hres ox hch
  generalize (rHeader (some bs)).1.cells = L at *
  generalize (rHeader (some bs)).1.right = ok at *
  generalize (rHeader (some bs)).2 = s9 at *
  generalize (Hd.zero.cells) = z at *
  generalize bs.length = n at *
  generalize hrr : (if s9 = some [] ∧ ok = true then some L else none) = rr
  have HRR := Lib.hid hrr
  clear hrr
  have HZ := Lib.hid hz
  have hz0 := hz w
  have HVV := Lib.hid HV
  clear HV hz hr hc hA hR2
  go_enter Try.func8, Try.ntmps8
  go_wp2_with (with_reducible refine wpList_alloc_row rfl _ rfl z hz0 ?_)
  generalize (w.alloc (.cells z.toArray 36)).alloc (.cells #[.slice A n c, .bool false] 56) = w2 at *
  refine HVV.out.mono ?_
  rintro e w3 ⟨rfl, hR3, hK3⟩
  have hb3 := hb2.chg hK3 (fun e => by unfold Eqg at e; omega)
  have hk3 := hk2.trans hK3 (fun j hj => .inr (by unfold Eqg at hj; omega))
  have hw3 := hK3.size
  have hz3 := HZ.out w3
  obtain ⟨K4, hN4, hth4⟩ := storedU w3 36 z L (hzl.trans hLl.symm)
  have hb4 := hb3.chg K4 (fun f => f)
  have hk4 := hk3.trans K4 (fun _ f => f.elim)
  have hR4 := hR3.chg K4 (fun f => f) (fun _ _ f => f)
  have hne : w3.heap.size ≠ w.heap.size := by omega
  have hLs : L.toArray.size = 163 := by rw [List.size_toArray]; exact hLl
  have hLi : (Try.prog.info? 36).map (·.size) = some L.length := by rw [hLl]; exact hrow
  have hzs : z.toArray.size = 163 := by rw [List.size_toArray]; exact hzl
  rw [hLl] at hth4
  clear hb2 hk2 HVV hb3 hk3 hR3 hK3 K4 hz0
  generalize hw4 : (w3.alloc (.cells z.toArray 36)).setCells w3.heap.size 0 L = w4 at *
  have HW4 := Lib.hid hw4
  have r4 := hN4.range0
  clear hw4
  go_wp2_with (first | (with_reducible refine wpList_alloc_row rfl _ rfl z hz3 ?_) | (with_reducible refine wpList_store_mid rfl 36 _ _ rfl w3.heap.size 0 L.toArray rfl rfl (by rw [hLs]; exact hth4) (by rw [hLs, hrow]) (one_mem hLone) ?_; rw [List.toList_toArray, HW4.out]) | (with_reducible refine wpList_load_mid rfl 36 _ rfl w3.heap.size 0 rfl L _ r4 Try.underlying36 rfl hLi ?_))
  clear hz3 hth4 HW4 r4
  generalize w3.heap.size = tb at *
  refine (HX.out _).mono ?_
  rintro e w5 ⟨k5, v, rfl⟩
  have hb5 := hb4.chg k5 (fun f => f)
  have hN5 := hN4.chg k5 (fun f => f)
  have hk5 := hk4.trans k5 (fun _ f => f.elim)
  have hR5 := hR4.chg k5 (fun f => f) (fun _ _ f => f)
  clear hb4 hN4 hk4 hR4 k5 HX
  have HE := ends_any w5 _ _ s9 ok hR5
  have ht5 := hb5.there0
  rw [hzl] at ht5
  have r5 := hN5.range0
  clear hR5
  by_cases hok : s9 = some [] ∧ ok = true
  · rw [if_pos hok] at HE
    obtain rfl : rr = some L := HRR.out.symm.trans (if_pos hok)
    clear hok HRR
    have b9 := hb5.sets0 (L' := L) (hzl.trans hLl.symm)
    go_wp2_with fail
    refine HE.mono ?_
    rintro e w6 ⟨rfl, rfl⟩
    clear HE
    go_wp2_with (first | (with_reducible refine wpList_load_mid rfl 36 _ rfl tb 0 rfl L _ r5 Try.underlying36 rfl hLi ?_) | (with_reducible refine wpList_store_mid rfl 36 _ _ rfl w.heap.size 0 L.toArray rfl rfl (by rw [hLs]; exact ht5) (by rw [hLs, hrow]) (one_mem hLone) ?_))
    refine bodyPost_ret ((results_cell_tmp rfl _ _ _).trans ?_) rfl (R := Dec w z (some L)) (v := .tuple #[.agg L.toArray, .int .i64 0]) ?_
    · simp only [asAddr, Sem.run_pure, Result.andThen_ok]
      have hl := load_row b9 Try.underlying36 rfl hLi
      simp [hl]
    · exact ⟨hk5.trans (Chg.setCells (S := fun j => j = w.heap.size) rfl L _ 0 (Chg.refl _ _)) (fun j hj => .inr (by omega)), rfl⟩
  · rw [if_neg hok] at HE
    obtain rfl : rr = none := HRR.out.symm.trans (if_neg hok)
    clear hok HRR
    have b9 := hb5.sets0 (L' := z) rfl
    have hzi : (Try.prog.info? 36).map (·.size) = some z.length := by rw [hzl]; exact hrow
    go_wp2_with fail
    refine HE.mono ?_
    rintro e w6 ⟨rfl, rfl⟩
    clear HE
    go_wp2_with (first | (with_reducible refine wpList_build_zero rfl 36 rfl hzz ?_) | (with_reducible refine wpList_store_mid rfl 36 _ _ rfl w.heap.size 0 z.toArray rfl rfl (by rw [hzs]; exact ht5) (by rw [hzs, hrow]) (one_mem hzone) ?_))
    refine bodyPost_ret ((results_cell_tmp rfl _ _ _).trans ?_) rfl (R := Dec w z none) (v := .tuple #[.agg z.toArray, .int .i64 61]) ?_
    · simp only [asAddr, Sem.run_pure, Result.andThen_ok]
      have hl := load_row b9 Try.underlying36 rfl hzi
      simp [hl]
    · exact ⟨hk5.trans (Chg.setCells (S := fun j => j = w.heap.size) rfl z _ 0 (Chg.refl _ _)) (fun j hj => .inr (by omega)), rfl⟩
end Go.Proofs.Ytgonbmcfeehfaaa
