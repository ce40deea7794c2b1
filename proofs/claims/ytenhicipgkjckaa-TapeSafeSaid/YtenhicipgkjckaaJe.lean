/- The tape's calls that change it: Append, Sync, Trim. -/
import Derived.Shelf.Abstract
import Derived.Test.YtenhicipgkjckaaJd
namespace Go.Proofs.Ytenhicipgkjckaa
open Go.RowKit
set_option linter.unusedVariables false
set_option linter.unusedSimpArgs false
set_option maxRecDepth 20000

theorem step_call (w : World) {ops : Array Oper} {o : Oper} {a : Act} {K : Act → World → Prop} {Q : Exit → Act → World → Prop} {E : Prop} (hgd : o.guard = none) (f : FuncId) (xs : Array Operand) (ts : Array TypeId)
    (ho : o.op = .call { callee := .value (.func f), args := xs, argTypes := ts }) {vl : List Value} (hx : xs.toList.map a.eval = vl) (he : ∀ args w, (callFunc f args).run Try.prog w = .ok (.enter f args) w)
    {post : Ending → World → Prop} (H : Calls Try.prog f vl.toArray w post) (h : ∀ e w', post e w' → ∃ r, e = .returned r ∧ K (a.put o.dst r) w') :
    if Region.wanted o (yielded ops a.tmps) = true then Oper.wp Try.prog o a w K Q else E := by
  have hw : Region.wanted o (yielded ops a.tmps) = true := by simp [Region.wanted, hgd]
  rw [if_pos hw]
  have hx : xs.map a.eval = vl.toArray := Array.ext' (by rw [Array.toList_map]; exact hx)
  unfold Oper.wp execOp
  simp only [ho, resolve, invoke, Sem.run_bind, Sem.run_pure, Result.andThen_ok, hx]
  have hf : a.eval (Operand.func f) = .func (.func f) #[] #[] := rfl
  simp only [hf, Deferred.ofValue, Sem.run_pure, Result.andThen_ok, Array.append_empty, he]
  simp [Oper.upon, he]
  refine H.mono fun e w' hp => ?_
  obtain ⟨r, rfl, hk⟩ := h e w' hp
  exact hk
theorem ent_become (args : Array Value) (w : World) : (callFunc 19 args).run Try.prog w = .ok (.enter 19 args) w := enters_of Try.func19 (by kernel_rfl) rfl args w

/-- A call that may change a tape: its answer, and what the tape has then. -/
def DidT (w w' : World) (g : Nat) (F : Nat → Prop) (r : Int × List St) (e : Ending) : Prop :=
  e = .returned (.int .i64 r.1) ∧ Chg F w w' ∧ ∃ F', TP w' g F' r.2 ∧ ∀ j, F' j → F j ∨ w.heap.size ≤ j

/-- One more in a tape's past. -/
theorem did_push {w w1 wx : World} {g : Nat} {F : Nat → Prop} {vp vp' : Value} {h : List Ent} {x x' : Ent} {H : List St} (t : Tp 45 42 5 w g F vp h x) (hH : (h ++ [x]).map Ent.st = H)
    (k1 : Chg (vbl x.v) w w1) (nw : Nw 5 w1 x'.v x'.b) (keep : ∀ y ∈ h ++ [x], Sl w1 y.v y.b ∧ Bes x'.v x'.b.length y.v y.b.length) (blk : ∀ j, vbl x'.v j → (vbl x.v j ∨ w.heap.size ≤ j) ∧ j < w1.heap.size) (ok : x'.s ≤ x'.b.length ∧ x'.b.length ≤ 1048576)
    (B1 : Hb wx g 45 #[x'.v, .int .i64 (x'.s : Int), vp']) (B2 : OwnL 42 2 Ent.cells wx vp' (h ++ [x])) (B3 : Chg (fun j => j = g ∨ vbl vp j) w1 wx) (B4 : ∀ j, vbl vp' j → vbl vp j ∨ w1.heap.size ≤ j) :
    Chg F w wx ∧ ∃ F', TP wx g F' (H ++ [x'.st]) ∧ ∀ j, F' j → F j ∨ w.heap.size ≤ j := by
  have hp := t.push (by decide) k1 nw keep blk ok B1 B2 B3 B4
  refine ⟨(k1.mono (fun j hj => .inl (t.xv j hj).1)).trans B3 (fun j hj => .inl ?_), _, ⟨vp', h ++ [x], x', hp, by rw [List.map_append, hH]; rfl⟩, ?_⟩
  · rcases hj with rfl | hj
    · exact t.self
    · exact t.rowF j hj
  · rintro j (h1 | h1)
    · exact .inl h1
    · exact .inr h1.1
theorem did_append {w w1 wx : World} {g : Nat} {F : Nat → Prop} {vp vp' v1 : Value} {h : List Ent} {x : Ent} {H : List St} {b : List UInt8} (t : Tp 45 42 5 w g F vp h x) (hH : (h ++ [x]).map Ent.st = H)
    (ap : AppN 5 w.drew w1 x.v v1 x.b b) (hlen : x.b.length + b.length ≤ 1048576)
    (B1 : Hb wx g 45 #[v1, .int .i64 (x.s : Int), vp']) (B2 : OwnL 42 2 Ent.cells wx vp' (h ++ [x])) (B3 : Chg (fun j => j = g ∨ vbl vp j) w1 wx) (B4 : ∀ j, vbl vp' j → vbl vp j ∨ w1.heap.size ≤ j) :
    Chg F w wx ∧ ∃ F', TP wx g F' (H ++ [(x.b ++ b, x.s)]) ∧ ∀ j, F' j → F j ∨ w.heap.size ≤ j := by
  have td := t.chg ((Chg.refl Non w).drew) (fun _ _ f => f)
  refine did_push (x' := ⟨v1, x.b ++ b, x.s⟩) t hH ((Chg.refl (vbl x.v) w).drew.trans ap.chg (fun j hj => .inl hj)) ap.nw (fun y hy => ap.keep (td.all y hy).1 (td.all y hy).2) ?_ ⟨?_, ?_⟩ B1 B2 B3 B4
  · intro j hj
    refine ⟨?_, ?_⟩
    · rcases ap.blk j hj with h1 | h1
      · exact .inl h1
      · exact .inr (Nat.le_of_eq h1.symm)
    · have := ap.chg.size
      rcases ap with ⟨_, rfl, rfl, _⟩ | ⟨_, ho, _⟩ | ⟨_, ho, _⟩
      · exact td.lt j (td.xv j hj).1
      · exact own_lt ho j hj
      · exact own_lt ho j hj
  · show x.s ≤ (x.b ++ b).length
    rw [List.length_append]
    have := t.xok.1
    omega
  · show (x.b ++ b).length ≤ 1048576
    rw [List.length_append]
    exact hlen

theorem state_ne : (42 : TypeId) ≠ 45 := by decide

set_option maxHeartbeats 1600000 in
theorem Append_any (w : World) (g : Nat) (F : Nat → Prop) (H : List St) (t : TP w g F H) (A : Option Addr) (n c : Nat) (b : List UInt8) (hn : n = b.length) (hb : b.length ≤ maxLen) (hr : Rd w A b) (hH : H.length ≤ 1000) :
    Calls Try.prog 11 #[.pointer (some ⟨g, 0, none⟩), .slice A n c] w fun e w' => DidT w w' g F (mAppend H b) e := by
  subst hn
  obtain ⟨vp, h, ⟨xv, l, s⟩, t, hHx⟩ := t
  have hl1000 : h.length ≤ 1000 := by have := len_of hHx; omega
  unfold mAppend
  rw [last_of hHx]
  have hTP : TP w g F H := ⟨vp, h, _, t, hHx⟩
  obtain ⟨Ax, cx, hv, h1, h2, h3⟩ := t.nw.sl
  simp only at hv
  subst hv
  have c0 : w.cell? ⟨g, 0, none⟩ = some (.slice Ax l.length cx) := t.box.cell 0
  have c1 : w.cell? ⟨g, 1, none⟩ = some (.int .i64 (s : Int)) := t.box.cell 1
  have hxl : l.length ≤ 1048576 := t.xok.2.1
  have hxs : s ≤ l.length := t.xok.1
  have hb63 : b.length ≤ 9223372036854775807 := by unfold maxLen at hb; omega
  have HB := Lib.hid hb
  clear hb
  by_cases hfull : 1048576 < l.length + b.length
  · rw [if_pos hfull]
    have hgt : ((1048576 : Int) - (l.length : Int)) < (b.length : Int) := by omega
    have HTP := Lib.hid hTP
    clear hTP t hHx h3 hr
    go_enter Try.func11, Try.ntmps11
    go_wp2
    go_ret
    exact ⟨rfl, Chg.refl _ _, F, HTP.out, fun j hj => .inl hj⟩
  · rw [if_neg hfull]
    have hgt : ¬ ((1048576 : Int) - (l.length : Int)) < (b.length : Int) := by omega
    have kd := (Chg.refl (vbl (.slice Ax l.length cx)) w).drew
    have td := t.chg ((Chg.refl Non w).drew) (fun _ _ f => f)
    have NWD := Lib.hid td.nw
    have RDD := Lib.hid (hr.chg ((Chg.refl Non w).drew) (fun _ _ f => f))
    have HT := Lib.hid t
    have HHX := Lib.hid hHx
    have hap : ∀ v1 w1, AppN 5 w.drew w1 (.slice Ax l.length cx) v1 l b → ∃ A1 c1, v1 = .slice A1 (l.length + b.length) c1 ∧ Hb w1 g 45 #[.slice Ax l.length cx, .int .i64 (s : Int), vp] ∧ OwnL 42 2 Ent.cells w1 vp h := by
      intro v1 w1 ap
      obtain ⟨A1, c1, e1, _⟩ := ap.nw.sl
      rw [List.length_append] at e1
      exact ⟨A1, c1, e1, td.box.chg ap.chg (fun hj => (td.xv g hj).2.1 rfl), td.row.chg ap.chg (fun j hj hj2 => (td.xv j hj2).2.2 hj)⟩
    have HAP := Lib.hid hap
    have h11 : (Value.slice Ax l.length cx).oneCell' = true := rfl
    have HKD := Lib.hid kd
    clear hap t td hTP hHx h3 hr kd
    go_enter Try.func11, Try.ntmps11
    go_wp2_with fail
    go_region_law
      (first
        | (refine step_appN byt _ (by rfl) _ _ (by rfl) (v := .slice Ax l.length cx) (l := l) (l2 := b) (by rfl) NWD.out (A := A) (n := b.length) (c := c) (by rfl) rfl RDD.out (by omega) ?_; intro v1 w1 ap; obtain ⟨A1, q1, rfl, hb1, ho1⟩ := HAP.out _ _ ap; have d1 : w1.cell? ⟨g, 1, none⟩ = some (.int .i64 (s : Int)) := hb1.cell 1)
        | (refine step_call _ (by rfl) 19 _ _ (by rfl) (by rfl) ent_become (become_any _ g A1 (l.length + b.length) q1 (s : Int) vp h ⟨.slice Ax l.length cx, l, s⟩ hb1 ho1 h11 hl1000) ?_; rintro e wx ⟨rfl, vp', B1, B2, B3, B4⟩; refine ⟨_, rfl, ?_⟩)
        | fail)
    all_goals
      go_wp2
      go_ret
      exact ⟨rfl, did_append HT.out HHX.out ap (show l.length + b.length ≤ 1048576 by omega) B1 B2 B3 B4⟩

set_option maxHeartbeats 1600000 in
theorem Sync_any (w : World) (g : Nat) (F : Nat → Prop) (H : List St) (t : TP w g F H) (hH : H.length ≤ 1000) :
    Calls Try.prog 8 #[.pointer (some ⟨g, 0, none⟩)] w fun e w' => DidT w w' g F (mSync H) e := by
  obtain ⟨vp, h, ⟨xv, l, s⟩, t, hHx⟩ := t
  have hl1000 : h.length ≤ 1000 := by have := len_of hHx; omega
  unfold mSync
  rw [last_of hHx]
  obtain ⟨Ax, cx, hv, h1, h2, h3⟩ := t.nw.sl
  simp only at hv
  subst hv
  have c0 : w.cell? ⟨g, 0, none⟩ = some (.slice Ax l.length cx) := t.box.cell 0
  have hxl : l.length ≤ 1048576 := t.xok.2.1
  have td := t.chg ((Chg.refl Non w).drew) (fun _ _ f => f)
  have HT := Lib.hid t
  have HHX := Lib.hid hHx
  have hb1 := td.box
  have ho1 := td.row
  have h11 : (Value.slice Ax l.length cx).oneCell' = true := rfl
  have HB1 := Lib.hid hb1
  have HO1 := Lib.hid ho1
  clear t hHx h3 td hb1 ho1
  go_enter Try.func8, Try.ntmps8
  go_wp2_with fail
  go_region_law
    (first
      | (refine step_call _ (by rfl) 19 _ _ (by rfl) (by rfl) ent_become (become_any _ g Ax l.length cx (l.length : Int) vp h ⟨.slice Ax l.length cx, l, s⟩ HB1.out HO1.out h11 hl1000) ?_; rintro e wx ⟨rfl, vp', B1, B2, B3, B4⟩; refine ⟨_, rfl, ?_⟩)
      | fail)
  all_goals
    go_wp2
    go_ret
    exact ⟨rfl, did_push (x' := ⟨.slice Ax l.length cx, l, l.length⟩) HT.out HHX.out ((Chg.refl _ w).drew) ((HT.out.chg ((Chg.refl Non w).drew) (fun _ _ f => f)).nw) (HT.out.chg ((Chg.refl Non w).drew) (fun _ _ f => f)).all (fun j hj => ⟨.inl hj, HT.out.lt j (HT.out.xv j hj).1⟩) ⟨Nat.le_refl _, hxl⟩ B1 B2 B3 B4⟩


theorem vbl_to {A : Option Addr} {n c n' c' j : Nat} (h : vbl (.slice A n c) j) : vbl (.slice A n' c') j := by cases A <;> exact h
theorem mTrim_no {H : List St} {n : Int} (h : n < 0 ∨ ((lastS H).1.length : Int) < n) : mTrim H n = (1, H) := by unfold mTrim; rw [if_pos h]
theorem mTrim_yes {H : List St} {n : Nat} (h : n ≤ (lastS H).1.length) : mTrim H n = (0, H ++ [((lastS H).1.take n, n)]) := by unfold mTrim; rw [if_neg (by omega)]; simp

set_option maxHeartbeats 1600000 in
theorem Trim_any (w : World) (g : Nat) (F : Nat → Prop) (H : List St) (t : TP w g F H) (n : Int) (hn1 : -9223372036854775808 ≤ n) (hn2 : n ≤ 9223372036854775807) (hH : H.length ≤ 1000) :
    Calls Try.prog 17 #[.pointer (some ⟨g, 0, none⟩), .int .i64 n] w fun e w' => DidT w w' g F (mTrim H n) e := by
  have hTP := t
  obtain ⟨vp, h, ⟨xv, l, s⟩, t, hHx⟩ := t
  have hl1000 : h.length ≤ 1000 := by have := len_of hHx; omega
  have hla : (lastS H).1 = l := by rw [last_of hHx]
  obtain ⟨Ax, cx, hv, h1, h2, h3⟩ := t.nw.sl
  simp only at hv
  subst hv
  have c0 : w.cell? ⟨g, 0, none⟩ = some (.slice Ax l.length cx) := t.box.cell 0
  have hxl : l.length ≤ 1048576 := t.xok.2.1
  have HT := Lib.hid t
  have HHX := Lib.hid hHx
  have HTP := Lib.hid hTP
  by_cases hneg : n < 0
  · rw [mTrim_no (.inl hneg)]
    clear t hHx h3 hTP
    go_enter Try.func17, Try.ntmps17
    go_wp2
    go_ret
    exact ⟨rfl, Chg.refl _ _, F, HTP.out, fun j hj => .inl hj⟩
  by_cases hbig : (l.length : Int) < n
  · rw [mTrim_no (.inr (by rw [hla]; exact hbig))]
    clear t hHx h3 hTP
    go_enter Try.func17, Try.ntmps17
    go_wp2
    go_ret
    exact ⟨rfl, Chg.refl _ _, F, HTP.out, fun j hj => .inl hj⟩
  obtain ⟨k, rfl⟩ := Int.eq_ofNat_of_zero_le (by omega : 0 ≤ n)
  have hkl : k ≤ l.length := by omega
  rw [mTrim_yes (by rw [hla]; exact hkl), hla]
  have hb1 := t.box
  have ho1 := t.row
  have h11 : (Value.slice Ax l.length cx).oneCell' = true := rfl
  have h1 : l.length ≤ cx := h1
  have hkc : (k : Int) ≤ (cx : Int) := by omega
  have hR : Rd w Ax (l.take k) := h3.take k
  have hkk : (l.take k).length = k := by rw [List.length_take]; omega
  have HR := Lib.hid hR
  have HKK := Lib.hid hkk
  have HKL := Lib.hid hkl
  clear t hHx h3 hTP hR hkk
  go_enter Try.func17, Try.ntmps17
  go_wp2_with fail
  refine (become_any _ g Ax k k (k : Int) vp h ⟨.slice Ax l.length cx, l, s⟩ hb1 ho1 h11 hl1000).mono ?_
  rintro e wx ⟨rfl, vp', B1, B2, B3, B4⟩
  go_wp2
  go_ret
  have T := HT.out
  have hk1000 : k ≤ maxLen := by have := HKL.out; unfold maxLen; omega
  refine ⟨rfl, did_push (x' := ⟨.slice Ax k k, l.take k, k⟩) T HHX.out (Chg.refl _ w) (.inr ⟨Ax, by show Value.slice Ax k k = _; rw [HKK.out], by show (l.take k).length ≤ maxLen; rw [HKK.out]; exact hk1000, HR.out⟩) (fun y hy => ⟨(T.all y hy).1, .inr fun g' _ _ => .inl ⟨Ax, by show Value.slice Ax k k = .slice Ax (l.take k).length (l.take k).length; rw [HKK.out]⟩⟩) (fun j hj => ⟨.inl (vbl_to hj), T.lt j (T.xv j (vbl_to hj)).1⟩) ⟨by show k ≤ (l.take k).length; rw [HKK.out]; exact Nat.le_refl _, by show (l.take k).length ≤ _; rw [HKK.out]; have := HKL.out; omega⟩ B1 B2 B3 B4⟩
end Go.Proofs.Ytenhicipgkjckaa
