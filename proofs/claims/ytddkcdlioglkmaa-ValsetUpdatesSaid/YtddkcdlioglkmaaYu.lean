/- The document's answer on sets: Update; and that two such answers are the same. -/
import Derived.Test.YtddkcdlioglkmaaChecked
import Derived.WalkKit
import Derived.WalkLawsBesides
import Derived.Lib.Hide
import Derived.Test.YtddkcdlioglkmaaYs
import Derived.Test.YtddkcdlioglkmaaYw
import Derived.Test.YtddkcdlioglkmaaAv
namespace Go.Proofs.Ytddkcdlioglkmaa
open Go.RowKit
set_option linter.unusedVariables false
set_option linter.unusedSimpArgs false
set_option maxRecDepth 20000

theorem lone_mem {l : List Va} {k : Nat} {x : Va} : x ∈ lone l k ↔ x ∈ l ∧ x.key ≠ k := by
  unfold lone
  rw [List.mem_filter]
  simp
theorem lone_nf {l : List Va} {f : Nat → Int} (h : Nf l f) (k : Nat) : Nf (lone l k) (upd f k 0) := by
  have hr : Rises (lone l k) := List.Pairwise.filter _ h.rises
  refine ⟨hr, fun x hx => h.pos x (lone_mem.1 hx).1, fun j => ?_⟩
  unfold upd
  by_cases e : j = k
  · rw [if_pos e]
    exact pw_not fun x hx he => (lone_mem.1 hx).2 (he.trans e)
  · rw [if_neg e, ← h.pw]
    by_cases hz : pw l j = 0
    · rw [hz]
      refine pw_not fun x hx he => ?_
      have h1 := pw_mem h.rises (lone_mem.1 hx).1
      have h2 := h.pos x (lone_mem.1 hx).1
      rw [he, hz] at h1
      omega
    · obtain ⟨x, hx, rfl⟩ := pw_pos hz
      rw [pw_mem h.rises hx]
      exact pw_mem hr (lone_mem.2 ⟨hx, e⟩)
theorem ind_nf {l r : List Va} {f : Nat → Int} {x : Va} (h : Nf l (upd f x.key 0)) (hx : 0 < x.power) (hi : Ind l x r) : Nf r (upd f x.key x.power) := by
  have hm : ∀ y, y ∈ r ↔ y = x ∨ y ∈ l := fun y => by rw [hi.perm.mem_iff, List.mem_cons]
  refine ⟨hi.rises, fun y hy => ?_, fun j => ?_⟩
  · rcases (hm y).1 hy with rfl | hy
    · omega
    · exact h.pos y hy
  · by_cases e : j = x.key
    · subst e
      rw [upd_same]
      exact pw_mem hi.rises ((hm x).2 (.inl rfl))
    · rw [upd_other _ _ e]
      have hj := h.pw j
      rw [upd_other _ _ e] at hj
      rw [← hj]
      by_cases hz : pw l j = 0
      · rw [hz]
        refine pw_not fun y hy he => ?_
        rcases (hm y).1 hy with rfl | hy
        · exact e he.symm
        · have h1 := pw_mem h.rises hy
          have h2 := h.pos y hy
          rw [he, hz] at h1
          omega
      · obtain ⟨y, hy, rfl⟩ := pw_pos hz
        rw [pw_mem h.rises hy]
        exact pw_mem hi.rises ((hm y).2 (.inr hy))
theorem ind_len {l r : List Va} {x : Va} (h : Ind l x r) : r.length = l.length + 1 := by rw [h.perm.length_eq]; rfl
theorem lone_len (l : List Va) (k : Nat) : (lone l k).length ≤ l.length := List.length_filter_le _ _

theorem nn {a b c : World} (h : Chg Non a b) (k : Chg Non b c) : Chg Non a c := h.trans k (fun _ h => (h : False).elim)

/-- Where the document's Update is: behind k changes the list r lies from A on. -/
structure Wy (w : World) (l ch : List Va) (k : Nat) (A : Option Addr) (r : List Va) (f : Nat → Int) : Prop where
  lst : LstM w A r Va.cells 2
  ok : ∀ x ∈ r, x.Ok
  len : r.length ≤ l.length + k
  run : runC (pw l) (ch.take k) = .ok f
  nf : Nf r f

set_option maxHeartbeats 16000000 in
theorem rUpdate_any (w : World) (A B : Option Addr) (c d : Nat) (l ch : List Va) (hl : l.length ≤ 100) (hch : ch.length ≤ 100) (ol : ∀ x ∈ l, x.Ok) (och : ∀ x ∈ ch, x.Ok) (M : LstM w A l Va.cells 2) (N : LstM w B ch Va.cells 2) :
    Calls Try.prog 7 #[.slice A l.length c, .slice B ch.length d] w (Upd w l ch) := by
  have HM := Lib.hid M
  have HN := Lib.hid N
  have OL := Lib.hid ol
  have OC := Lib.hid och
  have HRt := Lib.hid (rRight_any w A c l (by unfold maxLen; omega) ol M)
  clear M N ol och
  generalize hn1 : l.length = n1 at *
  generalize hn2 : ch.length = n2 at *
  have E1 := Lib.hid hn1
  have E2 := Lib.hid hn2
  clear hn1 hn2
  go_enter Try.func7, Try.ntmps7
  go_wp2_with fail
  refine HRt.out.mono ?_
  rintro e w1 ⟨k1, bb, rfl, hb⟩
  have HB := Lib.hid hb
  clear hb
  cases bb
  · go_wp2_with fail
    go_ret2
    exact ⟨k1, .inl ⟨fun h => by simpa using HB.out.2 h, rfl⟩⟩
  have HRl : Hid (Rt l) := Lib.hid (HB.out.1 rfl)
  clear HB HRt
  go_wp2_with fail
  go_loopw [7, 8, 9] (fun o i _ wr => ∃ (k : Nat) (A' : Option Addr) (c' : Nat) (r : List Va) (f : Nat → Int), k ≤ n2 ∧ i = .int .i64 (k : Int) ∧ o = .slice A' r.length c' ∧ Hid (Wy wr l ch k A' r f) ∧ Chg Non w wr) (fun _ i _ _ => n2 - (intOf i).toNat)
  case atStart => exact ⟨0, A, c, l, pw l, by omega, rfl, by rw [E1.out], Lib.hid ⟨HM.out.chg k1, OL.out, by omega, by simp [runC], HRl.out.nf⟩, k1⟩
  case round =>
    obtain ⟨k, A', c', r, f, hk, rfl, rfl, hI, hC⟩ := hrel
    by_cases hlt : k < n2
    · have hki : (k : Int) < (n2 : Int) := by omega
      obtain ⟨x, hx⟩ : ∃ x, ch[k]? = some x := ⟨_, List.getElem?_eq_getElem (by rw [E2.out]; exact hlt)⟩
      obtain ⟨a, ao, rfl, _, r1⟩ := (HN.out.chg hC) _ _ hx
      obtain ⟨p0, p1⟩ := rangeAt_cons r1
      obtain ⟨p1, _⟩ := rangeAt_cons p1
      have HX := Lib.hid hx
      have hrl : r.length ≤ 200 := by have := hI.out.len; have := E1.out; omega
      have k4 : Chg Non wr (wr.alloc (.cells #[.int .u64 (x.key : Int), .int .i64 x.power] 26)) := (Chg.refl _ _).alloc _
      have b4 := Hb.new wr 26 #[.int .u64 (x.key : Int), .int .i64 x.power]
      have HK4 := Lib.hid (hC.trans k4 (fun _ h => (h : False).elim))
      have HB4 := Lib.hid b4
      have OX := Lib.hid (OC.out x (List.mem_of_getElem? hx))
      have HPw : Hid (∀ w', Chg Non wr w' → Calls Try.prog 17 #[.slice A' r.length c', .int .u64 (x.key : Int)] w' (Zero w' (.int .i64 (pw r x.key)))) := Lib.hid fun w' kk => rPower_any w' A' c' x.key r (by unfold maxLen; omega) (hI.out.lst.chg kk)
      have HWo : Hid (∀ w', Chg Non wr w' → _) := Lib.hid fun w' kk => without_any w' A' c' x.key r (by omega) (hI.out.lst.chg kk)
      have HPF : Hid (pw r x.key = f x.key) := Lib.hid (hI.out.nf.pw _)
      clear hx r1 hk k4 b4
      generalize hrn : r.length = rn at *
      have ER := Lib.hid hrn
      clear hrn
      by_cases h1 : x.power < 0
      · have HE : Hid (runC (pw l) ch = .error 72) := Lib.hid (runC_err hI.out.run HX.out (by unfold stepC; rw [if_pos (.inl h1)]; rfl))
        go_wp2_with fail
        go_ret2
        exact ⟨HK4.out, .inr (.inl ⟨HRl.out, 72, HE.out, .inl rfl, rfl⟩)⟩
      by_cases h2 : 1125899906842624 < x.power
      · have HE : Hid (runC (pw l) ch = .error 72) := Lib.hid (runC_err hI.out.run HX.out (by unfold stepC; rw [if_pos (.inr (by unfold top; exact h2))]; rfl))
        go_wp2_with fail
        go_ret2
        exact ⟨HK4.out, .inr (.inl ⟨HRl.out, 72, HE.out, .inl rfl, rfl⟩)⟩
      have h12 : Hid (¬ (x.power < 0 ∨ top < x.power)) := Lib.hid (by unfold top; omega)
      by_cases h3 : x.power = 0
      · rw [h3] at HK4 HB4 p1
        by_cases h4 : pw r x.key = 0
        · have HE : Hid (runC (pw l) ch = .error 73) := Lib.hid (runC_err hI.out.run HX.out (by unfold stepC; rw [if_neg h12.out, if_pos ⟨h3, by rw [← HPF.out]; exact h4⟩]; rfl))
          have HPw0 : Hid (∀ w', Chg Non wr w' → Calls Try.prog 17 #[.slice A' rn c', .int .u64 (x.key : Int)] w' (Zero w' (.int .i64 0))) := by rw [h4] at HPw; exact HPw
          clear h4 HPw HPF h3 h1 h2 h12
          go_wp2_with fail
          refine (HPw0.out _ ((Chg.refl _ _).alloc _)).mono ?_
          rintro e w5 ⟨rfl, k5⟩
          go_wp2_with fail
          go_ret2
          exact ⟨HK4.out.trans k5 (fun _ h => (h : False).elim), .inr (.inl ⟨HRl.out, 73, HE.out, .inr rfl, rfl⟩)⟩
        · have HE : Hid (runC (pw l) (ch.take (k + 1)) = .ok (upd f x.key 0)) := Lib.hid (by
            refine (runC_next hI.out.run HX.out (h := upd f x.key x.power) (by unfold stepC; rw [if_neg h12.out, if_neg (fun h => h4 (by rw [HPF.out]; exact h.2))])).trans ?_
            rw [h3])
          generalize hpr : pw r x.key = pr at *
          clear HPF hpr h3 h1 h2 h12
          go_wp2_with fail
          refine (HPw.out _ ((Chg.refl _ _).alloc _)).mono ?_
          rintro e w5 ⟨rfl, k5⟩
          have k45 : Chg Non wr w5 := nn ((Chg.refl Non wr).alloc _) k5
          have B5 := HB4.out.chg k5 (fun h => (h : False))
          have c0 := B5.cell 0
          have c1 := B5.cell 1
          simp only [List.getElem?_toArray] at c0 c1
          go_wp2_with fail
          refine (HWo.out _ k45).mono ?_
          rintro e w6 ⟨k6, v, rfl, ov, hv⟩
          have B6 := B5.chg k6 (fun h => (h : False))
          have d0 := B6.cell 0
          have d1 := B6.cell 1
          simp only [List.getElem?_toArray] at d0 d1
          obtain ⟨A2, c2, rfl, _, _, M2⟩ := ov.slice
          have HW2 : Hid (Wy w6 l ch (k + 1) A2 (lone r x.key) (upd f x.key 0)) := Lib.hid ⟨M2, fun y hy => hI.out.ok y (lone_mem.1 hy).1, by have := lone_len r x.key; have := hI.out.len; have := ER.out; omega, HE.out, lone_nf hI.out.nf x.key⟩
          clear ov hv M2 c0 c1 B5 B6
          go_wp2_with fail
          go_roundw
          case rel => exact ⟨k + 1, A2, c2, lone r x.key, upd f x.key 0, by omega, by go_num, rfl, HW2, nn HK4.out (nn k5 k6)⟩
          case measure => simp [intOf]; omega
      · have HE : Hid (runC (pw l) (ch.take (k + 1)) = .ok (upd f x.key x.power)) := Lib.hid (runC_next hI.out.run HX.out (by unfold stepC; rw [if_neg h12.out, if_neg (fun h => h3 h.1)]))
        have hp : 0 < x.power := by omega
        clear HPw HPF
        go_wp2_with fail
        refine (HWo.out _ ((Chg.refl _ _).alloc _)).mono ?_
        rintro e w6 ⟨k6, v, rfl, ov, hv⟩
        have B6 := HB4.out.chg k6 (fun h => (h : False))
        have d0 := B6.cell 0
        have d1 := B6.cell 1
        simp only [List.getElem?_toArray] at d0 d1
        obtain ⟨A2, c2, rfl, _, _, M2⟩ := ov.slice
        have HNf := Lib.hid (lone_nf hI.out.nf x.key)
        have HWi := Lib.hid (with_any w6 A2 c2 (lone r x.key) x (by have := lone_len r x.key; have := ER.out; omega) M2 HNf.out.rises (fun y hy => (lone_mem.1 hy).2))
        have hll : Hid ((lone r x.key).length ≤ rn) := Lib.hid (by have := lone_len r x.key; have := ER.out; omega)
        generalize hln : (lone r x.key).length = ln at *
        have EL := Lib.hid hln
        clear ov hv M2 hln B6
        go_wp2_with fail
        refine HWi.out.mono ?_
        rintro e w7 ⟨k7, A3, c3, r', rfl, M3, hin⟩
        have HW3 : Hid (Wy w7 l ch (k + 1) A3 r' (upd f x.key x.power)) := Lib.hid ⟨M3, fun y hy => by
          rw [hin.perm.mem_iff, List.mem_cons] at hy
          rcases hy with rfl | hy
          · exact OX.out
          · exact hI.out.ok y (lone_mem.1 hy).1, by have := ind_len hin; have := hll.out; have := EL.out; have := hI.out.len; have := ER.out; omega, HE.out, ind_nf HNf.out hp hin⟩
        clear M3 hin
        go_wp2_with fail
        go_roundw
        case rel => exact ⟨k + 1, A3, c3, r', upd f x.key x.power, by omega, by go_num, rfl, HW3, nn HK4.out (nn k6 k7)⟩
        case measure => simp [intOf]; omega
    · obtain rfl : k = n2 := by omega
      have el : ch.take k = ch := List.take_of_length_le (by rw [E2.out]; exact Nat.le_refl _)
      have hrl : r.length ≤ 200 := by have := hI.out.len; have := E1.out; omega
      have hf := hI.out.run
      rw [el] at hf
      have HF := Lib.hid hf
      have HNF := Lib.hid hI.out.nf
      have HLO := Lib.hid hI.out.ok
      have HL := Lib.hid hI.out.lst
      have HSm := Lib.hid (rSum_any wr A' c' r (by unfold maxLen; omega) hI.out.ok hI.out.lst)
      have HRr : Hid (∀ w', Chg Non wr w' → Calls Try.prog 16 #[.slice A' r.length c'] w' (Yes w' (Rt r))) := Lib.hid fun w' kk => rRight_any w' A' c' r (by unfold maxLen; omega) hI.out.ok (hI.out.lst.chg kk)
      clear el hf hI
      generalize hrn : r.length = rn at *
      have ER := Lib.hid hrn
      clear hrn
      go_wp2_with fail
      refine HSm.out.mono ?_
      rintro e w5 ⟨k5, s, rfl, hs⟩
      have hC5 := hC.trans k5 (fun _ h => (h : False).elim)
      by_cases hs0 : s < 0
      · have HFi : Hid (¬ Fits r) := Lib.hid (by
          rcases hs.out with ⟨h, rfl⟩ | ⟨h, _⟩
          · have := sumP_nonneg h.1; omega
          · exact h)
        clear hs
        go_wp2_with fail
        go_ret2
        exact ⟨hC5, .inr (.inr ⟨HRl.out, f, r, HF.out, HNF.out, HLO.out, .inl ⟨HFi.out, rfl⟩⟩)⟩
      · have HFi : Hid (Fits r) := Lib.hid (by
          rcases hs.out with ⟨h, _⟩ | ⟨_, rfl⟩
          · exact h
          · omega)
        clear hs
        go_wp2_with fail
        refine (HRr.out _ k5).mono ?_
        rintro e w6 ⟨k6, b, rfl, hb⟩
        have HB := Lib.hid hb
        have hC6 := hC5.trans k6 (fun _ h => (h : False).elim)
        clear hb
        cases b
        · go_wp2_with fail
          go_ret2
          exact ⟨hC6, .inr (.inr ⟨HRl.out, f, r, HF.out, HNF.out, HLO.out, .inr (.inl ⟨HFi.out, fun h => by simpa using HB.out.2 h, rfl⟩)⟩)⟩
        · go_wp2_with fail
          go_ret2
          exact ⟨hC6, .inr (.inr ⟨HRl.out, f, r, HF.out, HNF.out, HLO.out, .inr (.inr ⟨HB.out.1 (by simp), A', c', by rw [ER.out]; rfl, (HL.out.chg k5).chg k6⟩)⟩)⟩
end Go.Proofs.Ytddkcdlioglkmaa
