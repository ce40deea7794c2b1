/- Package valset: Update, walked. -/
import Derived.Test.YtddkcdlioglkmaaChecked
import Derived.WalkKit
import Derived.WalkLawsBesides
import Derived.Lib.Hide
import Derived.Deep.RegionHeld3
import Derived.Test.YtddkcdlioglkmaaUd
namespace Go.Proofs.Ytddkcdlioglkmaa
open Go.RowKit
set_option linter.unusedVariables false
set_option linter.unusedSimpArgs false
set_option maxRecDepth 20000

theorem powers_any (w : World) (A : Option Addr) (n c : Nat) : Calls Try.prog 13 #[.slice A n c] w fun e w' => e = .returned (.func (.func 30) #[] #[.pointer (some ⟨w.heap.size, 0, none⟩)]) ∧ w' = w.alloc (.cells #[.slice A n c] 22) := by
  go_enter Try.func13, Try.ntmps13
  go_wp2_with fail
  go_ret
  exact ⟨rfl, rfl⟩

theorem change2_any (w : World) (g o : Nat) (v p : Int) (hc : w.cell? ⟨g, o, none⟩ = some (.int .i64 v)) (hf : w.frozen? ⟨g, o, none⟩ = false) :
    Calls Try.prog 14 #[.pointer (some ⟨g, o, none⟩), .int .i64 p] w fun e w' => ∃ code : Int, e = .returned (.int .i64 code) ∧
      Hid (((p < 0 ∨ top < p) ∧ code = 72 ∧ w' = w) ∨ (¬ (p < 0 ∨ top < p) ∧ p = 0 ∧ v = 0 ∧ code = 73 ∧ w' = w) ∨ (¬ (p < 0 ∨ top < p) ∧ ¬ (p = 0 ∧ v = 0) ∧ code = 0 ∧ w' = w.setCell ⟨g, o, none⟩ (.int .i64 p))) := by
  refine (change_any w g o v p hc hf).mono ?_
  rintro e w' (⟨a, rfl, b⟩ | ⟨a, b, c, rfl, d⟩ | ⟨a, b, rfl, d⟩)
  · exact ⟨_, rfl, Lib.hid (.inl ⟨a, rfl, b⟩)⟩
  · exact ⟨_, rfl, Lib.hid (.inr (.inl ⟨a, b, c, rfl, d⟩))⟩
  · exact ⟨_, rfl, Lib.hid (.inr (.inr ⟨a, b, rfl, d⟩))⟩

/-- The table at work: the row g holds the powers f of the keys rs, the block b the slice. -/
structure Wk (w : World) (b g cap : Nat) (rs : List Nat) (f : Nat → Int) : Prop where
  box : w.cell? ⟨b, 0, none⟩ = some (.slice (some ⟨g, 0, none⟩) rs.length cap)
  row : RowV w g (tab rs f)
theorem Wk.tab {w : World} {b g cap : Nat} {rs : List Nat} {f : Nat → Int} (h : Wk w b g cap rs f) : Tab w b g cap rs := ⟨h.box, fun i x hx => (h.row.cells (tab_get hx)).1.1⟩
theorem Wk.chg {w w' : World} {b g cap : Nat} {rs : List Nat} {f : Nat → Int} (h : Wk w b g cap rs f) (k : Chg Non w w') : Wk w' b g cap rs f := ⟨k.cell h.box (fun f => f), h.row.chg k (fun f => f)⟩
theorem Wk.set {w : World} {b g cap : Nat} {rs : List Nat} {f : Nat → Int} (h : Wk w b g cap rs f) (hne : b ≠ g) (hr : rs.Pairwise (· < ·)) {j k : Nat} (hj : rs[j]? = some k) (p : Int) : Wk (w.setCell ⟨g, j * 2 + 1, none⟩ (.int .i64 p)) b g cap rs (upd f k p) := by
  refine ⟨?_, ?_⟩
  · rw [World.cell?_setCell_other w _ _ _ (fun e => hne (congrArg Addr.block e).symm)]
    exact h.box
  · rw [← tab_set hr hj]
    exact h.row.setP (tab_get hj) p

theorem runC_next {f g h : Nat → Int} {l : List Va} {k : Nat} {x : Va} (hr : runC f (l.take k) = .ok g) (hx : l[k]? = some x) (hs : stepC g x = .ok h) : runC f (l.take (k + 1)) = .ok h := by
  rw [take_next hx, runC_app, hr]
  show runC g [x] = _
  rw [runC_one]
  exact hs
theorem runC_err {f g : Nat → Int} {l : List Va} {k : Nat} {x : Va} {er : Int} (hr : runC f (l.take k) = .ok g) (hx : l[k]? = some x) (hs : stepC g x = .error er) : runC f l = .error er := by
  have e : l = l.take (k + 1) ++ l.drop (k + 1) := (List.take_append_drop _ _).symm
  rw [e, runC_app, take_next hx, runC_app, hr]
  simp only [runC_one, hs]

set_option maxHeartbeats 16000000 in
theorem Update_any (w : World) (A B : Option Addr) (c d : Nat) (l ch : List Va) (hl : l.length ≤ 100) (hch : ch.length ≤ 100) (ol : ∀ x ∈ l, x.Ok) (och : ∀ x ∈ ch, x.Ok) (M : LstM w A l Va.cells 2) (N : LstM w B ch Va.cells 2) :
    Calls Try.prog 6 #[.slice A l.length c, .slice B ch.length d] w (Upd w l ch) := by
  have HM := Lib.hid M
  have HN := Lib.hid N
  have OL := Lib.hid ol
  have OC := Lib.hid och
  have HRt := Lib.hid (Right_any w A c l (by unfold maxLen; omega) ol M)
  have HEv : Hid (∀ w', Chg Non w w' → 0 < l.length → _) := Lib.hid fun w' k h0 => everyone_any w' A B c d l ch h0 hl hch (M.chg k) (N.chg k)
  clear M N ol och
  generalize hn1 : l.length = n1 at *
  generalize hn2 : ch.length = n2 at *
  have E1 := Lib.hid hn1
  have E2 := Lib.hid hn2
  clear hn1 hn2
  go_enter Try.func6, Try.ntmps6
  go_wp2_with fail
  refine HRt.out.mono ?_
  rintro e w1 ⟨k1, bb, rfl, hb⟩
  have HB := Lib.hid hb
  clear hb
  cases bb
  · go_wp2_with fail
    go_ret2
    exact ⟨k1, .inl ⟨fun h => by simpa using HB.out.2 h, rfl⟩⟩
  have HRl : Hid (Rt l) := Lib.hid (HB.out.1 rfl)
  clear HB HRt
  have hp1 : 0 < n1 := by have := HRl.out.1; have := E1.out; omega
  go_wp2_with fail
  refine (HEv.out w1 k1 hp1).mono ?_
  rintro e w2 ⟨k2, g, cap, rs, rfl, hev⟩
  have kw2 := k1.trans k2 (fun _ f => f.elim)
  have HV := Lib.hid hev
  clear hev HEv
  generalize hnr : rs.length = nr at *
  have ER := Lib.hid hnr
  clear hnr
  go_wp2_with fail
  refine (powers_any w2 _ _ _).mono ?_
  rintro e w3 ⟨rfl, hw3⟩
  have b0 : Hb w3 w2.heap.size 22 #[.slice (some ⟨g, 0, none⟩) nr cap] := by rw [hw3]; exact Hb.new w2 _ _
  have k3 : Chg Non w2 w3 := by rw [hw3]; exact (Chg.refl _ _).alloc _
  have hgw : w.heap.size ≤ g := Nat.le_trans k1.size HV.out.old
  have hgb : g < w2.heap.size := HV.out.lt
  have hg3 : g < w3.heap.size := Nat.lt_of_lt_of_le hgb k3.size
  have W0 : Hid (Wk w3 w2.heap.size g cap rs fun _ => 0) := Lib.hid ⟨by rw [ER.out]; exact b0.cell 0, by rw [← tab_zero]; exact HV.out.row.chg k3 (fun f => f)⟩
  have kw3 := kw2.trans k3 (fun _ f => f.elim)
  have HRS := Lib.hid HV.out.rises
  have HMEM := Lib.hid HV.out.mem
  have hnr : nr ≤ 200 := by have := HV.out.len; have := ER.out; omega
  have hbg : w2.heap.size ≠ g := by omega
  clear hw3 b0 k3 HV k1 k2 kw2 hgb
  generalize w2.heap.size = b at *
  have HIX : Hid (∀ x ∈ l ++ ch, ∃ j, rs[j]? = some x.key) := Lib.hid fun x hx => List.mem_iff_getElem?.1 ((HMEM.out x.key).2 (List.mem_map.2 ⟨x, hx, rfl⟩))
  have HPL : Hid (∀ (w' : World) (f : Nat → Int) (j k : Nat), Wk w' b g cap rs f → rs[j]? = some k → Calls Try.prog 30 #[.int .u64 (k : Int), .pointer (some ⟨b, 0, none⟩)] w' (Zero w' (.pointer (some ⟨g, j * 2 + 1, none⟩)))) :=
    Lib.hid fun w' f j k W hj => place_any w' b g cap k j rs W.tab (by rw [ER.out]; omega) HRS.out hj
  go_wp2_with fail
  go_loopw [9, 23] (fun _ i wr => ∃ k : Nat, k ≤ n1 ∧ i = .int .i64 (k : Int) ∧ Hid (Wk wr b g cap rs (pw (l.take k))) ∧ Chg (fun j => j = g) w3 wr) (fun _ i _ => n1 - (intOf i).toNat)
  case atStart => exact ⟨0, by omega, rfl, Lib.hid (by simpa [pw] using W0.out), Chg.refl _ _⟩
  case round =>
    obtain ⟨k, hk, rfl, hI, hC⟩ := hrel
    have kw : Hid (Chg Non w wr) := Lib.hid (kw3.trans hC (fun j h => .inr (by subst h; exact hgw)))
    by_cases hlt : k < n1
    · have hki : (k : Int) < (n1 : Int) := by omega
      have hkl : k < l.length := by rw [E1.out]; exact hlt
      obtain ⟨x, hx⟩ : ∃ x, l[k]? = some x := ⟨_, List.getElem?_eq_getElem hkl⟩
      obtain ⟨a, ao, rfl, _, r1⟩ := (HM.out.chg kw.out) _ _ hx
      obtain ⟨p0, p1⟩ := rangeAt_cons r1
      obtain ⟨p1, _⟩ := rangeAt_cons p1
      obtain ⟨j, hj⟩ := HIX.out x (List.mem_append_left _ (List.mem_of_getElem? hx))
      have HX := Lib.hid hx
      have HJ := Lib.hid hj
      have k4 : Chg Non wr (wr.alloc (.cells #[.int .u64 (x.key : Int), .int .i64 x.power] 26)) := (Chg.refl _ _).alloc _
      have b4 := Hb.new wr 26 #[.int .u64 (x.key : Int), .int .i64 x.power]
      have W4 := Lib.hid (hI.out.chg k4)
      have hbs := hC.size
      clear r1 hx hj hkl hk
      go_wp2_with fail
      generalize hw4 : wr.alloc (.cells #[.int .u64 (x.key : Int), .int .i64 x.power] 26) = w4 at *
      have c0 := b4.cell 0
      have c1 := b4.cell 1
      obtain ⟨_, _, f1⟩ := W4.out.row.cells (tab_get HJ.out)
      have i1 : (w4.cell? ⟨g, j * 2 + 1, none⟩).isSome = true := by rw [(W4.out.row.cells (tab_get HJ.out)).1.2]; rfl
      have hvg : wr.heap.size ≠ g := by omega
      simp only [List.getElem?_toArray] at c0 c1
      go_region_with (first | (go_at_call 30; refine (HPL.out _ _ j x.key (W4.out.chg (by first | exact (Chg.refl _ _).drew | exact (Chg.refl _ _).drewN _ | exact Chg.refl _ _)) HJ.out).mono ?_; rintro e w5 ⟨rfl, k5⟩; have s0 := k5.cell c0 (fun f => f); have s1 := k5.cell c1 (fun f => f); have W5 := Lib.hid ((W4.out.chg ((Chg.refl Non _).drew)).chg k5); have s2 := (W5.out.row.cells (tab_get HJ.out)).1.2; have s3 := (W5.out.row.cells (tab_get HJ.out)).2.2) | fail)
      all_goals
        go_wp2_with fail
        go_roundw
        case rel => exact ⟨k + 1, by omega, by go_num, Lib.hid (by rw [pw_take HRl.out.2.2.1 HX.out]; exact W5.out.set hbg HRS.out HJ.out x.power), (((hC.trans k4 (fun _ f => f.elim)).drew).trans k5 (fun _ f => f.elim)).setCell (.inl rfl) _⟩
        case measure => simp [intOf]; omega
    · obtain rfl : k = n1 := by omega
      have el : l.take k = l := List.take_of_length_le (by rw [E1.out]; exact Nat.le_refl _)
      rw [el] at hI
      have hC0 := hC
      clear el
      go_wp2_with fail
      go_loopw [11, 12, 37] (fun _ _ i wr => ∃ (k : Nat) (f : Nat → Int), k ≤ n2 ∧ i = .int .i64 (k : Int) ∧ Hid (runC (pw l) (ch.take k) = .ok f ∧ Wk wr b g cap rs f) ∧ Chg (fun j => j = g) w3 wr) (fun _ _ i _ => n2 - (intOf i).toNat)
      case atStart => exact ⟨0, pw l, by omega, rfl, Lib.hid ⟨by simp [runC], hI.out⟩, hC0⟩
      case round =>
        clear hI hC hC0 kw
        obtain ⟨k, f, hk, rfl, hI, hC⟩ := hrel
        have kw : Hid (Chg Non w wr) := Lib.hid (kw3.trans hC (fun j h => .inr (by subst h; exact hgw)))
        have HF := Lib.hid hI.out.1
        have HW := Lib.hid hI.out.2
        clear hI
        by_cases hlt : k < n2
        · have hki : (k : Int) < (n2 : Int) := by omega
          have hkl : k < ch.length := by rw [E2.out]; exact hlt
          obtain ⟨x, hx⟩ : ∃ x, ch[k]? = some x := ⟨_, List.getElem?_eq_getElem hkl⟩
          obtain ⟨a, ao, rfl, _, r1⟩ := (HN.out.chg kw.out) _ _ hx
          obtain ⟨p0, p1⟩ := rangeAt_cons r1
          obtain ⟨p1, _⟩ := rangeAt_cons p1
          obtain ⟨j, hj⟩ := HIX.out x (List.mem_append_right _ (List.mem_of_getElem? hx))
          have HX := Lib.hid hx
          have HJ := Lib.hid hj
          have k4 : Chg Non wr (wr.alloc (.cells #[.int .u64 (x.key : Int), .int .i64 x.power] 26)) := (Chg.refl _ _).alloc _
          have b4 := Hb.new wr 26 #[.int .u64 (x.key : Int), .int .i64 x.power]
          have W4 := Lib.hid (HW.out.chg k4)
          have hbs := hC.size
          clear r1 hx hj hkl hk
          go_wp2_with fail
          generalize hw4 : wr.alloc (.cells #[.int .u64 (x.key : Int), .int .i64 x.power] 26) = w4 at *
          have c0 := b4.cell 0
          have c1 := b4.cell 1
          simp only [List.getElem?_toArray] at c0 c1
          go_region_with (first | (go_at_call 30; refine (HPL.out _ _ j x.key (W4.out.chg (by first | exact (Chg.refl _ _).drew | exact (Chg.refl _ _).drewN _ | exact Chg.refl _ _)) HJ.out).mono ?_; rintro e w5 ⟨rfl, k5⟩; have s0 := k5.cell c0 (fun f => f); have s1 := k5.cell c1 (fun f => f); have W5 := Lib.hid ((W4.out.chg ((Chg.refl Non _).drew)).chg k5); have s2 := (W5.out.row.cells (tab_get HJ.out)).1.2; have s3 := (W5.out.row.cells (tab_get HJ.out)).2.2) | (go_at_call 14; refine (change2_any _ g (j * 2 + 1) (f x.key) x.power s2 s3).mono ?_; rintro e w6 ⟨code, rfl, hcode⟩) | fail)
          all_goals
            rcases hcode.out with ⟨ha, rfl, rfl⟩ | ⟨ha, hp, hv, rfl, rfl⟩ | ⟨ha, hv, rfl, rfl⟩
            · have HE : Hid (runC (pw l) ch = .error 72) := Lib.hid (runC_err HF.out HX.out (by unfold stepC; rw [if_pos ha]; rfl))
              clear hcode ha
              go_wp2_with fail
              go_ret2
              exact ⟨kw3.trans (((hC.trans k4 (fun _ f => f.elim)).drew).trans k5 (fun _ f => f.elim)) (fun j h => .inr (by subst h; exact hgw)), .inr (.inl ⟨HRl.out, 72, HE.out, .inl rfl, rfl⟩)⟩
            · have HE : Hid (runC (pw l) ch = .error 73) := Lib.hid (runC_err HF.out HX.out (by unfold stepC; rw [if_neg ha, if_pos ⟨hp, hv⟩]; rfl))
              clear hcode ha hp hv
              go_wp2_with fail
              go_ret2
              exact ⟨kw3.trans (((hC.trans k4 (fun _ f => f.elim)).drew).trans k5 (fun _ f => f.elim)) (fun j h => .inr (by subst h; exact hgw)), .inr (.inl ⟨HRl.out, 73, HE.out, .inr rfl, rfl⟩)⟩
            · have HE : Hid (runC (pw l) (ch.take (k + 1)) = .ok (upd f x.key x.power)) := Lib.hid (runC_next HF.out HX.out (by unfold stepC; rw [if_neg ha, if_neg hv]))
              clear hcode ha hv
              go_wp2_with fail
              go_roundw
              case rel => exact ⟨k + 1, upd f x.key x.power, by omega, by go_num, Lib.hid ⟨HE.out, W5.out.set hbg HRS.out HJ.out x.power⟩, (((hC.trans k4 (fun _ f => f.elim)).drew).trans k5 (fun _ f => f.elim)).setCell (.inl rfl) _⟩
              case measure => simp [intOf]; omega
        · obtain rfl : k = n2 := by omega
          have el : ch.take k = ch := List.take_of_length_le (by rw [E2.out]; exact Nat.le_refl _)
          have hf := HF.out
          rw [el] at hf
          have hnn : ∀ j, 0 ≤ f j := runC_nonneg (fun j => pw_nonneg HRl.out.2.2.2.1 j) hf
          have hkey : ∀ j, f j = lastP (pw l j) ch j := fun j => runC_last hf j
          have hsup : ∀ j, j ∉ rs → f j = 0 := by
            intro j hj
            have hn : ∀ y ∈ l ++ ch, y.key ≠ j := by
              rintro y hy rfl
              obtain ⟨i, hi⟩ := HIX.out y hy
              exact hj (List.mem_of_getElem? hi)
            rw [hkey, lastP_not (fun y hy => hn y (by simp [hy])), pw_not (fun y hy => hn y (by simp [hy]))]
          have hnf := live_nf HRS.out hnn hsup
          have hok : ∀ y ∈ tab rs f, y.Ok := by
            intro y hy
            unfold tab at hy
            rw [List.mem_map] at hy
            obtain ⟨j, hj, rfl⟩ := hy
            obtain ⟨v, hv, rfl⟩ := List.mem_map.1 ((HMEM.out j).1 hj)
            have hP : ∀ y ∈ l ++ ch, y.Ok := fun y hy => by
              rcases List.mem_append.1 hy with h | h
              · exact OL.out y h
              · exact OC.out y h
            have hlp := lastP_prop (P := fun p => -9223372036854775808 ≤ p ∧ p ≤ 9223372036854775807) (pw_prop (P := fun p => -9223372036854775808 ≤ p ∧ p ≤ 9223372036854775807) ⟨by omega, by omega⟩ (fun y hy => ⟨(OL.out y hy).lo, (OL.out y hy).hi⟩) v.key) (fun y hy => ⟨(OC.out y hy).lo, (OC.out y hy).hi⟩) v.key (l := ch)
            rw [← hkey] at hlp
            exact ⟨(hP v hv).key, hlp.1, hlp.2⟩
          have hlr : (tab rs f).length = nr := by rw [tab_keys]; exact ER.out
          have HEn := Lib.hid (ended_any wr g cap (tab rs f) (by rw [hlr]; omega) hok HW.out.row (Nat.lt_of_lt_of_le hg3 hC.size))
          rw [hlr] at HEn
          have HNF := Lib.hid hnf
          have HFF := Lib.hid hf
          have HLO : Hid (∀ y ∈ live (tab rs f), y.Ok) := Lib.hid fun y hy => hok y (List.mem_filter.1 hy).1
          clear hnf hf hok hlr hsup hkey hnn el HF HW
          generalize live (tab rs f) = r at *
          go_wp2_with fail
          refine HEn.out.mono ?_
          rintro e w4 ⟨k4, hh⟩
          have kend := kw.out.trans k4 (fun _ f => f.elim)
          rcases hh with ⟨h1, rfl⟩ | ⟨h1, h2, rfl⟩ | ⟨h1, A', c', rfl, M'⟩
          · have H1 := Lib.hid h1
            clear h1
            go_wp2_with fail
            go_ret2
            exact ⟨kend, .inr (.inr ⟨HRl.out, f, r, HFF.out, HNF.out, HLO.out, .inl ⟨H1.out, rfl⟩⟩)⟩
          · have H1 := Lib.hid h1
            have H2 := Lib.hid h2
            clear h1 h2
            go_wp2_with fail
            go_ret2
            exact ⟨kend, .inr (.inr ⟨HRl.out, f, r, HFF.out, HNF.out, HLO.out, .inr (.inl ⟨H1.out, H2.out, rfl⟩)⟩)⟩
          · have H1 := Lib.hid h1
            have HM' := Lib.hid M'
            clear h1 M'
            generalize hrl : r.length = rl at *
            have HRL := Lib.hid hrl
            clear hrl
            go_wp2_with fail
            go_ret2
            exact ⟨kend, .inr (.inr ⟨HRl.out, f, r, HFF.out, HNF.out, HLO.out, .inr (.inr ⟨H1.out, A', c', by rw [HRL.out]; rfl, HM'.out⟩)⟩)⟩
end Go.Proofs.Ytddkcdlioglkmaa
