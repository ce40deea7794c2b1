import Derived.Test.YtoafchfpnaojmaaChecked
import Derived.WalkKit
import Derived.WalkLawsBesides
import Derived.Lib.Hide
import Derived.Deep.MidRow
import Derived.Deep.RegionHeld3
import Derived.Recover
import Derived.Test.YtoafchfpnaojmaaMFormPackets4
/- Package forms: what its small functions leave, reading: contracts. -/
namespace Go.Proofs.Ytoafchfpnaojmaa
open Go.RowKit
set_option linter.unusedVariables false
set_option linter.unusedSimpArgs false
set_option maxRecDepth 20000

/-- The reader's block, and the block that is read into. -/
def Two (g tb : Nat) (k : Nat) : Prop := k = g ∨ k = tb
/-- A reader, and a row that is read into, behind what was done since the world W. -/
structure Rst (W : World) (g : Nat) (F : Nat → Prop) (tb : Nat) (t : TypeId) (L : List Value) (st : St) (w : World) : Prop where
  rdr : Rdr w g F st
  row : Hb w tb t L.toArray
  chg : Chg (Two g tb) W w
  ne : tb ≠ g
  nF : ¬ F tb
theorem Rst.trans {W w w' : World} {g : Nat} {F : Nat → Prop} {tb : Nat} {t : TypeId} {L L' : List Value} {st st' : St} (S : Rst W g F tb t L st w) (T : Rst w g F tb t L' st' w') : Rst W g F tb t L' st' w' := ⟨T.rdr, T.row, S.chg.trans T.chg (fun _ h => .inl h), T.ne, T.nF⟩
theorem Rst.non {W w w' : World} {g : Nat} {F : Nat → Prop} {tb : Nat} {t : TypeId} {L : List Value} {st : St} (S : Rst W g F tb t L st w) (k : Chg Non w w') : Rst W g F tb t L st w' := ⟨S.rdr.chg k (fun f => f) (fun _ _ f => f), S.row.chg k (fun f => f), S.chg.trans k (fun _ f => f.elim), S.ne, S.nF⟩
theorem Rst.here {W w : World} {g : Nat} {F : Nat → Prop} {tb : Nat} {t : TypeId} {L : List Value} {st : St} (S : Rst W g F tb t L st w) : Rst w g F tb t L st w := ⟨S.rdr, S.row, Chg.refl _ _, S.ne, S.nF⟩
/-- A call on the reader alone. -/
theorem Rst.read {W w w' : World} {g : Nat} {F : Nat → Prop} {tb : Nat} {t : TypeId} {L : List Value} {st st' : St} (S : Rst W g F tb t L st w) (h1 : Rdr w' g F st') (h2 : Chg (Eqg g) w w') : Rst W g F tb t L st' w' :=
  ⟨h1, S.row.chg h2 (fun e => S.ne e), S.chg.trans h2 (fun j hj => .inl (.inl hj)), S.ne, S.nF⟩
theorem row_set (p : List Value) (x u : Value) (q : List Value) : (p ++ x :: q).toArray.setIfInBounds p.length u = (p ++ u :: q).toArray := by simp
theorem Rst.set {W w : World} {g : Nat} {F : Nat → Prop} {tb : Nat} {t : TypeId} {p q : List Value} {x : Value} {st : St} (S : Rst W g F tb t (p ++ x :: q) st w) {o : Nat} (ho : o = p.length) (u : Value) : Rst W g F tb t (p ++ u :: q) st (w.setCell ⟨tb, o, none⟩ u) := by
  subst ho
  refine ⟨S.rdr.chg ((Chg.refl (fun k => k = tb) w).setCell (p := ⟨tb, _, none⟩) (.inl rfl) _) (fun e => S.ne e.symm) (fun j hj e => S.nF (e ▸ hj)), ?_, S.chg.setCell (p := ⟨tb, _, none⟩) (.inl (.inr rfl)) _, S.ne, S.nF⟩
  rw [← row_set p x u q]
  exact S.row.set _ _
theorem Chg.setCells {S : Nat → Prop} {a : World} {tb : Nat} (hs : S tb) : ∀ (vs : List Value) (b : World) (o : Nat), Chg S a b → Chg S a (b.setCells tb o vs)
  | [], _, _, h => h
  | v :: vs, b, o, h => Chg.setCells hs vs _ _ (h.setCell (p := ⟨tb, o, none⟩) (.inl hs) v)
theorem Hb.setCells {t : TypeId} {tb : Nat} : ∀ (new old p q : List Value) (w : World), old.length = new.length → Hb w tb t (p ++ (old ++ q)).toArray → Hb (w.setCells tb p.length new) tb t (p ++ (new ++ q)).toArray
  | [], old, p, q, w, hl, h => by
    obtain rfl : old = [] := List.eq_nil_of_length_eq_zero hl
    exact h
  | v :: vs, [], p, q, w, hl, h => by simp at hl
  | v :: vs, x :: old, p, q, w, hl, h => by
    have h1 : Hb (w.setCell ⟨tb, p.length, none⟩ v) tb t ((p ++ [v]) ++ (old ++ q)).toArray := by
      have h2 := h.set p.length v
      rw [List.cons_append, row_set] at h2
      simpa using h2
    have h3 := Hb.setCells vs old (p ++ [v]) q _ (by simpa using hl) h1
    rw [List.length_append, List.length_singleton] at h3
    simpa [World.setCells] using h3
theorem Rst.sets {W w : World} {g : Nat} {F : Nat → Prop} {tb : Nat} {t : TypeId} {p q old : List Value} {st : St} (S : Rst W g F tb t (p ++ (old ++ q)) st w) {o : Nat} (ho : o = p.length) (new : List Value) (hl : old.length = new.length) : Rst W g F tb t (p ++ (new ++ q)) st (w.setCells tb o new) := by
  subst ho
  exact ⟨S.rdr.chg (Chg.setCells (S := fun k => k = tb) rfl new w _ (Chg.refl (fun k => k = tb) w)) (fun e => S.ne e.symm) (fun j hj e => S.nF (e ▸ hj)), S.row.setCells new old p q w hl, Chg.setCells (.inr rfl) new w _ S.chg, S.ne, S.nF⟩
theorem Rst.cell {W w : World} {g : Nat} {F : Nat → Prop} {tb : Nat} {t : TypeId} {p q : List Value} {x : Value} {st : St} (S : Rst W g F tb t (p ++ x :: q) st w) {o : Nat} (ho : o = p.length) : w.cell? ⟨tb, o, none⟩ = some x ∧ w.frozen? ⟨tb, o, none⟩ = false := by
  subst ho
  refine ⟨?_, S.row.frozen _⟩
  rw [S.row.cell]
  simp
theorem Rst.there {W w : World} {g : Nat} {F : Nat → Prop} {tb : Nat} {t : TypeId} {p q old : List Value} {st : St} (S : Rst W g F tb t (p ++ (old ++ q)) st w) {o : Nat} (ho : o = p.length) : w.there tb o old.length := by
  subst ho
  intro j hj
  refine ⟨?_, S.row.frozen _⟩
  rw [S.row.cell, List.getElem?_toArray, List.getElem?_append_right (by omega), Nat.add_sub_cancel_left, List.getElem?_append_left hj, List.getElem?_eq_getElem hj]
  rfl
theorem Rst.nw {W w : World} {g : Nat} {F : Nat → Prop} {tb : Nat} {t : TypeId} {L : List Value} {st : St} (S : Rst W g F tb t L st w) {k : Nat} (hk : w.heap.size ≤ k) : ¬ Two g tb k := by
  rintro (rfl | rfl)
  · have := S.rdr.lt; omega
  · have := S.row.lt; omega

/-- What a reading leaves: the row with what was read, and the reader behind it; or the panic, if it is not right. -/
def RO (w : World) (g : Nat) (F : Nat → Prop) (tb : Nat) (t : TypeId) (n : Nat) (r : Option (List Value × St)) (e : Ending) (w' : World) : Prop :=
  match r with
  | some x => e = .returned (.tuple #[]) ∧ Rst w g F tb t x.1 x.2 w'
  | none => e = .panicked bad ∧ Chg (Two g tb) w w' ∧ ∃ L' : List Value, L'.length = n ∧ Hb w' tb t L'.toArray
section
variable {W w w' : World} {g : Nat} {F : Nat → Prop} {tb n : Nat} {t : TypeId} {L : List Value} {st : St} {r : Option (List Value × St)} {e : Ending}
theorem RO.after (S : Rst W g F tb t L st w) (h : RO w g F tb t n r e w') : RO W g F tb t n r e w' := by
  cases r with
  | some x => exact ⟨h.1, S.trans h.2⟩
  | none => exact ⟨h.1, S.chg.trans h.2.1 (fun _ h => .inl h), h.2.2⟩
theorem RO.chg (h : RO w g F tb t n r e w') : Chg (Two g tb) w w' := by
  cases r with
  | some x => exact h.2.chg
  | none => exact h.2.1
theorem RO.cases (h : RO w g F tb t n r e w') : (r = none ∧ e = .panicked bad ∧ Chg (Two g tb) w w' ∧ ∃ L' : List Value, L'.length = n ∧ Hb w' tb t L'.toArray) ∨ (∃ x, r = some x ∧ e = .returned (.tuple #[]) ∧ Rst w g F tb t x.1 x.2 w') := by
  cases r with
  | some x => exact .inr ⟨x, rfl, h.1, h.2⟩
  | none => exact .inl ⟨rfl, h.1, h.2⟩
end

theorem hash_r (w : World) (g : Nat) (F : Nat → Prop) (tb o : Nat) (t : TypeId) (p q old : List Value) (st : St) (S : Rst w g F tb t (p ++ (old ++ q)) st w) (ho : o = p.length) (hold : old.length = 32) :
    Calls Try.prog 44 #[.agg #[.pointer none, .pointer (some ⟨g, 0, none⟩)], .pointer (some ⟨tb, o, none⟩)] w (RO w g F tb t (p ++ (old ++ q)).length (some (p ++ (bv (vH st) ++ q), nH st))) := by
  have HO := Lib.hid ho
  clear ho
  have S1 := S.non ((Chg.refl Non w).alloc (.cells #[.pointer none, .pointer (some ⟨g, 0, none⟩)] 64))
  have hw := S.nw (Nat.le_refl w.heap.size)
  have hx := Hb.new w 64 #[.pointer none, .pointer (some ⟨g, 0, none⟩)]
  go_enter Try.func44, Try.ntmps44
  go_wp2_with fail
  refine (writes_r _ g).mono ?_
  rintro e w1 ⟨rfl, hC⟩
  have S2 := S1.non hC
  have x1 : w1.cell? ⟨w.heap.size, 1, none⟩ = some (.pointer (some ⟨g, 0, none⟩)) := (hx.chg hC (fun f => f)).cell 1
  clear S1 hx hC
  go_wp2_with fail
  refine (hashR_v _ g F st S2.rdr).mono ?_
  rintro e w2 ⟨rfl, h1, h2⟩
  have S3 := S2.read h1 h2
  have ht := S3.there HO.out
  have hvl := vH_length st
  rw [hold] at ht
  go_wp2_with (with_reducible refine wpList_store_mid rfl _ _ _ rfl tb o (bv (vH st)).toArray rfl rfl (by rw [List.size_toArray, bv_length, hvl]; exact ht) (by rw [List.size_toArray, bv_length, hvl]; exact hash_row) (all_oneCell_toArray (bv_one _)) ?_)
  go_end0
  exact ⟨rfl, S3.sets HO.out (bv (vH st)) (by rw [bv_length, hvl, hold])⟩

theorem number_r (w : World) (g : Nat) (F : Nat → Prop) (tb o : Nat) (t : TypeId) (p q : List Value) (x : Value) (st : St) (S : Rst w g F tb t (p ++ x :: q) st w) (ho : o = p.length) (lo hi : Int) :
    Calls Try.prog 27 #[.agg #[.pointer none, .pointer (some ⟨g, 0, none⟩)], .pointer (some ⟨tb, o, none⟩), .int .i64 lo, .int .i64 hi] w (RO w g F tb t (p ++ x :: q).length ((dNum lo hi st).map fun y => (p ++ .int .i64 y.1 :: q, y.2))) := by
  have vb := vN_bounds st
  generalize hr : (dNum lo hi st).map _ = r
  have HR := Lib.hid hr
  clear hr
  have HO := Lib.hid ho
  clear ho
  have S1 := S.non ((Chg.refl Non w).alloc (.cells #[.pointer none, .pointer (some ⟨g, 0, none⟩)] 64))
  have hw := S.nw (Nat.le_refl w.heap.size)
  have hx := Hb.new w 64 #[.pointer none, .pointer (some ⟨g, 0, none⟩)]
  go_enter Try.func27, Try.ntmps27
  go_wp2_with fail
  refine (writes_r _ g).mono ?_
  rintro e w1 ⟨rfl, hC⟩
  have S2 := S1.non hC
  have x1 : w1.cell? ⟨w.heap.size, 1, none⟩ = some (.pointer (some ⟨g, 0, none⟩)) := (hx.chg hC (fun f => f)).cell 1
  clear S1 hx hC
  go_wp2_with fail
  refine (numberR_v _ g F st S2.rdr).mono ?_
  rintro e w2 ⟨rfl, h1, h2⟩
  have S3 := S2.read h1 h2
  have HC := Lib.hid (S3.cell HO.out)
  have S4 := S3.set HO.out (.int .i64 (vN st))
  have HC4 := Lib.hid (S4.cell HO.out)
  clear S2 S3 h1 h2 x1
  generalize hvn : vN st = n at *
  have HV := Lib.hid hvn
  clear hvn
  have c0 := HC.out.1
  have f0 := HC.out.2
  have c4 := HC4.out.1
  by_cases hlo : lo ≤ n
  · by_cases hhi : n ≤ hi
    · obtain rfl : r = some (p ++ .int .i64 n :: q, nW st) := by rw [← HR.out]; unfold dNum; rw [HV.out, if_pos (inR_iff.2 ⟨hlo, hhi⟩)]; rfl
      have k1 : decide (n ≥ lo) = true := by simpa using hlo
      have k2 : decide (n ≤ hi) = true := by simpa using hhi
      go_wp2_with (go_at_call 25; refine (insist_yes _).mono ?_; rintro e w5 ⟨rfl, rfl⟩)
      go_end0
      exact ⟨rfl, S4⟩
    · obtain rfl : r = none := by rw [← HR.out]; unfold dNum; rw [HV.out, if_neg (fun h => hhi (inR_iff.1 h).2)]; rfl
      have k1 : decide (n ≥ lo) = true := by simpa using hlo
      have k2 : decide (n ≤ hi) = false := by simpa using hhi
      go_wp2_with (go_at_call 25; refine (insist_no _).mono ?_; rintro e w5 ⟨rfl, rfl⟩)
      exact ⟨rfl, rfl, S4.chg, _, by simp, S4.row⟩
  · obtain rfl : r = none := by rw [← HR.out]; unfold dNum; rw [HV.out, if_neg (fun h => hlo (inR_iff.1 h).1)]; rfl
    have k1 : decide (n ≥ lo) = false := by simpa using hlo
    go_wp2_with (go_at_call 25; refine (insist_no _).mono ?_; rintro e w5 ⟨rfl, rfl⟩)
    exact ⟨rfl, rfl, S4.chg, _, by simp, S4.row⟩

theorem text_r (w : World) (g : Nat) (F : Nat → Prop) (tb o : Nat) (t : TypeId) (p q : List Value) (x : Value) (st : St) (S : Rst w g F tb t (p ++ x :: q) st w) (ho : o = p.length) (most : Nat) (hmost : most ≤ 4096) :
    Calls Try.prog 29 #[.agg #[.pointer none, .pointer (some ⟨g, 0, none⟩)], .pointer (some ⟨tb, o, none⟩), .int .i64 (most : Int)] w (RO w g F tb t (p ++ x :: q).length ((dText most st).map fun y => (p ++ .string y.1 :: q, y.2))) := by
  have vb := vT_small st
  generalize hr : (dText most st).map _ = r
  have HR := Lib.hid hr
  clear hr
  have HO := Lib.hid ho
  clear ho
  have S1 := S.non ((Chg.refl Non w).alloc (.cells #[.pointer none, .pointer (some ⟨g, 0, none⟩)] 64))
  have hw := S.nw (Nat.le_refl w.heap.size)
  have hx := Hb.new w 64 #[.pointer none, .pointer (some ⟨g, 0, none⟩)]
  go_enter Try.func29, Try.ntmps29
  go_wp2_with fail
  refine (writes_r _ g).mono ?_
  rintro e w1 ⟨rfl, hC⟩
  have S2 := S1.non hC
  have x1 : w1.cell? ⟨w.heap.size, 1, none⟩ = some (.pointer (some ⟨g, 0, none⟩)) := (hx.chg hC (fun f => f)).cell 1
  clear S1 hx hC
  go_wp2_with fail
  refine (textR_v _ g F st S2.rdr).mono ?_
  rintro e w2 ⟨rfl, h1, h2⟩
  have S3 := S2.read h1 h2
  have HC := Lib.hid (S3.cell HO.out)
  have S4 := S3.set HO.out (.string ⟨(vT st).toArray⟩)
  have HC4 := Lib.hid (S4.cell HO.out)
  clear S2 S3 h1 h2 x1
  generalize hs : (⟨(vT st).toArray⟩ : ByteArray) = s at *
  have hsz : s.size = (vT st).length := by rw [← hs]; rfl
  have HV := Lib.hid hs
  have HZ := Lib.hid hsz
  rw [← hsz] at vb
  clear hs hsz
  have c0 := HC.out.1
  have f0 := HC.out.2
  have c4 := HC4.out.1
  by_cases hok : s.size ≤ most
  · obtain rfl : r = some (p ++ .string s :: q, nT st) := by rw [← HR.out]; unfold dText; rw [← HZ.out, if_pos hok, HV.out]; rfl
    have k1 : decide ((s.size : Int) ≤ (most : Int)) = true := decide_eq_true (by omega)
    go_wp2_with (go_at_call 25; refine (insist_yes _).mono ?_; rintro e w5 ⟨rfl, rfl⟩)
    go_end0
    exact ⟨rfl, S4⟩
  · obtain rfl : r = none := by rw [← HR.out]; unfold dText; rw [← HZ.out, if_neg hok]; rfl
    have k1 : decide ((s.size : Int) ≤ (most : Int)) = false := decide_eq_false (by omega)
    go_wp2_with (go_at_call 25; refine (insist_no _).mono ?_; rintro e w5 ⟨rfl, rfl⟩)
    exact ⟨rfl, rfl, S4.chg, _, by simp, S4.row⟩

theorem name_r (w : World) (g : Nat) (F : Nat → Prop) (tb o : Nat) (t : TypeId) (p q : List Value) (x : Value) (st : St) (S : Rst w g F tb t (p ++ x :: q) st w) (ho : o = p.length) :
    Calls Try.prog 28 #[.agg #[.pointer none, .pointer (some ⟨g, 0, none⟩)], .pointer (some ⟨tb, o, none⟩)] w (RO w g F tb t (p ++ x :: q).length ((dName st).map fun y => (p ++ .string y.1 :: q, y.2))) := by
  have S1 := S.non ((Chg.refl Non w).alloc (.cells #[.pointer none, .pointer (some ⟨g, 0, none⟩)] 64))
  have vb := vT_small st
  have hsz : (⟨(vT st).toArray⟩ : ByteArray).size = (vT st).length := rfl
  have H := name_gen w none (some ⟨g, 0, none⟩) tb o ⟨(vT st).toArray⟩ (by unfold maxLen; omega) (fun w' => Chg (Two g tb) w w' ∧ (∃ L' : List Value, L'.length = (p ++ x :: q).length ∧ Hb w' tb t L'.toArray) ∧ ((⟨(vT st).toArray⟩ : ByteArray).size ≤ 16 → Rst w g F tb t (p ++ .string ⟨(vT st).toArray⟩ :: q) (nT st) w'))
    (fun w1 w2 ⟨h1, ⟨L', hl, hL⟩, h2⟩ k => ⟨h1.trans k (fun _ f => f.elim), ⟨L', hl, hL.chg k (fun f => f)⟩, fun hs => (h2 hs).non k⟩)
    ((text_r _ g F tb o t p q x st S1.here ho 16 (by omega)).mono fun e w' h1 => by
      have h3 := RO.after S1 h1
      unfold dText at h3
      by_cases hs : (vT st).length ≤ 16
      · rw [if_pos hs] at h3
        rw [decide_eq_true (show (⟨(vT st).toArray⟩ : ByteArray).size ≤ 16 from hs)]
        exact ⟨h3.1, ⟨h3.2.chg, ⟨_, by simp, h3.2.row⟩, fun _ => h3.2⟩, fun _ => (h3.2.cell ho).1⟩
      · rw [if_neg hs] at h3
        rw [decide_eq_false (show ¬ (⟨(vT st).toArray⟩ : ByteArray).size ≤ 16 from hs)]
        exact ⟨h3.1, ⟨h3.2.1, h3.2.2, fun h => absurd h hs⟩, fun h => absurd h hs⟩)
  refine H.mono ?_
  rintro e w' ⟨he, h1, h2, h3⟩
  unfold dName
  cases hk : nameOk ⟨(vT st).toArray⟩ with
  | true => rw [hk] at he; rw [if_pos rfl]; exact ⟨he, h3 (nameOk_size hk)⟩
  | false => rw [hk] at he; rw [if_neg (by simp)]; exact ⟨he, h1, h2⟩

theorem begin_r (w : World) (g : Nat) (F : Nat → Prop) (tb : Nat) (t : TypeId) (L : List Value) (st : St) (S : Rst w g F tb t L st w) (k : Int) :
    Calls Try.prog 26 #[.agg #[.pointer none, .pointer (some ⟨g, 0, none⟩)], .int .i64 k] w (RO w g F tb t L.length ((dBegin k st).map fun s => (L, s))) := by
  have hC := ((Chg.refl Non w).alloc (.cells #[.pointer none, .pointer (some ⟨g, 0, none⟩)] 64)).alloc (.cells #[.int .i64 k] 3)
  have S1 := S.non hC
  have hx0 := ((Hb.new w 64 #[.pointer none, .pointer (some ⟨g, 0, none⟩)]).alloc (.cells #[.int .i64 k] 3)).cell 0
  have hx1 := ((Hb.new w 64 #[.pointer none, .pointer (some ⟨g, 0, none⟩)]).alloc (.cells #[.int .i64 k] 3)).cell 1
  have hn : Hb ((w.alloc (.cells #[.pointer none, .pointer (some ⟨g, 0, none⟩)] 64)).alloc (.cells #[.int .i64 k] 3)) (w.heap.size + 1) 3 #[.int .i64 k] := by
    have := Hb.new (w.alloc (.cells #[.pointer none, .pointer (some ⟨g, 0, none⟩)] 64)) 3 #[.int .i64 k]
    rwa [show (w.alloc (.cells #[.pointer none, .pointer (some ⟨g, 0, none⟩)] 64)).heap.size = w.heap.size + 1 by simp] at this
  have hg := S.rdr.lt
  have ht := S.row.lt
  have SN : Rst _ g F (w.heap.size + 1) 3 ([] ++ .int .i64 k :: []) st _ := ⟨S1.rdr, hn, Chg.refl _ _, by omega, fun hf => by have := S.rdr.Flt _ hf; omega⟩
  have H := number_r _ g F (w.heap.size + 1) 0 3 [] [] (.int .i64 k) st SN rfl k k
  have HH := Lib.hid H
  have vb := vN_bounds st
  have e1 : dNum k k st = (dBegin k st).map fun s => (k, s) := by
    unfold dNum dBegin
    by_cases h : vN st = k
    · rw [if_pos (inR_iff.2 ⟨by omega, by omega⟩), if_pos h, h]; rfl
    · rw [if_neg (fun h2 => by have := inR_iff.1 h2; omega), if_neg h]; rfl
  rw [e1] at HH
  clear H e1 SN
  generalize dBegin k st = d at HH ⊢
  go_enter Try.func26, Try.ntmps26
  go_wp2_with fail
  refine HH.out.mono ?_
  rintro e w1 h1
  clear HH
  cases d with
  | some s =>
    obtain ⟨rfl, h2⟩ := h1
    have hrow := S1.row.chg h2.chg (by rintro (h | h); exact S.ne h; omega)
    go_wp2
    go_end0
    exact ⟨rfl, h2.rdr, hrow, (hC.mono (S' := Two g tb) (fun _ f => f.elim)).trans h2.chg (fun j hj => by rcases hj with rfl | rfl; exact .inl (.inl rfl); exact .inr (by omega)), S.ne, S.nF⟩
  | none =>
    obtain ⟨rfl, h2, _⟩ := h1
    have hrow := S1.row.chg h2 (by rintro (h | h); exact S.ne h; omega)
    go_wp2
    exact ⟨rfl, rfl, (hC.mono (S' := Two g tb) (fun _ f => f.elim)).trans h2 (fun j hj => by rcases hj with rfl | rfl; exact .inl (.inl rfl); exact .inr (by omega)), _, rfl, hrow⟩

theorem height_r (w : World) (g : Nat) (F : Nat → Prop) (tb o : Nat) (t : TypeId) (p q : List Value) (x : Value) (st : St) (S : Rst w g F tb t (p ++ x :: q) st w) (ho : o = p.length) :
    Calls Try.prog 30 #[.agg #[.pointer none, .pointer (some ⟨g, 0, none⟩)], .pointer (some ⟨tb, o, none⟩)] w (RO w g F tb t (p ++ x :: q).length ((dNum 1 1099511627776 st).map fun y => (p ++ .int .i64 y.1 :: q, y.2))) := by
  have S1 := S.non ((Chg.refl Non w).alloc (.cells #[.pointer none, .pointer (some ⟨g, 0, none⟩)] 64))
  have hx0 := (Hb.new w 64 #[.pointer none, .pointer (some ⟨g, 0, none⟩)]).cell 0
  have hx1 := (Hb.new w 64 #[.pointer none, .pointer (some ⟨g, 0, none⟩)]).cell 1
  have H := number_r _ g F tb o t p q x st S1.here ho 1 1099511627776
  generalize (dNum 1 1099511627776 st).map _ = r at H ⊢
  have HH := Lib.hid H
  clear H ho
  go_enter Try.func30, Try.ntmps30
  go_wp2_with fail
  refine HH.out.mono ?_
  rintro e w1 h1
  have h2 := RO.after S1 h1
  clear HH h1
  rcases h2.cases with ⟨rfl, rfl, h3⟩ | ⟨y, rfl, rfl, h3⟩
  · go_wp2
    exact ⟨rfl, rfl, by simpa using h3⟩
  · go_wp2
    go_end0
    exact ⟨rfl, h3⟩

end Go.Proofs.Ytoafchfpnaojmaa

/- Package forms: the things, written: contracts. -/
namespace Go.Proofs.Ytoafchfpnaojmaa
open Go.RowKit
set_option linter.unusedVariables false
set_option linter.unusedSimpArgs false
set_option maxRecDepth 20000

theorem name_w (g : Nat) (l : List UInt8) (w : World) (v : Value) (b o : Nat) (s : ByteArray) (h : Wri w g v (some l)) (hc : w.cell? ⟨b, o, none⟩ = some (.string s)) (hb : ¬ Wft g v b) (hm : s.size ≤ maxLen) (hl : l.length ≤ 1000000000) :
    Calls Try.prog 28 #[.agg #[.pointer (some ⟨g, 0, none⟩), .pointer none], .pointer (some ⟨b, o, none⟩)] w (WO w g v (nameOk s) (l ++ tx s.data.toList)) := by
  have S1 := (Wst.here h).non ((Chg.refl Non w).alloc (.cells #[.pointer (some ⟨g, 0, none⟩), .pointer none] 64))
  have c1 := ((Chg.refl Non w).alloc (.cells #[.pointer (some ⟨g, 0, none⟩), .pointer none] 64)).cell hc (fun f => f)
  have H := name_gen w (some ⟨g, 0, none⟩) none b o s hm (fun w' => Chg (Wft g v) w w' ∧ (s.size ≤ 16 → ∃ v', Wst w g v (l ++ tx s.data.toList) w' v'))
    (fun w1 w2 ⟨h1, h2⟩ k => ⟨h1.trans k (fun _ f => f.elim), fun hs => by obtain ⟨v', T⟩ := h2 hs; exact ⟨v', T.non k⟩⟩)
    ((text_w g l _ v b o s 16 S1.wri c1 hb hm (by omega) hl).mono fun e w' ⟨h1, h2⟩ => by
      have h3 := WO.after S1 h1
      refine ⟨?_, ⟨h3.chg, fun hs => ?_⟩, fun _ => h2⟩
      · revert h3; cases decide (s.size ≤ 16) <;> exact fun h3 => h3.1
      · rw [decide_eq_true hs] at h3; exact h3.2)
  refine H.mono ?_
  rintro e w' ⟨he, h1, h2⟩
  cases hk : nameOk s with
  | true => rw [hk] at he; exact ⟨he, h2 (nameOk_size hk)⟩
  | false => rw [hk] at he; exact ⟨he, h1⟩

theorem begin_w (g : Nat) (l : List UInt8) (w : World) (v : Value) (k : Int) (h : Wri w g v (some l)) (hk : I64 k) (hl : l.length ≤ 1000000000) :
    Calls Try.prog 26 #[.agg #[.pointer (some ⟨g, 0, none⟩), .pointer none], .int .i64 k] w (WO w g v true (l ++ num k)) := by
  have S1 := (Wst.here h).non (((Chg.refl Non w).alloc (.cells #[.pointer (some ⟨g, 0, none⟩), .pointer none] 64)).alloc (.cells #[.int .i64 k] 3))
  have hx0 := ((Hb.new w 64 #[.pointer (some ⟨g, 0, none⟩), .pointer none]).alloc (.cells #[.int .i64 k] 3)).cell 0
  have hx1 := ((Hb.new w 64 #[.pointer (some ⟨g, 0, none⟩), .pointer none]).alloc (.cells #[.int .i64 k] 3)).cell 1
  have c1 : ((w.alloc (.cells #[.pointer (some ⟨g, 0, none⟩), .pointer none] 64)).alloc (.cells #[.int .i64 k] 3)).cell? ⟨w.heap.size + 1, 0, none⟩ = some (.int .i64 k) := by
    have := (Hb.new (w.alloc (.cells #[.pointer (some ⟨g, 0, none⟩), .pointer none] 64)) 3 #[.int .i64 k]).cell 0
    rwa [show (w.alloc (.cells #[.pointer (some ⟨g, 0, none⟩), .pointer none] 64)).heap.size = w.heap.size + 1 by simp] at this
  have H := number_w g l _ v (w.heap.size + 1) 0 k k k S1.wri c1 (fun hj => h.nnew (by omega) hj) hk.l hk.h hl
  rw [decide_eq_true (show k ≤ k ∧ k ≤ k from ⟨Int.le_refl _, Int.le_refl _⟩)] at H
  have HH := Lib.hid H
  clear H
  go_enter Try.func26, Try.ntmps26
  go_wp2_with fail
  refine HH.out.mono ?_
  rintro e w1 h1
  obtain ⟨rfl, h3⟩ := WO.after S1 h1
  go_wp2
  go_end0
  exact ⟨rfl, h3⟩

theorem WO.cases {w w' : World} {g : Nat} {v : Value} {ok : Bool} {l : List UInt8} {e : Ending} (h : WO w g v ok l e w') : (ok = false ∧ e = .panicked bad ∧ Chg (Wft g v) w w') ∨ (ok = true ∧ e = .returned (.tuple #[]) ∧ ∃ v', Wst w g v l w' v') := by
  cases ok with
  | true => exact .inr ⟨rfl, h.1, h.2⟩
  | false => exact .inl ⟨rfl, h.1, h.2⟩
theorem numberI_w (g : Nat) (l : List UInt8) (w : World) (v : Value) (b o : Nat) (n lo hi : Int) (h : Wri w g v (some l)) (hc : w.cell? ⟨b, o, none⟩ = some (.int .i64 n)) (hb : ¬ Wft g v b) (hn : I64 n) (hl : l.length ≤ 1000000000) :
    Calls Try.prog 27 #[.agg #[.pointer (some ⟨g, 0, none⟩), .pointer none], .pointer (some ⟨b, o, none⟩), .int .i64 lo, .int .i64 hi] w (WO w g v (inR lo hi n) (l ++ num n)) := number_w g l w v b o n lo hi h hc hb hn.l hn.h hl
theorem textI_w (g : Nat) (l : List UInt8) (w : World) (v : Value) (b o : Nat) (s : ByteArray) (most : Nat) (h : Wri w g v (some l)) (hc : w.cell? ⟨b, o, none⟩ = some (.string s)) (hb : ¬ Wft g v b) (hm : s.size ≤ maxLen) (hmost : most ≤ 4096) (hl : l.length ≤ 1000000000) :
    Calls Try.prog 29 #[.agg #[.pointer (some ⟨g, 0, none⟩), .pointer none], .pointer (some ⟨b, o, none⟩), .int .i64 (most : Int)] w (WO w g v (decide (s.size ≤ most)) (l ++ tx s.data.toList)) := (text_w g l w v b o s most h hc hb hm hmost hl).mono fun _ _ h => h.1
theorem height_w (g : Nat) (l : List UInt8) (w : World) (v : Value) (b o : Nat) (n : Int) (h : Wri w g v (some l)) (hc : w.cell? ⟨b, o, none⟩ = some (.int .i64 n)) (hb : ¬ Wft g v b) (hn : I64 n) (hl : l.length ≤ 1000000000) :
    Calls Try.prog 30 #[.agg #[.pointer (some ⟨g, 0, none⟩), .pointer none], .pointer (some ⟨b, o, none⟩)] w (WO w g v (inR 1 1099511627776 n) (l ++ num n)) := by
  have S1 := (Wst.here h).non ((Chg.refl Non w).alloc (.cells #[.pointer (some ⟨g, 0, none⟩), .pointer none] 64))
  have c1 := ((Chg.refl Non w).alloc (.cells #[.pointer (some ⟨g, 0, none⟩), .pointer none] 64)).cell hc (fun f => f)
  have H : Calls Try.prog _ _ _ (WO _ g v (inR 1 1099511627776 n) (l ++ num n)) := number_w g l _ v b o n 1 1099511627776 S1.wri c1 hb hn.l hn.h hl
  generalize inR 1 1099511627776 n = ok at *
  go_enter Try.func30, Try.ntmps30
  go_wp2_with fail
  refine H.mono ?_
  rintro e w1 h1
  have h2 := WO.after S1 h1
  cases ok with
  | true =>
    obtain ⟨rfl, h3⟩ := h2
    go_wp2
    go_end0
    exact ⟨rfl, h3⟩
  | false =>
    obtain ⟨rfl, h3⟩ := h2
    go_wp2
    exact ⟨rfl, rfl, h3⟩

theorem vt_facts {w : World} {b o : Nat} {x : Vt} (R : w.rangeAt b o x.cells) (ox : x.Ok) : w.cell? ⟨b, o, none⟩ = some (.string x.chain) ∧ w.cell? ⟨b, o + 1, none⟩ = some (.int .i64 x.height) ∧ w.cell? ⟨b, o + 2, none⟩ = some (.int .i64 x.round) ∧ w.cell? ⟨b, o + 3, none⟩ = some (.int .i64 x.type) ∧ w.rangeAt b (o + 4) (bv x.block) ∧ w.cell? ⟨b, o + 36, none⟩ = some (.int .u64 (x.key : Int)) ∧ w.cell? ⟨b, o + 37, none⟩ = some (.int .u64 (x.r : Int)) ∧ w.cell? ⟨b, o + 38, none⟩ = some (.int .u64 (x.s : Int)) := by
  obtain ⟨r1, r2⟩ := rangeAt_app R
  obtain ⟨f0, r1⟩ := rangeAt_cons r1
  obtain ⟨f1, r1⟩ := rangeAt_cons r1
  obtain ⟨f2, r1⟩ := rangeAt_cons r1
  obtain ⟨f3, _⟩ := rangeAt_cons r1
  obtain ⟨f4, r2⟩ := rangeAt_app r2
  obtain ⟨f5, r2⟩ := rangeAt_cons r2
  obtain ⟨f6, r2⟩ := rangeAt_cons r2
  obtain ⟨f7, _⟩ := rangeAt_cons r2
  rw [bv_length, ox.block] at f5 f6 f7
  exact ⟨f0, f1, f2, f3, f4, f5, f6, f7⟩
theorem pk_facts {w : World} {b o : Nat} {x : Pk} (R : w.rangeAt b o x.cells) : w.cell? ⟨b, o, none⟩ = some (.int .i64 x.seq) ∧ w.cell? ⟨b, o + 1, none⟩ = some (.string x.from) ∧ w.cell? ⟨b, o + 2, none⟩ = some (.string x.data) ∧ w.cell? ⟨b, o + 3, none⟩ = some (.int .i64 x.timeout) := by
  obtain ⟨f0, r1⟩ := rangeAt_cons R
  obtain ⟨f1, r1⟩ := rangeAt_cons r1
  obtain ⟨f2, r1⟩ := rangeAt_cons r1
  obtain ⟨f3, _⟩ := rangeAt_cons r1
  exact ⟨f0, f1, f2, f3⟩
theorem hd_facts {w : World} {b o : Nat} {x : Hd} (R : w.rangeAt b o x.cells) (ox : x.Ok) : w.cell? ⟨b, o, none⟩ = some (.string x.chain) ∧ w.cell? ⟨b, o + 1, none⟩ = some (.int .i64 x.height) ∧ w.cell? ⟨b, o + 2, none⟩ = some (.int .i64 x.time) ∧ w.rangeAt b (o + 3) (bv x.last) ∧ w.rangeAt b (o + 35) (bv x.set) ∧ w.rangeAt b (o + 67) (bv x.next) ∧ w.rangeAt b (o + 99) (bv x.data) ∧ w.rangeAt b (o + 131) (bv x.app) := by
  obtain ⟨r1, r2⟩ := rangeAt_app R
  obtain ⟨f0, r1⟩ := rangeAt_cons r1
  obtain ⟨f1, r1⟩ := rangeAt_cons r1
  obtain ⟨f2, r1⟩ := rangeAt_cons r1
  obtain ⟨f3, r2⟩ := rangeAt_app r2
  obtain ⟨f4, r2⟩ := rangeAt_app r2
  obtain ⟨f5, r2⟩ := rangeAt_app r2
  obtain ⟨f6, f7⟩ := rangeAt_app r2
  simp only [bv_length, ox.last, ox.set, ox.next, ox.data] at f4 f5 f6 f7
  exact ⟨f0, f1, f2, f3, f4, f5, f6, f7⟩

end Go.Proofs.Ytoafchfpnaojmaa

/- Package forms: encoded[T]: the bytes of what was gone through, or the error. -/
namespace Go.Proofs.Ytoafchfpnaojmaa
open Go.RowKit
set_option linter.unusedVariables false
set_option linter.unusedSimpArgs false
set_option maxRecDepth 20000

theorem results_two {fn : Func} {p q : Tmp} {t u : TypeId} (h : fn.results = #[.cell p t, .cell q u]) (tmps : Array Value) (P : Program) (w : World) (a b : Addr) (x y : Value)
    (hp : tmps.getD p undef = .pointer (some a)) (hq : tmps.getD q undef = .pointer (some b)) (hx : (loadVar t a).run P w = .ok x w) (hy : (loadVar u b).run P w = .ok y w) : (results fn tmps).run P w = .ok (.tuple #[x, y]) w := by
  have hp' : tmps[p]?.getD undef = .pointer (some a) := by simpa using hp
  have hq' : tmps[q]?.getD undef = .pointer (some b) := by simpa using hq
  simp [results, h, hp', hq', asAddr, hx, hy]
theorem load_bytes {w : World} {a : Addr} {v : Value} (h : w.cell? a = some v) : (loadVar 33 a).run Try.prog w = .ok v w := by
  have hagg : (isAgg 33).run Try.prog w = .ok false w := by
    unfold isAgg
    rw [Sem.run_bind, run_underlying Try.underlying33 w]
    rfl
  simp [loadVar, Sem.run_bind, hagg, h]
theorem load_errno {w : World} {a : Addr} {v : Value} (h : w.cell? a = some v) : (loadVar 34 a).run Try.prog w = .ok v w := by
  have hagg : (isAgg 34).run Try.prog w = .ok false w := by
    unfold isAgg
    rw [Sem.run_bind, run_underlying Try.underlying34 w]
    rfl
  simp [loadVar, Sem.run_bind, hagg, h]

/-- What encoding leaves: new bytes, or the error. -/
def Enc (w : World) (ok : Bool) (bs : List UInt8) (e : Ending) (w' : World) : Prop :=
  Chg Non w w' ∧ match ok with
    | true => ∃ v, e = .returned (.tuple #[v, .int .i64 0]) ∧ Own 5 w' v bs ∧ ∀ k, vbl v k → w.heap.size ≤ k
    | false => e = .returned (.tuple #[.slice none 0 0, .int .i64 61])

/-- The two results and the writer. -/
def ew (w : World) : World := ((w.alloc (.cells #[.slice none 0 0] 33)).alloc (.cells #[.int .i64 0] 34)).alloc (.cells #[.slice none 0 0, .bool false] 82)
theorem ew_chg (w : World) : Chg Non w (ew w) := (((Chg.refl Non w).alloc _).alloc _).alloc _
theorem ew_b (w : World) : Hb (ew w) w.heap.size 33 #[.slice none 0 0] := ((Hb.new w _ _).alloc _).alloc _
theorem ew_e (w : World) : Hb (ew w) (w.heap.size + 1) 34 #[.int .i64 0] := by
  have h := (Hb.new (w.alloc (.cells #[.slice none 0 0] 33)) 34 #[.int .i64 0]).alloc (.cells #[.slice none 0 0, .bool false] 82)
  rwa [show (w.alloc (.cells #[.slice none 0 0] 33)).heap.size = w.heap.size + 1 by simp] at h
theorem ew_w (w : World) : Wri (ew w) (w.heap.size + 2) (.slice none 0 0) (some []) := by
  have h := wri_new ((w.alloc (.cells #[.slice none 0 0] 33)).alloc (.cells #[.int .i64 0] 34))
  rwa [show ((w.alloc (.cells #[.slice none 0 0] 33)).alloc (.cells #[.int .i64 0] 34)).heap.size = w.heap.size + 2 by simp] at h
theorem ew_nb {w : World} {k : Nat} (h : k < w.heap.size + 2) : ¬ Wft (w.heap.size + 2) (.slice none 0 0) k := by
  rintro (rfl | h2)
  · omega
  · cases h2


theorem catchEP_Packet (w : World) (p q : Nat) (x y : Value) (v : Value) (u : TypeId) (older : List PanicEntry) (hp : Hb w p 33 #[x]) (hq : Hb w q 34 #[y]) (hpq : q ≠ p) :
    CallsD Try.prog 22 #[.pointer (some ⟨p, 0, none⟩), .pointer (some ⟨q, 0, none⟩)] (.panicking ({ v := .iface u v, recovered := false } :: older)) w fun e u' w' =>
      e = .returned (.tuple #[]) ∧ u' = .panicking ({ v := .iface u v, recovered := true } :: older) ∧ w' = (w.setCell ⟨p, 0, none⟩ (.slice none 0 0)).setCell ⟨q, 0, none⟩ (.int .i64 61) := by
  have c0 : w.cell? ⟨p, 0, none⟩ = some x := hp.cell 0
  have c1 : w.cell? ⟨q, 0, none⟩ = some y := hq.cell 0
  have f0 : w.frozen? ⟨p, 0, none⟩ = false := hp.frozen 0
  have f1 : w.frozen? ⟨q, 0, none⟩ = false := hq.frozen 0
  refine callsD_of_wpS Try.func22 rfl fun c₀ cs hu => ?_
  apply wpS_seq
  apply wpS_region
  simp [wpOpsS, go_sem, recoverD, hu, Try.ntmps22, Exit.thenS]
  refine wpS_cond (t := true) (by simp [Act.eval, Array.replicate]) ?_
  simp only [if_true]
  refine wpS_of_wp ?_
  go_wp2
  exact ⟨rfl, _, rfl, .tuple #[], by simp [results, Try.results22], rfl, rfl, rfl⟩

theorem catchEI_Packet (w : World) (p q : Addr) : CallsD Try.prog 22 #[.pointer (some p), .pointer (some q)] .returning w fun e u' w' => e = .returned (.tuple #[]) ∧ u' = .returning ∧ w' = w := by
  refine callsD_of_wpS Try.func22 rfl fun c₀ cs hu => ?_
  apply wpS_seq
  apply wpS_region
  simp [wpOpsS, go_sem, recoverD, hu, Try.ntmps22, Exit.thenS]
  refine wpS_cond (t := false) (by simp [Act.eval, Array.replicate]) ?_
  simp only [Bool.false_eq_true, if_false]
  refine wpS_of_wp (wp_skip ?_)
  cases c₀
  simp_all [bodyPostS, results, Try.results22]

theorem encoded_Packet (w : World) (b : Addr) (ok : Bool) (bs : List UInt8) (hbs : ok = true → bs.length ≤ 1000000000)
    (H : ∀ (w1 : World) (g : Nat), Chg Non w w1 → w.heap.size ≤ g → Wri w1 g (.slice none 0 0) (some []) → Calls Try.prog 12 #[.agg #[.pointer (some ⟨g, 0, none⟩), .pointer none], .pointer (some b)] w1 (WO w1 g (.slice none 0 0) ok bs)) :
    Calls Try.prog 11 #[.pointer (some b), .func (.func 12) #[] #[]] w (Enc w ok bs) := by
  have hmf := mkf
  have hC0 := ew_chg w
  have hb0 := ew_b w
  have he0 := ew_e w
  have H1 := H (ew w) (w.heap.size + 2) hC0 (by omega) (ew_w w)
  have nb := ew_nb (w := w) (k := w.heap.size) (by omega)
  have ne := ew_nb (w := w) (k := w.heap.size + 1) (by omega)
  clear H
  have HH := Lib.hid H1
  clear H1
  go_enter_defers Try.func11, Try.ntmps11
  go_wp2_with (go_at_call 23; refine (newWriter_any _).mono ?_; rintro e w' ⟨rfl, rfl⟩)
  have hew : ew w = ((w.alloc (.cells #[.slice none 0 0] 33)).alloc (.cells #[.int .i64 0] 34)).alloc (.cells #[.slice none 0 0, .bool false] 82) := rfl
  rw [← hew]
  clear hew
  generalize ew w = w1 at *
  refine HH.out.mono ?_
  rintro e w2 h2
  rcases h2.cases with ⟨rfl, rfl, C⟩ | ⟨rfl, rfl, v2, T⟩
  · have hb2 := hb0.chg C nb
    have he2 := he0.chg C ne
    go_wp2
    refine leaves_cons (f := 22) (args := #[.pointer (some ⟨w.heap.size, 0, none⟩), .pointer (some ⟨w.heap.size + 1, 0, none⟩)]) (by simp) (by simp [go_sem]) ?_
    refine (catchEP_Packet w2 w.heap.size (w.heap.size + 1) _ _ _ _ _ hb2 he2 (by omega)).mono ?_
    rintro e u' w'' ⟨rfl, rfl, rfl⟩
    have hb3 := (hb2.set 0 (.slice none 0 0)).far (p := ⟨w.heap.size + 1, 0, none⟩) (by simp) (.int .i64 61)
    have he3 := (he2.far (p := ⟨w.heap.size, 0, none⟩) (by simp) (.slice none 0 0)).set 0 (.int .i64 61)
    refine ⟨_, results_two rfl _ _ _ ⟨w.heap.size, 0, none⟩ ⟨w.heap.size + 1, 0, none⟩ _ _ rfl rfl (load_bytes (hb3.cell 0)) (load_errno (he3.cell 0)), ?_, rfl⟩
    have C1 : Chg Non w w2 := (hC0.trans C (fun j hj => .inr (by rcases hj with rfl | hj; omega; cases hj)))
    exact (C1.setCell (p := ⟨w.heap.size, 0, none⟩) (.inr (Nat.le_refl _)) _).setCell (p := ⟨w.heap.size + 1, 0, none⟩) (.inr (by simp)) _
  · have hb2 := hb0.chg T.chg nb
    have he2 := he0.chg T.chg ne
    have C1 : Chg Non w w2 := (hC0.trans T.chg (fun j hj => .inr (by rcases hj with rfl | hj; omega; cases hj)))
    have hlen := hbs rfl
    clear hb0 he0
    go_wp2_with fail
    refine (bytes_some _ (w.heap.size + 2) v2 bs T.wri hlen).mono ?_
    rintro e w3 ⟨v3, rfl, ho3, hl3, hc3⟩
    have hb3 := hb2.chg hc3 (fun f => f)
    have he3 := he2.chg hc3 (fun f => f)
    have c0 : w3.cell? ⟨w.heap.size, 0, none⟩ = some (.slice none 0 0) := hb3.cell 0
    have c1 : w3.cell? ⟨w.heap.size + 1, 0, none⟩ = some (.int .i64 0) := he3.cell 0
    have f0 : w3.frozen? ⟨w.heap.size, 0, none⟩ = false := hb3.frozen 0
    have f1 : w3.frozen? ⟨w.heap.size + 1, 0, none⟩ = false := he3.frozen 0
    obtain ⟨A, c, rfl, _⟩ := ho3.slice
    go_wp2_with (go_at_call 25; refine (insist_yes _).mono ?_; rintro e w5 ⟨rfl, rfl⟩)
    refine leaves_cons (f := 22) (args := #[.pointer (some ⟨w.heap.size, 0, none⟩), .pointer (some ⟨w.heap.size + 1, 0, none⟩)]) (by simp) (by simp [go_sem]) ?_
    refine (catchEI_Packet _ ⟨w.heap.size, 0, none⟩ ⟨w.heap.size + 1, 0, none⟩).mono ?_
    rintro e u' w'' ⟨rfl, rfl, rfl⟩
    have hb4 := (((hb3.set 0 (.slice A bs.length c)).far (p := ⟨w.heap.size + 1, 0, none⟩) (by simp) (.int .i64 0)).set 0 (.slice A bs.length c)).far (p := ⟨w.heap.size + 1, 0, none⟩) (by simp) (.int .i64 0)
    have he4 := (((he3.far (p := ⟨w.heap.size, 0, none⟩) (by simp) (.slice A bs.length c)).set 0 (.int .i64 0)).far (p := ⟨w.heap.size, 0, none⟩) (by simp) (.slice A bs.length c)).set 0 (.int .i64 0)
    have K := ((((Chg.refl (fun k => k = w.heap.size ∨ k = w.heap.size + 1) w3).setCell (p := ⟨w.heap.size, 0, none⟩) (.inl (.inl rfl)) (.slice A bs.length c)).setCell (p := ⟨w.heap.size + 1, 0, none⟩) (.inl (.inr rfl)) (.int .i64 0)).setCell (p := ⟨w.heap.size, 0, none⟩) (.inl (.inl rfl)) (.slice A bs.length c)).setCell (p := ⟨w.heap.size + 1, 0, none⟩) (.inl (.inr rfl)) (.int .i64 0)
    have hlt := he2.lt
    refine ⟨_, results_two rfl _ _ _ ⟨w.heap.size, 0, none⟩ ⟨w.heap.size + 1, 0, none⟩ _ _ rfl rfl (load_bytes (hb4.cell 0)) (load_errno (he4.cell 0)), (C1.trans hc3 (fun _ f => f.elim)).trans K (fun j hj => .inr (by omega)), _, rfl, ho3.chg K (fun j hj => ?_), fun k hk => ?_⟩
    · have := hl3 j hj; omega
    · have := hl3 k hk; omega


theorem catchEP_Proof (w : World) (p q : Nat) (x y : Value) (v : Value) (u : TypeId) (older : List PanicEntry) (hp : Hb w p 33 #[x]) (hq : Hb w q 34 #[y]) (hpq : q ≠ p) :
    CallsD Try.prog 32 #[.pointer (some ⟨p, 0, none⟩), .pointer (some ⟨q, 0, none⟩)] (.panicking ({ v := .iface u v, recovered := false } :: older)) w fun e u' w' =>
      e = .returned (.tuple #[]) ∧ u' = .panicking ({ v := .iface u v, recovered := true } :: older) ∧ w' = (w.setCell ⟨p, 0, none⟩ (.slice none 0 0)).setCell ⟨q, 0, none⟩ (.int .i64 61) := by
  have c0 : w.cell? ⟨p, 0, none⟩ = some x := hp.cell 0
  have c1 : w.cell? ⟨q, 0, none⟩ = some y := hq.cell 0
  have f0 : w.frozen? ⟨p, 0, none⟩ = false := hp.frozen 0
  have f1 : w.frozen? ⟨q, 0, none⟩ = false := hq.frozen 0
  refine callsD_of_wpS Try.func32 rfl fun c₀ cs hu => ?_
  apply wpS_seq
  apply wpS_region
  simp [wpOpsS, go_sem, recoverD, hu, Try.ntmps32, Exit.thenS]
  refine wpS_cond (t := true) (by simp [Act.eval, Array.replicate]) ?_
  simp only [if_true]
  refine wpS_of_wp ?_
  go_wp2
  exact ⟨rfl, _, rfl, .tuple #[], by simp [results, Try.results32], rfl, rfl, rfl⟩

theorem catchEI_Proof (w : World) (p q : Addr) : CallsD Try.prog 32 #[.pointer (some p), .pointer (some q)] .returning w fun e u' w' => e = .returned (.tuple #[]) ∧ u' = .returning ∧ w' = w := by
  refine callsD_of_wpS Try.func32 rfl fun c₀ cs hu => ?_
  apply wpS_seq
  apply wpS_region
  simp [wpOpsS, go_sem, recoverD, hu, Try.ntmps32, Exit.thenS]
  refine wpS_cond (t := false) (by simp [Act.eval, Array.replicate]) ?_
  simp only [Bool.false_eq_true, if_false]
  refine wpS_of_wp (wp_skip ?_)
  cases c₀
  simp_all [bodyPostS, results, Try.results32]

theorem encoded_Proof (w : World) (b : Addr) (ok : Bool) (bs : List UInt8) (hbs : ok = true → bs.length ≤ 1000000000)
    (H : ∀ (w1 : World) (g : Nat), Chg Non w w1 → w.heap.size ≤ g → Wri w1 g (.slice none 0 0) (some []) → Calls Try.prog 18 #[.agg #[.pointer (some ⟨g, 0, none⟩), .pointer none], .pointer (some b)] w1 (WO w1 g (.slice none 0 0) ok bs)) :
    Calls Try.prog 17 #[.pointer (some b), .func (.func 18) #[] #[]] w (Enc w ok bs) := by
  have hmf := mkf
  have hC0 := ew_chg w
  have hb0 := ew_b w
  have he0 := ew_e w
  have H1 := H (ew w) (w.heap.size + 2) hC0 (by omega) (ew_w w)
  have nb := ew_nb (w := w) (k := w.heap.size) (by omega)
  have ne := ew_nb (w := w) (k := w.heap.size + 1) (by omega)
  clear H
  have HH := Lib.hid H1
  clear H1
  go_enter_defers Try.func17, Try.ntmps17
  go_wp2_with (go_at_call 23; refine (newWriter_any _).mono ?_; rintro e w' ⟨rfl, rfl⟩)
  have hew : ew w = ((w.alloc (.cells #[.slice none 0 0] 33)).alloc (.cells #[.int .i64 0] 34)).alloc (.cells #[.slice none 0 0, .bool false] 82) := rfl
  rw [← hew]
  clear hew
  generalize ew w = w1 at *
  refine HH.out.mono ?_
  rintro e w2 h2
  rcases h2.cases with ⟨rfl, rfl, C⟩ | ⟨rfl, rfl, v2, T⟩
  · have hb2 := hb0.chg C nb
    have he2 := he0.chg C ne
    go_wp2
    refine leaves_cons (f := 32) (args := #[.pointer (some ⟨w.heap.size, 0, none⟩), .pointer (some ⟨w.heap.size + 1, 0, none⟩)]) (by simp) (by simp [go_sem]) ?_
    refine (catchEP_Proof w2 w.heap.size (w.heap.size + 1) _ _ _ _ _ hb2 he2 (by omega)).mono ?_
    rintro e u' w'' ⟨rfl, rfl, rfl⟩
    have hb3 := (hb2.set 0 (.slice none 0 0)).far (p := ⟨w.heap.size + 1, 0, none⟩) (by simp) (.int .i64 61)
    have he3 := (he2.far (p := ⟨w.heap.size, 0, none⟩) (by simp) (.slice none 0 0)).set 0 (.int .i64 61)
    refine ⟨_, results_two rfl _ _ _ ⟨w.heap.size, 0, none⟩ ⟨w.heap.size + 1, 0, none⟩ _ _ rfl rfl (load_bytes (hb3.cell 0)) (load_errno (he3.cell 0)), ?_, rfl⟩
    have C1 : Chg Non w w2 := (hC0.trans C (fun j hj => .inr (by rcases hj with rfl | hj; omega; cases hj)))
    exact (C1.setCell (p := ⟨w.heap.size, 0, none⟩) (.inr (Nat.le_refl _)) _).setCell (p := ⟨w.heap.size + 1, 0, none⟩) (.inr (by simp)) _
  · have hb2 := hb0.chg T.chg nb
    have he2 := he0.chg T.chg ne
    have C1 : Chg Non w w2 := (hC0.trans T.chg (fun j hj => .inr (by rcases hj with rfl | hj; omega; cases hj)))
    have hlen := hbs rfl
    clear hb0 he0
    go_wp2_with fail
    refine (bytes_some _ (w.heap.size + 2) v2 bs T.wri hlen).mono ?_
    rintro e w3 ⟨v3, rfl, ho3, hl3, hc3⟩
    have hb3 := hb2.chg hc3 (fun f => f)
    have he3 := he2.chg hc3 (fun f => f)
    have c0 : w3.cell? ⟨w.heap.size, 0, none⟩ = some (.slice none 0 0) := hb3.cell 0
    have c1 : w3.cell? ⟨w.heap.size + 1, 0, none⟩ = some (.int .i64 0) := he3.cell 0
    have f0 : w3.frozen? ⟨w.heap.size, 0, none⟩ = false := hb3.frozen 0
    have f1 : w3.frozen? ⟨w.heap.size + 1, 0, none⟩ = false := he3.frozen 0
    obtain ⟨A, c, rfl, _⟩ := ho3.slice
    go_wp2_with (go_at_call 25; refine (insist_yes _).mono ?_; rintro e w5 ⟨rfl, rfl⟩)
    refine leaves_cons (f := 32) (args := #[.pointer (some ⟨w.heap.size, 0, none⟩), .pointer (some ⟨w.heap.size + 1, 0, none⟩)]) (by simp) (by simp [go_sem]) ?_
    refine (catchEI_Proof _ ⟨w.heap.size, 0, none⟩ ⟨w.heap.size + 1, 0, none⟩).mono ?_
    rintro e u' w'' ⟨rfl, rfl, rfl⟩
    have hb4 := (((hb3.set 0 (.slice A bs.length c)).far (p := ⟨w.heap.size + 1, 0, none⟩) (by simp) (.int .i64 0)).set 0 (.slice A bs.length c)).far (p := ⟨w.heap.size + 1, 0, none⟩) (by simp) (.int .i64 0)
    have he4 := (((he3.far (p := ⟨w.heap.size, 0, none⟩) (by simp) (.slice A bs.length c)).set 0 (.int .i64 0)).far (p := ⟨w.heap.size, 0, none⟩) (by simp) (.slice A bs.length c)).set 0 (.int .i64 0)
    have K := ((((Chg.refl (fun k => k = w.heap.size ∨ k = w.heap.size + 1) w3).setCell (p := ⟨w.heap.size, 0, none⟩) (.inl (.inl rfl)) (.slice A bs.length c)).setCell (p := ⟨w.heap.size + 1, 0, none⟩) (.inl (.inr rfl)) (.int .i64 0)).setCell (p := ⟨w.heap.size, 0, none⟩) (.inl (.inl rfl)) (.slice A bs.length c)).setCell (p := ⟨w.heap.size + 1, 0, none⟩) (.inl (.inr rfl)) (.int .i64 0)
    have hlt := he2.lt
    refine ⟨_, results_two rfl _ _ _ ⟨w.heap.size, 0, none⟩ ⟨w.heap.size + 1, 0, none⟩ _ _ rfl rfl (load_bytes (hb4.cell 0)) (load_errno (he4.cell 0)), (C1.trans hc3 (fun _ f => f.elim)).trans K (fun j hj => .inr (by omega)), _, rfl, ho3.chg K (fun j hj => ?_), fun k hk => ?_⟩
    · have := hl3 j hj; omega
    · have := hl3 k hk; omega

end Go.Proofs.Ytoafchfpnaojmaa

/- Package forms: words for decoded[T]. -/
namespace Go.Proofs.Ytoafchfpnaojmaa
open Go.RowKit
set_option linter.unusedVariables false
set_option linter.unusedSimpArgs false
set_option maxRecDepth 20000


theorem wpList_alloc_row {ops : Array Oper} {rest : List Oper} {o : Oper} {a : Act} {w : World} {Q : Exit → Act → World → Prop} (hgd : o.guard = none) (ty : TypeId) (ho : o.op = .alloc ty) (z : List Value)
    (hz : (Instr.alloc ty true (.tuple #[])).run Try.prog w = .ok (.pointer (some ⟨w.heap.size, 0, none⟩)) (w.alloc (.cells z.toArray ty)))
    (hK : wpList Try.prog ops Q rest (a.put o.dst (.pointer (some ⟨w.heap.size, 0, none⟩))) (w.alloc (.cells z.toArray ty))) : wpList Try.prog ops Q (o :: rest) a w := by
  refine wpList_plain hgd fun K hK' => ?_
  unfold Oper.wp execOp
  simp only [ho, Sem.run_bind, Sem.run_pure, Result.andThen_ok, hz]
  exact hK' _ _ hK
theorem wpList_box_row {ops : Array Oper} {rest : List Oper} {o : Oper} {a : Act} {w : World} {Q : Exit → Act → World → Prop} (hgd : o.guard = none) (ty : TypeId) (x : Operand) (ho : o.op = .box ty x) {cs : Array Value} (hx : a.eval x = .agg cs)
    (hK : ∀ w1, Hid (w1 = w.alloc (.cells cs ty)) → wpList Try.prog ops Q rest (a.put o.dst (.pointer (some ⟨w.heap.size, 0, none⟩))) w1) : wpList Try.prog ops Q (o :: rest) a w := by
  refine wpList_plain hgd fun K hK' => ?_
  unfold Oper.wp execOp
  simp only [ho, hx, Sem.run_bind, Sem.run_pure, Instr.box]
  exact hK' _ _ (hK _ (Lib.hid rfl))
theorem wpList_load_w {ops : Array Oper} {rest : List Oper} {op : Oper} {a : Act} {w : World} {Q : Exit → Act → World → Prop} (ty : TypeId) (x : Operand) (ho : op.op = .load ty x) (hw : Region.wanted op (yielded ops a.tmps) = true)
    (b o : Nat) (hx : a.eval x = .pointer (some ⟨b, o, none⟩)) (cs : List Value) (d : TypeDesc) (hc : w.rangeAt b o cs)
    (hu : Try.prog.underlying ty = some d) (hd : d.isRow = true) (hi : (Try.prog.info? ty).map (·.size) = some cs.length)
    (h : wpList Try.prog ops Q rest (a.put op.dst (.agg cs.toArray)) w) : wpList Try.prog ops Q (op :: rest) a w := by
  unfold wpList
  rw [if_pos hw]
  exact .inl (wp_load_mid ty x ho b o hx cs d hc hu hd hi h)
theorem Hb.range0 {w : World} {b : Nat} {t : TypeId} {L : List Value} (h : Hb w b t L.toArray) : w.rangeAt b 0 L := by
  intro j u hu
  rw [Nat.zero_add, h.cell]
  simpa using hu
theorem Hb.there0 {w : World} {b : Nat} {t : TypeId} {L : List Value} (h : Hb w b t L.toArray) : w.there b 0 L.length := by
  intro j hj
  refine ⟨?_, h.frozen _⟩
  rw [Nat.zero_add, h.cell, List.getElem?_toArray, List.getElem?_eq_getElem hj]
  rfl
theorem Hb.sets0 {w : World} {b : Nat} {t : TypeId} {L L' : List Value} (h : Hb w b t L.toArray) (hl : L.length = L'.length) : Hb (w.setCells b 0 L') b t L'.toArray := by
  have := Hb.setCells L' L [] [] w hl (by simpa using h)
  simpa using this
theorem Hb.farCells {w : World} {b tb : Nat} {t : TypeId} {cs : Array Value} (h : Hb w b t cs) (hne : b ≠ tb) (vs : List Value) (o : Nat) : Hb (w.setCells tb o vs) b t cs :=
  h.chg (Chg.setCells (S := fun k => k = tb) rfl vs w o (Chg.refl _ w)) hne
theorem one_mem {L : List Value} (h : ∀ v ∈ L, v.oneCell' = true) : L.toArray.all (·.oneCell') = true := all_oneCell_toArray h

/-- What was read, if nothing stands behind it. -/
def whole {α : Type} (r : Option (α × St)) : Option α := match r with | some (x, some []) => some x | _ => none
/-- What decoding leaves: the thing's cells, or none and the error. -/
def Dec (w : World) (z : List Value) (r : Option (List Value)) (e : Ending) (w' : World) : Prop :=
  Chg Non w w' ∧ e = (match r with | some L => .returned (.tuple #[.agg L.toArray, .int .i64 0]) | none => .returned (.tuple #[.agg z.toArray, .int .i64 61]))
/-- The two results. -/
def dw (w : World) (z : List Value) (t : TypeId) : World := (w.alloc (.cells z.toArray t)).alloc (.cells #[.int .i64 0] 34)
theorem dw_chg (w : World) (z : List Value) (t : TypeId) : Chg Non w (dw w z t) := ((Chg.refl Non w).alloc _).alloc _
theorem dw_b (w : World) (z : List Value) (t : TypeId) : Hb (dw w z t) w.heap.size t z.toArray := (Hb.new w _ _).alloc _
theorem dw_e (w : World) (z : List Value) (t : TypeId) : Hb (dw w z t) (w.heap.size + 1) 34 #[.int .i64 0] := by
  have h := Hb.new (w.alloc (.cells z.toArray t)) 34 #[.int .i64 0]
  rwa [show (w.alloc (.cells z.toArray t)).heap.size = w.heap.size + 1 by simp] at h
theorem endv_eq (st : St) : (endv st == 0) = decide (st = some []) := by
  unfold endv
  by_cases h : st = some []
  · rw [if_pos h, decide_eq_true h]; rfl
  · rw [if_neg h, decide_eq_false h]; rfl
theorem load_row {w : World} {b : Nat} {t ty : TypeId} {L : List Value} {d : TypeDesc} (h : Hb w b t L.toArray) (hu : Try.prog.underlying ty = some d) (hd : d.isRow = true) (hi : (Try.prog.info? ty).map (·.size) = some L.length) : (loadVar ty ⟨b, 0, none⟩).run Try.prog w = .ok (.agg L.toArray) w :=
  run_loadVar_mid w b 0 ty L d h.range0 hu hd hi
end Go.Proofs.Ytoafchfpnaojmaa

/- Package forms: votes, read: contracts. -/
namespace Go.Proofs.Ytoafchfpnaojmaa
open Go.RowKit
set_option linter.unusedVariables false
set_option linter.unusedSimpArgs false
set_option maxRecDepth 20000

theorem Rst.eq {W w : World} {g : Nat} {F : Nat → Prop} {tb : Nat} {t : TypeId} {L L' : List Value} {st : St} (S : Rst W g F tb t L st w) (h : L = L') : Rst W g F tb t L' st w := h ▸ S

theorem vote_r_old {old : List Value} (h : old.length = 39) : ∃ (a0 : Value) (a1 : Value) (a2 : Value) (a3 : Value) (o4 : List Value) (a5 : Value) (a6 : Value) (a7 : Value), old = [a0] ++ [a1] ++ [a2] ++ [a3] ++ o4 ++ [a5] ++ [a6] ++ [a7] ∧ o4.length = 32 ∧ True := by
  refine ⟨(old[0]'(by omega)), (old[1]'(by omega)), (old[2]'(by omega)), (old[3]'(by omega)), ((old.drop 4).take 32), (old[36]'(by omega)), (old[37]'(by omega)), (old[38]'(by omega)), ?_, by simp; omega, trivial⟩
  apply List.ext_getElem?
  intro j
  have hone : ∀ (i : Nat) (hi : i < old.length), [old[i]] = (old.drop i).take 1 := by
    intro i hi
    apply List.ext_getElem?
    intro k
    rw [List.getElem?_take, List.getElem?_drop]
    by_cases hk : k < 1
    · obtain rfl : k = 0 := by omega
      simp [List.getElem?_eq_getElem hi]
    · rw [if_neg hk, List.getElem?_eq_none (by simp; omega)]
  simp only [hone]
  have hj : ∀ (a b c : Nat), a + b = c → (old.drop a).take b ++ old.drop c = old.drop a := by
    intro a b c e
    subst e
    rw [← List.drop_drop, List.take_append_drop]
  have he : old.drop 39 = [] := List.drop_of_length_le (by omega)
  have hall : (old.drop 0).take 1 ++ ((old.drop 1).take 1 ++ ((old.drop 2).take 1 ++ ((old.drop 3).take 1 ++ ((old.drop 4).take 32 ++ ((old.drop 36).take 1 ++ ((old.drop 37).take 1 ++ ((old.drop 38).take 1 ++ old.drop 39))))))) = old := by
    rw [hj 38 1 39 rfl, hj 37 1 38 rfl, hj 36 1 37 rfl, hj 4 32 36 rfl, hj 3 1 4 rfl, hj 2 1 3 rfl, hj 1 1 2 rfl, hj 0 1 1 rfl]
    rfl
  rw [he, List.append_nil] at hall
  conv => lhs; rw [← hall]
  try simp only [List.append_assoc]

end Go.Proofs.Ytoafchfpnaojmaa
