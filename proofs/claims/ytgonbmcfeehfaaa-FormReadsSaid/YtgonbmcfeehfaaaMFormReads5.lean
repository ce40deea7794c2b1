import Derived.Test.YtgonbmcfeehfaaaChecked
import Derived.WalkKit
import Derived.WalkLawsBesides
import Derived.Lib.Hide
import Derived.Deep.MidRow
import Derived.Deep.RegionHeld3
import Derived.Recover
import Derived.Test.YtgonbmcfeehfaaaMFormReads4
/- Package forms: what its small functions leave, reading: contracts. -/
namespace Go.Proofs.Ytgonbmcfeehfaaa
open Go.RowKit
set_option linter.unusedVariables false
set_option linter.unusedSimpArgs false
set_option maxRecDepth 20000

/-- The reader's block, and the block that is read into. -/
def Two (g tb : Nat) (k : Nat) : Prop := k = g ∨ k = tb
/-- A reader, and a row that is read into, behind what was done since the world W. -/
structure Rst (W : World) (g : Nat) (F : Nat → Prop) (tb : Nat) (t : TypeId) (L : List Value) (st : St) (w : World) : Prop where
  rdr : Rdr w g F st
  row : Hb w tb t L.toArray
  chg : Chg (Two g tb) W w
  ne : tb ≠ g
  nF : ¬ F tb
theorem Rst.trans {W w w' : World} {g : Nat} {F : Nat → Prop} {tb : Nat} {t : TypeId} {L L' : List Value} {st st' : St} (S : Rst W g F tb t L st w) (T : Rst w g F tb t L' st' w') : Rst W g F tb t L' st' w' := ⟨T.rdr, T.row, S.chg.trans T.chg (fun _ h => .inl h), T.ne, T.nF⟩
theorem Rst.non {W w w' : World} {g : Nat} {F : Nat → Prop} {tb : Nat} {t : TypeId} {L : List Value} {st : St} (S : Rst W g F tb t L st w) (k : Chg Non w w') : Rst W g F tb t L st w' := ⟨S.rdr.chg k (fun f => f) (fun _ _ f => f), S.row.chg k (fun f => f), S.chg.trans k (fun _ f => f.elim), S.ne, S.nF⟩
theorem Rst.here {W w : World} {g : Nat} {F : Nat → Prop} {tb : Nat} {t : TypeId} {L : List Value} {st : St} (S : Rst W g F tb t L st w) : Rst w g F tb t L st w := ⟨S.rdr, S.row, Chg.refl _ _, S.ne, S.nF⟩
/-- A call on the reader alone. -/
theorem Rst.read {W w w' : World} {g : Nat} {F : Nat → Prop} {tb : Nat} {t : TypeId} {L : List Value} {st st' : St} (S : Rst W g F tb t L st w) (h1 : Rdr w' g F st') (h2 : Chg (Eqg g) w w') : Rst W g F tb t L st' w' :=
  ⟨h1, S.row.chg h2 (fun e => S.ne e), S.chg.trans h2 (fun j hj => .inl (.inl hj)), S.ne, S.nF⟩
theorem row_set (p : List Value) (x u : Value) (q : List Value) : (p ++ x :: q).toArray.setIfInBounds p.length u = (p ++ u :: q).toArray := by simp
theorem Rst.set {W w : World} {g : Nat} {F : Nat → Prop} {tb : Nat} {t : TypeId} {p q : List Value} {x : Value} {st : St} (S : Rst W g F tb t (p ++ x :: q) st w) {o : Nat} (ho : o = p.length) (u : Value) : Rst W g F tb t (p ++ u :: q) st (w.setCell ⟨tb, o, none⟩ u) := by
  subst ho
  refine ⟨S.rdr.chg ((Chg.refl (fun k => k = tb) w).setCell (p := ⟨tb, _, none⟩) (.inl rfl) _) (fun e => S.ne e.symm) (fun j hj e => S.nF (e ▸ hj)), ?_, S.chg.setCell (p := ⟨tb, _, none⟩) (.inl (.inr rfl)) _, S.ne, S.nF⟩
  rw [← row_set p x u q]
  exact S.row.set _ _
theorem Chg.setCells {S : Nat → Prop} {a : World} {tb : Nat} (hs : S tb) : ∀ (vs : List Value) (b : World) (o : Nat), Chg S a b → Chg S a (b.setCells tb o vs)
  | [], _, _, h => h
  | v :: vs, b, o, h => Chg.setCells hs vs _ _ (h.setCell (p := ⟨tb, o, none⟩) (.inl hs) v)
theorem Hb.setCells {t : TypeId} {tb : Nat} : ∀ (new old p q : List Value) (w : World), old.length = new.length → Hb w tb t (p ++ (old ++ q)).toArray → Hb (w.setCells tb p.length new) tb t (p ++ (new ++ q)).toArray
  | [], old, p, q, w, hl, h => by
    obtain rfl : old = [] := List.eq_nil_of_length_eq_zero hl
    exact h
  | v :: vs, [], p, q, w, hl, h => by simp at hl
  | v :: vs, x :: old, p, q, w, hl, h => by
    have h1 : Hb (w.setCell ⟨tb, p.length, none⟩ v) tb t ((p ++ [v]) ++ (old ++ q)).toArray := by
      have h2 := h.set p.length v
      rw [List.cons_append, row_set] at h2
      simpa using h2
    have h3 := Hb.setCells vs old (p ++ [v]) q _ (by simpa using hl) h1
    rw [List.length_append, List.length_singleton] at h3
    simpa [World.setCells] using h3
theorem Rst.sets {W w : World} {g : Nat} {F : Nat → Prop} {tb : Nat} {t : TypeId} {p q old : List Value} {st : St} (S : Rst W g F tb t (p ++ (old ++ q)) st w) {o : Nat} (ho : o = p.length) (new : List Value) (hl : old.length = new.length) : Rst W g F tb t (p ++ (new ++ q)) st (w.setCells tb o new) := by
  subst ho
  exact ⟨S.rdr.chg (Chg.setCells (S := fun k => k = tb) rfl new w _ (Chg.refl (fun k => k = tb) w)) (fun e => S.ne e.symm) (fun j hj e => S.nF (e ▸ hj)), S.row.setCells new old p q w hl, Chg.setCells (.inr rfl) new w _ S.chg, S.ne, S.nF⟩
theorem Rst.cell {W w : World} {g : Nat} {F : Nat → Prop} {tb : Nat} {t : TypeId} {p q : List Value} {x : Value} {st : St} (S : Rst W g F tb t (p ++ x :: q) st w) {o : Nat} (ho : o = p.length) : w.cell? ⟨tb, o, none⟩ = some x ∧ w.frozen? ⟨tb, o, none⟩ = false := by
  subst ho
  refine ⟨?_, S.row.frozen _⟩
  rw [S.row.cell]
  simp
theorem Rst.there {W w : World} {g : Nat} {F : Nat → Prop} {tb : Nat} {t : TypeId} {p q old : List Value} {st : St} (S : Rst W g F tb t (p ++ (old ++ q)) st w) {o : Nat} (ho : o = p.length) : w.there tb o old.length := by
  subst ho
  intro j hj
  refine ⟨?_, S.row.frozen _⟩
  rw [S.row.cell, List.getElem?_toArray, List.getElem?_append_right (by omega), Nat.add_sub_cancel_left, List.getElem?_append_left hj, List.getElem?_eq_getElem hj]
  rfl
theorem Rst.nw {W w : World} {g : Nat} {F : Nat → Prop} {tb : Nat} {t : TypeId} {L : List Value} {st : St} (S : Rst W g F tb t L st w) {k : Nat} (hk : w.heap.size ≤ k) : ¬ Two g tb k := by
  rintro (rfl | rfl)
  · have := S.rdr.lt; omega
  · have := S.row.lt; omega

/-- What a reading leaves: the row with what was read, and the reader behind it; or the panic, if it is not right. -/
def RO (w : World) (g : Nat) (F : Nat → Prop) (tb : Nat) (t : TypeId) (n : Nat) (r : Option (List Value × St)) (e : Ending) (w' : World) : Prop :=
  match r with
  | some x => e = .returned (.tuple #[]) ∧ Rst w g F tb t x.1 x.2 w'
  | none => e = .panicked bad ∧ Chg (Two g tb) w w' ∧ ∃ L' : List Value, L'.length = n ∧ Hb w' tb t L'.toArray
section
variable {W w w' : World} {g : Nat} {F : Nat → Prop} {tb n : Nat} {t : TypeId} {L : List Value} {st : St} {r : Option (List Value × St)} {e : Ending}
theorem RO.after (S : Rst W g F tb t L st w) (h : RO w g F tb t n r e w') : RO W g F tb t n r e w' := by
  cases r with
  | some x => exact ⟨h.1, S.trans h.2⟩
  | none => exact ⟨h.1, S.chg.trans h.2.1 (fun _ h => .inl h), h.2.2⟩
theorem RO.chg (h : RO w g F tb t n r e w') : Chg (Two g tb) w w' := by
  cases r with
  | some x => exact h.2.chg
  | none => exact h.2.1
theorem RO.cases (h : RO w g F tb t n r e w') : (r = none ∧ e = .panicked bad ∧ Chg (Two g tb) w w' ∧ ∃ L' : List Value, L'.length = n ∧ Hb w' tb t L'.toArray) ∨ (∃ x, r = some x ∧ e = .returned (.tuple #[]) ∧ Rst w g F tb t x.1 x.2 w') := by
  cases r with
  | some x => exact .inr ⟨x, rfl, h.1, h.2⟩
  | none => exact .inl ⟨rfl, h.1, h.2⟩
end

theorem word_r (w : World) (g : Nat) (F : Nat → Prop) (tb o : Nat) (t : TypeId) (p q : List Value) (x : Value) (st : St) (S : Rst w g F tb t (p ++ x :: q) st w) (ho : o = p.length) :
    Calls Try.prog 45 #[.agg #[.pointer none, .pointer (some ⟨g, 0, none⟩)], .pointer (some ⟨tb, o, none⟩)] w (RO w g F tb t (p ++ x :: q).length (some (p ++ .int .u64 (vW st : Int) :: q, nW st))) := by
  have HO := Lib.hid ho
  clear ho
  have S1 := S.non ((Chg.refl Non w).alloc (.cells #[.pointer none, .pointer (some ⟨g, 0, none⟩)] 86))
  have hw := S.nw (Nat.le_refl w.heap.size)
  have hx := Hb.new w 86 #[.pointer none, .pointer (some ⟨g, 0, none⟩)]
  go_enter Try.func45, Try.ntmps45
  go_wp2_with fail
  refine (writes_r _ g).mono ?_
  rintro e w1 ⟨rfl, hC⟩
  have S2 := S1.non hC
  have x1 : w1.cell? ⟨w.heap.size, 1, none⟩ = some (.pointer (some ⟨g, 0, none⟩)) := (hx.chg hC (fun f => f)).cell 1
  clear S1 hx hC
  go_wp2_with fail
  refine (wordR_v _ g F st S2.rdr).mono ?_
  rintro e w2 ⟨rfl, h1, h2⟩
  have S3 := S2.read h1 h2
  obtain ⟨c0, f0⟩ := S3.cell HO.out
  go_wp2
  go_end0
  exact ⟨rfl, S3.set HO.out _⟩

theorem hash_r (w : World) (g : Nat) (F : Nat → Prop) (tb o : Nat) (t : TypeId) (p q old : List Value) (st : St) (S : Rst w g F tb t (p ++ (old ++ q)) st w) (ho : o = p.length) (hold : old.length = 32) :
    Calls Try.prog 44 #[.agg #[.pointer none, .pointer (some ⟨g, 0, none⟩)], .pointer (some ⟨tb, o, none⟩)] w (RO w g F tb t (p ++ (old ++ q)).length (some (p ++ (bv (vH st) ++ q), nH st))) := by
  have HO := Lib.hid ho
  clear ho
  have S1 := S.non ((Chg.refl Non w).alloc (.cells #[.pointer none, .pointer (some ⟨g, 0, none⟩)] 86))
  have hw := S.nw (Nat.le_refl w.heap.size)
  have hx := Hb.new w 86 #[.pointer none, .pointer (some ⟨g, 0, none⟩)]
  go_enter Try.func44, Try.ntmps44
  go_wp2_with fail
  refine (writes_r _ g).mono ?_
  rintro e w1 ⟨rfl, hC⟩
  have S2 := S1.non hC
  have x1 : w1.cell? ⟨w.heap.size, 1, none⟩ = some (.pointer (some ⟨g, 0, none⟩)) := (hx.chg hC (fun f => f)).cell 1
  clear S1 hx hC
  go_wp2_with fail
  refine (hashR_v _ g F st S2.rdr).mono ?_
  rintro e w2 ⟨rfl, h1, h2⟩
  have S3 := S2.read h1 h2
  have ht := S3.there HO.out
  have hvl := vH_length st
  rw [hold] at ht
  go_wp2_with (with_reducible refine wpList_store_mid rfl _ _ _ rfl tb o (bv (vH st)).toArray rfl rfl (by rw [List.size_toArray, bv_length, hvl]; exact ht) (by rw [List.size_toArray, bv_length, hvl]; exact hash_row) (all_oneCell_toArray (bv_one _)) ?_)
  go_end0
  exact ⟨rfl, S3.sets HO.out (bv (vH st)) (by rw [bv_length, hvl, hold])⟩

theorem number_r (w : World) (g : Nat) (F : Nat → Prop) (tb o : Nat) (t : TypeId) (p q : List Value) (x : Value) (st : St) (S : Rst w g F tb t (p ++ x :: q) st w) (ho : o = p.length) (lo hi : Int) :
    Calls Try.prog 56 #[.agg #[.pointer none, .pointer (some ⟨g, 0, none⟩)], .pointer (some ⟨tb, o, none⟩), .int .i64 lo, .int .i64 hi] w (RO w g F tb t (p ++ x :: q).length ((dNum lo hi st).map fun y => (p ++ .int .i64 y.1 :: q, y.2))) := by
  have vb := vN_bounds st
  generalize hr : (dNum lo hi st).map _ = r
  have HR := Lib.hid hr
  clear hr
  have HO := Lib.hid ho
  clear ho
  have S1 := S.non ((Chg.refl Non w).alloc (.cells #[.pointer none, .pointer (some ⟨g, 0, none⟩)] 86))
  have hw := S.nw (Nat.le_refl w.heap.size)
  have hx := Hb.new w 86 #[.pointer none, .pointer (some ⟨g, 0, none⟩)]
  go_enter Try.func56, Try.ntmps56
  go_wp2_with fail
  refine (writes_r _ g).mono ?_
  rintro e w1 ⟨rfl, hC⟩
  have S2 := S1.non hC
  have x1 : w1.cell? ⟨w.heap.size, 1, none⟩ = some (.pointer (some ⟨g, 0, none⟩)) := (hx.chg hC (fun f => f)).cell 1
  clear S1 hx hC
  go_wp2_with fail
  refine (numberR_v _ g F st S2.rdr).mono ?_
  rintro e w2 ⟨rfl, h1, h2⟩
  have S3 := S2.read h1 h2
  have HC := Lib.hid (S3.cell HO.out)
  have S4 := S3.set HO.out (.int .i64 (vN st))
  have HC4 := Lib.hid (S4.cell HO.out)
  clear S2 S3 h1 h2 x1
  generalize hvn : vN st = n at *
  have HV := Lib.hid hvn
  clear hvn
  have c0 := HC.out.1
  have f0 := HC.out.2
  have c4 := HC4.out.1
  by_cases hlo : lo ≤ n
  · by_cases hhi : n ≤ hi
    · obtain rfl : r = some (p ++ .int .i64 n :: q, nW st) := by rw [← HR.out]; unfold dNum; rw [HV.out, if_pos (inR_iff.2 ⟨hlo, hhi⟩)]; rfl
      have k1 : decide (n ≥ lo) = true := by simpa using hlo
      have k2 : decide (n ≤ hi) = true := by simpa using hhi
      go_wp2_with (go_at_call 37; refine (insist_yes _).mono ?_; rintro e w5 ⟨rfl, rfl⟩)
      go_end0
      exact ⟨rfl, S4⟩
    · obtain rfl : r = none := by rw [← HR.out]; unfold dNum; rw [HV.out, if_neg (fun h => hhi (inR_iff.1 h).2)]; rfl
      have k1 : decide (n ≥ lo) = true := by simpa using hlo
      have k2 : decide (n ≤ hi) = false := by simpa using hhi
      go_wp2_with (go_at_call 37; refine (insist_no _).mono ?_; rintro e w5 ⟨rfl, rfl⟩)
      exact ⟨rfl, rfl, S4.chg, _, by simp, S4.row⟩
  · obtain rfl : r = none := by rw [← HR.out]; unfold dNum; rw [HV.out, if_neg (fun h => hlo (inR_iff.1 h).1)]; rfl
    have k1 : decide (n ≥ lo) = false := by simpa using hlo
    go_wp2_with (go_at_call 37; refine (insist_no _).mono ?_; rintro e w5 ⟨rfl, rfl⟩)
    exact ⟨rfl, rfl, S4.chg, _, by simp, S4.row⟩

theorem numberT_r (w : World) (g : Nat) (F : Nat → Prop) (tb o : Nat) (t : TypeId) (p q : List Value) (x : Value) (st : St) (S : Rst w g F tb t (p ++ x :: q) st w) (ho : o = p.length) (lo hi : Int) :
    Calls Try.prog 43 #[.agg #[.pointer none, .pointer (some ⟨g, 0, none⟩)], .pointer (some ⟨tb, o, none⟩), .int .i64 lo, .int .i64 hi] w (RO w g F tb t (p ++ x :: q).length ((dNum lo hi st).map fun y => (p ++ .int .i64 y.1 :: q, y.2))) := by
  have vb := vN_bounds st
  generalize hr : (dNum lo hi st).map _ = r
  have HR := Lib.hid hr
  clear hr
  have HO := Lib.hid ho
  clear ho
  have S1 := S.non ((Chg.refl Non w).alloc (.cells #[.pointer none, .pointer (some ⟨g, 0, none⟩)] 86))
  have hw := S.nw (Nat.le_refl w.heap.size)
  have hx := Hb.new w 86 #[.pointer none, .pointer (some ⟨g, 0, none⟩)]
  go_enter Try.func43, Try.ntmps43
  go_wp2_with fail
  refine (writes_r _ g).mono ?_
  rintro e w1 ⟨rfl, hC⟩
  have S2 := S1.non hC
  have x1 : w1.cell? ⟨w.heap.size, 1, none⟩ = some (.pointer (some ⟨g, 0, none⟩)) := (hx.chg hC (fun f => f)).cell 1
  clear S1 hx hC
  go_wp2_with fail
  refine (numberR_v _ g F st S2.rdr).mono ?_
  rintro e w2 ⟨rfl, h1, h2⟩
  have S3 := S2.read h1 h2
  have HC := Lib.hid (S3.cell HO.out)
  have S4 := S3.set HO.out (.int .i64 (vN st))
  have HC4 := Lib.hid (S4.cell HO.out)
  clear S2 S3 h1 h2 x1
  generalize hvn : vN st = n at *
  have HV := Lib.hid hvn
  clear hvn
  have c0 := HC.out.1
  have f0 := HC.out.2
  have c4 := HC4.out.1
  by_cases hlo : lo ≤ n
  · by_cases hhi : n ≤ hi
    · obtain rfl : r = some (p ++ .int .i64 n :: q, nW st) := by rw [← HR.out]; unfold dNum; rw [HV.out, if_pos (inR_iff.2 ⟨hlo, hhi⟩)]; rfl
      have k1 : decide (n ≥ lo) = true := by simpa using hlo
      have k2 : decide (n ≤ hi) = true := by simpa using hhi
      go_wp2_with (go_at_call 37; refine (insist_yes _).mono ?_; rintro e w5 ⟨rfl, rfl⟩)
      go_end0
      exact ⟨rfl, S4⟩
    · obtain rfl : r = none := by rw [← HR.out]; unfold dNum; rw [HV.out, if_neg (fun h => hhi (inR_iff.1 h).2)]; rfl
      have k1 : decide (n ≥ lo) = true := by simpa using hlo
      have k2 : decide (n ≤ hi) = false := by simpa using hhi
      go_wp2_with (go_at_call 37; refine (insist_no _).mono ?_; rintro e w5 ⟨rfl, rfl⟩)
      exact ⟨rfl, rfl, S4.chg, _, by simp, S4.row⟩
  · obtain rfl : r = none := by rw [← HR.out]; unfold dNum; rw [HV.out, if_neg (fun h => hlo (inR_iff.1 h).1)]; rfl
    have k1 : decide (n ≥ lo) = false := by simpa using hlo
    go_wp2_with (go_at_call 37; refine (insist_no _).mono ?_; rintro e w5 ⟨rfl, rfl⟩)
    exact ⟨rfl, rfl, S4.chg, _, by simp, S4.row⟩

theorem text_r (w : World) (g : Nat) (F : Nat → Prop) (tb o : Nat) (t : TypeId) (p q : List Value) (x : Value) (st : St) (S : Rst w g F tb t (p ++ x :: q) st w) (ho : o = p.length) (most : Nat) (hmost : most ≤ 4096) :
    Calls Try.prog 58 #[.agg #[.pointer none, .pointer (some ⟨g, 0, none⟩)], .pointer (some ⟨tb, o, none⟩), .int .i64 (most : Int)] w (RO w g F tb t (p ++ x :: q).length ((dText most st).map fun y => (p ++ .string y.1 :: q, y.2))) := by
  have vb := vT_small st
  generalize hr : (dText most st).map _ = r
  have HR := Lib.hid hr
  clear hr
  have HO := Lib.hid ho
  clear ho
  have S1 := S.non ((Chg.refl Non w).alloc (.cells #[.pointer none, .pointer (some ⟨g, 0, none⟩)] 86))
  have hw := S.nw (Nat.le_refl w.heap.size)
  have hx := Hb.new w 86 #[.pointer none, .pointer (some ⟨g, 0, none⟩)]
  go_enter Try.func58, Try.ntmps58
  go_wp2_with fail
  refine (writes_r _ g).mono ?_
  rintro e w1 ⟨rfl, hC⟩
  have S2 := S1.non hC
  have x1 : w1.cell? ⟨w.heap.size, 1, none⟩ = some (.pointer (some ⟨g, 0, none⟩)) := (hx.chg hC (fun f => f)).cell 1
  clear S1 hx hC
  go_wp2_with fail
  refine (textR_v _ g F st S2.rdr).mono ?_
  rintro e w2 ⟨rfl, h1, h2⟩
  have S3 := S2.read h1 h2
  have HC := Lib.hid (S3.cell HO.out)
  have S4 := S3.set HO.out (.string ⟨(vT st).toArray⟩)
  have HC4 := Lib.hid (S4.cell HO.out)
  clear S2 S3 h1 h2 x1
  generalize hs : (⟨(vT st).toArray⟩ : ByteArray) = s at *
  have hsz : s.size = (vT st).length := by rw [← hs]; rfl
  have HV := Lib.hid hs
  have HZ := Lib.hid hsz
  rw [← hsz] at vb
  clear hs hsz
  have c0 := HC.out.1
  have f0 := HC.out.2
  have c4 := HC4.out.1
  by_cases hok : s.size ≤ most
  · obtain rfl : r = some (p ++ .string s :: q, nT st) := by rw [← HR.out]; unfold dText; rw [← HZ.out, if_pos hok, HV.out]; rfl
    have k1 : decide ((s.size : Int) ≤ (most : Int)) = true := decide_eq_true (by omega)
    go_wp2_with (go_at_call 37; refine (insist_yes _).mono ?_; rintro e w5 ⟨rfl, rfl⟩)
    go_end0
    exact ⟨rfl, S4⟩
  · obtain rfl : r = none := by rw [← HR.out]; unfold dText; rw [← HZ.out, if_neg hok]; rfl
    have k1 : decide ((s.size : Int) ≤ (most : Int)) = false := decide_eq_false (by omega)
    go_wp2_with (go_at_call 37; refine (insist_no _).mono ?_; rintro e w5 ⟨rfl, rfl⟩)
    exact ⟨rfl, rfl, S4.chg, _, by simp, S4.row⟩

theorem name_r (w : World) (g : Nat) (F : Nat → Prop) (tb o : Nat) (t : TypeId) (p q : List Value) (x : Value) (st : St) (S : Rst w g F tb t (p ++ x :: q) st w) (ho : o = p.length) :
    Calls Try.prog 40 #[.agg #[.pointer none, .pointer (some ⟨g, 0, none⟩)], .pointer (some ⟨tb, o, none⟩)] w (RO w g F tb t (p ++ x :: q).length ((dName st).map fun y => (p ++ .string y.1 :: q, y.2))) := by
  have S1 := S.non ((Chg.refl Non w).alloc (.cells #[.pointer none, .pointer (some ⟨g, 0, none⟩)] 86))
  have vb := vT_small st
  have hsz : (⟨(vT st).toArray⟩ : ByteArray).size = (vT st).length := rfl
  have H := name_gen w none (some ⟨g, 0, none⟩) tb o ⟨(vT st).toArray⟩ (by unfold maxLen; omega) (fun w' => Chg (Two g tb) w w' ∧ (∃ L' : List Value, L'.length = (p ++ x :: q).length ∧ Hb w' tb t L'.toArray) ∧ ((⟨(vT st).toArray⟩ : ByteArray).size ≤ 16 → Rst w g F tb t (p ++ .string ⟨(vT st).toArray⟩ :: q) (nT st) w'))
    (fun w1 w2 ⟨h1, ⟨L', hl, hL⟩, h2⟩ k => ⟨h1.trans k (fun _ f => f.elim), ⟨L', hl, hL.chg k (fun f => f)⟩, fun hs => (h2 hs).non k⟩)
    ((text_r _ g F tb o t p q x st S1.here ho 16 (by omega)).mono fun e w' h1 => by
      have h3 := RO.after S1 h1
      unfold dText at h3
      by_cases hs : (vT st).length ≤ 16
      · rw [if_pos hs] at h3
        rw [decide_eq_true (show (⟨(vT st).toArray⟩ : ByteArray).size ≤ 16 from hs)]
        exact ⟨h3.1, ⟨h3.2.chg, ⟨_, by simp, h3.2.row⟩, fun _ => h3.2⟩, fun _ => (h3.2.cell ho).1⟩
      · rw [if_neg hs] at h3
        rw [decide_eq_false (show ¬ (⟨(vT st).toArray⟩ : ByteArray).size ≤ 16 from hs)]
        exact ⟨h3.1, ⟨h3.2.1, h3.2.2, fun h => absurd h hs⟩, fun h => absurd h hs⟩)
  refine H.mono ?_
  rintro e w' ⟨he, h1, h2, h3⟩
  unfold dName
  cases hk : nameOk ⟨(vT st).toArray⟩ with
  | true => rw [hk] at he; rw [if_pos rfl]; exact ⟨he, h3 (nameOk_size hk)⟩
  | false => rw [hk] at he; rw [if_neg (by simp)]; exact ⟨he, h1, h2⟩

theorem begin_r (w : World) (g : Nat) (F : Nat → Prop) (tb : Nat) (t : TypeId) (L : List Value) (st : St) (S : Rst w g F tb t L st w) (k : Int) :
    Calls Try.prog 39 #[.agg #[.pointer none, .pointer (some ⟨g, 0, none⟩)], .int .i64 k] w (RO w g F tb t L.length ((dBegin k st).map fun s => (L, s))) := by
  have hC := ((Chg.refl Non w).alloc (.cells #[.pointer none, .pointer (some ⟨g, 0, none⟩)] 86)).alloc (.cells #[.int .i64 k] 3)
  have S1 := S.non hC
  have hx0 := ((Hb.new w 86 #[.pointer none, .pointer (some ⟨g, 0, none⟩)]).alloc (.cells #[.int .i64 k] 3)).cell 0
  have hx1 := ((Hb.new w 86 #[.pointer none, .pointer (some ⟨g, 0, none⟩)]).alloc (.cells #[.int .i64 k] 3)).cell 1
  have hn : Hb ((w.alloc (.cells #[.pointer none, .pointer (some ⟨g, 0, none⟩)] 86)).alloc (.cells #[.int .i64 k] 3)) (w.heap.size + 1) 3 #[.int .i64 k] := by
    have := Hb.new (w.alloc (.cells #[.pointer none, .pointer (some ⟨g, 0, none⟩)] 86)) 3 #[.int .i64 k]
    rwa [show (w.alloc (.cells #[.pointer none, .pointer (some ⟨g, 0, none⟩)] 86)).heap.size = w.heap.size + 1 by simp] at this
  have hg := S.rdr.lt
  have ht := S.row.lt
  have SN : Rst _ g F (w.heap.size + 1) 3 ([] ++ .int .i64 k :: []) st _ := ⟨S1.rdr, hn, Chg.refl _ _, by omega, fun hf => by have := S.rdr.Flt _ hf; omega⟩
  have H := number_r _ g F (w.heap.size + 1) 0 3 [] [] (.int .i64 k) st SN rfl k k
  have HH := Lib.hid H
  have vb := vN_bounds st
  have e1 : dNum k k st = (dBegin k st).map fun s => (k, s) := by
    unfold dNum dBegin
    by_cases h : vN st = k
    · rw [if_pos (inR_iff.2 ⟨by omega, by omega⟩), if_pos h, h]; rfl
    · rw [if_neg (fun h2 => by have := inR_iff.1 h2; omega), if_neg h]; rfl
  rw [e1] at HH
  clear H e1 SN
  generalize dBegin k st = d at HH ⊢
  go_enter Try.func39, Try.ntmps39
  go_wp2_with fail
  refine HH.out.mono ?_
  rintro e w1 h1
  clear HH
  cases d with
  | some s =>
    obtain ⟨rfl, h2⟩ := h1
    have hrow := S1.row.chg h2.chg (by rintro (h | h); exact S.ne h; omega)
    go_wp2
    go_end0
    exact ⟨rfl, h2.rdr, hrow, (hC.mono (S' := Two g tb) (fun _ f => f.elim)).trans h2.chg (fun j hj => by rcases hj with rfl | rfl; exact .inl (.inl rfl); exact .inr (by omega)), S.ne, S.nF⟩
  | none =>
    obtain ⟨rfl, h2, _⟩ := h1
    have hrow := S1.row.chg h2 (by rintro (h | h); exact S.ne h; omega)
    go_wp2
    exact ⟨rfl, rfl, (hC.mono (S' := Two g tb) (fun _ f => f.elim)).trans h2 (fun j hj => by rcases hj with rfl | rfl; exact .inl (.inl rfl); exact .inr (by omega)), _, rfl, hrow⟩

theorem height_r (w : World) (g : Nat) (F : Nat → Prop) (tb o : Nat) (t : TypeId) (p q : List Value) (x : Value) (st : St) (S : Rst w g F tb t (p ++ x :: q) st w) (ho : o = p.length) :
    Calls Try.prog 41 #[.agg #[.pointer none, .pointer (some ⟨g, 0, none⟩)], .pointer (some ⟨tb, o, none⟩)] w (RO w g F tb t (p ++ x :: q).length ((dNum 1 1099511627776 st).map fun y => (p ++ .int .i64 y.1 :: q, y.2))) := by
  have S1 := S.non ((Chg.refl Non w).alloc (.cells #[.pointer none, .pointer (some ⟨g, 0, none⟩)] 86))
  have hx0 := (Hb.new w 86 #[.pointer none, .pointer (some ⟨g, 0, none⟩)]).cell 0
  have hx1 := (Hb.new w 86 #[.pointer none, .pointer (some ⟨g, 0, none⟩)]).cell 1
  have H := number_r _ g F tb o t p q x st S1.here ho 1 1099511627776
  generalize (dNum 1 1099511627776 st).map _ = r at H ⊢
  have HH := Lib.hid H
  clear H ho
  go_enter Try.func41, Try.ntmps41
  go_wp2_with fail
  refine HH.out.mono ?_
  rintro e w1 h1
  have h2 := RO.after S1 h1
  clear HH h1
  rcases h2.cases with ⟨rfl, rfl, h3⟩ | ⟨y, rfl, rfl, h3⟩
  · go_wp2
    exact ⟨rfl, rfl, by simpa using h3⟩
  · go_wp2
    go_end0
    exact ⟨rfl, h3⟩

theorem round_r (w : World) (g : Nat) (F : Nat → Prop) (tb o : Nat) (t : TypeId) (p q : List Value) (x : Value) (st : St) (S : Rst w g F tb t (p ++ x :: q) st w) (ho : o = p.length) :
    Calls Try.prog 42 #[.agg #[.pointer none, .pointer (some ⟨g, 0, none⟩)], .pointer (some ⟨tb, o, none⟩)] w (RO w g F tb t (p ++ x :: q).length ((dNum 0 1048576 st).map fun y => (p ++ .int .i64 y.1 :: q, y.2))) := by
  have S1 := S.non ((Chg.refl Non w).alloc (.cells #[.pointer none, .pointer (some ⟨g, 0, none⟩)] 86))
  have hx0 := (Hb.new w 86 #[.pointer none, .pointer (some ⟨g, 0, none⟩)]).cell 0
  have hx1 := (Hb.new w 86 #[.pointer none, .pointer (some ⟨g, 0, none⟩)]).cell 1
  have H := number_r _ g F tb o t p q x st S1.here ho 0 1048576
  generalize (dNum 0 1048576 st).map _ = r at H ⊢
  have HH := Lib.hid H
  clear H ho
  go_enter Try.func42, Try.ntmps42
  go_wp2_with fail
  refine HH.out.mono ?_
  rintro e w1 h1
  have h2 := RO.after S1 h1
  clear HH h1
  rcases h2.cases with ⟨rfl, rfl, h3⟩ | ⟨y, rfl, rfl, h3⟩
  · go_wp2
    exact ⟨rfl, rfl, by simpa using h3⟩
  · go_wp2
    go_end0
    exact ⟨rfl, h3⟩
end Go.Proofs.Ytgonbmcfeehfaaa

/- Package forms: the things, written: contracts. -/
namespace Go.Proofs.Ytgonbmcfeehfaaa
open Go.RowKit
set_option linter.unusedVariables false
set_option linter.unusedSimpArgs false
set_option maxRecDepth 20000

theorem name_w (g : Nat) (l : List UInt8) (w : World) (v : Value) (b o : Nat) (s : ByteArray) (h : Wri w g v (some l)) (hc : w.cell? ⟨b, o, none⟩ = some (.string s)) (hb : ¬ Wft g v b) (hm : s.size ≤ maxLen) (hl : l.length ≤ 1000000000) :
    Calls Try.prog 40 #[.agg #[.pointer (some ⟨g, 0, none⟩), .pointer none], .pointer (some ⟨b, o, none⟩)] w (WO w g v (nameOk s) (l ++ tx s.data.toList)) := by
  have S1 := (Wst.here h).non ((Chg.refl Non w).alloc (.cells #[.pointer (some ⟨g, 0, none⟩), .pointer none] 86))
  have c1 := ((Chg.refl Non w).alloc (.cells #[.pointer (some ⟨g, 0, none⟩), .pointer none] 86)).cell hc (fun f => f)
  have H := name_gen w (some ⟨g, 0, none⟩) none b o s hm (fun w' => Chg (Wft g v) w w' ∧ (s.size ≤ 16 → ∃ v', Wst w g v (l ++ tx s.data.toList) w' v'))
    (fun w1 w2 ⟨h1, h2⟩ k => ⟨h1.trans k (fun _ f => f.elim), fun hs => by obtain ⟨v', T⟩ := h2 hs; exact ⟨v', T.non k⟩⟩)
    ((text_w g l _ v b o s 16 S1.wri c1 hb hm (by omega) hl).mono fun e w' ⟨h1, h2⟩ => by
      have h3 := WO.after S1 h1
      refine ⟨?_, ⟨h3.chg, fun hs => ?_⟩, fun _ => h2⟩
      · revert h3; cases decide (s.size ≤ 16) <;> exact fun h3 => h3.1
      · rw [decide_eq_true hs] at h3; exact h3.2)
  refine H.mono ?_
  rintro e w' ⟨he, h1, h2⟩
  cases hk : nameOk s with
  | true => rw [hk] at he; exact ⟨he, h2 (nameOk_size hk)⟩
  | false => rw [hk] at he; exact ⟨he, h1⟩

theorem begin_w (g : Nat) (l : List UInt8) (w : World) (v : Value) (k : Int) (h : Wri w g v (some l)) (hk : I64 k) (hl : l.length ≤ 1000000000) :
    Calls Try.prog 39 #[.agg #[.pointer (some ⟨g, 0, none⟩), .pointer none], .int .i64 k] w (WO w g v true (l ++ num k)) := by
  have S1 := (Wst.here h).non (((Chg.refl Non w).alloc (.cells #[.pointer (some ⟨g, 0, none⟩), .pointer none] 86)).alloc (.cells #[.int .i64 k] 3))
  have hx0 := ((Hb.new w 86 #[.pointer (some ⟨g, 0, none⟩), .pointer none]).alloc (.cells #[.int .i64 k] 3)).cell 0
  have hx1 := ((Hb.new w 86 #[.pointer (some ⟨g, 0, none⟩), .pointer none]).alloc (.cells #[.int .i64 k] 3)).cell 1
  have c1 : ((w.alloc (.cells #[.pointer (some ⟨g, 0, none⟩), .pointer none] 86)).alloc (.cells #[.int .i64 k] 3)).cell? ⟨w.heap.size + 1, 0, none⟩ = some (.int .i64 k) := by
    have := (Hb.new (w.alloc (.cells #[.pointer (some ⟨g, 0, none⟩), .pointer none] 86)) 3 #[.int .i64 k]).cell 0
    rwa [show (w.alloc (.cells #[.pointer (some ⟨g, 0, none⟩), .pointer none] 86)).heap.size = w.heap.size + 1 by simp] at this
  have H := number_w g l _ v (w.heap.size + 1) 0 k k k S1.wri c1 (fun hj => h.nnew (by omega) hj) hk.l hk.h hl
  rw [decide_eq_true (show k ≤ k ∧ k ≤ k from ⟨Int.le_refl _, Int.le_refl _⟩)] at H
  have HH := Lib.hid H
  clear H
  go_enter Try.func39, Try.ntmps39
  go_wp2_with fail
  refine HH.out.mono ?_
  rintro e w1 h1
  obtain ⟨rfl, h3⟩ := WO.after S1 h1
  go_wp2
  go_end0
  exact ⟨rfl, h3⟩

theorem WO.cases {w w' : World} {g : Nat} {v : Value} {ok : Bool} {l : List UInt8} {e : Ending} (h : WO w g v ok l e w') : (ok = false ∧ e = .panicked bad ∧ Chg (Wft g v) w w') ∨ (ok = true ∧ e = .returned (.tuple #[]) ∧ ∃ v', Wst w g v l w' v') := by
  cases ok with
  | true => exact .inr ⟨rfl, h.1, h.2⟩
  | false => exact .inl ⟨rfl, h.1, h.2⟩
theorem numberI_w (g : Nat) (l : List UInt8) (w : World) (v : Value) (b o : Nat) (n lo hi : Int) (h : Wri w g v (some l)) (hc : w.cell? ⟨b, o, none⟩ = some (.int .i64 n)) (hb : ¬ Wft g v b) (hn : I64 n) (hl : l.length ≤ 1000000000) :
    Calls Try.prog 56 #[.agg #[.pointer (some ⟨g, 0, none⟩), .pointer none], .pointer (some ⟨b, o, none⟩), .int .i64 lo, .int .i64 hi] w (WO w g v (inR lo hi n) (l ++ num n)) := number_w g l w v b o n lo hi h hc hb hn.l hn.h hl
theorem textI_w (g : Nat) (l : List UInt8) (w : World) (v : Value) (b o : Nat) (s : ByteArray) (most : Nat) (h : Wri w g v (some l)) (hc : w.cell? ⟨b, o, none⟩ = some (.string s)) (hb : ¬ Wft g v b) (hm : s.size ≤ maxLen) (hmost : most ≤ 4096) (hl : l.length ≤ 1000000000) :
    Calls Try.prog 58 #[.agg #[.pointer (some ⟨g, 0, none⟩), .pointer none], .pointer (some ⟨b, o, none⟩), .int .i64 (most : Int)] w (WO w g v (decide (s.size ≤ most)) (l ++ tx s.data.toList)) := (text_w g l w v b o s most h hc hb hm hmost hl).mono fun _ _ h => h.1
theorem numberTI_w (g : Nat) (l : List UInt8) (w : World) (v : Value) (b o : Nat) (n lo hi : Int) (h : Wri w g v (some l)) (hc : w.cell? ⟨b, o, none⟩ = some (.int .i64 n)) (hb : ¬ Wft g v b) (hn : I64 n) (hl : l.length ≤ 1000000000) :
    Calls Try.prog 43 #[.agg #[.pointer (some ⟨g, 0, none⟩), .pointer none], .pointer (some ⟨b, o, none⟩), .int .i64 lo, .int .i64 hi] w (WO w g v (inR lo hi n) (l ++ num n)) := numberT_w g l w v b o n lo hi h hc hb hn.l hn.h hl

theorem height_w (g : Nat) (l : List UInt8) (w : World) (v : Value) (b o : Nat) (n : Int) (h : Wri w g v (some l)) (hc : w.cell? ⟨b, o, none⟩ = some (.int .i64 n)) (hb : ¬ Wft g v b) (hn : I64 n) (hl : l.length ≤ 1000000000) :
    Calls Try.prog 41 #[.agg #[.pointer (some ⟨g, 0, none⟩), .pointer none], .pointer (some ⟨b, o, none⟩)] w (WO w g v (inR 1 1099511627776 n) (l ++ num n)) := by
  have S1 := (Wst.here h).non ((Chg.refl Non w).alloc (.cells #[.pointer (some ⟨g, 0, none⟩), .pointer none] 86))
  have c1 := ((Chg.refl Non w).alloc (.cells #[.pointer (some ⟨g, 0, none⟩), .pointer none] 86)).cell hc (fun f => f)
  have H : Calls Try.prog _ _ _ (WO _ g v (inR 1 1099511627776 n) (l ++ num n)) := number_w g l _ v b o n 1 1099511627776 S1.wri c1 hb hn.l hn.h hl
  generalize inR 1 1099511627776 n = ok at *
  go_enter Try.func41, Try.ntmps41
  go_wp2_with fail
  refine H.mono ?_
  rintro e w1 h1
  have h2 := WO.after S1 h1
  cases ok with
  | true =>
    obtain ⟨rfl, h3⟩ := h2
    go_wp2
    go_end0
    exact ⟨rfl, h3⟩
  | false =>
    obtain ⟨rfl, h3⟩ := h2
    go_wp2
    exact ⟨rfl, rfl, h3⟩

theorem round_w (g : Nat) (l : List UInt8) (w : World) (v : Value) (b o : Nat) (n : Int) (h : Wri w g v (some l)) (hc : w.cell? ⟨b, o, none⟩ = some (.int .i64 n)) (hb : ¬ Wft g v b) (hn : I64 n) (hl : l.length ≤ 1000000000) :
    Calls Try.prog 42 #[.agg #[.pointer (some ⟨g, 0, none⟩), .pointer none], .pointer (some ⟨b, o, none⟩)] w (WO w g v (inR 0 1048576 n) (l ++ num n)) := by
  have S1 := (Wst.here h).non ((Chg.refl Non w).alloc (.cells #[.pointer (some ⟨g, 0, none⟩), .pointer none] 86))
  have c1 := ((Chg.refl Non w).alloc (.cells #[.pointer (some ⟨g, 0, none⟩), .pointer none] 86)).cell hc (fun f => f)
  have H : Calls Try.prog _ _ _ (WO _ g v (inR 0 1048576 n) (l ++ num n)) := number_w g l _ v b o n 0 1048576 S1.wri c1 hb hn.l hn.h hl
  generalize inR 0 1048576 n = ok at *
  go_enter Try.func42, Try.ntmps42
  go_wp2_with fail
  refine H.mono ?_
  rintro e w1 h1
  have h2 := WO.after S1 h1
  cases ok with
  | true =>
    obtain ⟨rfl, h3⟩ := h2
    go_wp2
    go_end0
    exact ⟨rfl, h3⟩
  | false =>
    obtain ⟨rfl, h3⟩ := h2
    go_wp2
    exact ⟨rfl, rfl, h3⟩

theorem signature_w (g : Nat) (l : List UInt8) (w : World) (v : Value) (b o m n : Nat) (h : Wri w g v (some l)) (hm : w.cell? ⟨b, o, none⟩ = some (.int .u64 (m : Int))) (hn : w.cell? ⟨b, o + 1, none⟩ = some (.int .u64 (n : Int))) (hb : ¬ Wft g v b) (hbl : b < w.heap.size) (hmm : m < 18446744073709551616) (hnn : n < 18446744073709551616) (hl : l.length ≤ 900000000) :
    Calls Try.prog 46 #[.agg #[.pointer (some ⟨g, 0, none⟩), .pointer none], .pointer (some ⟨b, o, none⟩)] w (WO w g v true (l ++ (be 8 m ++ be 8 n))) := by
  have S0 := (Wst.here h).non ((Chg.refl Non w).alloc (.cells #[.pointer (some ⟨g, 0, none⟩), .pointer none] 86))
  have c1 := ((Chg.refl Non w).alloc (.cells #[.pointer (some ⟨g, 0, none⟩), .pointer none] 86)).cell hm (fun f => f)
  have c2 := ((Chg.refl Non w).alloc (.cells #[.pointer (some ⟨g, 0, none⟩), .pointer none] 86)).cell hn (fun f => f)
  have hw := h.nnew (Nat.le_refl w.heap.size)
  have hx := Hb.new w 86 #[.pointer (some ⟨g, 0, none⟩), .pointer none]
  have hx0 : (w.alloc (.cells #[.pointer (some ⟨g, 0, none⟩), .pointer none] 86)).cell? ⟨w.heap.size, 0, none⟩ = some (.pointer (some ⟨g, 0, none⟩)) := hx.cell 0
  have hx1 : (w.alloc (.cells #[.pointer (some ⟨g, 0, none⟩), .pointer none] 86)).cell? ⟨w.heap.size, 1, none⟩ = some (.pointer none) := hx.cell 1
  have hBl : b < (w.alloc (.cells #[.pointer (some ⟨g, 0, none⟩), .pointer none] 86)).heap.size := by simp; omega
  have hBw : w.heap.size < (w.alloc (.cells #[.pointer (some ⟨g, 0, none⟩), .pointer none] 86)).heap.size := by simp
  have S1 := Wst.here (S0.wri)
  clear hx hm hn
  go_enter Try.func46, Try.ntmps46
  go_wp2_with fail
  generalize w.alloc (.cells #[.pointer (some ⟨g, 0, none⟩), .pointer none] 86) = B at *
  have D2 := S1.non ((Chg.refl Non B).drew)
  have x0 := D2.cell hx0 hw
  have x1 := D2.cell hx1 hw
  have hwn := D2.nw hw hBw
  go_region_held3 (fun w' => w'.cell? ⟨w.heap.size, 0, none⟩ = some (.pointer (some ⟨g, 0, none⟩)) ∧ w'.cell? ⟨w.heap.size, 1, none⟩ = some (.pointer none)) (first | exact ⟨x0, x1⟩ | exact ⟨y0, y1⟩ | assumption) (first | (go_at_call 45; refine (word_w g l _ v b o m D2.wri (D2.cell c1 hb) (D2.nw hb hBl) hmm (by omega)).mono ?_; rintro e w2 h2; have y0 := h2.chg.cell x0 hwn; have y1 := h2.chg.cell x1 hwn; obtain ⟨rfl, v2, T2⟩ := h2) | fail)
  have S2 := D2.trans T2
  clear D2 T2 x0 x1 hwn y0 y1
  go_wp2_with fail
  have D3 := S2.non ((Chg.refl Non w2).drew)
  have x0 := D3.cell hx0 hw
  have x1 := D3.cell hx1 hw
  have hwn := D3.nw hw hBw
  go_region_held3 (fun w' => w'.cell? ⟨w.heap.size, 0, none⟩ = some (.pointer (some ⟨g, 0, none⟩)) ∧ w'.cell? ⟨w.heap.size, 1, none⟩ = some (.pointer none)) (first | exact ⟨x0, x1⟩ | exact ⟨y0, y1⟩ | assumption) (first | (go_at_call 45; refine (word_w g (l ++ be 8 m) _ v2 b (o + 1) n D3.wri (D3.cell c2 hb) (D3.nw hb hBl) hnn (by rw [List.length_append, be_length]; omega)).mono ?_; rintro e w3 h3; have y0 := h3.chg.cell x0 hwn; have y1 := h3.chg.cell x1 hwn; obtain ⟨rfl, v3, T3⟩ := h3) | fail)
  have S3 := D3.trans T3
  go_wp2
  go_end0
  refine ⟨rfl, v3, ?_⟩
  have S := S0.trans S3
  simpa [List.append_assoc] using S

theorem vt_facts {w : World} {b o : Nat} {x : Vt} (R : w.rangeAt b o x.cells) (ox : x.Ok) : w.cell? ⟨b, o, none⟩ = some (.string x.chain) ∧ w.cell? ⟨b, o + 1, none⟩ = some (.int .i64 x.height) ∧ w.cell? ⟨b, o + 2, none⟩ = some (.int .i64 x.round) ∧ w.cell? ⟨b, o + 3, none⟩ = some (.int .i64 x.type) ∧ w.rangeAt b (o + 4) (bv x.block) ∧ w.cell? ⟨b, o + 36, none⟩ = some (.int .u64 (x.key : Int)) ∧ w.cell? ⟨b, o + 37, none⟩ = some (.int .u64 (x.r : Int)) ∧ w.cell? ⟨b, o + 38, none⟩ = some (.int .u64 (x.s : Int)) := by
  obtain ⟨r1, r2⟩ := rangeAt_app R
  obtain ⟨f0, r1⟩ := rangeAt_cons r1
  obtain ⟨f1, r1⟩ := rangeAt_cons r1
  obtain ⟨f2, r1⟩ := rangeAt_cons r1
  obtain ⟨f3, _⟩ := rangeAt_cons r1
  obtain ⟨f4, r2⟩ := rangeAt_app r2
  obtain ⟨f5, r2⟩ := rangeAt_cons r2
  obtain ⟨f6, r2⟩ := rangeAt_cons r2
  obtain ⟨f7, _⟩ := rangeAt_cons r2
  rw [bv_length, ox.block] at f5 f6 f7
  exact ⟨f0, f1, f2, f3, f4, f5, f6, f7⟩
theorem pk_facts {w : World} {b o : Nat} {x : Pk} (R : w.rangeAt b o x.cells) : w.cell? ⟨b, o, none⟩ = some (.int .i64 x.seq) ∧ w.cell? ⟨b, o + 1, none⟩ = some (.string x.from) ∧ w.cell? ⟨b, o + 2, none⟩ = some (.string x.data) ∧ w.cell? ⟨b, o + 3, none⟩ = some (.int .i64 x.timeout) := by
  obtain ⟨f0, r1⟩ := rangeAt_cons R
  obtain ⟨f1, r1⟩ := rangeAt_cons r1
  obtain ⟨f2, r1⟩ := rangeAt_cons r1
  obtain ⟨f3, _⟩ := rangeAt_cons r1
  exact ⟨f0, f1, f2, f3⟩
theorem hd_facts {w : World} {b o : Nat} {x : Hd} (R : w.rangeAt b o x.cells) (ox : x.Ok) : w.cell? ⟨b, o, none⟩ = some (.string x.chain) ∧ w.cell? ⟨b, o + 1, none⟩ = some (.int .i64 x.height) ∧ w.cell? ⟨b, o + 2, none⟩ = some (.int .i64 x.time) ∧ w.rangeAt b (o + 3) (bv x.last) ∧ w.rangeAt b (o + 35) (bv x.set) ∧ w.rangeAt b (o + 67) (bv x.next) ∧ w.rangeAt b (o + 99) (bv x.data) ∧ w.rangeAt b (o + 131) (bv x.app) := by
  obtain ⟨r1, r2⟩ := rangeAt_app R
  obtain ⟨f0, r1⟩ := rangeAt_cons r1
  obtain ⟨f1, r1⟩ := rangeAt_cons r1
  obtain ⟨f2, r1⟩ := rangeAt_cons r1
  obtain ⟨f3, r2⟩ := rangeAt_app r2
  obtain ⟨f4, r2⟩ := rangeAt_app r2
  obtain ⟨f5, r2⟩ := rangeAt_app r2
  obtain ⟨f6, f7⟩ := rangeAt_app r2
  simp only [bv_length, ox.last, ox.set, ox.next, ox.data] at f4 f5 f6 f7
  exact ⟨f0, f1, f2, f3, f4, f5, f6, f7⟩

set_option maxHeartbeats 1600000 in
theorem vote_w (g : Nat) (l : List UInt8) (w : World) (v : Value) (b o : Nat) (x : Vt) (h : Wri w g v (some l)) (hc : w.rangeAt b o x.cells) (hb : ¬ Wft g v b) (hbl : b < w.heap.size) (ox : x.Ok) (hl : l.length ≤ 100000) :
    Calls Try.prog 16 #[.agg #[.pointer (some ⟨g, 0, none⟩), .pointer none], .pointer (some ⟨b, o, none⟩)] w (WO w g v x.right (l ++ x.enc)) := by
  have S0 := (Wst.here h).non ((Chg.refl Non w).alloc (.cells #[.pointer (some ⟨g, 0, none⟩), .pointer none] 86))
  have R0 := ((Chg.refl Non w).alloc (.cells #[.pointer (some ⟨g, 0, none⟩), .pointer none] 86)).range' hc (fun f => f)
  have hw := h.nnew (Nat.le_refl w.heap.size)
  have hx := Hb.new w 86 #[.pointer (some ⟨g, 0, none⟩), .pointer none]
  have hx0 : (w.alloc (.cells #[.pointer (some ⟨g, 0, none⟩), .pointer none] 86)).cell? ⟨w.heap.size, 0, none⟩ = some (.pointer (some ⟨g, 0, none⟩)) := hx.cell 0
  have hx1 : (w.alloc (.cells #[.pointer (some ⟨g, 0, none⟩), .pointer none] 86)).cell? ⟨w.heap.size, 1, none⟩ = some (.pointer none) := hx.cell 1
  have hBl : b < (w.alloc (.cells #[.pointer (some ⟨g, 0, none⟩), .pointer none] 86)).heap.size := by simp; omega
  have hBw : w.heap.size < (w.alloc (.cells #[.pointer (some ⟨g, 0, none⟩), .pointer none] 86)).heap.size := by simp
  have S1 := Wst.here (S0.wri)
  obtain ⟨B, hB⟩ : ∃ B, B = w.alloc (.cells #[.pointer (some ⟨g, 0, none⟩), .pointer none] 86) := ⟨_, rfl⟩
  obtain ⟨f0, f1, f2, f3, f4, f5, f6, f7⟩ := vt_facts R0 ox
  rw [← hB] at f0 f1 f2 f3 f4 f5 f6 f7
  generalize hok : x.right = ok
  have HOK := Lib.hid hok
  clear hok hx hc
  go_enter Try.func16, Try.ntmps16
  go_wp2_with fail
  rw [← hB] at S0 R0 hx0 hx1 hBl hBw S1 ⊢
  clear hB
  have x0 := S1.cell hx0 hw
  have x1 := S1.cell hx1 hw
  have hwn := S1.nw hw hBw
  go_wp2_with (first | (go_at_call 39; refine (begin_w g l _ v 1 S1.wri ⟨by omega, by omega⟩ (by omega)).mono ?_; rintro e w2 h2; obtain ⟨rfl, v2, T2⟩ := h2) | fail)
  have S2 := S1.trans T2
  clear T2 x0 x1 hwn
  go_wp2_with fail
  have D3 := S2.non ((Chg.refl Non w2).drew)
  have x0 := D3.cell hx0 hw
  have x1 := D3.cell hx1 hw
  have hwn := D3.nw hw hBw
  go_region_held (fun w' => w'.cell? ⟨w.heap.size, 0, none⟩ = some (.pointer (some ⟨g, 0, none⟩)) ∧ w'.cell? ⟨w.heap.size, 1, none⟩ = some (.pointer none)) (first | exact ⟨y0, y1⟩ | exact ⟨x0, x1⟩ | assumption) (first | (go_at_call 40; go_loud (refine (name_w g _ _ v2 b o x.chain D3.wri (D3.cell f0 hb) (D3.nw hb hBl) ox.chain (by simp [be_length, num_length, tx_length, bytes_len]; omega)).mono ?_; rintro e w3 h3; have y0 := h3.chg.cell x0 hwn; have y1 := h3.chg.cell x1 hwn; rcases h3.cases with ⟨k3, he, C⟩ | ⟨k3, he, v3, T3⟩; (subst he; obtain rfl : ok = false := HOK.out.symm.trans (by simp [Vt.right, k3]); exact ⟨rfl, rfl, S0.chg.trans (D3.chg.trans C D3.wft) S0.wft⟩); subst he)) | fail)
  have S3 := D3.trans T3
  clear D3 T3 x0 x1 hwn y0 y1
  clear h3
  go_wp2_with fail
  have D4 := S3.non ((Chg.refl Non w3).drew)
  have x0 := D4.cell hx0 hw
  have x1 := D4.cell hx1 hw
  have hwn := D4.nw hw hBw
  go_region_held (fun w' => w'.cell? ⟨w.heap.size, 0, none⟩ = some (.pointer (some ⟨g, 0, none⟩)) ∧ w'.cell? ⟨w.heap.size, 1, none⟩ = some (.pointer none)) (first | exact ⟨y0, y1⟩ | exact ⟨x0, x1⟩ | assumption) (first | (go_at_call 41; go_loud (refine (height_w g _ _ v3 b (o + 1) x.height D4.wri (D4.cell f1 hb) (D4.nw hb hBl) ox.height (by simp [be_length, num_length, tx_length, bytes_len]; have := nameOk_size k3; omega)).mono ?_; rintro e w4 h4; have y0 := h4.chg.cell x0 hwn; have y1 := h4.chg.cell x1 hwn; rcases h4.cases with ⟨k4, he, C⟩ | ⟨k4, he, v4, T4⟩; (subst he; obtain rfl : ok = false := HOK.out.symm.trans (by simp [Vt.right, k3, k4]); exact ⟨rfl, rfl, S0.chg.trans (D4.chg.trans C D4.wft) S0.wft⟩); subst he)) | fail)
  have S4 := D4.trans T4
  clear D4 T4 x0 x1 hwn y0 y1
  clear h4
  go_wp2_with fail
  have D5 := S4.non ((Chg.refl Non w4).drew)
  have x0 := D5.cell hx0 hw
  have x1 := D5.cell hx1 hw
  have hwn := D5.nw hw hBw
  go_region_held (fun w' => w'.cell? ⟨w.heap.size, 0, none⟩ = some (.pointer (some ⟨g, 0, none⟩)) ∧ w'.cell? ⟨w.heap.size, 1, none⟩ = some (.pointer none)) (first | exact ⟨y0, y1⟩ | exact ⟨x0, x1⟩ | assumption) (first | (go_at_call 42; go_loud (refine (round_w g _ _ v4 b (o + 2) x.round D5.wri (D5.cell f2 hb) (D5.nw hb hBl) ox.round (by simp [be_length, num_length, tx_length, bytes_len]; have := nameOk_size k3; omega)).mono ?_; rintro e w5 h5; have y0 := h5.chg.cell x0 hwn; have y1 := h5.chg.cell x1 hwn; rcases h5.cases with ⟨k5, he, C⟩ | ⟨k5, he, v5, T5⟩; (subst he; obtain rfl : ok = false := HOK.out.symm.trans (by simp [Vt.right, k3, k4, k5]); exact ⟨rfl, rfl, S0.chg.trans (D5.chg.trans C D5.wft) S0.wft⟩); subst he)) | fail)
  have S5 := D5.trans T5
  clear D5 T5 x0 x1 hwn y0 y1
  clear h5
  go_wp2_with fail
  have D6 := S5.non ((Chg.refl Non w5).drew)
  have x0 := D6.cell hx0 hw
  have x1 := D6.cell hx1 hw
  have hwn := D6.nw hw hBw
  go_region_held (fun w' => w'.cell? ⟨w.heap.size, 0, none⟩ = some (.pointer (some ⟨g, 0, none⟩)) ∧ w'.cell? ⟨w.heap.size, 1, none⟩ = some (.pointer none)) (first | exact ⟨y0, y1⟩ | exact ⟨x0, x1⟩ | assumption) (first | (go_at_call 43; go_loud (refine (numberTI_w g _ _ v5 b (o + 3) x.type 1 2 D6.wri (D6.cell f3 hb) (D6.nw hb hBl) ox.type (by simp [be_length, num_length, tx_length, bytes_len]; have := nameOk_size k3; omega)).mono ?_; rintro e w6 h6; have y0 := h6.chg.cell x0 hwn; have y1 := h6.chg.cell x1 hwn; rcases h6.cases with ⟨k6, he, C⟩ | ⟨k6, he, v6, T6⟩; (subst he; obtain rfl : ok = false := HOK.out.symm.trans (by simp [Vt.right, k3, k4, k5, k6]); exact ⟨rfl, rfl, S0.chg.trans (D6.chg.trans C D6.wft) S0.wft⟩); subst he)) | fail)
  have S6 := D6.trans T6
  clear D6 T6 x0 x1 hwn y0 y1
  clear h6
  go_wp2_with fail
  have D7 := S6.non ((Chg.refl Non w6).drew)
  have x0 := D7.cell hx0 hw
  have x1 := D7.cell hx1 hw
  have hwn := D7.nw hw hBw
  go_region_held (fun w' => w'.cell? ⟨w.heap.size, 0, none⟩ = some (.pointer (some ⟨g, 0, none⟩)) ∧ w'.cell? ⟨w.heap.size, 1, none⟩ = some (.pointer none)) (first | exact ⟨y0, y1⟩ | exact ⟨x0, x1⟩ | assumption) (first | (go_at_call 44; go_loud (refine (hash_w g _ _ v6 b (o + 4) x.block ox.block D7.wri (D7.range f4 hb) (D7.nw hb hBl) (by simp [be_length, num_length, tx_length, bytes_len]; have := nameOk_size k3; omega)).mono ?_; rintro e w7 h7; have y0 := h7.chg.cell x0 hwn; have y1 := h7.chg.cell x1 hwn; obtain ⟨rfl, v7, T7⟩ := h7)) | fail)
  have S7 := D7.trans T7
  clear D7 T7 x0 x1 hwn y0 y1
  go_wp2_with fail
  have D8 := S7.non ((Chg.refl Non w7).drew)
  have x0 := D8.cell hx0 hw
  have x1 := D8.cell hx1 hw
  have hwn := D8.nw hw hBw
  go_region_held (fun w' => w'.cell? ⟨w.heap.size, 0, none⟩ = some (.pointer (some ⟨g, 0, none⟩)) ∧ w'.cell? ⟨w.heap.size, 1, none⟩ = some (.pointer none)) (first | exact ⟨y0, y1⟩ | exact ⟨x0, x1⟩ | assumption) (first | (go_at_call 45; go_loud (refine (word_w g _ _ v7 b (o + 36) x.key D8.wri (D8.cell f5 hb) (D8.nw hb hBl) ox.key (by simp [be_length, num_length, tx_length, bytes_len, ox.block]; have := nameOk_size k3; omega)).mono ?_; rintro e w8 h8; have y0 := h8.chg.cell x0 hwn; have y1 := h8.chg.cell x1 hwn; obtain ⟨rfl, v8, T8⟩ := h8)) | fail)
  have S8 := D8.trans T8
  clear D8 T8 x0 x1 hwn y0 y1
  go_wp2_with fail
  have D9 := S8.non ((Chg.refl Non w8).drew)
  have x0 := D9.cell hx0 hw
  have x1 := D9.cell hx1 hw
  have hwn := D9.nw hw hBw
  go_region_held (fun w' => w'.cell? ⟨w.heap.size, 0, none⟩ = some (.pointer (some ⟨g, 0, none⟩)) ∧ w'.cell? ⟨w.heap.size, 1, none⟩ = some (.pointer none)) (first | exact ⟨y0, y1⟩ | exact ⟨x0, x1⟩ | assumption) (first | (go_at_call 46; go_loud (refine (signature_w g _ _ v8 b (o + 37) x.r x.s D9.wri (D9.cell f6 hb) (D9.cell f7 hb) (D9.nw hb hBl) (by have := D9.chg.size; omega) ox.r ox.s (by simp [be_length, num_length, tx_length, bytes_len, ox.block]; have := nameOk_size k3; omega)).mono ?_; rintro e w9 h9; have y0 := h9.chg.cell x0 hwn; have y1 := h9.chg.cell x1 hwn; obtain ⟨rfl, v9, T9⟩ := h9)) | fail)
  have S9 := D9.trans T9
  clear D9 T9 x0 x1 hwn y0 y1
  obtain rfl : ok = true := HOK.out.symm.trans (by simp [Vt.right, k3, k4, k5, k6])
  go_wp2
  go_end0
  refine ⟨rfl, v9, ?_⟩
  have S := S0.trans S9
  simpa [Vt.enc, List.append_assoc] using S

end Go.Proofs.Ytgonbmcfeehfaaa

/- Package forms: encoded[T]: the bytes of what was gone through, or the error. -/
namespace Go.Proofs.Ytgonbmcfeehfaaa
open Go.RowKit
set_option linter.unusedVariables false
set_option linter.unusedSimpArgs false
set_option maxRecDepth 20000

theorem results_two {fn : Func} {p q : Tmp} {t u : TypeId} (h : fn.results = #[.cell p t, .cell q u]) (tmps : Array Value) (P : Program) (w : World) (a b : Addr) (x y : Value)
    (hp : tmps.getD p undef = .pointer (some a)) (hq : tmps.getD q undef = .pointer (some b)) (hx : (loadVar t a).run P w = .ok x w) (hy : (loadVar u b).run P w = .ok y w) : (results fn tmps).run P w = .ok (.tuple #[x, y]) w := by
  have hp' : tmps[p]?.getD undef = .pointer (some a) := by simpa using hp
  have hq' : tmps[q]?.getD undef = .pointer (some b) := by simpa using hq
  simp [results, h, hp', hq', asAddr, hx, hy]
theorem load_bytes {w : World} {a : Addr} {v : Value} (h : w.cell? a = some v) : (loadVar 22 a).run Try.prog w = .ok v w := by
  have hagg : (isAgg 22).run Try.prog w = .ok false w := by
    unfold isAgg
    rw [Sem.run_bind, run_underlying Try.underlying22 w]
    rfl
  simp [loadVar, Sem.run_bind, hagg, h]
theorem load_errno {w : World} {a : Addr} {v : Value} (h : w.cell? a = some v) : (loadVar 32 a).run Try.prog w = .ok v w := by
  have hagg : (isAgg 32).run Try.prog w = .ok false w := by
    unfold isAgg
    rw [Sem.run_bind, run_underlying Try.underlying32 w]
    rfl
  simp [loadVar, Sem.run_bind, hagg, h]

/-- What encoding leaves: new bytes, or the error. -/
def Enc (w : World) (ok : Bool) (bs : List UInt8) (e : Ending) (w' : World) : Prop :=
  Chg Non w w' ∧ match ok with
    | true => ∃ v, e = .returned (.tuple #[v, .int .i64 0]) ∧ Own 5 w' v bs ∧ ∀ k, vbl v k → w.heap.size ≤ k
    | false => e = .returned (.tuple #[.slice none 0 0, .int .i64 61])

/-- The two results and the writer. -/
def ew (w : World) : World := ((w.alloc (.cells #[.slice none 0 0] 22)).alloc (.cells #[.int .i64 0] 32)).alloc (.cells #[.slice none 0 0, .bool false] 130)
theorem ew_chg (w : World) : Chg Non w (ew w) := (((Chg.refl Non w).alloc _).alloc _).alloc _
theorem ew_b (w : World) : Hb (ew w) w.heap.size 22 #[.slice none 0 0] := ((Hb.new w _ _).alloc _).alloc _
theorem ew_e (w : World) : Hb (ew w) (w.heap.size + 1) 32 #[.int .i64 0] := by
  have h := (Hb.new (w.alloc (.cells #[.slice none 0 0] 22)) 32 #[.int .i64 0]).alloc (.cells #[.slice none 0 0, .bool false] 130)
  rwa [show (w.alloc (.cells #[.slice none 0 0] 22)).heap.size = w.heap.size + 1 by simp] at h
theorem ew_w (w : World) : Wri (ew w) (w.heap.size + 2) (.slice none 0 0) (some []) := by
  have h := wri_new ((w.alloc (.cells #[.slice none 0 0] 22)).alloc (.cells #[.int .i64 0] 32))
  rwa [show ((w.alloc (.cells #[.slice none 0 0] 22)).alloc (.cells #[.int .i64 0] 32)).heap.size = w.heap.size + 2 by simp] at h
theorem ew_nb {w : World} {k : Nat} (h : k < w.heap.size + 2) : ¬ Wft (w.heap.size + 2) (.slice none 0 0) k := by
  rintro (rfl | h2)
  · omega
  · cases h2


theorem catchEP_Packet (w : World) (p q : Nat) (x y : Value) (v : Value) (u : TypeId) (older : List PanicEntry) (hp : Hb w p 22 #[x]) (hq : Hb w q 32 #[y]) (hpq : q ≠ p) :
    CallsD Try.prog 63 #[.pointer (some ⟨p, 0, none⟩), .pointer (some ⟨q, 0, none⟩)] (.panicking ({ v := .iface u v, recovered := false } :: older)) w fun e u' w' =>
      e = .returned (.tuple #[]) ∧ u' = .panicking ({ v := .iface u v, recovered := true } :: older) ∧ w' = (w.setCell ⟨p, 0, none⟩ (.slice none 0 0)).setCell ⟨q, 0, none⟩ (.int .i64 61) := by
  have c0 : w.cell? ⟨p, 0, none⟩ = some x := hp.cell 0
  have c1 : w.cell? ⟨q, 0, none⟩ = some y := hq.cell 0
  have f0 : w.frozen? ⟨p, 0, none⟩ = false := hp.frozen 0
  have f1 : w.frozen? ⟨q, 0, none⟩ = false := hq.frozen 0
  refine callsD_of_wpS Try.func63 rfl fun c₀ cs hu => ?_
  apply wpS_seq
  apply wpS_region
  simp [wpOpsS, go_sem, recoverD, hu, Try.ntmps63, Exit.thenS]
  refine wpS_cond (t := true) (by simp [Act.eval, Array.replicate]) ?_
  simp only [if_true]
  refine wpS_of_wp ?_
  go_wp2
  exact ⟨rfl, _, rfl, .tuple #[], by simp [results, Try.results63], rfl, rfl, rfl⟩

theorem catchEI_Packet (w : World) (p q : Addr) : CallsD Try.prog 63 #[.pointer (some p), .pointer (some q)] .returning w fun e u' w' => e = .returned (.tuple #[]) ∧ u' = .returning ∧ w' = w := by
  refine callsD_of_wpS Try.func63 rfl fun c₀ cs hu => ?_
  apply wpS_seq
  apply wpS_region
  simp [wpOpsS, go_sem, recoverD, hu, Try.ntmps63, Exit.thenS]
  refine wpS_cond (t := false) (by simp [Act.eval, Array.replicate]) ?_
  simp only [Bool.false_eq_true, if_false]
  refine wpS_of_wp (wp_skip ?_)
  cases c₀
  simp_all [bodyPostS, results, Try.results63]

theorem encoded_Packet (w : World) (b : Addr) (ok : Bool) (bs : List UInt8) (hbs : ok = true → bs.length ≤ 1000000000)
    (H : ∀ (w1 : World) (g : Nat), Chg Non w w1 → w.heap.size ≤ g → Wri w1 g (.slice none 0 0) (some []) → Calls Try.prog 25 #[.agg #[.pointer (some ⟨g, 0, none⟩), .pointer none], .pointer (some b)] w1 (WO w1 g (.slice none 0 0) ok bs)) :
    Calls Try.prog 34 #[.pointer (some b), .func (.func 25) #[] #[]] w (Enc w ok bs) := by
  have hmf := mkf
  have hC0 := ew_chg w
  have hb0 := ew_b w
  have he0 := ew_e w
  have H1 := H (ew w) (w.heap.size + 2) hC0 (by omega) (ew_w w)
  have nb := ew_nb (w := w) (k := w.heap.size) (by omega)
  have ne := ew_nb (w := w) (k := w.heap.size + 1) (by omega)
  clear H
  have HH := Lib.hid H1
  clear H1
  go_enter_defers Try.func34, Try.ntmps34
  go_wp2_with (go_at_call 64; refine (newWriter_any _).mono ?_; rintro e w' ⟨rfl, rfl⟩)
  have hew : ew w = ((w.alloc (.cells #[.slice none 0 0] 22)).alloc (.cells #[.int .i64 0] 32)).alloc (.cells #[.slice none 0 0, .bool false] 130) := rfl
  rw [← hew]
  clear hew
  generalize ew w = w1 at *
  refine HH.out.mono ?_
  rintro e w2 h2
  rcases h2.cases with ⟨rfl, rfl, C⟩ | ⟨rfl, rfl, v2, T⟩
  · have hb2 := hb0.chg C nb
    have he2 := he0.chg C ne
    go_wp2
    refine leaves_cons (f := 63) (args := #[.pointer (some ⟨w.heap.size, 0, none⟩), .pointer (some ⟨w.heap.size + 1, 0, none⟩)]) (by simp) (by simp [go_sem]) ?_
    refine (catchEP_Packet w2 w.heap.size (w.heap.size + 1) _ _ _ _ _ hb2 he2 (by omega)).mono ?_
    rintro e u' w'' ⟨rfl, rfl, rfl⟩
    have hb3 := (hb2.set 0 (.slice none 0 0)).far (p := ⟨w.heap.size + 1, 0, none⟩) (by simp) (.int .i64 61)
    have he3 := (he2.far (p := ⟨w.heap.size, 0, none⟩) (by simp) (.slice none 0 0)).set 0 (.int .i64 61)
    refine ⟨_, results_two rfl _ _ _ ⟨w.heap.size, 0, none⟩ ⟨w.heap.size + 1, 0, none⟩ _ _ rfl rfl (load_bytes (hb3.cell 0)) (load_errno (he3.cell 0)), ?_, rfl⟩
    have C1 : Chg Non w w2 := (hC0.trans C (fun j hj => .inr (by rcases hj with rfl | hj; omega; cases hj)))
    exact (C1.setCell (p := ⟨w.heap.size, 0, none⟩) (.inr (Nat.le_refl _)) _).setCell (p := ⟨w.heap.size + 1, 0, none⟩) (.inr (by simp)) _
  · have hb2 := hb0.chg T.chg nb
    have he2 := he0.chg T.chg ne
    have C1 : Chg Non w w2 := (hC0.trans T.chg (fun j hj => .inr (by rcases hj with rfl | hj; omega; cases hj)))
    have hlen := hbs rfl
    clear hb0 he0
    go_wp2_with fail
    refine (bytes_some _ (w.heap.size + 2) v2 bs T.wri hlen).mono ?_
    rintro e w3 ⟨v3, rfl, ho3, hl3, hc3⟩
    have hb3 := hb2.chg hc3 (fun f => f)
    have he3 := he2.chg hc3 (fun f => f)
    have c0 : w3.cell? ⟨w.heap.size, 0, none⟩ = some (.slice none 0 0) := hb3.cell 0
    have c1 : w3.cell? ⟨w.heap.size + 1, 0, none⟩ = some (.int .i64 0) := he3.cell 0
    have f0 : w3.frozen? ⟨w.heap.size, 0, none⟩ = false := hb3.frozen 0
    have f1 : w3.frozen? ⟨w.heap.size + 1, 0, none⟩ = false := he3.frozen 0
    obtain ⟨A, c, rfl, _⟩ := ho3.slice
    go_wp2_with (go_at_call 37; refine (insist_yes _).mono ?_; rintro e w5 ⟨rfl, rfl⟩)
    refine leaves_cons (f := 63) (args := #[.pointer (some ⟨w.heap.size, 0, none⟩), .pointer (some ⟨w.heap.size + 1, 0, none⟩)]) (by simp) (by simp [go_sem]) ?_
    refine (catchEI_Packet _ ⟨w.heap.size, 0, none⟩ ⟨w.heap.size + 1, 0, none⟩).mono ?_
    rintro e u' w'' ⟨rfl, rfl, rfl⟩
    have hb4 := (((hb3.set 0 (.slice A bs.length c)).far (p := ⟨w.heap.size + 1, 0, none⟩) (by simp) (.int .i64 0)).set 0 (.slice A bs.length c)).far (p := ⟨w.heap.size + 1, 0, none⟩) (by simp) (.int .i64 0)
    have he4 := (((he3.far (p := ⟨w.heap.size, 0, none⟩) (by simp) (.slice A bs.length c)).set 0 (.int .i64 0)).far (p := ⟨w.heap.size, 0, none⟩) (by simp) (.slice A bs.length c)).set 0 (.int .i64 0)
    have K := ((((Chg.refl (fun k => k = w.heap.size ∨ k = w.heap.size + 1) w3).setCell (p := ⟨w.heap.size, 0, none⟩) (.inl (.inl rfl)) (.slice A bs.length c)).setCell (p := ⟨w.heap.size + 1, 0, none⟩) (.inl (.inr rfl)) (.int .i64 0)).setCell (p := ⟨w.heap.size, 0, none⟩) (.inl (.inl rfl)) (.slice A bs.length c)).setCell (p := ⟨w.heap.size + 1, 0, none⟩) (.inl (.inr rfl)) (.int .i64 0)
    have hlt := he2.lt
    refine ⟨_, results_two rfl _ _ _ ⟨w.heap.size, 0, none⟩ ⟨w.heap.size + 1, 0, none⟩ _ _ rfl rfl (load_bytes (hb4.cell 0)) (load_errno (he4.cell 0)), (C1.trans hc3 (fun _ f => f.elim)).trans K (fun j hj => .inr (by omega)), _, rfl, ho3.chg K (fun j hj => ?_), fun k hk => ?_⟩
    · have := hl3 j hj; omega
    · have := hl3 k hk; omega


end Go.Proofs.Ytgonbmcfeehfaaa
