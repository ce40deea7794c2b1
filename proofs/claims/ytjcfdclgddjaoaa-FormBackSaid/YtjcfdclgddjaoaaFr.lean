/- Package forms: what its small functions leave, reading: contracts. -/
import Derived.Test.YtjcfdclgddjaoaaChecked
import Derived.WalkKit
import Derived.WalkLawsBesides
import Derived.Lib.Hide
import Derived.Deep.MidRow
import Derived.Test.YtjcfdclgddjaoaaFt
namespace Go.Proofs.Ytjcfdclgddjaoaa
open Go.RowKit
set_option linter.unusedVariables false
set_option maxRecDepth 20000

/-- The reader's block, and the block that is read into. -/
def Two (g tb : Nat) (k : Nat) : Prop := k = g ∨ k = tb
/-- A reader, and a row that is read into, behind what was done since the world W. -/
structure Rst (W : World) (g : Nat) (F : Nat → Prop) (tb : Nat) (t : TypeId) (L : List Value) (st : St) (w : World) : Prop where
  rdr : Rdr w g F st
  row : Hb w tb t L.toArray
  chg : Chg (Two g tb) W w
  ne : tb ≠ g
  nF : ¬ F tb
theorem Rst.trans {W w w' : World} {g : Nat} {F : Nat → Prop} {tb : Nat} {t : TypeId} {L L' : List Value} {st st' : St} (S : Rst W g F tb t L st w) (T : Rst w g F tb t L' st' w') : Rst W g F tb t L' st' w' := ⟨T.rdr, T.row, S.chg.trans T.chg (fun _ h => .inl h), T.ne, T.nF⟩
theorem Rst.non {W w w' : World} {g : Nat} {F : Nat → Prop} {tb : Nat} {t : TypeId} {L : List Value} {st : St} (S : Rst W g F tb t L st w) (k : Chg Non w w') : Rst W g F tb t L st w' := ⟨S.rdr.chg k (fun f => f) (fun _ _ f => f), S.row.chg k (fun f => f), S.chg.trans k (fun _ f => f.elim), S.ne, S.nF⟩
theorem Rst.here {W w : World} {g : Nat} {F : Nat → Prop} {tb : Nat} {t : TypeId} {L : List Value} {st : St} (S : Rst W g F tb t L st w) : Rst w g F tb t L st w := ⟨S.rdr, S.row, Chg.refl _ _, S.ne, S.nF⟩
/-- A call on the reader alone. -/
theorem Rst.read {W w w' : World} {g : Nat} {F : Nat → Prop} {tb : Nat} {t : TypeId} {L : List Value} {st st' : St} (S : Rst W g F tb t L st w) (h1 : Rdr w' g F st') (h2 : Chg (Eqg g) w w') : Rst W g F tb t L st' w' :=
  ⟨h1, S.row.chg h2 (fun e => S.ne e), S.chg.trans h2 (fun j hj => .inl (.inl hj)), S.ne, S.nF⟩
theorem row_set (p : List Value) (x u : Value) (q : List Value) : (p ++ x :: q).toArray.setIfInBounds p.length u = (p ++ u :: q).toArray := by simp
theorem Rst.set {W w : World} {g : Nat} {F : Nat → Prop} {tb : Nat} {t : TypeId} {p q : List Value} {x : Value} {st : St} (S : Rst W g F tb t (p ++ x :: q) st w) {o : Nat} (ho : o = p.length) (u : Value) : Rst W g F tb t (p ++ u :: q) st (w.setCell ⟨tb, o, none⟩ u) := by
  subst ho
  refine ⟨S.rdr.chg ((Chg.refl (fun k => k = tb) w).setCell (p := ⟨tb, _, none⟩) (.inl rfl) _) (fun e => S.ne e.symm) (fun j hj e => S.nF (e ▸ hj)), ?_, S.chg.setCell (p := ⟨tb, _, none⟩) (.inl (.inr rfl)) _, S.ne, S.nF⟩
  rw [← row_set p x u q]
  exact S.row.set _ _
theorem Chg.setCells {S : Nat → Prop} {a : World} {tb : Nat} (hs : S tb) : ∀ (vs : List Value) (b : World) (o : Nat), Chg S a b → Chg S a (b.setCells tb o vs)
  | [], _, _, h => h
  | v :: vs, b, o, h => Chg.setCells hs vs _ _ (h.setCell (p := ⟨tb, o, none⟩) (.inl hs) v)
theorem Hb.setCells {t : TypeId} {tb : Nat} : ∀ (new old p q : List Value) (w : World), old.length = new.length → Hb w tb t (p ++ (old ++ q)).toArray → Hb (w.setCells tb p.length new) tb t (p ++ (new ++ q)).toArray
  | [], old, p, q, w, hl, h => by
    obtain rfl : old = [] := List.eq_nil_of_length_eq_zero hl
    exact h
  | v :: vs, [], p, q, w, hl, h => by simp at hl
  | v :: vs, x :: old, p, q, w, hl, h => by
    have h1 : Hb (w.setCell ⟨tb, p.length, none⟩ v) tb t ((p ++ [v]) ++ (old ++ q)).toArray := by
      have h2 := h.set p.length v
      rw [List.cons_append, row_set] at h2
      simpa using h2
    have h3 := Hb.setCells vs old (p ++ [v]) q _ (by simpa using hl) h1
    rw [List.length_append, List.length_singleton] at h3
    simpa [World.setCells] using h3
theorem Rst.sets {W w : World} {g : Nat} {F : Nat → Prop} {tb : Nat} {t : TypeId} {p q old : List Value} {st : St} (S : Rst W g F tb t (p ++ (old ++ q)) st w) {o : Nat} (ho : o = p.length) (new : List Value) (hl : old.length = new.length) : Rst W g F tb t (p ++ (new ++ q)) st (w.setCells tb o new) := by
  subst ho
  exact ⟨S.rdr.chg (Chg.setCells (S := fun k => k = tb) rfl new w _ (Chg.refl (fun k => k = tb) w)) (fun e => S.ne e.symm) (fun j hj e => S.nF (e ▸ hj)), S.row.setCells new old p q w hl, Chg.setCells (.inr rfl) new w _ S.chg, S.ne, S.nF⟩
theorem Rst.cell {W w : World} {g : Nat} {F : Nat → Prop} {tb : Nat} {t : TypeId} {p q : List Value} {x : Value} {st : St} (S : Rst W g F tb t (p ++ x :: q) st w) {o : Nat} (ho : o = p.length) : w.cell? ⟨tb, o, none⟩ = some x ∧ w.frozen? ⟨tb, o, none⟩ = false := by
  subst ho
  refine ⟨?_, S.row.frozen _⟩
  rw [S.row.cell]
  simp
theorem Rst.there {W w : World} {g : Nat} {F : Nat → Prop} {tb : Nat} {t : TypeId} {p q old : List Value} {st : St} (S : Rst W g F tb t (p ++ (old ++ q)) st w) {o : Nat} (ho : o = p.length) : w.there tb o old.length := by
  subst ho
  intro j hj
  refine ⟨?_, S.row.frozen _⟩
  rw [S.row.cell, List.getElem?_toArray, List.getElem?_append_right (by omega), Nat.add_sub_cancel_left, List.getElem?_append_left hj, List.getElem?_eq_getElem hj]
  rfl
theorem Rst.nw {W w : World} {g : Nat} {F : Nat → Prop} {tb : Nat} {t : TypeId} {L : List Value} {st : St} (S : Rst W g F tb t L st w) {k : Nat} (hk : w.heap.size ≤ k) : ¬ Two g tb k := by
  rintro (rfl | rfl)
  · have := S.rdr.lt; omega
  · have := S.row.lt; omega

/-- What a reading leaves: the row with what was read, and the reader behind it; or the panic, if it is not right. -/
def RO (w : World) (g : Nat) (F : Nat → Prop) (tb : Nat) (t : TypeId) (n : Nat) (r : Option (List Value × St)) (e : Ending) (w' : World) : Prop :=
  match r with
  | some x => e = .returned (.tuple #[]) ∧ Rst w g F tb t x.1 x.2 w'
  | none => e = .panicked bad ∧ Chg (Two g tb) w w' ∧ ∃ L' : List Value, L'.length = n ∧ Hb w' tb t L'.toArray
section
variable {W w w' : World} {g : Nat} {F : Nat → Prop} {tb n : Nat} {t : TypeId} {L : List Value} {st : St} {r : Option (List Value × St)} {e : Ending}
theorem RO.after (S : Rst W g F tb t L st w) (h : RO w g F tb t n r e w') : RO W g F tb t n r e w' := by
  cases r with
  | some x => exact ⟨h.1, S.trans h.2⟩
  | none => exact ⟨h.1, S.chg.trans h.2.1 (fun _ h => .inl h), h.2.2⟩
theorem RO.chg (h : RO w g F tb t n r e w') : Chg (Two g tb) w w' := by
  cases r with
  | some x => exact h.2.chg
  | none => exact h.2.1
theorem RO.cases (h : RO w g F tb t n r e w') : (r = none ∧ e = .panicked bad ∧ Chg (Two g tb) w w' ∧ ∃ L' : List Value, L'.length = n ∧ Hb w' tb t L'.toArray) ∨ (∃ x, r = some x ∧ e = .returned (.tuple #[]) ∧ Rst w g F tb t x.1 x.2 w') := by
  cases r with
  | some x => exact .inr ⟨x, rfl, h.1, h.2⟩
  | none => exact .inl ⟨rfl, h.1, h.2⟩
end

theorem word_r (w : World) (g : Nat) (F : Nat → Prop) (tb o : Nat) (t : TypeId) (p q : List Value) (x : Value) (st : St) (S : Rst w g F tb t (p ++ x :: q) st w) (ho : o = p.length) :
    Calls Try.prog 94 #[.agg #[.pointer none, .pointer (some ⟨g, 0, none⟩)], .pointer (some ⟨tb, o, none⟩)] w (RO w g F tb t (p ++ x :: q).length (some (p ++ .int .u64 (vW st : Int) :: q, nW st))) := by
  have HO := Lib.hid ho
  clear ho
  have S1 := S.non ((Chg.refl Non w).alloc (.cells #[.pointer none, .pointer (some ⟨g, 0, none⟩)] 138))
  have hw := S.nw (Nat.le_refl w.heap.size)
  have hx := Hb.new w 138 #[.pointer none, .pointer (some ⟨g, 0, none⟩)]
  go_enter Try.func94, Try.ntmps94
  go_wp2_with fail
  refine (writes_r _ g).mono ?_
  rintro e w1 ⟨rfl, hC⟩
  have S2 := S1.non hC
  have x1 : w1.cell? ⟨w.heap.size, 1, none⟩ = some (.pointer (some ⟨g, 0, none⟩)) := (hx.chg hC (fun f => f)).cell 1
  clear S1 hx hC
  go_wp2_with fail
  refine (wordR_v _ g F st S2.rdr).mono ?_
  rintro e w2 ⟨rfl, h1, h2⟩
  have S3 := S2.read h1 h2
  obtain ⟨c0, f0⟩ := S3.cell HO.out
  go_wp2
  go_end0
  exact ⟨rfl, S3.set HO.out _⟩

theorem hash_r (w : World) (g : Nat) (F : Nat → Prop) (tb o : Nat) (t : TypeId) (p q old : List Value) (st : St) (S : Rst w g F tb t (p ++ (old ++ q)) st w) (ho : o = p.length) (hold : old.length = 32) :
    Calls Try.prog 93 #[.agg #[.pointer none, .pointer (some ⟨g, 0, none⟩)], .pointer (some ⟨tb, o, none⟩)] w (RO w g F tb t (p ++ (old ++ q)).length (some (p ++ (bv (vH st) ++ q), nH st))) := by
  have HO := Lib.hid ho
  clear ho
  have S1 := S.non ((Chg.refl Non w).alloc (.cells #[.pointer none, .pointer (some ⟨g, 0, none⟩)] 138))
  have hw := S.nw (Nat.le_refl w.heap.size)
  have hx := Hb.new w 138 #[.pointer none, .pointer (some ⟨g, 0, none⟩)]
  go_enter Try.func93, Try.ntmps93
  go_wp2_with fail
  refine (writes_r _ g).mono ?_
  rintro e w1 ⟨rfl, hC⟩
  have S2 := S1.non hC
  have x1 : w1.cell? ⟨w.heap.size, 1, none⟩ = some (.pointer (some ⟨g, 0, none⟩)) := (hx.chg hC (fun f => f)).cell 1
  clear S1 hx hC
  go_wp2_with fail
  refine (hashR_v _ g F st S2.rdr).mono ?_
  rintro e w2 ⟨rfl, h1, h2⟩
  have S3 := S2.read h1 h2
  have ht := S3.there HO.out
  have hvl := vH_length st
  rw [hold] at ht
  go_wp2_with (with_reducible refine wpList_store_mid rfl _ _ _ rfl tb o (bv (vH st)).toArray rfl rfl (by rw [List.size_toArray, bv_length, hvl]; exact ht) (by rw [List.size_toArray, bv_length, hvl]; exact hash_row) (all_oneCell_toArray (bv_one _)) ?_)
  go_end0
  exact ⟨rfl, S3.sets HO.out (bv (vH st)) (by rw [bv_length, hvl, hold])⟩

theorem number_r (w : World) (g : Nat) (F : Nat → Prop) (tb o : Nat) (t : TypeId) (p q : List Value) (x : Value) (st : St) (S : Rst w g F tb t (p ++ x :: q) st w) (ho : o = p.length) (lo hi : Int) :
    Calls Try.prog 80 #[.agg #[.pointer none, .pointer (some ⟨g, 0, none⟩)], .pointer (some ⟨tb, o, none⟩), .int .i64 lo, .int .i64 hi] w (RO w g F tb t (p ++ x :: q).length ((dNum lo hi st).map fun y => (p ++ .int .i64 y.1 :: q, y.2))) := by
  have vb := vN_bounds st
  generalize hr : (dNum lo hi st).map _ = r
  have HR := Lib.hid hr
  clear hr
  have HO := Lib.hid ho
  clear ho
  have S1 := S.non ((Chg.refl Non w).alloc (.cells #[.pointer none, .pointer (some ⟨g, 0, none⟩)] 138))
  have hw := S.nw (Nat.le_refl w.heap.size)
  have hx := Hb.new w 138 #[.pointer none, .pointer (some ⟨g, 0, none⟩)]
  go_enter Try.func80, Try.ntmps80
  go_wp2_with fail
  refine (writes_r _ g).mono ?_
  rintro e w1 ⟨rfl, hC⟩
  have S2 := S1.non hC
  have x1 : w1.cell? ⟨w.heap.size, 1, none⟩ = some (.pointer (some ⟨g, 0, none⟩)) := (hx.chg hC (fun f => f)).cell 1
  clear S1 hx hC
  go_wp2_with fail
  refine (numberR_v _ g F st S2.rdr).mono ?_
  rintro e w2 ⟨rfl, h1, h2⟩
  have S3 := S2.read h1 h2
  have HC := Lib.hid (S3.cell HO.out)
  have S4 := S3.set HO.out (.int .i64 (vN st))
  have HC4 := Lib.hid (S4.cell HO.out)
  clear S2 S3 h1 h2 x1
  generalize hvn : vN st = n at *
  have HV := Lib.hid hvn
  clear hvn
  have c0 := HC.out.1
  have f0 := HC.out.2
  have c4 := HC4.out.1
  by_cases hlo : lo ≤ n
  · by_cases hhi : n ≤ hi
    · obtain rfl : r = some (p ++ .int .i64 n :: q, nW st) := by rw [← HR.out]; unfold dNum; rw [HV.out, if_pos (inR_iff.2 ⟨hlo, hhi⟩)]; rfl
      have k1 : decide (n ≥ lo) = true := by simpa using hlo
      have k2 : decide (n ≤ hi) = true := by simpa using hhi
      go_wp2_with (go_at_call 78; refine (insist_yes _).mono ?_; rintro e w5 ⟨rfl, rfl⟩)
      go_end0
      exact ⟨rfl, S4⟩
    · obtain rfl : r = none := by rw [← HR.out]; unfold dNum; rw [HV.out, if_neg (fun h => hhi (inR_iff.1 h).2)]; rfl
      have k1 : decide (n ≥ lo) = true := by simpa using hlo
      have k2 : decide (n ≤ hi) = false := by simpa using hhi
      go_wp2_with (go_at_call 78; refine (insist_no _).mono ?_; rintro e w5 ⟨rfl, rfl⟩)
      exact ⟨rfl, rfl, S4.chg, _, by simp, S4.row⟩
  · obtain rfl : r = none := by rw [← HR.out]; unfold dNum; rw [HV.out, if_neg (fun h => hlo (inR_iff.1 h).1)]; rfl
    have k1 : decide (n ≥ lo) = false := by simpa using hlo
    go_wp2_with (go_at_call 78; refine (insist_no _).mono ?_; rintro e w5 ⟨rfl, rfl⟩)
    exact ⟨rfl, rfl, S4.chg, _, by simp, S4.row⟩

theorem numberT_r (w : World) (g : Nat) (F : Nat → Prop) (tb o : Nat) (t : TypeId) (p q : List Value) (x : Value) (st : St) (S : Rst w g F tb t (p ++ x :: q) st w) (ho : o = p.length) (lo hi : Int) :
    Calls Try.prog 92 #[.agg #[.pointer none, .pointer (some ⟨g, 0, none⟩)], .pointer (some ⟨tb, o, none⟩), .int .i64 lo, .int .i64 hi] w (RO w g F tb t (p ++ x :: q).length ((dNum lo hi st).map fun y => (p ++ .int .i64 y.1 :: q, y.2))) := by
  have vb := vN_bounds st
  generalize hr : (dNum lo hi st).map _ = r
  have HR := Lib.hid hr
  clear hr
  have HO := Lib.hid ho
  clear ho
  have S1 := S.non ((Chg.refl Non w).alloc (.cells #[.pointer none, .pointer (some ⟨g, 0, none⟩)] 138))
  have hw := S.nw (Nat.le_refl w.heap.size)
  have hx := Hb.new w 138 #[.pointer none, .pointer (some ⟨g, 0, none⟩)]
  go_enter Try.func92, Try.ntmps92
  go_wp2_with fail
  refine (writes_r _ g).mono ?_
  rintro e w1 ⟨rfl, hC⟩
  have S2 := S1.non hC
  have x1 : w1.cell? ⟨w.heap.size, 1, none⟩ = some (.pointer (some ⟨g, 0, none⟩)) := (hx.chg hC (fun f => f)).cell 1
  clear S1 hx hC
  go_wp2_with fail
  refine (numberR_v _ g F st S2.rdr).mono ?_
  rintro e w2 ⟨rfl, h1, h2⟩
  have S3 := S2.read h1 h2
  have HC := Lib.hid (S3.cell HO.out)
  have S4 := S3.set HO.out (.int .i64 (vN st))
  have HC4 := Lib.hid (S4.cell HO.out)
  clear S2 S3 h1 h2 x1
  generalize hvn : vN st = n at *
  have HV := Lib.hid hvn
  clear hvn
  have c0 := HC.out.1
  have f0 := HC.out.2
  have c4 := HC4.out.1
  by_cases hlo : lo ≤ n
  · by_cases hhi : n ≤ hi
    · obtain rfl : r = some (p ++ .int .i64 n :: q, nW st) := by rw [← HR.out]; unfold dNum; rw [HV.out, if_pos (inR_iff.2 ⟨hlo, hhi⟩)]; rfl
      have k1 : decide (n ≥ lo) = true := by simpa using hlo
      have k2 : decide (n ≤ hi) = true := by simpa using hhi
      go_wp2_with (go_at_call 78; refine (insist_yes _).mono ?_; rintro e w5 ⟨rfl, rfl⟩)
      go_end0
      exact ⟨rfl, S4⟩
    · obtain rfl : r = none := by rw [← HR.out]; unfold dNum; rw [HV.out, if_neg (fun h => hhi (inR_iff.1 h).2)]; rfl
      have k1 : decide (n ≥ lo) = true := by simpa using hlo
      have k2 : decide (n ≤ hi) = false := by simpa using hhi
      go_wp2_with (go_at_call 78; refine (insist_no _).mono ?_; rintro e w5 ⟨rfl, rfl⟩)
      exact ⟨rfl, rfl, S4.chg, _, by simp, S4.row⟩
  · obtain rfl : r = none := by rw [← HR.out]; unfold dNum; rw [HV.out, if_neg (fun h => hlo (inR_iff.1 h).1)]; rfl
    have k1 : decide (n ≥ lo) = false := by simpa using hlo
    go_wp2_with (go_at_call 78; refine (insist_no _).mono ?_; rintro e w5 ⟨rfl, rfl⟩)
    exact ⟨rfl, rfl, S4.chg, _, by simp, S4.row⟩

theorem text_r (w : World) (g : Nat) (F : Nat → Prop) (tb o : Nat) (t : TypeId) (p q : List Value) (x : Value) (st : St) (S : Rst w g F tb t (p ++ x :: q) st w) (ho : o = p.length) (most : Nat) (hmost : most ≤ 4096) :
    Calls Try.prog 82 #[.agg #[.pointer none, .pointer (some ⟨g, 0, none⟩)], .pointer (some ⟨tb, o, none⟩), .int .i64 (most : Int)] w (RO w g F tb t (p ++ x :: q).length ((dText most st).map fun y => (p ++ .string y.1 :: q, y.2))) := by
  have vb := vT_small st
  generalize hr : (dText most st).map _ = r
  have HR := Lib.hid hr
  clear hr
  have HO := Lib.hid ho
  clear ho
  have S1 := S.non ((Chg.refl Non w).alloc (.cells #[.pointer none, .pointer (some ⟨g, 0, none⟩)] 138))
  have hw := S.nw (Nat.le_refl w.heap.size)
  have hx := Hb.new w 138 #[.pointer none, .pointer (some ⟨g, 0, none⟩)]
  go_enter Try.func82, Try.ntmps82
  go_wp2_with fail
  refine (writes_r _ g).mono ?_
  rintro e w1 ⟨rfl, hC⟩
  have S2 := S1.non hC
  have x1 : w1.cell? ⟨w.heap.size, 1, none⟩ = some (.pointer (some ⟨g, 0, none⟩)) := (hx.chg hC (fun f => f)).cell 1
  clear S1 hx hC
  go_wp2_with fail
  refine (textR_v _ g F st S2.rdr).mono ?_
  rintro e w2 ⟨rfl, h1, h2⟩
  have S3 := S2.read h1 h2
  have HC := Lib.hid (S3.cell HO.out)
  have S4 := S3.set HO.out (.string ⟨(vT st).toArray⟩)
  have HC4 := Lib.hid (S4.cell HO.out)
  clear S2 S3 h1 h2 x1
  generalize hs : (⟨(vT st).toArray⟩ : ByteArray) = s at *
  have hsz : s.size = (vT st).length := by rw [← hs]; rfl
  have HV := Lib.hid hs
  have HZ := Lib.hid hsz
  rw [← hsz] at vb
  clear hs hsz
  have c0 := HC.out.1
  have f0 := HC.out.2
  have c4 := HC4.out.1
  by_cases hok : s.size ≤ most
  · obtain rfl : r = some (p ++ .string s :: q, nT st) := by rw [← HR.out]; unfold dText; rw [← HZ.out, if_pos hok, HV.out]; rfl
    have k1 : decide ((s.size : Int) ≤ (most : Int)) = true := decide_eq_true (by omega)
    go_wp2_with (go_at_call 78; refine (insist_yes _).mono ?_; rintro e w5 ⟨rfl, rfl⟩)
    go_end0
    exact ⟨rfl, S4⟩
  · obtain rfl : r = none := by rw [← HR.out]; unfold dText; rw [← HZ.out, if_neg hok]; rfl
    have k1 : decide ((s.size : Int) ≤ (most : Int)) = false := decide_eq_false (by omega)
    go_wp2_with (go_at_call 78; refine (insist_no _).mono ?_; rintro e w5 ⟨rfl, rfl⟩)
    exact ⟨rfl, rfl, S4.chg, _, by simp, S4.row⟩

theorem name_r (w : World) (g : Nat) (F : Nat → Prop) (tb o : Nat) (t : TypeId) (p q : List Value) (x : Value) (st : St) (S : Rst w g F tb t (p ++ x :: q) st w) (ho : o = p.length) :
    Calls Try.prog 81 #[.agg #[.pointer none, .pointer (some ⟨g, 0, none⟩)], .pointer (some ⟨tb, o, none⟩)] w (RO w g F tb t (p ++ x :: q).length ((dName st).map fun y => (p ++ .string y.1 :: q, y.2))) := by
  have S1 := S.non ((Chg.refl Non w).alloc (.cells #[.pointer none, .pointer (some ⟨g, 0, none⟩)] 138))
  have vb := vT_small st
  have hsz : (⟨(vT st).toArray⟩ : ByteArray).size = (vT st).length := rfl
  have H := name_gen w none (some ⟨g, 0, none⟩) tb o ⟨(vT st).toArray⟩ (by unfold maxLen; omega) (fun w' => Chg (Two g tb) w w' ∧ (∃ L' : List Value, L'.length = (p ++ x :: q).length ∧ Hb w' tb t L'.toArray) ∧ ((⟨(vT st).toArray⟩ : ByteArray).size ≤ 16 → Rst w g F tb t (p ++ .string ⟨(vT st).toArray⟩ :: q) (nT st) w'))
    (fun w1 w2 ⟨h1, ⟨L', hl, hL⟩, h2⟩ k => ⟨h1.trans k (fun _ f => f.elim), ⟨L', hl, hL.chg k (fun f => f)⟩, fun hs => (h2 hs).non k⟩)
    ((text_r _ g F tb o t p q x st S1.here ho 16 (by omega)).mono fun e w' h1 => by
      have h3 := RO.after S1 h1
      unfold dText at h3
      by_cases hs : (vT st).length ≤ 16
      · rw [if_pos hs] at h3
        rw [decide_eq_true (show (⟨(vT st).toArray⟩ : ByteArray).size ≤ 16 from hs)]
        exact ⟨h3.1, ⟨h3.2.chg, ⟨_, by simp, h3.2.row⟩, fun _ => h3.2⟩, fun _ => (h3.2.cell ho).1⟩
      · rw [if_neg hs] at h3
        rw [decide_eq_false (show ¬ (⟨(vT st).toArray⟩ : ByteArray).size ≤ 16 from hs)]
        exact ⟨h3.1, ⟨h3.2.1, h3.2.2, fun h => absurd h hs⟩, fun h => absurd h hs⟩)
  refine H.mono ?_
  rintro e w' ⟨he, h1, h2, h3⟩
  unfold dName
  cases hk : nameOk ⟨(vT st).toArray⟩ with
  | true => rw [hk] at he; rw [if_pos rfl]; exact ⟨he, h3 (nameOk_size hk)⟩
  | false => rw [hk] at he; rw [if_neg (by simp)]; exact ⟨he, h1, h2⟩

theorem begin_r (w : World) (g : Nat) (F : Nat → Prop) (tb : Nat) (t : TypeId) (L : List Value) (st : St) (S : Rst w g F tb t L st w) (k : Int) :
    Calls Try.prog 79 #[.agg #[.pointer none, .pointer (some ⟨g, 0, none⟩)], .int .i64 k] w (RO w g F tb t L.length ((dBegin k st).map fun s => (L, s))) := by
  have hC := ((Chg.refl Non w).alloc (.cells #[.pointer none, .pointer (some ⟨g, 0, none⟩)] 138)).alloc (.cells #[.int .i64 k] 3)
  have S1 := S.non hC
  have hx0 := ((Hb.new w 138 #[.pointer none, .pointer (some ⟨g, 0, none⟩)]).alloc (.cells #[.int .i64 k] 3)).cell 0
  have hx1 := ((Hb.new w 138 #[.pointer none, .pointer (some ⟨g, 0, none⟩)]).alloc (.cells #[.int .i64 k] 3)).cell 1
  have hn : Hb ((w.alloc (.cells #[.pointer none, .pointer (some ⟨g, 0, none⟩)] 138)).alloc (.cells #[.int .i64 k] 3)) (w.heap.size + 1) 3 #[.int .i64 k] := by
    have := Hb.new (w.alloc (.cells #[.pointer none, .pointer (some ⟨g, 0, none⟩)] 138)) 3 #[.int .i64 k]
    rwa [show (w.alloc (.cells #[.pointer none, .pointer (some ⟨g, 0, none⟩)] 138)).heap.size = w.heap.size + 1 by simp] at this
  have hg := S.rdr.lt
  have ht := S.row.lt
  have SN : Rst _ g F (w.heap.size + 1) 3 ([] ++ .int .i64 k :: []) st _ := ⟨S1.rdr, hn, Chg.refl _ _, by omega, fun hf => by have := S.rdr.Flt _ hf; omega⟩
  have H := number_r _ g F (w.heap.size + 1) 0 3 [] [] (.int .i64 k) st SN rfl k k
  have HH := Lib.hid H
  have vb := vN_bounds st
  have e1 : dNum k k st = (dBegin k st).map fun s => (k, s) := by
    unfold dNum dBegin
    by_cases h : vN st = k
    · rw [if_pos (inR_iff.2 ⟨by omega, by omega⟩), if_pos h, h]; rfl
    · rw [if_neg (fun h2 => by have := inR_iff.1 h2; omega), if_neg h]; rfl
  rw [e1] at HH
  clear H e1 SN
  generalize dBegin k st = d at HH ⊢
  go_enter Try.func79, Try.ntmps79
  go_wp2_with fail
  refine HH.out.mono ?_
  rintro e w1 h1
  clear HH
  cases d with
  | some s =>
    obtain ⟨rfl, h2⟩ := h1
    have hrow := S1.row.chg h2.chg (by rintro (h | h); exact S.ne h; omega)
    go_wp2
    go_end0
    exact ⟨rfl, h2.rdr, hrow, (hC.mono (S' := Two g tb) (fun _ f => f.elim)).trans h2.chg (fun j hj => by rcases hj with rfl | rfl; exact .inl (.inl rfl); exact .inr (by omega)), S.ne, S.nF⟩
  | none =>
    obtain ⟨rfl, h2, _⟩ := h1
    have hrow := S1.row.chg h2 (by rintro (h | h); exact S.ne h; omega)
    go_wp2
    exact ⟨rfl, rfl, (hC.mono (S' := Two g tb) (fun _ f => f.elim)).trans h2 (fun j hj => by rcases hj with rfl | rfl; exact .inl (.inl rfl); exact .inr (by omega)), _, rfl, hrow⟩

theorem height_r (w : World) (g : Nat) (F : Nat → Prop) (tb o : Nat) (t : TypeId) (p q : List Value) (x : Value) (st : St) (S : Rst w g F tb t (p ++ x :: q) st w) (ho : o = p.length) :
    Calls Try.prog 83 #[.agg #[.pointer none, .pointer (some ⟨g, 0, none⟩)], .pointer (some ⟨tb, o, none⟩)] w (RO w g F tb t (p ++ x :: q).length ((dNum 1 1099511627776 st).map fun y => (p ++ .int .i64 y.1 :: q, y.2))) := by
  have S1 := S.non ((Chg.refl Non w).alloc (.cells #[.pointer none, .pointer (some ⟨g, 0, none⟩)] 138))
  have hx0 := (Hb.new w 138 #[.pointer none, .pointer (some ⟨g, 0, none⟩)]).cell 0
  have hx1 := (Hb.new w 138 #[.pointer none, .pointer (some ⟨g, 0, none⟩)]).cell 1
  have H := number_r _ g F tb o t p q x st S1.here ho 1 1099511627776
  generalize (dNum 1 1099511627776 st).map _ = r at H ⊢
  have HH := Lib.hid H
  clear H ho
  go_enter Try.func83, Try.ntmps83
  go_wp2_with fail
  refine HH.out.mono ?_
  rintro e w1 h1
  have h2 := RO.after S1 h1
  clear HH h1
  rcases h2.cases with ⟨rfl, rfl, h3⟩ | ⟨y, rfl, rfl, h3⟩
  · go_wp2
    exact ⟨rfl, rfl, by simpa using h3⟩
  · go_wp2
    go_end0
    exact ⟨rfl, h3⟩

theorem round_r (w : World) (g : Nat) (F : Nat → Prop) (tb o : Nat) (t : TypeId) (p q : List Value) (x : Value) (st : St) (S : Rst w g F tb t (p ++ x :: q) st w) (ho : o = p.length) :
    Calls Try.prog 91 #[.agg #[.pointer none, .pointer (some ⟨g, 0, none⟩)], .pointer (some ⟨tb, o, none⟩)] w (RO w g F tb t (p ++ x :: q).length ((dNum 0 1048576 st).map fun y => (p ++ .int .i64 y.1 :: q, y.2))) := by
  have S1 := S.non ((Chg.refl Non w).alloc (.cells #[.pointer none, .pointer (some ⟨g, 0, none⟩)] 138))
  have hx0 := (Hb.new w 138 #[.pointer none, .pointer (some ⟨g, 0, none⟩)]).cell 0
  have hx1 := (Hb.new w 138 #[.pointer none, .pointer (some ⟨g, 0, none⟩)]).cell 1
  have H := number_r _ g F tb o t p q x st S1.here ho 0 1048576
  generalize (dNum 0 1048576 st).map _ = r at H ⊢
  have HH := Lib.hid H
  clear H ho
  go_enter Try.func91, Try.ntmps91
  go_wp2_with fail
  refine HH.out.mono ?_
  rintro e w1 h1
  have h2 := RO.after S1 h1
  clear HH h1
  rcases h2.cases with ⟨rfl, rfl, h3⟩ | ⟨y, rfl, rfl, h3⟩
  · go_wp2
    exact ⟨rfl, rfl, by simpa using h3⟩
  · go_wp2
    go_end0
    exact ⟨rfl, h3⟩
end Go.Proofs.Ytjcfdclgddjaoaa
