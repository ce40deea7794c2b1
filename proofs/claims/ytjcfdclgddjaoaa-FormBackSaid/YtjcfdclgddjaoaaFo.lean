/- Package forms: what its small functions leave, writing: contracts. -/
import Derived.Test.YtjcfdclgddjaoaaChecked
import Derived.WalkKit
import Derived.WalkLawsBesides
import Derived.Lib.Hide
import Derived.Deep.MidRow
import Derived.Deep.QuietTactic
import Derived.BigQuiet
import Derived.Deep.RegionHeld3
import Derived.Test.YtjcfdclgddjaoaaRk
namespace Go.Proofs.Ytjcfdclgddjaoaa
open Go.RowKit
set_option linter.unusedVariables false
set_option maxRecDepth 20000

/-- The panic of what is not right. -/
def bad : List PanicEntry := [{ v := .iface 34 (.int .i64 61), recovered := false }]

theorem insist_yes (w : World) : Calls Try.prog 78 #[.bool true] w fun e w' => e = .returned (.tuple #[]) ∧ w' = w := by
  go_enter Try.func78, Try.ntmps78
  go_wp2
  go_end0
  exact ⟨rfl, rfl⟩
theorem insist_no (w : World) : Calls Try.prog 78 #[.bool false] w fun e w' => e = .panicked bad ∧ w' = w := by
  go_enter Try.func78, Try.ntmps78
  go_wp2
  exact ⟨rfl, rfl, rfl⟩

theorem writes_w (w : World) (g : Nat) : Calls Try.prog 113 #[.agg #[.pointer (some ⟨g, 0, none⟩), .pointer none]] w fun e w' => e = .returned (.bool true) ∧ Chg Non w w' := by
  go_enter Try.func113, Try.ntmps113
  go_wp2
  go_ret
  exact ⟨rfl, (Chg.refl Non w).alloc _⟩
theorem writes_r (w : World) (g : Nat) : Calls Try.prog 113 #[.agg #[.pointer none, .pointer (some ⟨g, 0, none⟩)]] w fun e w' => e = .returned (.bool false) ∧ Chg Non w w' := by
  go_enter Try.func113, Try.ntmps113
  go_wp2
  go_ret
  exact ⟨rfl, (Chg.refl Non w).alloc _⟩

/-- A writer that has l, behind what was done since the world W, in which it was v0's. -/
structure Wst (W : World) (g : Nat) (v0 : Value) (l : List UInt8) (w : World) (v : Value) : Prop where
  wri : Wri w g v (some l)
  chg : Chg (Wft g v0) W w
  own : ∀ k, vbl v k → vbl v0 k ∨ W.heap.size ≤ k
section
variable {W w w' : World} {g : Nat} {v0 v v' : Value} {l l' : List UInt8}
theorem Wst.here (h : Wri w g v (some l)) : Wst w g v l w v := ⟨h, Chg.refl _ _, fun _ h => .inl h⟩
theorem Wst.non (S : Wst W g v0 l w v) (k : Chg Non w w') : Wst W g v0 l w' v := ⟨S.wri.chg k (fun _ _ f => f), S.chg.trans k (fun _ f => f.elim), S.own⟩
theorem Wst.wft (S : Wst W g v0 l w v) : ∀ j, Wft g v j → Wft g v0 j ∨ W.heap.size ≤ j := by
  rintro j (rfl | hj)
  · exact .inl (.inl rfl)
  · exact (S.own j hj).imp .inr id
theorem Wst.trans (S : Wst W g v0 l w v) (T : Wst w g v l' w' v') : Wst W g v0 l' w' v' := by
  refine ⟨T.wri, S.chg.trans T.chg S.wft, fun k hk => ?_⟩
  rcases T.own k hk with h4 | h4
  · exact S.own k h4
  · exact .inr (Nat.le_trans S.chg.size h4)
theorem wst_of_wrote {e : Ending} (h : Wrote w g v (some l') e w') : e = .returned (.tuple #[]) ∧ ∃ v', Wst w g v l' w' v' := by
  obtain ⟨rfl, v', h1, h2, h3⟩ := h
  exact ⟨rfl, v', h1, h2, h3⟩
theorem Wst.nw (S : Wst W g v0 l w v) {b : Nat} (h : ¬ Wft g v0 b) (hb : b < W.heap.size) : ¬ Wft g v b := fun h2 => (S.wft b h2).elim h (fun h3 => by omega)
theorem Wst.cell (S : Wst W g v0 l w v) {p : Addr} {u : Value} (hc : W.cell? p = some u) (h : ¬ Wft g v0 p.block) : w.cell? p = some u := S.chg.cell hc h
theorem Wst.range (S : Wst W g v0 l w v) {b o : Nat} {cs : List Value} (hc : W.rangeAt b o cs) (h : ¬ Wft g v0 b) : w.rangeAt b o cs := fun j u hu => S.chg.cell (hc j u hu) h
theorem Chg.range' {S : Nat → Prop} (k : Chg S w w') {b o : Nat} {cs : List Value} (h : w.rangeAt b o cs) (hb : ¬ S b) : w'.rangeAt b o cs := fun j u hu => k.cell (h j u hu) hb
theorem Wrote.cell {st : Option (List UInt8)} {e : Ending} (h : Wrote w g v st e w') {p : Addr} {u : Value} (hc : w.cell? p = some u) (hp : ¬ Wft g v p.block) : w'.cell? p = some u := by
  obtain ⟨_, _, _, h2, _⟩ := h
  exact h2.cell hc hp
theorem Wri.nnew {st : Option (List UInt8)} (h : Wri w g v st) {k : Nat} (hk : w.heap.size ≤ k) : ¬ Wft g v k := by
  rintro (rfl | h2)
  · have := h.lt; omega
  · have := h.vlt _ h2; omega
end

/-- What a writing leaves: more bytes; or the panic, if it is not right. -/
def WO (w : World) (g : Nat) (v : Value) (ok : Bool) (l : List UInt8) (e : Ending) (w' : World) : Prop :=
  match ok with
  | true => e = .returned (.tuple #[]) ∧ ∃ v', Wst w g v l w' v'
  | false => e = .panicked bad ∧ Chg (Wft g v) w w'
section
variable {W w w' : World} {g : Nat} {v0 v : Value} {l l' : List UInt8} {e : Ending} {ok : Bool}
theorem WO.after (S : Wst W g v0 l w v) (h : WO w g v ok l' e w') : WO W g v0 ok l' e w' := by
  cases ok with
  | true =>
    obtain ⟨rfl, v', h1⟩ := h
    exact ⟨rfl, v', S.trans h1⟩
  | false => exact ⟨h.1, S.chg.trans h.2 S.wft⟩
theorem wo_yes {W w' : World} {g : Nat} {v0 v' : Value} {l : List UInt8} (S : Wst W g v0 l w' v') : WO W g v0 true l (.returned (.tuple #[])) w' := ⟨rfl, v', S⟩
theorem WO.chg (h : WO w g v ok l' e w') : Chg (Wft g v) w w' := by
  cases ok with
  | true => obtain ⟨_, _, h1⟩ := h; exact h1.chg
  | false => exact h.2
end

theorem word_w (g : Nat) (l : List UInt8) (w : World) (v : Value) (b o n : Nat) (h : Wri w g v (some l)) (hc : w.cell? ⟨b, o, none⟩ = some (.int .u64 (n : Int))) (hb : ¬ Wft g v b) (hn : n < 18446744073709551616) (hl : l.length ≤ 1000000000) :
    Calls Try.prog 94 #[.agg #[.pointer (some ⟨g, 0, none⟩), .pointer none], .pointer (some ⟨b, o, none⟩)] w (WO w g v true (l ++ be 8 n)) := by
  have S1 := (Wst.here h).non ((Chg.refl Non w).alloc (.cells #[.pointer (some ⟨g, 0, none⟩), .pointer none] 138))
  have c1 := ((Chg.refl Non w).alloc (.cells #[.pointer (some ⟨g, 0, none⟩), .pointer none] 138)).cell hc (fun f => f)
  have hw := h.nnew (Nat.le_refl w.heap.size)
  have hx := Hb.new w 138 #[.pointer (some ⟨g, 0, none⟩), .pointer none]
  go_enter Try.func94, Try.ntmps94
  go_wp2_with fail
  refine (writes_w _ g).mono ?_
  rintro e w1 ⟨rfl, hC⟩
  have S2 := S1.non hC
  have c2 := hC.cell c1 (fun f => f)
  have x0 : w1.cell? ⟨w.heap.size, 0, none⟩ = some (.pointer (some ⟨g, 0, none⟩)) := (hx.chg hC (fun f => f)).cell 0
  clear S1 c1 hx hc
  go_wp2_with fail
  have D2 := S2.non ((Chg.refl Non w1).drew)
  go_region_held3 (fun w' => w'.cell? ⟨w.heap.size, 0, none⟩ = some (.pointer (some ⟨g, 0, none⟩)) ∧ w'.cell? ⟨b, o, none⟩ = some (.int .u64 (n : Int))) (first | exact ⟨x0, c2⟩ | exact ⟨s1, s2⟩ | assumption) (first | (go_at_call 121; refine (word_any _ g v (some l) n hn D2.wri (fun l' h => by injection h with h; subst h; exact hl)).mono ?_; rintro e w3 h3; have s1 := h3.cell x0 hw; have s2 := h3.cell c2 hb; obtain ⟨rfl, v3, S3⟩ := wst_of_wrote h3) | fail)
  go_wp2
  go_end0
  exact ⟨rfl, v3, D2.trans S3⟩

theorem hash_w (g : Nat) (l : List UInt8) (w : World) (v : Value) (b o : Nat) (hs : List UInt8) (hhl : hs.length = 32) (h : Wri w g v (some l)) (hc : w.rangeAt b o (bv hs)) (hb : ¬ Wft g v b) (hl : l.length ≤ 1000000000) :
    Calls Try.prog 93 #[.agg #[.pointer (some ⟨g, 0, none⟩), .pointer none], .pointer (some ⟨b, o, none⟩)] w (WO w g v true (l ++ hs)) := by
  have S1 := (Wst.here h).non ((Chg.refl Non w).alloc (.cells #[.pointer (some ⟨g, 0, none⟩), .pointer none] 138))
  have c1 := ((Chg.refl Non w).alloc (.cells #[.pointer (some ⟨g, 0, none⟩), .pointer none] 138)).range hc (fun f => f)
  have hw := h.nnew (Nat.le_refl w.heap.size)
  have hx := Hb.new w 138 #[.pointer (some ⟨g, 0, none⟩), .pointer none]
  go_enter Try.func93, Try.ntmps93
  go_wp2_with fail
  refine (writes_w _ g).mono ?_
  rintro e w1 ⟨rfl, hC⟩
  have S2 := S1.non hC
  have c2 := hC.range c1 (fun f => f)
  have x0 : w1.cell? ⟨w.heap.size, 0, none⟩ = some (.pointer (some ⟨g, 0, none⟩)) := (hx.chg hC (fun f => f)).cell 0
  clear S1 c1 hx hc
  go_wp2_with fail
  have D2 := S2.non ((Chg.refl Non w1).drew)
  have hu := Try.underlying45
  have hi : (Try.prog.info? 45).map (·.size) = some (bv hs).length := by rw [bv_length, hhl]; exact hash_row
  have hld : ∀ w', (w'.cell? ⟨w.heap.size, 0, none⟩ = some (.pointer (some ⟨g, 0, none⟩)) ∧ w'.rangeAt b o (bv hs)) → (Instr.loadAt 45 (.pointer (some ⟨b, o, none⟩))).run Try.prog w' = .ok (.agg (bv hs).toArray) w' := fun w' hw' => run_loadAt_mid w' b o _ (bv hs) _ hw'.2 Try.underlying45 rfl (by rw [bv_length, hhl]; exact hash_row)
  go_region_held3 (fun w' => w'.cell? ⟨w.heap.size, 0, none⟩ = some (.pointer (some ⟨g, 0, none⟩)) ∧ w'.rangeAt b o (bv hs)) (first | exact ⟨x0, c2⟩ | exact ⟨s1, s2⟩ | assumption) (first | (go_at_call 119; refine (hash_any _ g v (some l) hs hhl D2.wri (fun l' h => by injection h with h; subst h; exact hl)).mono ?_; rintro e w3 h3; have s1 := h3.cell x0 hw; have s2 : w3.rangeAt b o (bv hs) := (fun j u hu => h3.cell (c2 j u hu) hb); obtain ⟨rfl, v3, S3⟩ := wst_of_wrote h3) | fail)
  go_wp2
  go_end0
  exact ⟨rfl, v3, D2.trans S3⟩


theorem number_w (g : Nat) (l : List UInt8) (w : World) (v : Value) (b o : Nat) (n lo hi : Int) (h : Wri w g v (some l)) (hc : w.cell? ⟨b, o, none⟩ = some (.int .i64 n)) (hb : ¬ Wft g v b) (h1 : -9223372036854775808 ≤ n) (h2 : n ≤ 9223372036854775807) (hl : l.length ≤ 1000000000) :
    Calls Try.prog 80 #[.agg #[.pointer (some ⟨g, 0, none⟩), .pointer none], .pointer (some ⟨b, o, none⟩), .int .i64 lo, .int .i64 hi] w (WO w g v (decide (lo ≤ n ∧ n ≤ hi)) (l ++ be 8 (n % 18446744073709551616).toNat)) := by
  have S1 := (Wst.here h).non ((Chg.refl Non w).alloc (.cells #[.pointer (some ⟨g, 0, none⟩), .pointer none] 138))
  have c1 := ((Chg.refl Non w).alloc (.cells #[.pointer (some ⟨g, 0, none⟩), .pointer none] 138)).cell hc (fun f => f)
  have hw := h.nnew (Nat.le_refl w.heap.size)
  have hx := Hb.new w 138 #[.pointer (some ⟨g, 0, none⟩), .pointer none]
  generalize hok : decide (lo ≤ n ∧ n ≤ hi) = ok
  have HOK := Lib.hid hok
  clear hok
  go_enter Try.func80, Try.ntmps80
  go_wp2_with fail
  refine (writes_w _ g).mono ?_
  rintro e w1 ⟨rfl, hC⟩
  have S2 := S1.non hC
  have c2 := hC.cell c1 (fun f => f)
  have x0 : w1.cell? ⟨w.heap.size, 0, none⟩ = some (.pointer (some ⟨g, 0, none⟩)) := (hx.chg hC (fun f => f)).cell 0
  clear S1 c1 hx hc
  go_wp2_with fail
  have D2 := S2.non ((Chg.refl Non w1).drew)
  go_region_held3 (fun w' => w'.cell? ⟨w.heap.size, 0, none⟩ = some (.pointer (some ⟨g, 0, none⟩)) ∧ w'.cell? ⟨b, o, none⟩ = some (.int .i64 n)) (first | exact ⟨x0, c2⟩ | exact ⟨s1, s2⟩ | assumption) (first | (go_at_call 114; refine (number_any _ g v (some l) n h1 h2 D2.wri (fun l' h => by injection h with h; subst h; exact hl)).mono ?_; rintro e w3 h3; have s1 := h3.cell x0 hw; have s2 := h3.cell c2 hb; obtain ⟨rfl, v3, S3⟩ := wst_of_wrote h3) | fail)
  have S4 := D2.trans S3
  clear D2 S2 S3 h3 s1 x0 c2
  by_cases hlo : lo ≤ n
  · by_cases hhi : n ≤ hi
    · obtain rfl : ok = true := by rw [← HOK.out]; exact decide_eq_true ⟨hlo, hhi⟩
      have k1 : decide (n ≥ lo) = true := by simpa using hlo
      have k2 : decide (n ≤ hi) = true := by simpa using hhi
      go_wp2_with (go_at_call 78; refine (insist_yes _).mono ?_; rintro e w5 ⟨rfl, rfl⟩)
      go_end0
      exact ⟨rfl, v3, S4⟩
    · obtain rfl : ok = false := by rw [← HOK.out]; exact decide_eq_false (fun h => hhi h.2)
      have k1 : decide (n ≥ lo) = true := by simpa using hlo
      have k2 : decide (n ≤ hi) = false := by simpa using hhi
      go_wp2_with (go_at_call 78; refine (insist_no _).mono ?_; rintro e w5 ⟨rfl, rfl⟩)
      exact ⟨rfl, rfl, S4.chg⟩
  · obtain rfl : ok = false := by rw [← HOK.out]; exact decide_eq_false (fun h => hlo h.1)
    have k1 : decide (n ≥ lo) = false := by simpa using hlo
    go_wp2_with (go_at_call 78; refine (insist_no _).mono ?_; rintro e w5 ⟨rfl, rfl⟩)
    exact ⟨rfl, rfl, S4.chg⟩

theorem numberT_w (g : Nat) (l : List UInt8) (w : World) (v : Value) (b o : Nat) (n lo hi : Int) (h : Wri w g v (some l)) (hc : w.cell? ⟨b, o, none⟩ = some (.int .i64 n)) (hb : ¬ Wft g v b) (h1 : -9223372036854775808 ≤ n) (h2 : n ≤ 9223372036854775807) (hl : l.length ≤ 1000000000) :
    Calls Try.prog 92 #[.agg #[.pointer (some ⟨g, 0, none⟩), .pointer none], .pointer (some ⟨b, o, none⟩), .int .i64 lo, .int .i64 hi] w (WO w g v (decide (lo ≤ n ∧ n ≤ hi)) (l ++ be 8 (n % 18446744073709551616).toNat)) := by
  have S1 := (Wst.here h).non ((Chg.refl Non w).alloc (.cells #[.pointer (some ⟨g, 0, none⟩), .pointer none] 138))
  have c1 := ((Chg.refl Non w).alloc (.cells #[.pointer (some ⟨g, 0, none⟩), .pointer none] 138)).cell hc (fun f => f)
  have hw := h.nnew (Nat.le_refl w.heap.size)
  have hx := Hb.new w 138 #[.pointer (some ⟨g, 0, none⟩), .pointer none]
  generalize hok : decide (lo ≤ n ∧ n ≤ hi) = ok
  have HOK := Lib.hid hok
  clear hok
  go_enter Try.func92, Try.ntmps92
  go_wp2_with fail
  refine (writes_w _ g).mono ?_
  rintro e w1 ⟨rfl, hC⟩
  have S2 := S1.non hC
  have c2 := hC.cell c1 (fun f => f)
  have x0 : w1.cell? ⟨w.heap.size, 0, none⟩ = some (.pointer (some ⟨g, 0, none⟩)) := (hx.chg hC (fun f => f)).cell 0
  clear S1 c1 hx hc
  go_wp2_with fail
  have D2 := S2.non ((Chg.refl Non w1).drew)
  go_region_held3 (fun w' => w'.cell? ⟨w.heap.size, 0, none⟩ = some (.pointer (some ⟨g, 0, none⟩)) ∧ w'.cell? ⟨b, o, none⟩ = some (.int .i64 n)) (first | exact ⟨x0, c2⟩ | exact ⟨s1, s2⟩ | assumption) (first | (go_at_call 114; refine (number_any _ g v (some l) n h1 h2 D2.wri (fun l' h => by injection h with h; subst h; exact hl)).mono ?_; rintro e w3 h3; have s1 := h3.cell x0 hw; have s2 := h3.cell c2 hb; obtain ⟨rfl, v3, S3⟩ := wst_of_wrote h3) | fail)
  have S4 := D2.trans S3
  clear D2 S2 S3 h3 s1 x0 c2
  by_cases hlo : lo ≤ n
  · by_cases hhi : n ≤ hi
    · obtain rfl : ok = true := by rw [← HOK.out]; exact decide_eq_true ⟨hlo, hhi⟩
      have k1 : decide (n ≥ lo) = true := by simpa using hlo
      have k2 : decide (n ≤ hi) = true := by simpa using hhi
      go_wp2_with (go_at_call 78; refine (insist_yes _).mono ?_; rintro e w5 ⟨rfl, rfl⟩)
      go_end0
      exact ⟨rfl, v3, S4⟩
    · obtain rfl : ok = false := by rw [← HOK.out]; exact decide_eq_false (fun h => hhi h.2)
      have k1 : decide (n ≥ lo) = true := by simpa using hlo
      have k2 : decide (n ≤ hi) = false := by simpa using hhi
      go_wp2_with (go_at_call 78; refine (insist_no _).mono ?_; rintro e w5 ⟨rfl, rfl⟩)
      exact ⟨rfl, rfl, S4.chg⟩
  · obtain rfl : ok = false := by rw [← HOK.out]; exact decide_eq_false (fun h => hlo h.1)
    have k1 : decide (n ≥ lo) = false := by simpa using hlo
    go_wp2_with (go_at_call 78; refine (insist_no _).mono ?_; rintro e w5 ⟨rfl, rfl⟩)
    exact ⟨rfl, rfl, S4.chg⟩
end Go.Proofs.Ytjcfdclgddjaoaa
