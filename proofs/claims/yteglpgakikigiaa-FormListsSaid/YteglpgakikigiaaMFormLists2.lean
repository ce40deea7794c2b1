import Derived.Test.YteglpgakikigiaaChecked
import Derived.WalkKit
import Derived.WalkLawsBesides
import Derived.Lib.Hide
import Derived.Recover
import Derived.Laws.BitsAllLaws
import Derived.Test.YteglpgakikigiaaMFormLists1
/- What the functions of package wire's reader answer: contracts. -/
namespace Go.Proofs.Yteglpgakikigiaa
open Go.RowKit
set_option linter.unusedVariables false

/-- The block g is a reader, whose bytes lie in the blocks F: of these bytes, or a broken one. -/
def Rdr (w : World) (g : Nat) (F : Nat → Prop) : Option (List UInt8) → Prop
  | some l => ¬ F g ∧ (∀ j, F j → j < w.heap.size) ∧ ∃ A c, Hb w g 119 #[.slice A l.length c, .bool false] ∧ Rd w A l ∧ l.length ≤ c ∧ c ≤ maxLen ∧ ∀ j, abl A j → F j
  | none => ¬ F g ∧ (∀ j, F j → j < w.heap.size) ∧ Hb w g 119 #[.slice none 0 0, .bool true]

theorem Rdr.lt {w : World} {g : Nat} {F : Nat → Prop} {st : Option (List UInt8)} (h : Rdr w g F st) : g < w.heap.size := by
  cases st with
  | none => exact h.2.2.lt
  | some l => obtain ⟨_, _, A, c, hb, _⟩ := h; exact hb.lt
theorem Rdr.nF {w : World} {g : Nat} {F : Nat → Prop} {st : Option (List UInt8)} (h : Rdr w g F st) : ¬ F g := by
  cases st <;> exact h.1
theorem Rdr.Flt {w : World} {g : Nat} {F : Nat → Prop} {st : Option (List UInt8)} (h : Rdr w g F st) : ∀ j, F j → j < w.heap.size := by
  cases st <;> exact h.2.1
theorem Rdr.chg {w w' : World} {g : Nat} {F : Nat → Prop} {st : Option (List UInt8)} {S : Nat → Prop} (h : Rdr w g F st) (k : Chg S w w') (hg : ¬ S g) (hF : ∀ j, F j → ¬ S j) : Rdr w' g F st := by
  cases st with
  | none => exact ⟨h.1, fun j hj => Nat.lt_of_lt_of_le (h.2.1 j hj) k.size, h.2.2.chg k hg⟩
  | some l =>
    obtain ⟨h1, h2, A, c, hb, hr, hc, hm, hA⟩ := h
    exact ⟨h1, fun j hj => Nat.lt_of_lt_of_le (h2 j hj) k.size, A, c, hb.chg k hg, hr.chg k (fun j hj => hF j (hA j hj)), hc, hm, hA⟩

/-- The panic of a field that is not there. -/
def lacks : List PanicEntry := [{ v := .iface 25 (.int .i64 21), recovered := false }]

def Eqg (g : Nat) (k : Nat) : Prop := k = g

/-- What next leaves. -/
def Nexted (w : World) (g : Nat) (F : Nat → Prop) (l : List UInt8) (n : Nat) (e : Ending) (w' : World) : Prop :=
  ∃ A c, e = .returned (.slice A n c) ∧ Rd w' A (l.take n) ∧ n ≤ c ∧ c ≤ maxLen ∧ (∀ j, abl A j → F j) ∧ Rdr w' g F (some (l.drop n)) ∧ Chg (Eqg g) w w'

theorem next_yes (w : World) (g : Nat) (F : Nat → Prop) (l : List UInt8) (n : Nat) (h : Rdr w g F (some l)) (hn : n ≤ l.length) :
    Calls Try.prog 92 #[.pointer (some ⟨g, 0, none⟩), .int .i64 (n : Int)] w (Nexted w g F l n) := by
  obtain ⟨h1, h2, A, c, hb, hr, hc, hm, hA⟩ := h
  have c0 : w.cell? ⟨g, 0, none⟩ = some (.slice A l.length c) := hb.cell 0
  have f0 : w.frozen? ⟨g, 0, none⟩ = false := hb.frozen 0
  have hm' := hm
  unfold maxLen at hm
  go_enter Try.func92, Try.ntmps92
  have hl : (l.drop n).length = l.length - n := List.length_drop
  go_wp2
  · obtain rfl : c = n := by assumption
    go_ret
    have e1 : l.length = c := by omega
    refine ⟨A, c, rfl, (hr.chg ((Chg.refl (Eqg g) w).setCell (p := ⟨g, 0, none⟩) (.inl rfl) _) (fun j hj hg => h1 (hg ▸ hA j hj))).take c, by omega, hm', hA, ⟨h1, fun j hj => by simpa [World.setCell] using h2 j hj, A, 0, ?_, ?_, ?_, ?_, hA⟩, (Chg.refl (Eqg g) w).setCell (p := ⟨g, 0, none⟩) (.inl rfl) _⟩
    · rw [hl]; exact hb.set 0 _
    · rw [List.drop_of_length_le (by omega)]; exact Rd.nil _ _
    · rw [hl]; omega
    · omega
  · go_ret
    refine ⟨A, c, rfl, (hr.chg ((Chg.refl (Eqg g) w).setCell (p := ⟨g, 0, none⟩) (.inl rfl) _) (fun j hj hg => h1 (hg ▸ hA j hj))).take n, by omega, hm', hA, ⟨h1, fun j hj => by simpa [World.setCell] using h2 j hj, A.map (·.add n), c - n, ?_, ?_, ?_, ?_, ?_⟩, (Chg.refl (Eqg g) w).setCell (p := ⟨g, 0, none⟩) (.inl rfl) _⟩
    · rw [hl]; exact hb.set 0 _
    · exact (hr.chg ((Chg.refl (Eqg g) w).setCell (p := ⟨g, 0, none⟩) (.inl rfl) _) (fun j hj hg => h1 (hg ▸ hA j hj))).drop n
    · rw [hl]; omega
    · omega
    · rintro j ⟨ad, h3, rfl⟩
      obtain ⟨ad', rfl, rfl⟩ := Option.map_eq_some_iff.1 h3
      rw [block_add]
      exact hA _ ⟨ad', rfl, rfl⟩

theorem next_no (w : World) (g : Nat) (F : Nat → Prop) (l : List UInt8) (n : Nat) (h : Rdr w g F (some l)) (hn : l.length < n) :
    Calls Try.prog 92 #[.pointer (some ⟨g, 0, none⟩), .int .i64 (n : Int)] w fun e w' => e = .panicked lacks ∧ w' = w := by
  obtain ⟨h1, h2, A, c, hb, hr, hc, hm, hA⟩ := h
  have c0 : w.cell? ⟨g, 0, none⟩ = some (.slice A l.length c) := hb.cell 0
  have f0 : w.frozen? ⟨g, 0, none⟩ = false := hb.frozen 0
  go_enter Try.func92, Try.ntmps92
  go_wp2
  exact ⟨rfl, rfl, rfl⟩

/-- The number of these bytes, the highest first. -/
def ofbe (l : List UInt8) : Nat := l.foldl (fun n b => n * 256 + b.toNat) 0
theorem ofbe_snoc (l : List UInt8) (b : UInt8) : ofbe (l ++ [b]) = ofbe l * 256 + b.toNat := by simp [ofbe]
theorem ofbe_lt0 : ∀ (l : List UInt8) (n : Nat), l.foldl (fun n b => n * 256 + b.toNat) n < (n + 1) * 256 ^ l.length := by
  intro l
  induction l with
  | nil => intro n; simp
  | cons b l ih =>
    intro n
    rw [List.foldl_cons, List.length_cons, Nat.pow_succ]
    have h1 := ih (n * 256 + b.toNat)
    have h2 := b.toNat_lt
    have h3 : (n * 256 + b.toNat + 1) * 256 ^ l.length ≤ ((n + 1) * 256) * 256 ^ l.length := Nat.mul_le_mul_right _ (by omega)
    have h4 : (n + 1) * 256 * 256 ^ l.length = (n + 1) * (256 ^ l.length * 256) := by rw [Nat.mul_assoc, Nat.mul_comm 256]
    omega
theorem ofbe_lt (l : List UInt8) : ofbe l < 256 ^ l.length := by
  have h := ofbe_lt0 l 0
  simpa [ofbe] using h

/-- What joined leaves. -/
def Joined (w : World) (g : Nat) (F : Nat → Prop) (l : List UInt8) (n : Nat) (e : Ending) (w' : World) : Prop :=
  e = .returned (.int .u64 (ofbe (l.take n) : Int)) ∧ Rdr w' g F (some (l.drop n)) ∧ Chg (Eqg g) w w'

theorem or_byte (x : Nat) (b : UInt8) (hx : x < 72057594037927936) : bits .or .u64 ((x * 256 : Nat) : Int) (b.toNat : Int) = ((x * 256 + b.toNat : Nat) : Int) := by
  have hb := b.toNat_lt
  have h := u64_or_nat (x * 256) b.toNat (by omega) (by omega)
  rw [h]
  have : x * 256 ||| b.toNat = x * 256 + b.toNat := by
    have := Nat.two_pow_add_eq_or_of_lt (i := 8) (b := b.toNat) hb x
    rw [← show 2 ^ 8 * x = x * 256 by omega] 
    exact this.symm
  rw [this]

set_option maxHeartbeats 400000 in
theorem joined_yes (w : World) (g : Nat) (F : Nat → Prop) (l : List UInt8) (n : Nat) (h : Rdr w g F (some l)) (hn : n ≤ l.length) (h0 : 0 < n) (h8 : n ≤ 8) :
    Calls Try.prog 95 #[.pointer (some ⟨g, 0, none⟩), .int .i64 (n : Int)] w (Joined w g F l n) := by
  have H := next_yes w g F l n h hn
  go_enter Try.func95, Try.ntmps95
  go_wp2_with fail
  refine H.mono ?_
  rintro e w1 ⟨A, c, rfl, hr, hc, hm, hA, hR, hC⟩
  obtain ⟨ad, rfl, _⟩ := hr.blk_lt (by simp; omega)
  have ht : (l.take n).length = n := by simp; omega
  have HT := Lib.hid ht
  clear ht
  go_wp2
  go_loop [5, 12] (fun x i => ∃ k : Nat, k ≤ n ∧ x = .int .u64 (ofbe ((l.take n).take k) : Int) ∧ i = .int .i64 (k : Int)) (fun _ i => n - (intOf i).toNat)
  case atStart => exact ⟨0, by omega, by simp [ofbe], rfl⟩
  case round =>
    obtain ⟨k, hk, rfl, rfl⟩ := hrel
    by_cases hlt : k < n
    · have hcell := hr.at_ (j := k) (by rw [HT.out]; exact hlt)
      have hs : (l.take n).take (k + 1) = (l.take n).take k ++ [(l.take n)[k]'(by rw [HT.out]; exact hlt)] := by rw [List.take_succ_eq_append_getElem]
      have hb := ofbe_lt ((l.take n).take k)
      have hb2 : ofbe ((l.take n).take k) < 72057594037927936 := by
        refine Nat.lt_of_lt_of_le hb ?_
        have : ((l.take n).take k).length ≤ 7 := by simp; omega
        calc 256 ^ ((l.take n).take k).length ≤ 256 ^ 7 := Nat.pow_le_pow_right (by omega) this
          _ = _ := by decide
      have HS := Lib.hid (hs ▸ ofbe_snoc ((l.take n).take k) ((l.take n)[k]'(by rw [HT.out]; exact hlt)))
      generalize (l.take n)[k]'(by rw [HT.out]; exact hlt) = b at *
      generalize ofbe ((l.take n).take k) = x at *
      have HO := Lib.hid (or_byte x b hb2)
      have hbt := b.toNat_lt
      clear hs hb
      go_wp2
      go_round
      case rel =>
        refine ⟨k + 1, by omega, ?_, by go_num⟩
        have HO' := HO.out
        rw [HS.out, ← HO']
        congr 1
      case measure => simp [intOf]; omega
    · obtain rfl : k = n := by omega
      have e2 : (l.take k).take k = l.take k := by rw [List.take_take, Nat.min_self]
      rw [e2]
      clear e2
      go_wp2
      go_ret
      exact ⟨rfl, hR, hC⟩

theorem joined_no (w : World) (g : Nat) (F : Nat → Prop) (l : List UInt8) (n : Nat) (h : Rdr w g F (some l)) (hn : l.length < n) :
    Calls Try.prog 95 #[.pointer (some ⟨g, 0, none⟩), .int .i64 (n : Int)] w fun e w' => e = .panicked lacks ∧ w' = w := by
  have H := next_no w g F l n h hn
  go_enter Try.func95, Try.ntmps95
  go_wp2_with fail
  refine H.mono ?_
  rintro e w1 ⟨rfl, rfl⟩
  go_wp2
  exact ⟨rfl, rfl, rfl⟩

/-- What a field's reading leaves: the field, and what is behind it; or the panic. -/
def Taken (w : World) (g : Nat) (F : Nat → Prop) (o : Option (Value × List UInt8)) (e : Ending) (w' : World) : Prop :=
  match o with
  | some (v, l') => e = .returned v ∧ Rdr w' g F (some l') ∧ Chg (Eqg g) w w'
  | none => e = .panicked lacks ∧ (∃ l', Rdr w' g F (some l')) ∧ Chg (Eqg g) w w'

/-- The word that stands next. -/
def fWord (l : List UInt8) : Option (Nat × List UInt8) := if l.length < 8 then none else some (ofbe (l.take 8), l.drop 8)
def fHash (l : List UInt8) : Option (List UInt8 × List UInt8) := if l.length < 32 then none else some (l.take 32, l.drop 32)
def fText (l : List UInt8) : Option (List UInt8 × List UInt8) :=
  if l.length < 2 then none else if 4096 < ofbe (l.take 2) then none else if (l.drop 2).length < ofbe (l.take 2) then none else some ((l.drop 2).take (ofbe (l.take 2)), (l.drop 2).drop (ofbe (l.take 2)))
/-- 64 bits as a number with a sign. -/
def sgn (n : Nat) : Int := if n < 9223372036854775808 then (n : Int) else (n : Int) - 18446744073709551616
def fNumber (l : List UInt8) : Option (Int × List UInt8) := (fWord l).map fun x => (sgn x.1, x.2)
def fCount (most : Int) (l : List UInt8) : Option (Int × List UInt8) := (fNumber l).bind fun x => if 0 ≤ x.1 ∧ x.1 ≤ most then some x else none

theorem fWord_lt {l : List UInt8} {n : Nat} {r : List UInt8} (h : fWord l = some (n, r)) : n < 18446744073709551616 := by
  unfold fWord at h
  split at h
  · cases h
  · injection h with h
    injection h with h1 h2
    subst h1
    refine Nat.lt_of_lt_of_le (ofbe_lt _) ?_
    have : (l.take 8).length ≤ 8 := by simp; omega
    calc 256 ^ (l.take 8).length ≤ 256 ^ 8 := Nat.pow_le_pow_right (by omega) this
      _ = _ := by decide

theorem takeWord_any (w : World) (g : Nat) (F : Nat → Prop) (l : List UInt8) (h : Rdr w g F (some l)) :
    Calls Try.prog 90 #[.pointer (some ⟨g, 0, none⟩)] w (Taken w g F ((fWord l).map fun x => (.int .u64 (x.1 : Int), x.2))) := by
  unfold fWord
  by_cases hl : l.length < 8
  · rw [if_pos hl]
    have H := joined_no w g F l 8 h hl
    go_enter Try.func90, Try.ntmps90
    go_wp2_with fail
    refine H.mono ?_
    rintro e w1 ⟨rfl, rfl⟩
    go_wp2
    exact ⟨rfl, rfl, ⟨l, h⟩, Chg.refl _ _⟩
  · rw [if_neg hl]
    have H := joined_yes w g F l 8 h (by omega) (by omega) (by omega)
    go_enter Try.func90, Try.ntmps90
    go_wp2_with fail
    refine H.mono ?_
    rintro e w1 ⟨rfl, hR, hC⟩
    go_wp2
    go_ret
    exact ⟨rfl, hR, hC⟩

theorem conv_sgn (n : Nat) (hn : n < 18446744073709551616) : IntKind.i64.wrap (n : Int) = sgn n := by
  rw [IntKind.wrap_i64]; unfold sgn; split <;> omega

theorem takeNumber_any (w : World) (g : Nat) (F : Nat → Prop) (l : List UInt8) (h : Rdr w g F (some l)) :
    Calls Try.prog 84 #[.pointer (some ⟨g, 0, none⟩)] w (Taken w g F ((fNumber l).map fun x => (.int .i64 x.1, x.2))) := by
  have H := takeWord_any w g F l h
  unfold fNumber
  cases hf : fWord l with
  | none =>
    rw [hf] at H
    clear hf
    go_enter Try.func84, Try.ntmps84
    go_wp2_with fail
    refine H.mono ?_
    rintro e w1 ⟨rfl, hR, hC⟩
    go_wp2
    exact ⟨rfl, rfl, hR, hC⟩
  | some x =>
    obtain ⟨n, r⟩ := x
    have hn := fWord_lt hf
    have hs := conv_sgn n hn
    rw [hf] at H
    clear hf
    go_enter Try.func84, Try.ntmps84
    go_wp2_with fail
    refine H.mono ?_
    rintro e w1 ⟨rfl, hR, hC⟩
    go_wp2
    go_ret
    exact ⟨rfl, hR, hC⟩

theorem hash_row : (Try.prog.info? 29).map (·.size) = some 32 := by kernel_rfl
theorem run_load_hash {w : World} {ad : Addr} {h : List UInt8} (hl : h.length = 32) (hr : Rd w (some ad) h) : (loadVar 29 ad).run Try.prog w = .ok (.agg (bv h).toArray) w := by
  have hc := run_loadCells_list (P := Try.prog) w ad (bv h) (fun j u hu => by
    obtain ⟨b, hb, rfl⟩ := bv_inv h j u hu
    obtain ⟨ad', h1, hc⟩ := hr j b hb
    injection h1 with h1
    subst h1
    exact hc)
  rw [bv_length, hl] at hc
  have hagg : (isAgg 29).run Try.prog w = .ok true w := by
    unfold isAgg
    rw [Sem.run_bind, run_underlying Try.underlying29 w]
    rfl
  cases hq : Try.prog.info? 29 with
  | none => have := hash_row; rw [hq] at this; cases this
  | some i =>
    have hs : i.size = 32 := by have := hash_row; rw [hq] at this; simpa using this
    simp [loadVar, Sem.run_bind, hagg, sizeOf, typeInfo, hq, hs, hc]
theorem run_store_hash {w : World} {g : Nat} {t : TypeId} {old : Array Value} {h : List UInt8} (hl : h.length = 32) (hb : Hb w g t old) (ho : old.size = 32) :
    (storeVar 29 ⟨g, 0, none⟩ (.agg (bv h).toArray)).run Try.prog w = .ok () (w.setRow g (bv h).toArray) :=
  run_storeVar_row w g t _ old (bv h).toArray hb (by rw [hash_row]; simp [bv_length, hl]) (by simp [bv_length, hl, ho]) (by rw [Array.all_eq_true_iff_forall_mem]; intro u hu; exact bv_one h u (by simpa using hu))
theorem Chg.setRow {S : Nat → Prop} {a b : World} (h : Chg S a b) {g : Nat} (hg : S g ∨ a.heap.size ≤ g) (cs : Array Value) : Chg S a (b.setRow g cs) :=
  ⟨h.os, h.tape, h.output, by simpa [World.setRow] using h.size, fun i hi hn => (setRow_other b g i cs (by
    rintro rfl
    exact hg.elim hn (fun hl => absurd hi (by omega)))).trans (h.block i hi hn)⟩
theorem Hb.setRow {w : World} {g : Nat} {t : TypeId} {cs : Array Value} (h : Hb w g t cs) (cs' : Array Value) : Hb (w.setRow g cs') g t cs' := setRow_heap w g cs cs' t _ h

theorem wpList_load_hash {ops : Array Oper} {rest : List Oper} {o : Oper} {a : Act} {w : World} {Q : Exit → Act → World → Prop} (hgd : o.guard = none) (x : Operand) (ho : o.op = .load 29 x)
    {ad : Addr} {h : List UInt8} (hx : a.eval x = .pointer (some ad)) (hl : h.length = 32) (hr : Rd w (some ad) h)
    (hK : wpList Try.prog ops Q rest (a.put o.dst (.agg (bv h).toArray)) w) : wpList Try.prog ops Q (o :: rest) a w := by
  refine wpList_plain hgd fun K hK' => ?_
  unfold Oper.wp execOp
  simp only [ho, hx, Instr.loadAt, Instr.sureAddr, Sem.run_bind, Sem.run_pure, Result.andThen_ok, run_load_hash hl hr]
  exact hK' _ _ hK

theorem wpList_store_hash {ops : Array Oper} {rest : List Oper} {o : Oper} {a : Act} {w : World} {Q : Exit → Act → World → Prop} (hgd : o.guard = none) (x y : Operand) (ho : o.op = .store 29 x y)
    {g : Nat} {t : TypeId} {old : Array Value} {h : List UInt8} (hx : a.eval x = .pointer (some ⟨g, 0, none⟩)) (hy : a.eval y = .agg (bv h).toArray) (hl : h.length = 32) (hb : Hb w g t old) (hold : old.size = 32)
    (hK : wpList Try.prog ops Q rest (a.put o.dst undef) (w.setRow g (bv h).toArray)) : wpList Try.prog ops Q (o :: rest) a w := by
  refine wpList_plain hgd fun K hK' => ?_
  unfold Oper.wp execOp
  simp only [ho, hx, hy, Instr.storeAt, Instr.sureAddr, Sem.run_bind, Sem.run_pure, Result.andThen_ok, run_store_hash hl hb hold]
  exact hK' _ _ hK

theorem ret_hash {fn : Func} {p : Tmp} {R : Ending → World → Prop} {a : Act} {w : World} {g : Nat} {t : TypeId} {h : List UInt8} (hf : fn.results = #[.cell p 29]) (hp : a.tmps.getD p undef = .pointer (some ⟨g, 0, none⟩))
    (hb : Hb w g t (bv h).toArray) (hl : h.length = 32) (hd : a.defers = []) (hR : R (.returned (.agg (bv h).toArray)) w) : bodyPost Try.prog fn R .ret a w :=
  bodyPost_ret (results_cell_row hf _ _ g t _ (0, 0) _ hp hb Try.underlying29 rfl (by rw [hash_row]; simp [bv_length, hl])) hd hR

theorem takeHash_any (w : World) (g : Nat) (F : Nat → Prop) (l : List UInt8) (h : Rdr w g F (some l)) :
    Calls Try.prog 82 #[.pointer (some ⟨g, 0, none⟩)] w (Taken w g F ((fHash l).map fun x => (.agg (bv x.1).toArray, x.2))) := by
  unfold fHash
  by_cases hl : l.length < 32
  · rw [if_pos hl]
    go_enter Try.func82, Try.ntmps82
    go_wp2_with fail
    refine (next_no _ g F l 32 (h.chg ((Chg.refl Non w).alloc _) (fun f => f) (fun _ _ f => f)) hl).mono ?_
    rintro e w1 ⟨rfl, rfl⟩
    go_wp2
    exact ⟨rfl, rfl, ⟨l, h.chg ((Chg.refl Non w).alloc _) (fun f => f) (fun _ _ f => f)⟩, (Chg.refl _ w).alloc _⟩
  · rw [if_neg hl]
    go_enter Try.func82, Try.ntmps82
    go_wp2_with fail
    have h1 := h.chg ((Chg.refl Non w).alloc (.cells (Array.replicate 32 (Value.int .u8 0)) 29)) (fun f => f) (fun _ _ f => f)
    refine (next_yes _ g F l 32 (h.chg ((Chg.refl Non w).alloc _) (fun f => f) (fun _ _ f => f)) (by omega)).mono ?_
    rintro e w1 ⟨A, c, rfl, hr, hc, hm, hA, hR, hC⟩
    obtain ⟨ad, rfl, _⟩ := hr.blk_lt (by simp; omega)
    have ht : (l.take 32).length = 32 := by simp; omega
    have HA := run_arrayAt (P := Try.prog) w1 29 5 32 (some ad) 32 c Try.underlying29 (by omega)
    have HT := Lib.hid ht
    clear ht
    have hb1 := (Hb.new w 29 _).chg hC (fun hg => by have := h.lt; unfold Eqg at hg; omega)
    go_wp2_with (first | (with_reducible refine wpList_load_hash rfl _ rfl (ad := ad) (h := l.take 32) rfl HT.out hr ?_) | (with_reducible refine wpList_store_hash rfl _ _ rfl (g := w.heap.size) (h := l.take 32) rfl rfl HT.out hb1 rfl ?_))
    refine ret_hash rfl rfl (hb1.setRow _) HT.out rfl ⟨rfl, ?_, ?_⟩
    · exact hR.chg ((Chg.refl (fun k => k = w.heap.size) w1).setRow (.inl rfl) _) (fun hg => by have := h.lt; omega) (fun j hj hg => by have := h.Flt j hj; omega)
    · exact (((Chg.refl Non w).alloc _).mono (S' := Eqg g) (fun _ f => f.elim) |>.trans hC (fun _ hj => .inl hj)).setRow (.inr (Nat.le_refl _)) _

theorem takeText_any (w : World) (g : Nat) (F : Nat → Prop) (l : List UInt8) (h : Rdr w g F (some l)) :
    Calls Try.prog 88 #[.pointer (some ⟨g, 0, none⟩)] w (Taken w g F ((fText l).map fun x => (.string ⟨x.1.toArray⟩, x.2))) := by
  unfold fText
  by_cases hl : l.length < 2
  · rw [if_pos hl]
    have H := joined_no w g F l 2 h hl
    go_enter Try.func88, Try.ntmps88
    go_wp2_with fail
    refine H.mono ?_
    rintro e w1 ⟨rfl, rfl⟩
    go_wp2
    exact ⟨rfl, rfl, ⟨l, h⟩, Chg.refl _ _⟩
  · rw [if_neg hl]
    have H := joined_yes w g F l 2 h (by omega) (by omega) (by omega)
    have hlt : ofbe (l.take 2) < 65536 := by
      refine Nat.lt_of_lt_of_le (ofbe_lt _) ?_
      have : (l.take 2).length ≤ 2 := by simp; omega
      calc 256 ^ (l.take 2).length ≤ 256 ^ 2 := Nat.pow_le_pow_right (by omega) this
        _ = _ := by decide
    unfold Joined at H
    generalize ofbe (l.take 2) = n at *
    generalize l.drop 2 = r at *
    by_cases hn : 4096 < n
    · rw [if_pos hn]
      go_enter Try.func88, Try.ntmps88
      go_wp2_with fail
      refine H.mono ?_
      rintro e w1 ⟨rfl, hR, hC⟩
      go_wp2
      exact ⟨rfl, rfl, ⟨r, hR⟩, hC⟩
    · rw [if_neg hn]
      by_cases hr : r.length < n
      · rw [if_pos hr]
        go_enter Try.func88, Try.ntmps88
        go_wp2_with fail
        refine H.mono ?_
        rintro e w1 ⟨rfl, hR, hC⟩
        go_wp2_with fail
        refine (next_no _ g F r n hR hr).mono ?_
        rintro e w2 ⟨rfl, rfl⟩
        go_wp2
        exact ⟨rfl, rfl, ⟨r, hR⟩, hC⟩
      · rw [if_neg hr]
        go_enter Try.func88, Try.ntmps88
        go_wp2_with fail
        refine H.mono ?_
        rintro e w1 ⟨rfl, hR, hC⟩
        go_wp2_with fail
        refine (next_yes _ g F r n hR (by omega)).mono ?_
        rintro e w2 ⟨A, c, rfl, hrd, hc, hm, hA, hR2, hC2⟩
        have HS := run_str byt w2 hrd c
        rw [show (r.take n).length = n by simp; omega] at HS
        go_wp2
        go_ret
        exact ⟨rfl, hR2, hC.trans hC2 (fun _ hj => .inl hj)⟩
end Go.Proofs.Yteglpgakikigiaa

/- What the calls on package wire's reader answer: each recovers the panic of a field that is not there. -/
namespace Go.Proofs.Yteglpgakikigiaa
open Go.RowKit
set_option linter.unusedVariables false

theorem mkf (fn : Fn) (first cap : Array Value) (w : World) : (Instr.makeFunc fn first cap).run Try.prog w = .ok (.func fn first cap) w := rfl

/-- What a call on a reader leaves: the field, or none; the reader behind it, or a broken one. -/
def Readd (w : World) (g : Nat) (F : Nat → Prop) (z : Value) (o : Option (Value × List UInt8)) (e : Ending) (w' : World) : Prop :=
  e = .returned ((o.map (·.1)).getD z) ∧ Rdr w' g F (o.map (·.2)) ∧ Chg (Eqg g) w w'


theorem catchP_int (w : World) (p g : Nat) (x y : Value) (v : Value) (u : TypeId) (older : List PanicEntry) (hp : w.cell? ⟨p, 0, none⟩ = some (.pointer (some ⟨g, 0, none⟩))) (hpg : p ≠ g) (hb : Hb w g 119 #[x, y]) :
    CallsD Try.prog 93 #[.pointer (some ⟨p, 0, none⟩)] (.panicking ({ v := .iface u v, recovered := false } :: older)) w fun e u' w' =>
      e = .returned (.tuple #[]) ∧ u' = .panicking ({ v := .iface u v, recovered := true } :: older) ∧ w' = (w.setCell ⟨g, 1, none⟩ (.bool true)).setCell ⟨g, 0, none⟩ (.slice none 0 0) := by
  have c0 : w.cell? ⟨g, 0, none⟩ = some x := hb.cell 0
  have c1 : w.cell? ⟨g, 1, none⟩ = some y := hb.cell 1
  have f0 : w.frozen? ⟨g, 0, none⟩ = false := hb.frozen 0
  have f1 : w.frozen? ⟨g, 1, none⟩ = false := hb.frozen 1
  refine callsD_of_wpS Try.func93 rfl fun c₀ cs hu => ?_
  apply wpS_seq
  apply wpS_region
  simp [wpOpsS, go_sem, recoverD, hu, Try.ntmps93, Exit.thenS]
  refine wpS_cond (t := true) (by simp [Act.eval, Array.replicate]) ?_
  simp only [if_true]
  refine wpS_of_wp ?_
  go_wp2
  exact ⟨rfl, _, rfl, .tuple #[], by simp [results, Try.results93], rfl, rfl, rfl⟩

theorem catchI_int (w : World) (p : Addr) : CallsD Try.prog 93 #[.pointer (some p)] .returning w fun e u' w' => e = .returned (.tuple #[]) ∧ u' = .returning ∧ w' = w := by
  refine callsD_of_wpS Try.func93 rfl fun c₀ cs hu => ?_
  apply wpS_seq
  apply wpS_region
  simp [wpOpsS, go_sem, recoverD, hu, Try.ntmps93, Exit.thenS]
  refine wpS_cond (t := false) (by simp [Act.eval, Array.replicate]) ?_
  simp only [Bool.false_eq_true, if_false]
  refine wpS_of_wp (wp_skip ?_)
  cases c₀
  simp_all [bodyPostS, results, Try.results93]

theorem readB_int (w : World) (g : Nat) (F : Nat → Prop) (fv : Value) (h : Rdr w g F none) :
    Calls Try.prog 83 #[.pointer (some ⟨g, 0, none⟩), fv] w (Readd w g F (.int .i64 0) none) := by
  have c1 : (w.alloc (.cells #[.pointer (some ⟨g, 0, none⟩)] 80)).cell? ⟨g, 1, none⟩ = some (.bool true) := (h.2.2.alloc (.cells #[.pointer (some ⟨g, 0, none⟩)] 80)).cell 1
  have hch := (Chg.refl Non w).alloc (.cells #[.pointer (some ⟨g, 0, none⟩)] 80)
  have h1 := h.chg hch (fun f => f) (fun _ _ f => f)
  go_enter_defers Try.func83, Try.ntmps83
  go_wp2
  refine ⟨_, results_tmp rfl _ _ _, rfl, h1, hch.mono (fun _ f => f.elim)⟩

theorem readN_int (w : World) (fv : Value) :
    Calls Try.prog 83 #[.pointer none, fv] w fun e w' => e = .returned (.int .i64 0) ∧ Chg Non w w' := by
  go_enter_defers Try.func83, Try.ntmps83
  go_wp2
  refine ⟨_, results_tmp rfl _ _ _, rfl, (Chg.refl Non w).alloc _⟩

theorem catchP_u64 (w : World) (p g : Nat) (x y : Value) (v : Value) (u : TypeId) (older : List PanicEntry) (hp : w.cell? ⟨p, 0, none⟩ = some (.pointer (some ⟨g, 0, none⟩))) (hpg : p ≠ g) (hb : Hb w g 119 #[x, y]) :
    CallsD Try.prog 96 #[.pointer (some ⟨p, 0, none⟩)] (.panicking ({ v := .iface u v, recovered := false } :: older)) w fun e u' w' =>
      e = .returned (.tuple #[]) ∧ u' = .panicking ({ v := .iface u v, recovered := true } :: older) ∧ w' = (w.setCell ⟨g, 1, none⟩ (.bool true)).setCell ⟨g, 0, none⟩ (.slice none 0 0) := by
  have c0 : w.cell? ⟨g, 0, none⟩ = some x := hb.cell 0
  have c1 : w.cell? ⟨g, 1, none⟩ = some y := hb.cell 1
  have f0 : w.frozen? ⟨g, 0, none⟩ = false := hb.frozen 0
  have f1 : w.frozen? ⟨g, 1, none⟩ = false := hb.frozen 1
  refine callsD_of_wpS Try.func96 rfl fun c₀ cs hu => ?_
  apply wpS_seq
  apply wpS_region
  simp [wpOpsS, go_sem, recoverD, hu, Try.ntmps96, Exit.thenS]
  refine wpS_cond (t := true) (by simp [Act.eval, Array.replicate]) ?_
  simp only [if_true]
  refine wpS_of_wp ?_
  go_wp2
  exact ⟨rfl, _, rfl, .tuple #[], by simp [results, Try.results96], rfl, rfl, rfl⟩

theorem catchI_u64 (w : World) (p : Addr) : CallsD Try.prog 96 #[.pointer (some p)] .returning w fun e u' w' => e = .returned (.tuple #[]) ∧ u' = .returning ∧ w' = w := by
  refine callsD_of_wpS Try.func96 rfl fun c₀ cs hu => ?_
  apply wpS_seq
  apply wpS_region
  simp [wpOpsS, go_sem, recoverD, hu, Try.ntmps96, Exit.thenS]
  refine wpS_cond (t := false) (by simp [Act.eval, Array.replicate]) ?_
  simp only [Bool.false_eq_true, if_false]
  refine wpS_of_wp (wp_skip ?_)
  cases c₀
  simp_all [bodyPostS, results, Try.results96]

theorem readB_u64 (w : World) (g : Nat) (F : Nat → Prop) (fv : Value) (h : Rdr w g F none) :
    Calls Try.prog 89 #[.pointer (some ⟨g, 0, none⟩), fv] w (Readd w g F (.int .u64 0) none) := by
  have c1 : (w.alloc (.cells #[.pointer (some ⟨g, 0, none⟩)] 80)).cell? ⟨g, 1, none⟩ = some (.bool true) := (h.2.2.alloc (.cells #[.pointer (some ⟨g, 0, none⟩)] 80)).cell 1
  have hch := (Chg.refl Non w).alloc (.cells #[.pointer (some ⟨g, 0, none⟩)] 80)
  have h1 := h.chg hch (fun f => f) (fun _ _ f => f)
  go_enter_defers Try.func89, Try.ntmps89
  go_wp2
  refine ⟨_, results_tmp rfl _ _ _, rfl, h1, hch.mono (fun _ f => f.elim)⟩

theorem readN_u64 (w : World) (fv : Value) :
    Calls Try.prog 89 #[.pointer none, fv] w fun e w' => e = .returned (.int .u64 0) ∧ Chg Non w w' := by
  go_enter_defers Try.func89, Try.ntmps89
  go_wp2
  refine ⟨_, results_tmp rfl _ _ _, rfl, (Chg.refl Non w).alloc _⟩

theorem catchP_str (w : World) (p g : Nat) (x y : Value) (v : Value) (u : TypeId) (older : List PanicEntry) (hp : w.cell? ⟨p, 0, none⟩ = some (.pointer (some ⟨g, 0, none⟩))) (hpg : p ≠ g) (hb : Hb w g 119 #[x, y]) :
    CallsD Try.prog 94 #[.pointer (some ⟨p, 0, none⟩)] (.panicking ({ v := .iface u v, recovered := false } :: older)) w fun e u' w' =>
      e = .returned (.tuple #[]) ∧ u' = .panicking ({ v := .iface u v, recovered := true } :: older) ∧ w' = (w.setCell ⟨g, 1, none⟩ (.bool true)).setCell ⟨g, 0, none⟩ (.slice none 0 0) := by
  have c0 : w.cell? ⟨g, 0, none⟩ = some x := hb.cell 0
  have c1 : w.cell? ⟨g, 1, none⟩ = some y := hb.cell 1
  have f0 : w.frozen? ⟨g, 0, none⟩ = false := hb.frozen 0
  have f1 : w.frozen? ⟨g, 1, none⟩ = false := hb.frozen 1
  refine callsD_of_wpS Try.func94 rfl fun c₀ cs hu => ?_
  apply wpS_seq
  apply wpS_region
  simp [wpOpsS, go_sem, recoverD, hu, Try.ntmps94, Exit.thenS]
  refine wpS_cond (t := true) (by simp [Act.eval, Array.replicate]) ?_
  simp only [if_true]
  refine wpS_of_wp ?_
  go_wp2
  exact ⟨rfl, _, rfl, .tuple #[], by simp [results, Try.results94], rfl, rfl, rfl⟩

theorem catchI_str (w : World) (p : Addr) : CallsD Try.prog 94 #[.pointer (some p)] .returning w fun e u' w' => e = .returned (.tuple #[]) ∧ u' = .returning ∧ w' = w := by
  refine callsD_of_wpS Try.func94 rfl fun c₀ cs hu => ?_
  apply wpS_seq
  apply wpS_region
  simp [wpOpsS, go_sem, recoverD, hu, Try.ntmps94, Exit.thenS]
  refine wpS_cond (t := false) (by simp [Act.eval, Array.replicate]) ?_
  simp only [Bool.false_eq_true, if_false]
  refine wpS_of_wp (wp_skip ?_)
  cases c₀
  simp_all [bodyPostS, results, Try.results94]

theorem readB_str (w : World) (g : Nat) (F : Nat → Prop) (fv : Value) (h : Rdr w g F none) :
    Calls Try.prog 87 #[.pointer (some ⟨g, 0, none⟩), fv] w (Readd w g F (.string ⟨#[]⟩) none) := by
  have c1 : (w.alloc (.cells #[.pointer (some ⟨g, 0, none⟩)] 80)).cell? ⟨g, 1, none⟩ = some (.bool true) := (h.2.2.alloc (.cells #[.pointer (some ⟨g, 0, none⟩)] 80)).cell 1
  have hch := (Chg.refl Non w).alloc (.cells #[.pointer (some ⟨g, 0, none⟩)] 80)
  have h1 := h.chg hch (fun f => f) (fun _ _ f => f)
  go_enter_defers Try.func87, Try.ntmps87
  go_wp2
  refine ⟨_, results_tmp rfl _ _ _, rfl, h1, hch.mono (fun _ f => f.elim)⟩

theorem readN_str (w : World) (fv : Value) :
    Calls Try.prog 87 #[.pointer none, fv] w fun e w' => e = .returned (.string ⟨#[]⟩) ∧ Chg Non w w' := by
  go_enter_defers Try.func87, Try.ntmps87
  go_wp2
  refine ⟨_, results_tmp rfl _ _ _, rfl, (Chg.refl Non w).alloc _⟩

theorem readNumber_any (w : World) (g : Nat) (F : Nat → Prop) (l : List UInt8) (h : Rdr w g F (some l)) :
    Calls Try.prog 83 #[.pointer (some ⟨g, 0, none⟩), .func (.func 84) #[.pointer (some ⟨g, 0, none⟩)] #[]] w (Readd w g F (.int .i64 0) ((fNumber l).map fun x => (.int .i64 x.1, x.2))) := by
  have hmf := mkf
  obtain ⟨x, hb⟩ : ∃ x, Hb w g 119 #[x, .bool false] := by obtain ⟨_, _, A, c, hb, _⟩ := h; exact ⟨_, hb⟩
  have hb1 := hb.alloc (.cells #[.pointer (some ⟨g, 0, none⟩)] 80)
  have c1 : (w.alloc (.cells #[.pointer (some ⟨g, 0, none⟩)] 80)).cell? ⟨g, 1, none⟩ = some (.bool false) := hb1.cell 1
  have hch := (Chg.refl Non w).alloc (.cells #[.pointer (some ⟨g, 0, none⟩)] 80)
  have h1 := h.chg hch (fun f => f) (fun _ _ f => f)
  have H := takeNumber_any _ g F l h1
  cases hf : fNumber l with
  | none =>
    rw [hf] at H
    clear hf
    go_enter_defers Try.func83, Try.ntmps83
    go_wp2_with fail
    refine H.mono ?_
    rintro e w1 ⟨rfl, ⟨l', hR⟩, hC⟩
    have hp : w1.cell? ⟨w.heap.size, 0, none⟩ = some (.pointer (some ⟨g, 0, none⟩)) := hC.cell ((Hb.new w 80 #[.pointer (some ⟨g, 0, none⟩)]).cell 0) (fun e => by have := h.lt; unfold Eqg at e; simp at e; omega)
    obtain ⟨y, hb2⟩ : ∃ y, Hb w1 g 119 #[y, .bool false] := by obtain ⟨_, _, A, c, hb, _⟩ := hR; exact ⟨_, hb⟩
    go_wp2
    refine leaves_cons (f := 93) (args := #[.pointer (some ⟨w.heap.size, 0, none⟩)]) (by simp) (by simp [go_sem]) ?_
    refine (catchP_int w1 w.heap.size g y _ _ _ _ hp (by have := h.lt; omega) hb2).mono ?_
    rintro e u' w'' ⟨rfl, rfl, rfl⟩
    refine ⟨_, results_tmp rfl _ _ _, rfl, ?_, ?_⟩
    · exact ⟨h.nF, fun j hj => by have := hR.Flt j hj; simpa [World.setCell] using this, (hb2.set 1 _).set 0 _⟩
    · exact ((((Chg.refl Non w).alloc _).mono (S' := Eqg g) (fun _ f => f.elim)).trans hC (fun _ hj => .inl hj)).setCell (p := ⟨g, 1, none⟩) (.inl rfl) _ |>.setCell (p := ⟨g, 0, none⟩) (.inl rfl) _
  | some x =>
    rw [hf] at H
    clear hf
    go_enter_defers Try.func83, Try.ntmps83
    go_wp2_with fail
    refine H.mono ?_
    rintro e w1 ⟨rfl, hR, hC⟩
    go_wp2
    refine leaves_cons (f := 93) (args := #[.pointer (some ⟨w.heap.size, 0, none⟩)]) (by simp) (by simp [go_sem]) ?_
    refine (catchI_int _ ⟨w.heap.size, 0, none⟩).mono ?_
    rintro e u' w'' ⟨rfl, rfl, rfl⟩
    refine ⟨_, results_tmp rfl _ _ _, rfl, hR, ?_⟩
    exact (((Chg.refl Non w).alloc _).mono (S' := Eqg g) (fun _ f => f.elim)).trans hC (fun _ hj => .inl hj)

theorem readWord_any (w : World) (g : Nat) (F : Nat → Prop) (l : List UInt8) (h : Rdr w g F (some l)) :
    Calls Try.prog 89 #[.pointer (some ⟨g, 0, none⟩), .func (.func 90) #[.pointer (some ⟨g, 0, none⟩)] #[]] w (Readd w g F (.int .u64 0) ((fWord l).map fun x => (.int .u64 (x.1 : Int), x.2))) := by
  have hmf := mkf
  obtain ⟨x, hb⟩ : ∃ x, Hb w g 119 #[x, .bool false] := by obtain ⟨_, _, A, c, hb, _⟩ := h; exact ⟨_, hb⟩
  have hb1 := hb.alloc (.cells #[.pointer (some ⟨g, 0, none⟩)] 80)
  have c1 : (w.alloc (.cells #[.pointer (some ⟨g, 0, none⟩)] 80)).cell? ⟨g, 1, none⟩ = some (.bool false) := hb1.cell 1
  have hch := (Chg.refl Non w).alloc (.cells #[.pointer (some ⟨g, 0, none⟩)] 80)
  have h1 := h.chg hch (fun f => f) (fun _ _ f => f)
  have H := takeWord_any _ g F l h1
  cases hf : fWord l with
  | none =>
    rw [hf] at H
    clear hf
    go_enter_defers Try.func89, Try.ntmps89
    go_wp2_with fail
    refine H.mono ?_
    rintro e w1 ⟨rfl, ⟨l', hR⟩, hC⟩
    have hp : w1.cell? ⟨w.heap.size, 0, none⟩ = some (.pointer (some ⟨g, 0, none⟩)) := hC.cell ((Hb.new w 80 #[.pointer (some ⟨g, 0, none⟩)]).cell 0) (fun e => by have := h.lt; unfold Eqg at e; simp at e; omega)
    obtain ⟨y, hb2⟩ : ∃ y, Hb w1 g 119 #[y, .bool false] := by obtain ⟨_, _, A, c, hb, _⟩ := hR; exact ⟨_, hb⟩
    go_wp2
    refine leaves_cons (f := 96) (args := #[.pointer (some ⟨w.heap.size, 0, none⟩)]) (by simp) (by simp [go_sem]) ?_
    refine (catchP_u64 w1 w.heap.size g y _ _ _ _ hp (by have := h.lt; omega) hb2).mono ?_
    rintro e u' w'' ⟨rfl, rfl, rfl⟩
    refine ⟨_, results_tmp rfl _ _ _, rfl, ?_, ?_⟩
    · exact ⟨h.nF, fun j hj => by have := hR.Flt j hj; simpa [World.setCell] using this, (hb2.set 1 _).set 0 _⟩
    · exact ((((Chg.refl Non w).alloc _).mono (S' := Eqg g) (fun _ f => f.elim)).trans hC (fun _ hj => .inl hj)).setCell (p := ⟨g, 1, none⟩) (.inl rfl) _ |>.setCell (p := ⟨g, 0, none⟩) (.inl rfl) _
  | some x =>
    rw [hf] at H
    clear hf
    go_enter_defers Try.func89, Try.ntmps89
    go_wp2_with fail
    refine H.mono ?_
    rintro e w1 ⟨rfl, hR, hC⟩
    go_wp2
    refine leaves_cons (f := 96) (args := #[.pointer (some ⟨w.heap.size, 0, none⟩)]) (by simp) (by simp [go_sem]) ?_
    refine (catchI_u64 _ ⟨w.heap.size, 0, none⟩).mono ?_
    rintro e u' w'' ⟨rfl, rfl, rfl⟩
    refine ⟨_, results_tmp rfl _ _ _, rfl, hR, ?_⟩
    exact (((Chg.refl Non w).alloc _).mono (S' := Eqg g) (fun _ f => f.elim)).trans hC (fun _ hj => .inl hj)

theorem readText_any (w : World) (g : Nat) (F : Nat → Prop) (l : List UInt8) (h : Rdr w g F (some l)) :
    Calls Try.prog 87 #[.pointer (some ⟨g, 0, none⟩), .func (.func 88) #[.pointer (some ⟨g, 0, none⟩)] #[]] w (Readd w g F (.string ⟨#[]⟩) ((fText l).map fun x => (.string ⟨x.1.toArray⟩, x.2))) := by
  have hmf := mkf
  obtain ⟨x, hb⟩ : ∃ x, Hb w g 119 #[x, .bool false] := by obtain ⟨_, _, A, c, hb, _⟩ := h; exact ⟨_, hb⟩
  have hb1 := hb.alloc (.cells #[.pointer (some ⟨g, 0, none⟩)] 80)
  have c1 : (w.alloc (.cells #[.pointer (some ⟨g, 0, none⟩)] 80)).cell? ⟨g, 1, none⟩ = some (.bool false) := hb1.cell 1
  have hch := (Chg.refl Non w).alloc (.cells #[.pointer (some ⟨g, 0, none⟩)] 80)
  have h1 := h.chg hch (fun f => f) (fun _ _ f => f)
  have H := takeText_any _ g F l h1
  cases hf : fText l with
  | none =>
    rw [hf] at H
    clear hf
    go_enter_defers Try.func87, Try.ntmps87
    go_wp2_with fail
    refine H.mono ?_
    rintro e w1 ⟨rfl, ⟨l', hR⟩, hC⟩
    have hp : w1.cell? ⟨w.heap.size, 0, none⟩ = some (.pointer (some ⟨g, 0, none⟩)) := hC.cell ((Hb.new w 80 #[.pointer (some ⟨g, 0, none⟩)]).cell 0) (fun e => by have := h.lt; unfold Eqg at e; simp at e; omega)
    obtain ⟨y, hb2⟩ : ∃ y, Hb w1 g 119 #[y, .bool false] := by obtain ⟨_, _, A, c, hb, _⟩ := hR; exact ⟨_, hb⟩
    go_wp2
    refine leaves_cons (f := 94) (args := #[.pointer (some ⟨w.heap.size, 0, none⟩)]) (by simp) (by simp [go_sem]) ?_
    refine (catchP_str w1 w.heap.size g y _ _ _ _ hp (by have := h.lt; omega) hb2).mono ?_
    rintro e u' w'' ⟨rfl, rfl, rfl⟩
    refine ⟨_, results_tmp rfl _ _ _, rfl, ?_, ?_⟩
    · exact ⟨h.nF, fun j hj => by have := hR.Flt j hj; simpa [World.setCell] using this, (hb2.set 1 _).set 0 _⟩
    · exact ((((Chg.refl Non w).alloc _).mono (S' := Eqg g) (fun _ f => f.elim)).trans hC (fun _ hj => .inl hj)).setCell (p := ⟨g, 1, none⟩) (.inl rfl) _ |>.setCell (p := ⟨g, 0, none⟩) (.inl rfl) _
  | some x =>
    rw [hf] at H
    clear hf
    go_enter_defers Try.func87, Try.ntmps87
    go_wp2_with fail
    refine H.mono ?_
    rintro e w1 ⟨rfl, hR, hC⟩
    go_wp2
    refine leaves_cons (f := 94) (args := #[.pointer (some ⟨w.heap.size, 0, none⟩)]) (by simp) (by simp [go_sem]) ?_
    refine (catchI_str _ ⟨w.heap.size, 0, none⟩).mono ?_
    rintro e u' w'' ⟨rfl, rfl, rfl⟩
    refine ⟨_, results_tmp rfl _ _ _, rfl, hR, ?_⟩
    exact (((Chg.refl Non w).alloc _).mono (S' := Eqg g) (fun _ f => f.elim)).trans hC (fun _ hj => .inl hj)

end Go.Proofs.Yteglpgakikigiaa

/- What reading a hash answers. -/
namespace Go.Proofs.Yteglpgakikigiaa
open Go.RowKit
set_option linter.unusedVariables false

/-- The hash of noughts. -/
def noH : List UInt8 := List.replicate 32 0
theorem noH_length : noH.length = 32 := rfl
theorem run_alloc_hash (w : World) : (Instr.alloc 29 true (.tuple #[])).run Try.prog w = .ok (.pointer (some ⟨w.heap.size, 0, none⟩)) (w.alloc (.cells (bv noH).toArray 29)) := by kernel_rfl
theorem wpList_alloc_hash {ops : Array Oper} {rest : List Oper} {o : Oper} {a : Act} {w : World} {Q : Exit → Act → World → Prop} (hgd : o.guard = none) (ho : o.op = .alloc 29)
    (hK : wpList Try.prog ops Q rest (a.put o.dst (.pointer (some ⟨w.heap.size, 0, none⟩))) (w.alloc (.cells (bv noH).toArray 29))) : wpList Try.prog ops Q (o :: rest) a w := by
  refine wpList_plain hgd fun K hK' => ?_
  unfold Oper.wp execOp
  simp only [ho, Sem.run_bind, Sem.run_pure, Result.andThen_ok, run_alloc_hash]
  exact hK' _ _ hK

/-- The result of a hash, behind the deferred calls. -/
theorem end_hash {fn : Func} {p : Tmp} {R : Ending → World → Prop} {tmps : Array Value} {w : World} {g : Nat} {t : TypeId} {h : List UInt8} (hf : fn.results = #[.cell p 29]) (hp : tmps.getD p undef = .pointer (some ⟨g, 0, none⟩))
    (hb : Hb w g t (bv h).toArray) (hl : h.length = 32) (hR : R (.returned (.agg (bv h).toArray)) w) : Leaves Try.prog fn tmps R [] .returning w :=
  ⟨_, results_cell_row hf _ _ g t _ (0, 0) _ hp hb Try.underlying29 rfl (by rw [hash_row]; simp [bv_length, hl]), hR⟩

theorem catchP_hash (w : World) (p g : Nat) (x y : Value) (v : Value) (u : TypeId) (older : List PanicEntry) (hp : w.cell? ⟨p, 0, none⟩ = some (.pointer (some ⟨g, 0, none⟩))) (hpg : p ≠ g) (hb : Hb w g 119 #[x, y]) :
    CallsD Try.prog 91 #[.pointer (some ⟨p, 0, none⟩)] (.panicking ({ v := .iface u v, recovered := false } :: older)) w fun e u' w' =>
      e = .returned (.tuple #[]) ∧ u' = .panicking ({ v := .iface u v, recovered := true } :: older) ∧ w' = (w.setCell ⟨g, 1, none⟩ (.bool true)).setCell ⟨g, 0, none⟩ (.slice none 0 0) := by
  have c0 : w.cell? ⟨g, 0, none⟩ = some x := hb.cell 0
  have c1 : w.cell? ⟨g, 1, none⟩ = some y := hb.cell 1
  have f0 : w.frozen? ⟨g, 0, none⟩ = false := hb.frozen 0
  have f1 : w.frozen? ⟨g, 1, none⟩ = false := hb.frozen 1
  refine callsD_of_wpS Try.func91 rfl fun c₀ cs hu => ?_
  apply wpS_seq
  apply wpS_region
  simp [wpOpsS, go_sem, recoverD, hu, Try.ntmps91, Exit.thenS]
  refine wpS_cond (t := true) (by simp [Act.eval, Array.replicate]) ?_
  simp only [if_true]
  refine wpS_of_wp ?_
  go_wp2
  exact ⟨rfl, _, rfl, .tuple #[], by simp [results, Try.results91], rfl, rfl, rfl⟩

theorem catchI_hash (w : World) (p : Addr) : CallsD Try.prog 91 #[.pointer (some p)] .returning w fun e u' w' => e = .returned (.tuple #[]) ∧ u' = .returning ∧ w' = w := by
  refine callsD_of_wpS Try.func91 rfl fun c₀ cs hu => ?_
  apply wpS_seq
  apply wpS_region
  simp [wpOpsS, go_sem, recoverD, hu, Try.ntmps91, Exit.thenS]
  refine wpS_cond (t := false) (by simp [Act.eval, Array.replicate]) ?_
  simp only [Bool.false_eq_true, if_false]
  refine wpS_of_wp (wp_skip ?_)
  cases c₀
  simp_all [bodyPostS, results, Try.results91]

theorem rd_noH (w : World) : Rd (w.alloc (.cells (bv noH).toArray 29)) (some ⟨w.heap.size, 0, none⟩) noH := rd_of_blk (Hb.new w _ _) (fun j b h => by simpa using bv_get noH j b h)

/-- The world in which a hash is read: the reader's pointer and the hash of noughts are new. -/
def hw (w : World) (P : Option Addr) : World := (w.alloc (.cells #[.pointer P] 80)).alloc (.cells (bv noH).toArray 29)
theorem hw_size (w : World) (P : Option Addr) : (hw w P).heap.size = w.heap.size + 2 := by simp [hw]
theorem hw_chg (w : World) (P : Option Addr) : Chg Non w (hw w P) := ((Chg.refl Non w).alloc _).alloc _
theorem hw_z (w : World) (P : Option Addr) : Hb (hw w P) (w.heap.size + 1) 29 (bv noH).toArray := by
  have h := Hb.new (w.alloc (.cells #[.pointer P] 80)) 29 (bv noH).toArray
  simpa [hw] using h
theorem hw_rd (w : World) (P : Option Addr) : Rd (hw w P) (some ⟨w.heap.size + 1, 0, none⟩) noH := rd_of_blk (hw_z w P) (fun j b h => by simpa using bv_get noH j b h)
theorem hw_p (w : World) (P : Option Addr) : Hb (hw w P) w.heap.size 80 #[.pointer P] := (Hb.new w _ _).alloc _

def NilHash (w : World) (e : Ending) (w' : World) : Prop := e = .returned (.agg (bv noH).toArray) ∧ Chg Non w w'
theorem readN_hash (w : World) (fv : Value) :
    Calls Try.prog 81 #[.pointer none, fv] w (NilHash w) := by
  have hz := hw_z w none
  have hr := hw_rd w none
  unfold hw at hz hr
  go_enter_defers Try.func81, Try.ntmps81
  go_wp2_with (first | (with_reducible refine wpList_alloc_hash rfl rfl ?_) | (with_reducible refine wpList_load_hash rfl _ rfl (h := noH) rfl noH_length hr ?_) | (with_reducible refine wpList_store_hash rfl _ _ rfl (h := noH) rfl rfl noH_length hz rfl ?_))
  refine end_hash rfl rfl (hz.setRow _) noH_length ⟨rfl, ?_⟩
  exact (hw_chg w none).setRow (.inr (by omega)) _

theorem readB_hash (w : World) (g : Nat) (F : Nat → Prop) (fv : Value) (h : Rdr w g F none) :
    Calls Try.prog 81 #[.pointer (some ⟨g, 0, none⟩), fv] w (Readd w g F (.agg (bv noH).toArray) none) := by
  have hz := hw_z w (some ⟨g, 0, none⟩)
  have hr := hw_rd w (some ⟨g, 0, none⟩)
  have hlt := h.lt
  have c1 := (h.2.2.chg (hw_chg w (some ⟨g, 0, none⟩)) (fun f => f)).cell 1
  have h1 := h.chg (hw_chg w (some ⟨g, 0, none⟩)) (fun f => f) (fun _ _ f => f)
  unfold hw at hz hr c1
  have c1' : ((w.alloc (.cells #[.pointer (some ⟨g, 0, none⟩)] 80)).alloc (.cells (bv noH).toArray 29)).cell? ⟨g, 1, none⟩ = some (.bool true) := c1
  go_enter_defers Try.func81, Try.ntmps81
  go_wp2_with (first | (with_reducible refine wpList_alloc_hash rfl rfl ?_) | (with_reducible refine wpList_load_hash rfl _ rfl (h := noH) rfl noH_length hr ?_) | (with_reducible refine wpList_store_hash rfl _ _ rfl (h := noH) rfl rfl noH_length hz rfl ?_))
  refine end_hash rfl rfl (hz.setRow _) noH_length ⟨rfl, ?_, ?_⟩
  · exact h1.chg ((Chg.refl (fun k => k = w.heap.size + 1) _).setRow (.inl rfl) _) (by omega) (fun j hj e => by have := h.Flt j hj; omega)
  · exact ((hw_chg w _).setRow (.inr (by omega)) _).mono (fun _ f => f.elim)

theorem readHash_any (w : World) (g : Nat) (F : Nat → Prop) (l : List UInt8) (h : Rdr w g F (some l)) :
    Calls Try.prog 81 #[.pointer (some ⟨g, 0, none⟩), .func (.func 82) #[.pointer (some ⟨g, 0, none⟩)] #[]] w (Readd w g F (.agg (bv noH).toArray) ((fHash l).map fun x => (.agg (bv x.1).toArray, x.2))) := by
  have hmf := mkf
  obtain ⟨x, hb⟩ : ∃ x, Hb w g 119 #[x, .bool false] := by obtain ⟨_, _, A, c, hb, _⟩ := h; exact ⟨_, hb⟩
  have hlt := h.lt
  have hz := hw_z w (some ⟨g, 0, none⟩)
  have hpp := hw_p w (some ⟨g, 0, none⟩)
  have c1 := (hb.chg (hw_chg w (some ⟨g, 0, none⟩)) (fun f => f)).cell 1
  have h1 := h.chg (hw_chg w (some ⟨g, 0, none⟩)) (fun f => f) (fun _ _ f => f)
  have H := takeHash_any _ g F l h1
  have hws := hw_size w (some ⟨g, 0, none⟩)
  have hwc := hw_chg w (some ⟨g, 0, none⟩)
  unfold hw at hz c1 H hpp hws hwc
  have c1' : ((w.alloc (.cells #[.pointer (some ⟨g, 0, none⟩)] 80)).alloc (.cells (bv noH).toArray 29)).cell? ⟨g, 1, none⟩ = some (.bool false) := c1
  clear c1
  cases hf : fHash l with
  | none =>
    rw [hf] at H
    clear hf
    go_enter_defers Try.func81, Try.ntmps81
    go_wp2_with (with_reducible refine wpList_alloc_hash rfl rfl ?_)
    refine H.mono ?_
    rintro e w1 ⟨rfl, ⟨l', hR⟩, hC⟩
    have hp : w1.cell? ⟨w.heap.size, 0, none⟩ = some (.pointer (some ⟨g, 0, none⟩)) := hC.cell (hpp.cell 0) (fun e => by unfold Eqg at e; simp at e; omega)
    have hz1 := hz.chg hC (fun e => by unfold Eqg at e; omega)
    obtain ⟨y, hb2⟩ : ∃ y, Hb w1 g 119 #[y, .bool false] := by obtain ⟨_, _, A, c, hb, _⟩ := hR; exact ⟨_, hb⟩
    go_wp2
    refine leaves_cons (f := 91) (args := #[.pointer (some ⟨w.heap.size, 0, none⟩)]) (by simp) (by simp [go_sem]) ?_
    refine (catchP_hash w1 w.heap.size g y _ _ _ _ hp (by have := h.lt; omega) hb2).mono ?_
    rintro e u' w'' ⟨rfl, rfl, rfl⟩
    refine end_hash rfl rfl ((hz1.far (p := ⟨g, 1, none⟩) (by simp; omega) _).far (p := ⟨g, 0, none⟩) (by simp; omega) _) noH_length ⟨rfl, ?_, ?_⟩
    · exact ⟨h.nF, fun j hj => by have := hR.Flt j hj; simpa [World.setCell] using this, (hb2.set 1 _).set 0 _⟩
    · exact ((hwc.mono (S' := Eqg g) (fun _ f => f.elim)).trans hC (fun _ hj => .inl hj)).setCell (p := ⟨g, 1, none⟩) (.inl rfl) _ |>.setCell (p := ⟨g, 0, none⟩) (.inl rfl) _
  | some x =>
    have hx : x.1.length = 32 := by
      unfold fHash at hf
      split at hf
      · cases hf
      · injection hf with hf; rw [← hf]; simp; omega
    rw [hf] at H
    clear hf
    have HX := Lib.hid hx
    clear hx
    go_enter_defers Try.func81, Try.ntmps81
    go_wp2_with (with_reducible refine wpList_alloc_hash rfl rfl ?_)
    refine H.mono ?_
    rintro e w1 ⟨rfl, hR, hC⟩
    have hz1 := hz.chg hC (fun e => by unfold Eqg at e; omega)
    go_wp2_with (with_reducible refine wpList_store_hash rfl _ _ rfl (h := x.1) rfl rfl HX.out hz1 rfl ?_)
    refine leaves_cons (f := 91) (args := #[.pointer (some ⟨w.heap.size, 0, none⟩)]) (by simp) (by simp [go_sem]) ?_
    refine (catchI_hash _ ⟨w.heap.size, 0, none⟩).mono ?_
    rintro e u' w'' ⟨rfl, rfl, rfl⟩
    refine end_hash rfl rfl (hz1.setRow _) HX.out ⟨rfl, ?_, ?_⟩
    · exact hR.chg ((Chg.refl (fun k => k = w.heap.size + 1) _).setRow (.inl rfl) _) (by omega) (fun j hj e => by have := h.Flt j hj; omega)
    · exact ((hwc.mono (S' := Eqg g) (fun _ f => f.elim)).trans hC (fun _ hj => .inl hj)).setRow (.inr (by omega)) _
end Go.Proofs.Yteglpgakikigiaa

/- What the calls on package wire's reader answer, of any reader: a right one, a broken one, none. -/
namespace Go.Proofs.Yteglpgakikigiaa
open Go.RowKit
set_option linter.unusedVariables false

theorem Readd.after {w w1 w' : World} {g : Nat} {F : Nat → Prop} {z : Value} {o : Option (Value × List UInt8)} {e : Ending} (k : Chg Non w w1) (h : Readd w1 g F z o e w') : Readd w g F z o e w' :=
  ⟨h.1, h.2.1, (k.mono (S' := Eqg g) (fun _ f => f.elim)).trans h.2.2 (fun _ hj => .inl hj)⟩
/-- A call on no reader: zero. -/
def Zero (w : World) (z : Value) (e : Ending) (w' : World) : Prop := e = .returned z ∧ Chg Non w w'

theorem numberR_any (w : World) (g : Nat) (F : Nat → Prop) (st : Option (List UInt8)) (h : Rdr w g F st) :
    Calls Try.prog 75 #[.pointer (some ⟨g, 0, none⟩)] w (Readd w g F (.int .i64 0) ((st.bind fNumber).map fun x => (.int .i64 x.1, x.2))) := by
  have hmf := mkf
  cases st with
  | none =>
    go_enter Try.func75, Try.ntmps75
    go_wp2_with fail
    refine (readB_int w g F _ h).mono ?_
    rintro e w' ⟨rfl, h2, h3⟩
    go_wp2
    go_ret
    exact ⟨rfl, h2, h3⟩
  | some l =>
    have H := readNumber_any w g F l h
    rw [Option.bind_some]
    generalize (fNumber l).map _ = o at H ⊢
    go_enter Try.func75, Try.ntmps75
    go_wp2_with fail
    refine H.mono ?_
    rintro e w' ⟨rfl, h2, h3⟩
    go_wp2
    go_ret
    exact ⟨rfl, h2, h3⟩

theorem numberR_nil (w : World) : Calls Try.prog 75 #[.pointer none] w (Zero w (.int .i64 0)) := by
  have hmf := mkf
  go_enter Try.func75, Try.ntmps75
  go_wp2_with fail
  refine (readN_int w _).mono ?_
  rintro e w' ⟨rfl, h3⟩
  go_wp2
  go_ret
  exact ⟨rfl, h3⟩

theorem wordR_any (w : World) (g : Nat) (F : Nat → Prop) (st : Option (List UInt8)) (h : Rdr w g F st) :
    Calls Try.prog 79 #[.pointer (some ⟨g, 0, none⟩)] w (Readd w g F (.int .u64 0) ((st.bind fWord).map fun x => (.int .u64 (x.1 : Int), x.2))) := by
  have hmf := mkf
  cases st with
  | none =>
    go_enter Try.func79, Try.ntmps79
    go_wp2_with fail
    refine (readB_u64 w g F _ h).mono ?_
    rintro e w' ⟨rfl, h2, h3⟩
    go_wp2
    go_ret
    exact ⟨rfl, h2, h3⟩
  | some l =>
    have H := readWord_any w g F l h
    rw [Option.bind_some]
    generalize (fWord l).map _ = o at H ⊢
    go_enter Try.func79, Try.ntmps79
    go_wp2_with fail
    refine H.mono ?_
    rintro e w' ⟨rfl, h2, h3⟩
    go_wp2
    go_ret
    exact ⟨rfl, h2, h3⟩

theorem wordR_nil (w : World) : Calls Try.prog 79 #[.pointer none] w (Zero w (.int .u64 0)) := by
  have hmf := mkf
  go_enter Try.func79, Try.ntmps79
  go_wp2_with fail
  refine (readN_u64 w _).mono ?_
  rintro e w' ⟨rfl, h3⟩
  go_wp2
  go_ret
  exact ⟨rfl, h3⟩

theorem textR_any (w : World) (g : Nat) (F : Nat → Prop) (st : Option (List UInt8)) (h : Rdr w g F st) :
    Calls Try.prog 77 #[.pointer (some ⟨g, 0, none⟩)] w (Readd w g F (.string ⟨#[]⟩) ((st.bind fText).map fun x => (.string ⟨x.1.toArray⟩, x.2))) := by
  have hmf := mkf
  cases st with
  | none =>
    go_enter Try.func77, Try.ntmps77
    go_wp2_with fail
    refine (readB_str w g F _ h).mono ?_
    rintro e w' ⟨rfl, h2, h3⟩
    go_wp2
    go_ret
    exact ⟨rfl, h2, h3⟩
  | some l =>
    have H := readText_any w g F l h
    rw [Option.bind_some]
    generalize (fText l).map _ = o at H ⊢
    go_enter Try.func77, Try.ntmps77
    go_wp2_with fail
    refine H.mono ?_
    rintro e w' ⟨rfl, h2, h3⟩
    go_wp2
    go_ret
    exact ⟨rfl, h2, h3⟩

theorem textR_nil (w : World) : Calls Try.prog 77 #[.pointer none] w (Zero w (.string ⟨#[]⟩)) := by
  have hmf := mkf
  go_enter Try.func77, Try.ntmps77
  go_wp2_with fail
  refine (readN_str w _).mono ?_
  rintro e w' ⟨rfl, h3⟩
  go_wp2
  go_ret
  exact ⟨rfl, h3⟩

theorem fHash_length {l : List UInt8} {x : List UInt8 × List UInt8} (hf : fHash l = some x) : x.1.length = 32 := by
  unfold fHash at hf
  split at hf
  · cases hf
  · injection hf with hf; rw [← hf]; simp; omega

set_option maxHeartbeats 400000 in
theorem hashR_any (w : World) (g : Nat) (F : Nat → Prop) (st : Option (List UInt8)) (h : Rdr w g F st) :
    Calls Try.prog 70 #[.pointer (some ⟨g, 0, none⟩)] w (Readd w g F (.agg (bv noH).toArray) ((st.bind fHash).map fun x => (.agg (bv x.1).toArray, x.2))) := by
  have hmf := mkf
  have hz := Hb.new w 29 (bv noH).toArray
  have hch := (Chg.refl Non w).alloc (.cells (bv noH).toArray 29)
  have h1 := h.chg hch (fun f => f) (fun _ _ f => f)
  cases st with
  | none =>
    go_enter Try.func70, Try.ntmps70
    go_wp2_with (with_reducible refine wpList_alloc_hash rfl rfl ?_)
    refine (readB_hash _ g F _ h1).mono ?_
    rintro e w' ⟨rfl, h2, h3⟩
    have hz1 := hz.chg h3 (fun e => by have := h.lt; unfold Eqg at e; omega)
    go_wp2_with (with_reducible refine wpList_store_hash rfl _ _ rfl (h := noH) rfl rfl noH_length hz1 rfl ?_)
    refine ret_hash rfl rfl (hz1.setRow _) noH_length rfl ⟨rfl, ?_, ?_⟩
    · exact h2.chg ((Chg.refl (fun k => k = w.heap.size) _).setRow (.inl rfl) _) (fun e => by have := h.lt; omega) (fun j hj e => by have := h.Flt j hj; omega)
    · exact ((hch.mono (S' := Eqg g) (fun _ f => f.elim)).trans h3 (fun _ hj => .inl hj)).setRow (.inr (by omega)) _
  | some l =>
    have H := readHash_any _ g F l h1
    cases hf : fHash l with
    | none =>
      rw [hf] at H
      rw [Option.bind_some, hf]
      clear hf
      go_enter Try.func70, Try.ntmps70
      go_wp2_with (with_reducible refine wpList_alloc_hash rfl rfl ?_)
      refine H.mono ?_
      rintro e w' ⟨rfl, h2, h3⟩
      have hz1 := hz.chg h3 (fun e => by have := h.lt; unfold Eqg at e; omega)
      go_wp2_with (with_reducible refine wpList_store_hash rfl _ _ rfl (h := noH) rfl rfl noH_length hz1 rfl ?_)
      refine ret_hash rfl rfl (hz1.setRow _) noH_length rfl ⟨rfl, ?_, ?_⟩
      · exact h2.chg ((Chg.refl (fun k => k = w.heap.size) _).setRow (.inl rfl) _) (fun e => by have := h.lt; omega) (fun j hj e => by have := h.Flt j hj; omega)
      · exact ((hch.mono (S' := Eqg g) (fun _ f => f.elim)).trans h3 (fun _ hj => .inl hj)).setRow (.inr (by omega)) _
    | some x =>
      have HX := Lib.hid (fHash_length hf)
      rw [hf] at H
      rw [Option.bind_some, hf]
      clear hf
      go_enter Try.func70, Try.ntmps70
      go_wp2_with (with_reducible refine wpList_alloc_hash rfl rfl ?_)
      refine H.mono ?_
      rintro e w' ⟨rfl, h2, h3⟩
      have hz1 := hz.chg h3 (fun e => by have := h.lt; unfold Eqg at e; omega)
      go_wp2_with (with_reducible refine wpList_store_hash rfl _ _ rfl (h := x.1) rfl rfl HX.out hz1 rfl ?_)
      refine ret_hash rfl rfl (hz1.setRow _) HX.out rfl ⟨rfl, ?_, ?_⟩
      · exact h2.chg ((Chg.refl (fun k => k = w.heap.size) _).setRow (.inl rfl) _) (fun e => by have := h.lt; omega) (fun j hj e => by have := h.Flt j hj; omega)
      · exact ((hch.mono (S' := Eqg g) (fun _ f => f.elim)).trans h3 (fun _ hj => .inl hj)).setRow (.inr (by omega)) _

theorem hashR_nil (w : World) : Calls Try.prog 70 #[.pointer none] w (Zero w (.agg (bv noH).toArray)) := by
  have hmf := mkf
  have hz := Hb.new w 29 (bv noH).toArray
  have hch := (Chg.refl Non w).alloc (.cells (bv noH).toArray 29)
  go_enter Try.func70, Try.ntmps70
  go_wp2_with (with_reducible refine wpList_alloc_hash rfl rfl ?_)
  refine (readN_hash _ _).mono ?_
  rintro e w' ⟨rfl, h3⟩
  have hz1 := hz.chg h3 (fun e => e)
  go_wp2_with (with_reducible refine wpList_store_hash rfl _ _ rfl (h := noH) rfl rfl noH_length hz1 rfl ?_)
  refine ret_hash rfl rfl (hz1.setRow _) noH_length rfl ⟨rfl, ?_⟩
  exact (hch.trans h3 (fun _ hj => .inl hj)).setRow (.inr (by omega)) _

/-- What End answers. -/
def endv (st : Option (List UInt8)) : Int := if st = some [] then 0 else 21

theorem endR_any (w : World) (g : Nat) (F : Nat → Prop) (st : Option (List UInt8)) (h : Rdr w g F st) :
    Calls Try.prog 36 #[.pointer (some ⟨g, 0, none⟩)] w fun e w' => e = .returned (.int .i64 (endv st)) ∧ w' = w := by
  unfold endv
  cases st with
  | none =>
    rw [if_neg (by simp)]
    have c0 : w.cell? ⟨g, 0, none⟩ = some (.slice none 0 0) := h.2.2.cell 0
    have c1 : w.cell? ⟨g, 1, none⟩ = some (.bool true) := h.2.2.cell 1
    go_enter Try.func36, Try.ntmps36
    go_wp2
    go_ret
    exact ⟨rfl, rfl⟩
  | some l =>
    obtain ⟨_, _, A, c, hb, _⟩ := h
    have c0 : w.cell? ⟨g, 0, none⟩ = some (.slice A l.length c) := hb.cell 0
    have c1 : w.cell? ⟨g, 1, none⟩ = some (.bool false) := hb.cell 1
    by_cases hl : 0 < l.length
    · rw [if_neg (by intro e; injection e with e; subst e; simp at hl)]
      have hl' : (0 : Int) < (l.length : Int) := by omega
      go_enter Try.func36, Try.ntmps36
      go_wp2
      go_ret
      exact ⟨rfl, rfl⟩
    · have e : l = [] := List.eq_nil_of_length_eq_zero (by omega)
      subst e
      rw [if_pos rfl]
      go_enter Try.func36, Try.ntmps36
      go_wp2
      go_ret
      exact ⟨rfl, rfl⟩

theorem endR_nil (w : World) : Calls Try.prog 36 #[.pointer none] w fun e w' => e = .returned (.int .i64 1) ∧ w' = w := by
  go_enter Try.func36, Try.ntmps36
  go_wp2
  go_ret
  exact ⟨rfl, rfl⟩

/-- What NewReader leaves: a new reader, whose bytes lie in new memory. -/
def Newr (w : World) (l : List UInt8) (e : Ending) (w' : World) : Prop :=
  ∃ g F, e = .returned (.pointer (some ⟨g, 0, none⟩)) ∧ Rdr w' g F (some l) ∧ w.heap.size ≤ g ∧ (∀ j, F j → w.heap.size ≤ j) ∧ Chg Non w w'

theorem newReader_any (w : World) (A : Option Addr) (n c : Nat) (l : List UInt8) (hn : n = l.length) (hr : Rd w A l) (hsz : l.length ≤ 1000000000) :
    Calls Try.prog 34 #[.slice A n c] w (Newr w l) := by
  have HN := Lib.hid hn
  clear hn
  have hown := Own.nil 5 w
  go_enter Try.func34, Try.ntmps34
  go_wp2_with (at_builtin; refine wpList_app byt _ rfl _ _ rfl (v := .slice none 0 0) rfl hown rfl HN.out hr (by simp; omega) ?_; intro v' w1 hown' hgr hloc; rw [List.nil_append] at hown'; obtain ⟨A', c', rfl, hc', hm', hr', hab', hlt'⟩ := hown'.slice)
  go_ret
  have hch : Chg Non w w1 := (Chg.refl Non w).grown hgr (fun k hk => by cases hk)
  refine ⟨w1.heap.size, abl A', rfl, ⟨?_, ?_, A', c', ?_, ?_, hc', hm', fun _ hj => hj⟩, hch.size, ?_, hch.alloc _⟩
  · intro hj; have := hlt' _ hj; omega
  · intro j hj; have := hlt' _ hj; simp; omega
  · exact Hb.new w1 119 #[.slice A' l.length c', .bool false]
  · exact hr'.chg ((Chg.refl Non w1).alloc _) (fun _ _ f => f)
  · intro j hj
    have hv := (hab' j).1 hj
    unfold vbl at hv
    rcases hloc with h1 | h1
    · rw [h1] at hv; cases hv
    · rw [h1] at hv; injection hv with hv; omega
end Go.Proofs.Yteglpgakikigiaa
