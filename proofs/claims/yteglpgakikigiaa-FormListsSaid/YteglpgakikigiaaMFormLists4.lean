import Derived.Test.YteglpgakikigiaaChecked
import Derived.WalkKit
import Derived.Lib.Hide
import Derived.Deep.QuietTactic
import Derived.BigQuiet
import Derived.WalkLawsBesides
import Derived.Deep.MidRow
import Derived.Deep.RegionHeld3
import Derived.Test.YteglpgakikigiaaMFormLists3
/- The document's own reader: what each field's reading answers. -/
namespace Go.Proofs.Yteglpgakikigiaa
open Go.RowKit
set_option linter.unusedVariables false
set_option maxRecDepth 20000

/-- The document's reader has read: v, and what stands behind it. -/
def Gotf (w : World) (g : Nat) (F : Nat → Prop) (v : Value) (st : Option (List UInt8)) (e : Ending) (w' : World) : Prop := e = .returned v ∧ RdF w' g F st ∧ Chg (Eqg g) w w'
/-- The program's reader has. -/
def Gotv (w : World) (g : Nat) (F : Nat → Prop) (v : Value) (st : Option (List UInt8)) (e : Ending) (w' : World) : Prop := e = .returned v ∧ Rdr w' g F st ∧ Chg (Eqg g) w w'

def vW (st : Option (List UInt8)) : Nat := ((st.bind fWord).map (·.1)).getD 0
def vN (st : Option (List UInt8)) : Int := ((st.bind fNumber).map (·.1)).getD 0
def vH (st : Option (List UInt8)) : List UInt8 := ((st.bind fHash).map (·.1)).getD noH
def vT (st : Option (List UInt8)) : List UInt8 := ((st.bind fText).map (·.1)).getD []
def vC (most : Int) (st : Option (List UInt8)) : Int := ((st.bind (fCount most)).map (·.1)).getD 0
def nW (st : Option (List UInt8)) : Option (List UInt8) := (st.bind fWord).map (·.2)
def nH (st : Option (List UInt8)) : Option (List UInt8) := (st.bind fHash).map (·.2)
def nT (st : Option (List UInt8)) : Option (List UInt8) := (st.bind fText).map (·.2)
def nC (most : Int) (st : Option (List UInt8)) : Option (List UInt8) := (st.bind (fCount most)).map (·.2)

theorem wordR_v (w : World) (g : Nat) (F : Nat → Prop) (st : Option (List UInt8)) (h : Rdr w g F st) : Calls Try.prog 79 #[.pointer (some ⟨g, 0, none⟩)] w (Gotv w g F (.int .u64 (vW st : Int)) (nW st)) := by
  refine (wordR_any w g F st h).mono fun e w' ⟨he, h1, h2⟩ => ⟨?_, ?_, h2⟩
  · rw [he]; unfold vW; cases st.bind fWord <;> rfl
  · unfold nW; revert h1; cases st.bind fWord <;> exact id
theorem numberR_v (w : World) (g : Nat) (F : Nat → Prop) (st : Option (List UInt8)) (h : Rdr w g F st) : Calls Try.prog 75 #[.pointer (some ⟨g, 0, none⟩)] w (Gotv w g F (.int .i64 (vN st)) (nW st)) := by
  refine (numberR_any w g F st h).mono fun e w' ⟨he, h1, h2⟩ => ⟨?_, ?_, h2⟩
  · rw [he]; unfold vN; cases st.bind fNumber <;> rfl
  · revert h1; unfold nW fNumber; cases st with
    | none => exact id
    | some l => simp only [Option.bind_some]; cases fWord l <;> exact id
theorem hashR_v (w : World) (g : Nat) (F : Nat → Prop) (st : Option (List UInt8)) (h : Rdr w g F st) : Calls Try.prog 70 #[.pointer (some ⟨g, 0, none⟩)] w (Gotv w g F (.agg (bv (vH st)).toArray) (nH st)) := by
  refine (hashR_any w g F st h).mono fun e w' ⟨he, h1, h2⟩ => ⟨?_, ?_, h2⟩
  · rw [he]; unfold vH; cases st.bind fHash <;> rfl
  · unfold nH; revert h1; cases st.bind fHash <;> exact id
theorem textR_v (w : World) (g : Nat) (F : Nat → Prop) (st : Option (List UInt8)) (h : Rdr w g F st) : Calls Try.prog 77 #[.pointer (some ⟨g, 0, none⟩)] w (Gotv w g F (.string ⟨(vT st).toArray⟩) (nT st)) := by
  refine (textR_any w g F st h).mono fun e w' ⟨he, h1, h2⟩ => ⟨?_, ?_, h2⟩
  · rw [he]; unfold vT; cases st.bind fText <;> rfl
  · unfold nT; revert h1; cases st.bind fText <;> exact id
theorem takeS_8 (st : Option (List UInt8)) : takeS st 8 = nW st := by
  unfold takeS nW fWord
  cases st with
  | none => rfl
  | some l =>
    simp only [Option.bind_some]
    by_cases h : 8 ≤ l.length
    · rw [if_pos h, if_neg (by omega)]; rfl
    · rw [if_neg h, if_pos (by omega)]; rfl
theorem takeB_8 (st : Option (List UInt8)) : ofbe (takeB st 8) = vW st := by
  unfold takeB vW fWord
  cases st with
  | none => rfl
  | some l =>
    simp only [Option.bind_some]
    by_cases h : 8 ≤ l.length
    · rw [if_pos h, if_neg (by omega)]; rfl
    · rw [if_neg h, if_pos (by omega)]; rfl
theorem takeS_32 (st : Option (List UInt8)) : takeS st 32 = nH st := by
  unfold takeS nH fHash
  cases st with
  | none => rfl
  | some l =>
    simp only [Option.bind_some]
    by_cases h : 32 ≤ l.length
    · rw [if_pos h, if_neg (by omega)]; rfl
    · rw [if_neg h, if_pos (by omega)]; rfl
theorem takeB_32 (st : Option (List UInt8)) : takeB st 32 = vH st := by
  unfold takeB vH fHash
  cases st with
  | none => rfl
  | some l =>
    simp only [Option.bind_some]
    by_cases h : 32 ≤ l.length
    · rw [if_pos h, if_neg (by omega)]; rfl
    · rw [if_neg h, if_pos (by omega)]; rfl
theorem vH_length (st : Option (List UInt8)) : (vH st).length = 32 := by rw [← takeB_32, takeB_length]
theorem vW_lt (st : Option (List UInt8)) : vW st < 18446744073709551616 := by
  rw [← takeB_8]
  have := ofbe_lt (takeB st 8)
  rw [takeB_length] at this
  simpa using this

set_option maxHeartbeats 800000 in
theorem refRWord (w : World) (g : Nat) (F : Nat → Prop) (st : Option (List UInt8)) (h : RdF w g F st) (hFs : ∀ j, F j → j < w.heap.size) :
    Calls Try.prog 41 #[.pointer (some ⟨g, 0, none⟩)] w (Gotf w g F (.int .u64 (vW st : Int)) (nW st)) := by
  have HK : Calls Try.prog 68 #[.pointer (some ⟨g, 0, none⟩), .int .i64 8] w (Tk w g F st 8) := take_any w g F st 8 h hFs (by omega)
  have hl := takeB_length st 8
  rw [← takeB_8, ← takeS_8]
  unfold Tk at HK
  generalize takeB st 8 = bs at *
  generalize takeS st 8 = s2 at *
  have HL := Lib.hid hl
  clear hl h
  go_enter Try.func41, Try.ntmps41
  go_wp2_with fail
  refine HK.mono ?_
  rintro e w1 ⟨A, c, rfl, hc, hr, hR, hC, _⟩
  obtain ⟨ad, rfl, _⟩ := hr.blk_lt (by rw [HL.out]; omega)
  go_wp2_with fail
  go_loop [4, 5] (fun x i => ∃ k : Nat, k ≤ 8 ∧ x = .int .u64 (ofbe (bs.take k) : Int) ∧ i = .int .i64 (k : Int)) (fun _ i => 8 - (intOf i).toNat)
  case atStart => exact ⟨0, by omega, rfl, rfl⟩
  case round =>
    obtain ⟨k, hk, rfl, rfl⟩ := hrel
    by_cases hlt : k < 8
    · have hkl : k < bs.length := by rw [HL.out]; exact hlt
      have hcell := hr.at_ (j := k) hkl
      have hs : bs.take (k + 1) = bs.take k ++ [bs[k]] := List.take_succ_eq_append_getElem hkl
      have hb := ofbe_lt (bs.take k)
      have hb2 : ofbe (bs.take k) < 72057594037927936 := by
        refine Nat.lt_of_lt_of_le hb ?_
        have : (bs.take k).length ≤ 7 := by simp; omega
        calc 256 ^ (bs.take k).length ≤ 256 ^ 7 := Nat.pow_le_pow_right (by omega) this
          _ = _ := by decide
      have HS := Lib.hid (hs ▸ ofbe_snoc (bs.take k) bs[k])
      have hbt := bs[k].toNat_lt
      generalize bs[k] = b at *
      generalize ofbe (bs.take k) = x at *
      clear hs hb hkl
      go_wp2
      go_round
      case rel =>
        refine ⟨k + 1, by omega, ?_, by go_num⟩
        rw [HS.out]
        go_num
      case measure => simp [intOf]; omega
    · obtain rfl : k = 8 := by omega
      have e2 : bs.take 8 = bs := List.take_of_length_le (by rw [HL.out]; omega)
      rw [e2]
      clear e2
      go_wp2
      go_ret
      exact ⟨rfl, hR, hC⟩

theorem vN_eq (st : Option (List UInt8)) : vN st = sgn (vW st) := by
  unfold vN vW fNumber
  cases st with
  | none => rfl
  | some l =>
    simp only [Option.bind_some]
    cases fWord l <;> rfl

theorem refRNumber (w : World) (g : Nat) (F : Nat → Prop) (st : Option (List UInt8)) (h : RdF w g F st) (hFs : ∀ j, F j → j < w.heap.size) :
    Calls Try.prog 27 #[.pointer (some ⟨g, 0, none⟩)] w (Gotf w g F (.int .i64 (vN st)) (nW st)) := by
  have H := refRWord w g F st h hFs
  have hv := vN_eq st
  have hc := conv_sgn _ (vW_lt st)
  rw [hv, ← hc]
  have hlt := vW_lt st
  generalize vW st = x at *
  clear hv hc
  go_enter Try.func27, Try.ntmps27
  go_wp2_with fail
  refine H.mono ?_
  rintro e w1 ⟨rfl, hR, hC⟩
  go_wp2
  go_ret
  refine ⟨?_, hR, hC⟩
  simp [IntKind.wrap_i64, wrap64]

/-- A hash's cells, the first k of them laid. -/
def hcells (bs : List UInt8) (k : Nat) : Array Value := (bv (bs.take k ++ List.replicate (32 - k) 0)).toArray
theorem hcells_set (bs : List UInt8) (k : Nat) (hl : bs.length = 32) (hk : k < 32) : (hcells bs k).setIfInBounds k (Value.int .u8 ((bs[k]'(by omega)).toNat : Int)) = hcells bs (k + 1) := by
  unfold hcells bv
  rw [List.setIfInBounds_toArray, ← List.map_set (f := fun b : UInt8 => Value.int .u8 (b.toNat : Int)) (a := bs[k]'(by omega))]
  congr 2
  have e : List.replicate (32 - k) (0 : UInt8) = 0 :: List.replicate (32 - (k + 1)) 0 := by
    rw [show 32 - k = (32 - (k + 1)) + 1 by omega, List.replicate_succ]
  have hlk : (bs.take k).length = k := by simp; omega
  rw [e, List.set_append, if_neg (by omega), hlk, Nat.sub_self, List.set_cons_zero, List.take_succ_eq_append_getElem (by omega), List.append_assoc]
  rfl
theorem hcells_zero (bs : List UInt8) : hcells bs 0 = (bv noH).toArray := rfl
theorem hcells_get (bs : List UInt8) (k : Nat) (hk : k < 32) (hl : bs.length = 32) : ∃ v, (hcells bs k)[k]? = some v := by
  have : (hcells bs k).size = 32 := by simp [hcells, bv]; omega
  exact ⟨_, Array.getElem?_eq_getElem (by omega)⟩
theorem hcells_full (bs : List UInt8) (hl : bs.length = 32) : hcells bs 32 = (bv bs).toArray := by
  unfold hcells
  rw [List.take_of_length_le (by omega)]
  simp

set_option maxHeartbeats 800000 in
theorem refRHash (w : World) (g : Nat) (F : Nat → Prop) (st : Option (List UInt8)) (h : RdF w g F st) (hFs : ∀ j, F j → j < w.heap.size) :
    Calls Try.prog 49 #[.pointer (some ⟨g, 0, none⟩)] w (Gotf w g F (.agg (bv (vH st)).toArray) (nH st)) := by
  have hch := (Chg.refl Non w).alloc (.cells (bv noH).toArray 29)
  have h1 := h.chg hch (fun f => f) (fun _ _ f => f)
  have hz := Hb.new w 29 (bv noH).toArray
  have hgl := h.lt
  have hs1 : (w.alloc (.cells (bv noH).toArray 29)).heap.size = w.heap.size + 1 := by simp
  have HK : Calls Try.prog 68 #[.pointer (some ⟨g, 0, none⟩), .int .i64 32] (w.alloc (.cells (bv noH).toArray 29)) (Tk _ g F st 32) :=
    take_any _ g F st 32 h1 (fun j hj => by rw [hs1]; have := hFs j hj; omega) (by omega)
  have hl := takeB_length st 32
  rw [← takeB_32, ← takeS_32]
  unfold Tk at HK
  generalize takeB st 32 = bs at *
  generalize takeS st 32 = s2 at *
  have HL := Lib.hid hl
  have HS1 := Lib.hid hs1
  clear hl h h1 hs1
  go_enter Try.func49, Try.ntmps49
  go_wp2_with (with_reducible refine wpList_alloc_hash rfl rfl ?_)
  refine HK.mono ?_
  rintro e w1 ⟨A, c, rfl, hc, hr, hR, hC, hAb⟩
  have hz1 := hz.chg hC (fun e => by unfold Eqg at e; omega)
  obtain ⟨ad, rfl, hadl⟩ := hr.blk_lt (by rw [HL.out]; omega)
  have hC0 := (hch.mono (S' := Eqg g) (fun _ f => f.elim)).trans hC (fun _ hj => .inl hj)
  have hw1 := hC.size
  rw [HS1.out] at hw1
  have hgl1 := hR.lt
  have hne1 : bs ≠ [] := by intro e; have := HL.out; rw [e] at this; simp at this
  have hab := hAb hne1 _ ⟨ad, rfl, rfl⟩
  have had0 : ad.block ≠ w.heap.size := by
    rcases hab with h2 | h2
    · have := hFs _ h2; omega
    · rw [HS1.out] at h2; omega
  clear hAb HK hne1
  go_wp2_with (with_reducible refine wpList_alloc_hash rfl rfl ?_)
  go_loopw [5] (fun i wr => ∃ k : Nat, k ≤ 32 ∧ i = .int .i64 (k : Int) ∧ Chg (fun j => j = w1.heap.size) w1 wr ∧ Hb wr w1.heap.size 29 (hcells bs k)) (fun i _ => 32 - (intOf i).toNat)
  case atStart => exact ⟨0, by omega, rfl, (Chg.refl _ w1).alloc _, Hb.new w1 _ _⟩
  case round =>
    obtain ⟨k, hk, rfl, hCk, hbk⟩ := hrel
    by_cases hlt : k < 32
    · have hkl : k < bs.length := by rw [HL.out]; exact hlt
      have hrk := hr.chg hCk (fun j hj e => by obtain ⟨_, e1, rfl⟩ := hj; injection e1 with e1; subst e1; omega)
      have hcell := hrk.at_ (j := k) hkl
      obtain ⟨u, hu⟩ := hcells_get bs k hlt HL.out
      have hcu := hbk.cell k
      rw [hu] at hcu
      have hfu := hbk.frozen k
      have HST := Lib.hid (hcells_set bs k HL.out hlt)
      generalize bs[k] = b at *
      clear hu hkl hrk
      go_wp2
      go_roundw
      case rel =>
        refine ⟨k + 1, by omega, by go_num, hCk.setCell (p := ⟨w1.heap.size, k, none⟩) (.inl rfl) _, ?_⟩
        rw [← HST.out]
        exact hbk.set k _
      case measure => simp [intOf]; omega
    · obtain rfl : k = 32 := by omega
      rw [hcells_full bs HL.out] at hbk
      have hrd : Rd wr (some ⟨w1.heap.size, 0, none⟩) bs := rd_of_blk hbk (fun j b hj => by simpa using bv_get bs j b hj)
      have hz2 := hz1.chg hCk (by omega)
      go_wp2_with (first | (with_reducible refine wpList_load_hash rfl _ rfl (h := bs) rfl HL.out hrd ?_) | (with_reducible refine wpList_store_hash rfl _ _ rfl (g := w.heap.size) (h := bs) rfl rfl HL.out hz2 rfl ?_))
      refine ret_hash rfl rfl (hz2.setRow _) HL.out rfl ⟨rfl, ?_, ?_⟩
      · exact (hR.chg hCk (by omega) (fun j hj e => by have := hFs j hj; omega)).chg ((Chg.refl (fun j => j = w.heap.size) wr).setRow (.inl rfl) _) (by omega) (fun j hj e => by have := hFs j hj; omega)
      · exact (hC0.trans hCk (fun j hj => .inr (by omega))).setRow (.inr (Nat.le_refl _)) _

theorem refREnd (w : World) (g : Nat) (F : Nat → Prop) (st : Option (List UInt8)) (h : RdF w g F st) :
    Calls Try.prog 42 #[.pointer (some ⟨g, 0, none⟩)] w fun e w' => e = .returned (.int .i64 (endv st)) ∧ w' = w := by
  unfold endv
  cases st with
  | none =>
    rw [if_neg (by simp)]
    obtain ⟨_, A, n, c, hb⟩ := h
    have c0 : w.cell? ⟨g, 0, none⟩ = some (.slice A n c) := hb.cell 0
    have c1 : w.cell? ⟨g, 1, none⟩ = some (.bool true) := hb.cell 1
    go_enter Try.func42, Try.ntmps42
    go_wp2
    go_ret
    exact ⟨rfl, rfl⟩
  | some l =>
    obtain ⟨_, A, c, hb, _⟩ := h
    have c0 : w.cell? ⟨g, 0, none⟩ = some (.slice A l.length c) := hb.cell 0
    have c1 : w.cell? ⟨g, 1, none⟩ = some (.bool false) := hb.cell 1
    by_cases hl : 0 < l.length
    · rw [if_neg (by intro e; injection e with e; subst e; simp at hl)]
      have hl' : (0 : Int) < (l.length : Int) := by omega
      go_enter Try.func42, Try.ntmps42
      go_wp2
      go_ret
      exact ⟨rfl, rfl⟩
    · have e : l = [] := List.eq_nil_of_length_eq_zero (by omega)
      subst e
      rw [if_pos rfl]
      go_enter Try.func42, Try.ntmps42
      go_wp2
      go_ret
      exact ⟨rfl, rfl⟩
end Go.Proofs.Yteglpgakikigiaa

/- Package forms: what its small functions leave, writing: contracts. -/
namespace Go.Proofs.Yteglpgakikigiaa
open Go.RowKit
set_option linter.unusedVariables false
set_option linter.unusedSimpArgs false
set_option maxRecDepth 20000

/-- The panic of what is not right. -/
def bad : List PanicEntry := [{ v := .iface 25 (.int .i64 61), recovered := false }]

theorem insist_yes (w : World) : Calls Try.prog 35 #[.bool true] w fun e w' => e = .returned (.tuple #[]) ∧ w' = w := by
  go_enter Try.func35, Try.ntmps35
  go_wp2
  go_end0
  exact ⟨rfl, rfl⟩
theorem insist_no (w : World) : Calls Try.prog 35 #[.bool false] w fun e w' => e = .panicked bad ∧ w' = w := by
  go_enter Try.func35, Try.ntmps35
  go_wp2
  exact ⟨rfl, rfl, rfl⟩

theorem writes_w (w : World) (g : Nat) : Calls Try.prog 66 #[.agg #[.pointer (some ⟨g, 0, none⟩), .pointer none]] w fun e w' => e = .returned (.bool true) ∧ Chg Non w w' := by
  go_enter Try.func66, Try.ntmps66
  go_wp2
  go_ret
  exact ⟨rfl, (Chg.refl Non w).alloc _⟩
theorem writes_r (w : World) (g : Nat) : Calls Try.prog 66 #[.agg #[.pointer none, .pointer (some ⟨g, 0, none⟩)]] w fun e w' => e = .returned (.bool false) ∧ Chg Non w w' := by
  go_enter Try.func66, Try.ntmps66
  go_wp2
  go_ret
  exact ⟨rfl, (Chg.refl Non w).alloc _⟩

/-- A writer that has l, behind what was done since the world W, in which it was v0's. -/
structure Wst (W : World) (g : Nat) (v0 : Value) (l : List UInt8) (w : World) (v : Value) : Prop where
  wri : Wri w g v (some l)
  chg : Chg (Wft g v0) W w
  own : ∀ k, vbl v k → vbl v0 k ∨ W.heap.size ≤ k
section
variable {W w w' : World} {g : Nat} {v0 v v' : Value} {l l' : List UInt8}
theorem Wst.here (h : Wri w g v (some l)) : Wst w g v l w v := ⟨h, Chg.refl _ _, fun _ h => .inl h⟩
theorem Wst.non (S : Wst W g v0 l w v) (k : Chg Non w w') : Wst W g v0 l w' v := ⟨S.wri.chg k (fun _ _ f => f), S.chg.trans k (fun _ f => f.elim), S.own⟩
theorem Wst.wft (S : Wst W g v0 l w v) : ∀ j, Wft g v j → Wft g v0 j ∨ W.heap.size ≤ j := by
  rintro j (rfl | hj)
  · exact .inl (.inl rfl)
  · exact (S.own j hj).imp .inr id
theorem Wst.trans (S : Wst W g v0 l w v) (T : Wst w g v l' w' v') : Wst W g v0 l' w' v' := by
  refine ⟨T.wri, S.chg.trans T.chg S.wft, fun k hk => ?_⟩
  rcases T.own k hk with h4 | h4
  · exact S.own k h4
  · exact .inr (Nat.le_trans S.chg.size h4)
theorem wst_of_wrote {e : Ending} (h : Wrote w g v (some l') e w') : e = .returned (.tuple #[]) ∧ ∃ v', Wst w g v l' w' v' := by
  obtain ⟨rfl, v', h1, h2, h3⟩ := h
  exact ⟨rfl, v', h1, h2, h3⟩
theorem Wst.nw (S : Wst W g v0 l w v) {b : Nat} (h : ¬ Wft g v0 b) (hb : b < W.heap.size) : ¬ Wft g v b := fun h2 => (S.wft b h2).elim h (fun h3 => by omega)
theorem Wst.cell (S : Wst W g v0 l w v) {p : Addr} {u : Value} (hc : W.cell? p = some u) (h : ¬ Wft g v0 p.block) : w.cell? p = some u := S.chg.cell hc h
theorem Wst.range (S : Wst W g v0 l w v) {b o : Nat} {cs : List Value} (hc : W.rangeAt b o cs) (h : ¬ Wft g v0 b) : w.rangeAt b o cs := fun j u hu => S.chg.cell (hc j u hu) h
theorem Chg.range' {S : Nat → Prop} (k : Chg S w w') {b o : Nat} {cs : List Value} (h : w.rangeAt b o cs) (hb : ¬ S b) : w'.rangeAt b o cs := fun j u hu => k.cell (h j u hu) hb
theorem Wrote.cell {st : Option (List UInt8)} {e : Ending} (h : Wrote w g v st e w') {p : Addr} {u : Value} (hc : w.cell? p = some u) (hp : ¬ Wft g v p.block) : w'.cell? p = some u := by
  obtain ⟨_, _, _, h2, _⟩ := h
  exact h2.cell hc hp
theorem Wri.nnew {st : Option (List UInt8)} (h : Wri w g v st) {k : Nat} (hk : w.heap.size ≤ k) : ¬ Wft g v k := by
  rintro (rfl | h2)
  · have := h.lt; omega
  · have := h.vlt _ h2; omega
end

/-- What a writing leaves: more bytes; or the panic, if it is not right. -/
def WO (w : World) (g : Nat) (v : Value) (ok : Bool) (l : List UInt8) (e : Ending) (w' : World) : Prop :=
  match ok with
  | true => e = .returned (.tuple #[]) ∧ ∃ v', Wst w g v l w' v'
  | false => e = .panicked bad ∧ Chg (Wft g v) w w'
section
variable {W w w' : World} {g : Nat} {v0 v : Value} {l l' : List UInt8} {e : Ending} {ok : Bool}
theorem WO.after (S : Wst W g v0 l w v) (h : WO w g v ok l' e w') : WO W g v0 ok l' e w' := by
  cases ok with
  | true =>
    obtain ⟨rfl, v', h1⟩ := h
    exact ⟨rfl, v', S.trans h1⟩
  | false => exact ⟨h.1, S.chg.trans h.2 S.wft⟩
theorem wo_yes {W w' : World} {g : Nat} {v0 v' : Value} {l : List UInt8} (S : Wst W g v0 l w' v') : WO W g v0 true l (.returned (.tuple #[])) w' := ⟨rfl, v', S⟩
theorem WO.chg (h : WO w g v ok l' e w') : Chg (Wft g v) w w' := by
  cases ok with
  | true => obtain ⟨_, _, h1⟩ := h; exact h1.chg
  | false => exact h.2
end

theorem word_w (g : Nat) (l : List UInt8) (w : World) (v : Value) (b o n : Nat) (h : Wri w g v (some l)) (hc : w.cell? ⟨b, o, none⟩ = some (.int .u64 (n : Int))) (hb : ¬ Wft g v b) (hn : n < 18446744073709551616) (hl : l.length ≤ 1000000000) :
    Calls Try.prog 67 #[.agg #[.pointer (some ⟨g, 0, none⟩), .pointer none], .pointer (some ⟨b, o, none⟩)] w (WO w g v true (l ++ be 8 n)) := by
  have S1 := (Wst.here h).non ((Chg.refl Non w).alloc (.cells #[.pointer (some ⟨g, 0, none⟩), .pointer none] 84))
  have c1 := ((Chg.refl Non w).alloc (.cells #[.pointer (some ⟨g, 0, none⟩), .pointer none] 84)).cell hc (fun f => f)
  have hw := h.nnew (Nat.le_refl w.heap.size)
  have hx := Hb.new w 84 #[.pointer (some ⟨g, 0, none⟩), .pointer none]
  go_enter Try.func67, Try.ntmps67
  go_wp2_with fail
  refine (writes_w _ g).mono ?_
  rintro e w1 ⟨rfl, hC⟩
  have S2 := S1.non hC
  have c2 := hC.cell c1 (fun f => f)
  have x0 : w1.cell? ⟨w.heap.size, 0, none⟩ = some (.pointer (some ⟨g, 0, none⟩)) := (hx.chg hC (fun f => f)).cell 0
  clear S1 c1 hx hc
  go_wp2_with fail
  have D2 := S2.non ((Chg.refl Non w1).drew)
  go_region_held3 (fun w' => w'.cell? ⟨w.heap.size, 0, none⟩ = some (.pointer (some ⟨g, 0, none⟩)) ∧ w'.cell? ⟨b, o, none⟩ = some (.int .u64 (n : Int))) (first | exact ⟨x0, c2⟩ | exact ⟨s1, s2⟩ | assumption) (first | (go_at_call 78; refine (word_any _ g v (some l) n hn D2.wri (fun l' h => by injection h with h; subst h; exact hl)).mono ?_; rintro e w3 h3; have s1 := h3.cell x0 hw; have s2 := h3.cell c2 hb; obtain ⟨rfl, v3, S3⟩ := wst_of_wrote h3) | fail)
  go_wp2
  go_end0
  exact ⟨rfl, v3, D2.trans S3⟩

theorem hash_w (g : Nat) (l : List UInt8) (w : World) (v : Value) (b o : Nat) (hs : List UInt8) (hhl : hs.length = 32) (h : Wri w g v (some l)) (hc : w.rangeAt b o (bv hs)) (hb : ¬ Wft g v b) (hl : l.length ≤ 1000000000) :
    Calls Try.prog 46 #[.agg #[.pointer (some ⟨g, 0, none⟩), .pointer none], .pointer (some ⟨b, o, none⟩)] w (WO w g v true (l ++ hs)) := by
  have S1 := (Wst.here h).non ((Chg.refl Non w).alloc (.cells #[.pointer (some ⟨g, 0, none⟩), .pointer none] 84))
  have c1 := ((Chg.refl Non w).alloc (.cells #[.pointer (some ⟨g, 0, none⟩), .pointer none] 84)).range hc (fun f => f)
  have hw := h.nnew (Nat.le_refl w.heap.size)
  have hx := Hb.new w 84 #[.pointer (some ⟨g, 0, none⟩), .pointer none]
  go_enter Try.func46, Try.ntmps46
  go_wp2_with fail
  refine (writes_w _ g).mono ?_
  rintro e w1 ⟨rfl, hC⟩
  have S2 := S1.non hC
  have c2 := hC.range c1 (fun f => f)
  have x0 : w1.cell? ⟨w.heap.size, 0, none⟩ = some (.pointer (some ⟨g, 0, none⟩)) := (hx.chg hC (fun f => f)).cell 0
  clear S1 c1 hx hc
  go_wp2_with fail
  have D2 := S2.non ((Chg.refl Non w1).drew)
  have hu := Try.underlying29
  have hi : (Try.prog.info? 29).map (·.size) = some (bv hs).length := by rw [bv_length, hhl]; exact hash_row
  have hld : ∀ w', (w'.cell? ⟨w.heap.size, 0, none⟩ = some (.pointer (some ⟨g, 0, none⟩)) ∧ w'.rangeAt b o (bv hs)) → (Instr.loadAt 29 (.pointer (some ⟨b, o, none⟩))).run Try.prog w' = .ok (.agg (bv hs).toArray) w' := fun w' hw' => run_loadAt_mid w' b o _ (bv hs) _ hw'.2 Try.underlying29 rfl (by rw [bv_length, hhl]; exact hash_row)
  go_region_held3 (fun w' => w'.cell? ⟨w.heap.size, 0, none⟩ = some (.pointer (some ⟨g, 0, none⟩)) ∧ w'.rangeAt b o (bv hs)) (first | exact ⟨x0, c2⟩ | exact ⟨s1, s2⟩ | assumption) (first | (go_at_call 69; refine (hash_any _ g v (some l) hs hhl D2.wri (fun l' h => by injection h with h; subst h; exact hl)).mono ?_; rintro e w3 h3; have s1 := h3.cell x0 hw; have s2 : w3.rangeAt b o (bv hs) := (fun j u hu => h3.cell (c2 j u hu) hb); obtain ⟨rfl, v3, S3⟩ := wst_of_wrote h3) | fail)
  go_wp2
  go_end0
  exact ⟨rfl, v3, D2.trans S3⟩


theorem number_w (g : Nat) (l : List UInt8) (w : World) (v : Value) (b o : Nat) (n lo hi : Int) (h : Wri w g v (some l)) (hc : w.cell? ⟨b, o, none⟩ = some (.int .i64 n)) (hb : ¬ Wft g v b) (h1 : -9223372036854775808 ≤ n) (h2 : n ≤ 9223372036854775807) (hl : l.length ≤ 1000000000) :
    Calls Try.prog 62 #[.agg #[.pointer (some ⟨g, 0, none⟩), .pointer none], .pointer (some ⟨b, o, none⟩), .int .i64 lo, .int .i64 hi] w (WO w g v (decide (lo ≤ n ∧ n ≤ hi)) (l ++ be 8 (n % 18446744073709551616).toNat)) := by
  have S1 := (Wst.here h).non ((Chg.refl Non w).alloc (.cells #[.pointer (some ⟨g, 0, none⟩), .pointer none] 84))
  have c1 := ((Chg.refl Non w).alloc (.cells #[.pointer (some ⟨g, 0, none⟩), .pointer none] 84)).cell hc (fun f => f)
  have hw := h.nnew (Nat.le_refl w.heap.size)
  have hx := Hb.new w 84 #[.pointer (some ⟨g, 0, none⟩), .pointer none]
  generalize hok : decide (lo ≤ n ∧ n ≤ hi) = ok
  have HOK := Lib.hid hok
  clear hok
  go_enter Try.func62, Try.ntmps62
  go_wp2_with fail
  refine (writes_w _ g).mono ?_
  rintro e w1 ⟨rfl, hC⟩
  have S2 := S1.non hC
  have c2 := hC.cell c1 (fun f => f)
  have x0 : w1.cell? ⟨w.heap.size, 0, none⟩ = some (.pointer (some ⟨g, 0, none⟩)) := (hx.chg hC (fun f => f)).cell 0
  clear S1 c1 hx hc
  go_wp2_with fail
  have D2 := S2.non ((Chg.refl Non w1).drew)
  go_region_held3 (fun w' => w'.cell? ⟨w.heap.size, 0, none⟩ = some (.pointer (some ⟨g, 0, none⟩)) ∧ w'.cell? ⟨b, o, none⟩ = some (.int .i64 n)) (first | exact ⟨x0, c2⟩ | exact ⟨s1, s2⟩ | assumption) (first | (go_at_call 74; refine (number_any _ g v (some l) n h1 h2 D2.wri (fun l' h => by injection h with h; subst h; exact hl)).mono ?_; rintro e w3 h3; have s1 := h3.cell x0 hw; have s2 := h3.cell c2 hb; obtain ⟨rfl, v3, S3⟩ := wst_of_wrote h3) | fail)
  have S4 := D2.trans S3
  clear D2 S2 S3 h3 s1 x0 c2
  by_cases hlo : lo ≤ n
  · by_cases hhi : n ≤ hi
    · obtain rfl : ok = true := by rw [← HOK.out]; exact decide_eq_true ⟨hlo, hhi⟩
      have k1 : decide (n ≥ lo) = true := by simpa using hlo
      have k2 : decide (n ≤ hi) = true := by simpa using hhi
      go_wp2_with (go_at_call 35; refine (insist_yes _).mono ?_; rintro e w5 ⟨rfl, rfl⟩)
      go_end0
      exact ⟨rfl, v3, S4⟩
    · obtain rfl : ok = false := by rw [← HOK.out]; exact decide_eq_false (fun h => hhi h.2)
      have k1 : decide (n ≥ lo) = true := by simpa using hlo
      have k2 : decide (n ≤ hi) = false := by simpa using hhi
      go_wp2_with (go_at_call 35; refine (insist_no _).mono ?_; rintro e w5 ⟨rfl, rfl⟩)
      exact ⟨rfl, rfl, S4.chg⟩
  · obtain rfl : ok = false := by rw [← HOK.out]; exact decide_eq_false (fun h => hlo h.1)
    have k1 : decide (n ≥ lo) = false := by simpa using hlo
    go_wp2_with (go_at_call 35; refine (insist_no _).mono ?_; rintro e w5 ⟨rfl, rfl⟩)
    exact ⟨rfl, rfl, S4.chg⟩

end Go.Proofs.Yteglpgakikigiaa

/- Package forms: texts, names, a thing's number, written. -/
namespace Go.Proofs.Yteglpgakikigiaa
open Go.RowKit
set_option linter.unusedVariables false
set_option linter.unusedSimpArgs false
set_option maxRecDepth 20000

/-- A name's bytes are these. -/
def lower (b : UInt8) : Bool := decide (97 ≤ b.toNat ∧ b.toNat ≤ 122)
/-- May a name be? -/
def nameOk (s : ByteArray) : Bool := decide (s.size ≤ 16) && (decide (0 < s.size) && s.data.toList.all lower)

theorem text_w (g : Nat) (l : List UInt8) (w : World) (v : Value) (b o : Nat) (s : ByteArray) (most : Nat) (h : Wri w g v (some l)) (hc : w.cell? ⟨b, o, none⟩ = some (.string s)) (hb : ¬ Wft g v b) (hm : s.size ≤ maxLen) (hmost : most ≤ 4096) (hl : l.length ≤ 1000000000) :
    Calls Try.prog 64 #[.agg #[.pointer (some ⟨g, 0, none⟩), .pointer none], .pointer (some ⟨b, o, none⟩), .int .i64 (most : Int)] w fun e w' => WO w g v (decide (s.size ≤ most)) (l ++ tx s.data.toList) e w' ∧ w'.cell? ⟨b, o, none⟩ = some (.string s) := by
  have S1 := (Wst.here h).non ((Chg.refl Non w).alloc (.cells #[.pointer (some ⟨g, 0, none⟩), .pointer none] 84))
  have c1 := ((Chg.refl Non w).alloc (.cells #[.pointer (some ⟨g, 0, none⟩), .pointer none] 84)).cell hc (fun f => f)
  have hw := h.nnew (Nat.le_refl w.heap.size)
  have hx := Hb.new w 84 #[.pointer (some ⟨g, 0, none⟩), .pointer none]
  have hsl : s.data.toList.length = s.size := by rw [Array.length_toList]; rfl
  have hml := hm
  unfold maxLen at hml
  by_cases hok : s.size ≤ most
  · rw [decide_eq_true hok]
    have ht : txSt (some l) s.data.toList = some (l ++ tx s.data.toList) := by unfold txSt; rw [hsl, if_neg (by omega)]; rfl
    have HT := Lib.hid ht
    clear ht hsl
    go_enter Try.func64, Try.ntmps64
    go_wp2_with fail
    refine (writes_w _ g).mono ?_
    rintro e w1 ⟨rfl, hC⟩
    have S2 := S1.non hC
    have c2 := hC.cell c1 (fun f => f)
    have x0 : w1.cell? ⟨w.heap.size, 0, none⟩ = some (.pointer (some ⟨g, 0, none⟩)) := (hx.chg hC (fun f => f)).cell 0
    clear S1 c1 hx hc
    go_wp2_with fail
    have D2 := S2.non ((Chg.refl Non w1).drew)
    go_region_held3 (fun w' => w'.cell? ⟨w.heap.size, 0, none⟩ = some (.pointer (some ⟨g, 0, none⟩)) ∧ w'.cell? ⟨b, o, none⟩ = some (.string s)) (first | exact ⟨x0, c2⟩ | exact ⟨s1, s2⟩ | assumption) (first | (go_at_call 76; refine (text_any _ g v (some l) s D2.wri (fun l' h => by injection h with h; subst h; exact hl) hm).mono ?_; rintro e w3 h3; have s1 := h3.cell x0 hw; have s2 := h3.cell c2 hb; rw [HT.out] at h3; obtain ⟨rfl, v3, S3⟩ := wst_of_wrote h3) | fail)
    have S4 := D2.trans S3
    clear D2 S2 S3 h3 s1 x0 c2
    have k1 : decide ((s.size : Int) ≤ (most : Int)) = true := by simp; omega
    go_wp2_with (go_at_call 35; refine (insist_yes _).mono ?_; rintro e w5 ⟨rfl, rfl⟩)
    go_end0
    exact ⟨⟨rfl, v3, S4⟩, s2⟩
  · rw [decide_eq_false hok]
    go_enter Try.func64, Try.ntmps64
    go_wp2_with fail
    refine (writes_w _ g).mono ?_
    rintro e w1 ⟨rfl, hC⟩
    have S2 := S1.non hC
    have c2 := hC.cell c1 (fun f => f)
    have x0 : w1.cell? ⟨w.heap.size, 0, none⟩ = some (.pointer (some ⟨g, 0, none⟩)) := (hx.chg hC (fun f => f)).cell 0
    clear S1 c1 hx hc
    go_wp2_with fail
    have D2 := S2.non ((Chg.refl Non w1).drew)
    go_region_held3 (fun w' => w'.cell? ⟨w.heap.size, 0, none⟩ = some (.pointer (some ⟨g, 0, none⟩)) ∧ w'.cell? ⟨b, o, none⟩ = some (.string s)) (first | exact ⟨x0, c2⟩ | exact ⟨s1, s2⟩ | assumption) (first | (go_at_call 76; refine (text_any _ g v (some l) s D2.wri (fun l' h => by injection h with h; subst h; exact hl) hm).mono ?_; rintro e w3 h3; have s1 := h3.cell x0 hw; have s2 := h3.cell c2 hb; obtain ⟨rfl, v3, _, C3, _⟩ := h3) | fail)
    have C4 := D2.chg.trans C3 (fun _ h => .inl h)
    clear D2 S2 C3 s1 x0 c2
    have k1 : decide ((s.size : Int) ≤ (most : Int)) = false := by simp; omega
    go_wp2_with (go_at_call 35; refine (insist_no _).mono ?_; rintro e w5 ⟨rfl, rfl⟩)
    exact ⟨rfl, ⟨rfl, C4⟩, s2⟩

/-- A name, behind its text: whether written or read. -/
theorem name_gen (w : World) (x y : Option Addr) (b o : Nat) (s : ByteArray) (hm : s.size ≤ maxLen) (G : World → Prop) (hG : ∀ w1 w2, G w1 → Chg Non w1 w2 → G w2)
    (H : Calls Try.prog 64 #[.agg #[.pointer x, .pointer y], .pointer (some ⟨b, o, none⟩), .int .i64 16] (w.alloc (.cells #[.pointer x, .pointer y] 84)) fun e w' => e = (match decide (s.size ≤ 16) with | true => .returned (.tuple #[]) | false => .panicked bad) ∧ G w' ∧ (s.size ≤ 16 → w'.cell? ⟨b, o, none⟩ = some (.string s))) :
    Calls Try.prog 63 #[.agg #[.pointer x, .pointer y], .pointer (some ⟨b, o, none⟩)] w fun e w' => e = (match nameOk s with | true => .returned (.tuple #[]) | false => .panicked bad) ∧ G w' := by
  have hsl : s.data.toList.length = s.size := by rw [Array.length_toList]; rfl
  unfold maxLen at hm
  unfold nameOk
  by_cases h16 : s.size ≤ 16
  · rw [decide_eq_true h16] at H ⊢
    rw [Bool.true_and]
    by_cases h0 : 0 < s.size
    · rw [decide_eq_true h0, Bool.true_and]
      generalize hok : s.data.toList.all lower = ok
      have HOK := Lib.hid hok
      clear hok
      go_enter Try.func63, Try.ntmps63
      go_wp2_with fail
      refine H.mono ?_
      rintro e w1 ⟨rfl, g1, c1⟩
      have c1 := c1 h16
      have k2 : decide ((s.size : Int) > 0) = true := decide_eq_true (by omega)
      obtain ⟨c2, w2, hrun, hcc, hrd, hch, _⟩ := run_bytes byt w1 s
      have HSL := Lib.hid hsl
      clear hsl
      go_wp2_with (go_at_call 35; refine (insist_yes _).mono ?_; rintro e w5 ⟨rfl, rfl⟩)
      have g2 := hG _ _ g1 hch
      go_loop [5, 20] (fun c i => ∃ k : Nat, k ≤ s.size ∧ i = .int .i64 (k : Int) ∧ (s.data.toList.take k).all lower = true) (fun _ i => s.size - (intOf i).toNat)
      case atStart => exact ⟨0, by omega, rfl, rfl⟩
      case round =>
        obtain ⟨k, hk, rfl, hall⟩ := hrel
        by_cases hlt : k < s.size
        · have hkl : k < s.data.toList.length := by rw [HSL.out]; exact hlt
          have hcell := hrd.at_ (j := k) hkl
          rw [Addr.add_mid, Nat.zero_add] at hcell
          have hs : s.data.toList.take (k + 1) = s.data.toList.take k ++ [s.data.toList[k]] := List.take_succ_eq_append_getElem hkl
          have hmem : s.data.toList[k] ∈ s.data.toList := List.getElem_mem hkl
          generalize s.data.toList[k] = b at *
          have hbt := b.toNat_lt
          have HS := Lib.hid hs
          clear hs hkl
          by_cases hb : lower b = true
          · have hb' := hb
            unfold lower at hb'
            have hb2 := of_decide_eq_true hb'
            have k3 : decide ((b.toNat : Int) ≥ 97) = true := decide_eq_true (by omega)
            have k4 : decide ((b.toNat : Int) ≤ 122) = true := decide_eq_true (by omega)
            go_wp2_with (go_at_call 35; refine (insist_yes _).mono ?_; rintro e w5 ⟨rfl, rfl⟩)
            go_round
            case rel =>
              refine ⟨k + 1, by omega, by go_num, ?_⟩
              rw [HS.out, List.all_append, hall]
              simp [hb]
            case measure => simp [intOf]; omega
          · obtain rfl : ok = false := by
              rw [← HOK.out]
              rw [Bool.eq_false_iff]
              intro h
              exact hb (List.all_eq_true.1 h _ hmem)
            unfold lower at hb
            have hb2 : ¬ (97 ≤ b.toNat ∧ b.toNat ≤ 122) := fun h => hb (decide_eq_true h)
            by_cases h97 : 97 ≤ b.toNat
            · have k3 : decide ((b.toNat : Int) ≥ 97) = true := decide_eq_true (by omega)
              have k4 : decide ((b.toNat : Int) ≤ 122) = false := decide_eq_false (by omega)
              go_wp2_with (go_at_call 35; refine (insist_no _).mono ?_; rintro e w5 ⟨rfl, rfl⟩)
              exact ⟨rfl, rfl, g2⟩
            · have k3 : decide ((b.toNat : Int) ≥ 97) = false := decide_eq_false (by omega)
              go_wp2_with (go_at_call 35; refine (insist_no _).mono ?_; rintro e w5 ⟨rfl, rfl⟩)
              exact ⟨rfl, rfl, g2⟩
        · obtain rfl : k = s.size := by omega
          rw [← HSL.out, List.take_length] at hall
          obtain rfl : ok = true := by rw [← HOK.out]; exact hall
          go_wp2
          go_end0
          exact ⟨rfl, g2⟩
    · rw [decide_eq_false h0, Bool.false_and]
      go_enter Try.func63, Try.ntmps63
      go_wp2_with fail
      refine H.mono ?_
      rintro e w1 ⟨rfl, g1, c1⟩
      have c1 := c1 h16
      have k2 : decide ((s.size : Int) > 0) = false := decide_eq_false (by omega)
      go_wp2_with (go_at_call 35; refine (insist_no _).mono ?_; rintro e w5 ⟨rfl, rfl⟩)
      exact ⟨rfl, rfl, g1⟩
  · rw [decide_eq_false h16] at H ⊢
    rw [Bool.false_and]
    go_enter Try.func63, Try.ntmps63
    go_wp2_with fail
    refine H.mono ?_
    rintro e w1 ⟨rfl, g1, _⟩
    go_wp2
    exact ⟨rfl, rfl, g1⟩
end Go.Proofs.Yteglpgakikigiaa

/- The things of package forms: their bytes, when they are right, and what bytes are. Plain mathematics. -/
namespace Go.Proofs.Yteglpgakikigiaa
open Go.RowKit
set_option linter.unusedVariables false
set_option linter.unusedSimpArgs false
set_option maxRecDepth 20000

abbrev St := Option (List UInt8)
/-- A number's bytes. -/
def num (n : Int) : List UInt8 := be 8 (n % 18446744073709551616).toNat
theorem num_length (n : Int) : (num n).length = 8 := be_length 8 _
def inR (lo hi n : Int) : Bool := decide (lo ≤ n ∧ n ≤ hi)
theorem inR_iff {lo hi n : Int} : inR lo hi n = true ↔ lo ≤ n ∧ n ≤ hi := decide_eq_true_iff
theorem tx_length (l : List UInt8) : (tx l).length = 2 + l.length := by unfold tx; rw [List.length_append, be_length]

/-! ### What a reading gives -/
def dNum (lo hi : Int) (st : St) : Option (Int × St) := if inR lo hi (vN st) then some (vN st, nW st) else none
def dText (most : Nat) (st : St) : Option (ByteArray × St) := if (vT st).length ≤ most then some (⟨(vT st).toArray⟩, nT st) else none
def dName (st : St) : Option (ByteArray × St) := if nameOk ⟨(vT st).toArray⟩ then some (⟨(vT st).toArray⟩, nT st) else none
def dBegin (k : Int) (st : St) : Option St := if vN st = k then some (nW st) else none
def dWord (st : St) : Nat × St := (vW st, nW st)
def dHash (st : St) : List UInt8 × St := (vH st, nH st)

/-! ### Back -/
theorem be_ofbe : ∀ (s : Nat) (l : List UInt8), l.length = s → be s (ofbe l) = l := by
  intro s
  induction s with
  | zero => intro l hl; cases l <;> simp_all [be]
  | succ s ih =>
    intro l hl
    have hne : l ≠ [] := by rintro rfl; simp at hl
    rw [← List.dropLast_concat_getLast hne] at hl ⊢
    generalize l.dropLast = a at *
    generalize l.getLast hne = b at *
    rw [List.length_append, List.length_singleton] at hl
    have hb := b.toNat_lt
    rw [ofbe_snoc, be_succ]
    have h1 : (ofbe a * 256 + b.toNat) / 256 = ofbe a := by omega
    have h2 : (ofbe a * 256 + b.toNat) % 256 = b.toNat := by omega
    rw [h1, h2, ih a (by omega)]
    congr 2
    simp
theorem nW_inv {st : St} {r : List UInt8} (h : nW st = some r) : st = some (be 8 (vW st) ++ r) := by
  unfold nW at h
  unfold vW
  cases st with
  | none => cases h
  | some l =>
    simp only [Option.bind_some] at h ⊢
    unfold fWord at h ⊢
    by_cases hl : l.length < 8
    · rw [if_pos hl] at h; cases h
    · rw [if_neg hl] at h ⊢
      simp only [Option.map_some, Option.some.injEq, Option.getD_some] at h ⊢
      rw [be_ofbe 8 _ (by simp; omega), ← h, List.take_append_drop]
theorem num_vN (st : St) : num (vN st) = be 8 (vW st) := by
  have hv : vN st = sgn (vW st) := by
    unfold vN vW fNumber
    cases st with
    | none => rfl
    | some l => simp only [Option.bind_some]; cases fWord l <;> rfl
  have hw := vW_lt st
  rw [hv]
  unfold num sgn
  congr 1
  split <;> omega
theorem vN_bounds (st : St) : -9223372036854775808 ≤ vN st ∧ vN st ≤ 9223372036854775807 := by
  have hv : vN st = sgn (vW st) := by
    unfold vN vW fNumber
    cases st with
    | none => rfl
    | some l => simp only [Option.bind_some]; cases fWord l <;> rfl
  have hw := vW_lt st
  rw [hv]
  unfold sgn
  split <;> omega
theorem nH_inv {st : St} {r : List UInt8} (h : nH st = some r) : st = some (vH st ++ r) := by
  unfold nH at h
  unfold vH
  cases st with
  | none => cases h
  | some l =>
    simp only [Option.bind_some] at h ⊢
    unfold fHash at h ⊢
    by_cases hl : l.length < 32
    · rw [if_pos hl] at h; cases h
    · rw [if_neg hl] at h ⊢
      simp only [Option.map_some, Option.some.injEq, Option.getD_some] at h ⊢
      rw [← h, List.take_append_drop]
theorem nT_inv {st : St} {r : List UInt8} (h : nT st = some r) : st = some (tx (vT st) ++ r) := by
  unfold nT at h
  unfold vT
  cases st with
  | none => cases h
  | some l =>
    simp only [Option.bind_some] at h ⊢
    unfold fText at h ⊢
    by_cases hl : l.length < 2
    · rw [if_pos hl] at h; cases h
    · rw [if_neg hl] at h ⊢
      by_cases hn : 4096 < ofbe (l.take 2)
      · rw [if_pos hn] at h; cases h
      · rw [if_neg hn] at h ⊢
        by_cases hr : (l.drop 2).length < ofbe (l.take 2)
        · rw [if_pos hr] at h; cases h
        · rw [if_neg hr] at h ⊢
          simp only [Option.map_some, Option.some.injEq, Option.getD_some] at h ⊢
          have e1 : ((l.drop 2).take (ofbe (l.take 2))).length = ofbe (l.take 2) := by rw [List.length_take]; omega
          unfold tx
          rw [e1, be_ofbe 2 _ (by simp; omega), ← h, List.append_assoc, List.take_append_drop, List.take_append_drop]
theorem vT_small (st : St) : (vT st).length ≤ 4096 := by
  unfold vT fText
  cases st with
  | none => simp
  | some l =>
    simp only [Option.bind_some]
    split
    · simp
    · split
      · simp
      · split
        · simp
        · simp; omega

/-! ### There -/
theorem vW_app (n : Nat) (hn : n < 18446744073709551616) (r : List UInt8) : vW (some (be 8 n ++ r)) = n ∧ nW (some (be 8 n ++ r)) = some r := by
  unfold vW nW
  rw [Option.bind_some, fWord_app n hn]
  exact ⟨rfl, rfl⟩
theorem vN_app (n : Int) (h1 : -9223372036854775808 ≤ n) (h2 : n ≤ 9223372036854775807) (r : List UInt8) : vN (some (num n ++ r)) = n ∧ nW (some (num n ++ r)) = some r := by
  refine ⟨?_, (vW_app _ (by omega) r).2⟩
  unfold vN num
  rw [Option.bind_some, fNumber_app n h1 h2]
  rfl
theorem vH_app (h : List UInt8) (hl : h.length = 32) (r : List UInt8) : vH (some (h ++ r)) = h ∧ nH (some (h ++ r)) = some r := by
  unfold vH nH
  rw [Option.bind_some, fHash_app h hl]
  exact ⟨rfl, rfl⟩
theorem vT_app (s : List UInt8) (hs : s.length ≤ 4096) (r : List UInt8) : vT (some (tx s ++ r)) = s ∧ nT (some (tx s ++ r)) = some r := by
  unfold vT nT
  rw [Option.bind_some, fText_app s hs]
  exact ⟨rfl, rfl⟩

theorem bytes_eta (s : ByteArray) : (⟨s.data.toList.toArray⟩ : ByteArray) = s := by rw [Array.toArray_toList]
theorem bytes_len (s : ByteArray) : s.data.toList.length = s.size := by rw [Array.length_toList]; rfl

theorem dNum_inv {lo hi : Int} {st : St} {n : Int} {r : List UInt8} (h : dNum lo hi st = some (n, some r)) : st = some (num n ++ r) ∧ inR lo hi n = true := by
  unfold dNum at h
  split at h
  · rename_i hr
    simp only [Option.some.injEq, Prod.mk.injEq] at h
    obtain ⟨rfl, h2⟩ := h
    exact ⟨by rw [num_vN]; exact nW_inv h2, hr⟩
  · cases h
theorem dNum_app {lo hi n : Int} (h1 : -9223372036854775808 ≤ n) (h2 : n ≤ 9223372036854775807) (h : inR lo hi n = true) (r : List UInt8) : dNum lo hi (some (num n ++ r)) = some (n, some r) := by
  unfold dNum
  obtain ⟨e1, e2⟩ := vN_app n h1 h2 r
  rw [e1, e2, if_pos h]
theorem dBegin_inv {k : Int} {st : St} {r : List UInt8} (h : dBegin k st = some (some r)) : st = some (num k ++ r) := by
  unfold dBegin at h
  split at h
  · rename_i hr
    rw [← hr, num_vN]
    exact nW_inv (by simpa using h)
  · cases h
theorem dBegin_app {k : Int} (h1 : -9223372036854775808 ≤ k) (h2 : k ≤ 9223372036854775807) (r : List UInt8) : dBegin k (some (num k ++ r)) = some (some r) := by
  unfold dBegin
  obtain ⟨e1, e2⟩ := vN_app k h1 h2 r
  rw [e1, e2, if_pos rfl]
theorem dName_inv {st : St} {s : ByteArray} {r : List UInt8} (h : dName st = some (s, some r)) : st = some (tx s.data.toList ++ r) ∧ nameOk s = true := by
  unfold dName at h
  split at h
  · rename_i hr
    simp only [Option.some.injEq, Prod.mk.injEq] at h
    obtain ⟨rfl, h2⟩ := h
    exact ⟨nT_inv h2, hr⟩
  · cases h
theorem nameOk_size {s : ByteArray} (h : nameOk s = true) : s.size ≤ 16 := by
  unfold nameOk at h
  rw [Bool.and_eq_true] at h
  exact of_decide_eq_true h.1
theorem dName_app {s : ByteArray} (h : nameOk s = true) (r : List UInt8) : dName (some (tx s.data.toList ++ r)) = some (s, some r) := by
  unfold dName
  have := nameOk_size h
  obtain ⟨e1, e2⟩ := vT_app s.data.toList (by rw [bytes_len]; omega) r
  rw [e1, e2, bytes_eta, if_pos h]
theorem dText_inv {most : Nat} {st : St} {s : ByteArray} {r : List UInt8} (h : dText most st = some (s, some r)) : st = some (tx s.data.toList ++ r) ∧ s.size ≤ most := by
  unfold dText at h
  split at h
  · rename_i hr
    simp only [Option.some.injEq, Prod.mk.injEq] at h
    obtain ⟨rfl, h2⟩ := h
    exact ⟨nT_inv h2, hr⟩
  · cases h
theorem dText_app {most : Nat} {s : ByteArray} (h : s.size ≤ most) (hm : most ≤ 4096) (r : List UInt8) : dText most (some (tx s.data.toList ++ r)) = some (s, some r) := by
  unfold dText
  obtain ⟨e1, e2⟩ := vT_app s.data.toList (by rw [bytes_len]; omega) r
  rw [e1, e2, bytes_eta, bytes_len, if_pos h]

/-- Bounds of 64 bits. -/
structure I64 (n : Int) : Prop where
  l : -9223372036854775808 ≤ n
  h : n ≤ 9223372036854775807

/-! ### Votes -/
structure Vt where
  chain : ByteArray
  height : Int
  round : Int
  type : Int
  block : List UInt8
  key : Nat
  r : Nat
  s : Nat
structure Vt.Ok (x : Vt) : Prop where
  chain : x.chain.size ≤ maxLen
  height : I64 x.height
  round : I64 x.round
  type : I64 x.type
  block : x.block.length = 32
  key : x.key < 18446744073709551616
  r : x.r < 18446744073709551616
  s : x.s < 18446744073709551616
def Vt.cells (x : Vt) : List Value := [.string x.chain, .int .i64 x.height, .int .i64 x.round, .int .i64 x.type] ++ (bv x.block ++ [.int .u64 (x.key : Int), .int .u64 (x.r : Int), .int .u64 (x.s : Int)])
def Vt.right (x : Vt) : Bool := nameOk x.chain && (inR 1 1099511627776 x.height && (inR 0 1048576 x.round && inR 1 2 x.type))
def Vt.enc (x : Vt) : List UInt8 := num 1 ++ (tx x.chain.data.toList ++ (num x.height ++ (num x.round ++ (num x.type ++ (x.block ++ (be 8 x.key ++ (be 8 x.r ++ be 8 x.s)))))))
def dVote (st : St) : Option (Vt × St) :=
  (dBegin 1 st).bind fun s1 => (dName s1).bind fun c => (dNum 1 1099511627776 c.2).bind fun h => (dNum 0 1048576 h.2).bind fun r => (dNum 1 2 r.2).bind fun t =>
    some (⟨c.1, h.1, r.1, t.1, vH t.2, vW (nH t.2), vW (nW (nH t.2)), vW (nW (nW (nH t.2)))⟩, nW (nW (nW (nH t.2))))
theorem dVote_inv {st : St} {x : Vt} {r : List UInt8} (h : dVote st = some (x, some r)) : st = some (x.enc ++ r) ∧ x.right = true := by
  unfold dVote at h
  simp only [Option.bind_eq_some_iff, Option.some.injEq, Prod.mk.injEq, Prod.exists] at h
  obtain ⟨s1, h1, c, s2, h2, ht, s3, h3, rd, s4, h4, ty, s5, h5, rfl, h6⟩ := h
  have e6 := nW_inv h6
  have e7 := nW_inv e6
  have e8 := nW_inv e7
  have e9 := nH_inv e8
  rw [e9] at h5
  obtain ⟨e5, o5⟩ := dNum_inv h5
  rw [e5] at h4
  obtain ⟨e4, o4⟩ := dNum_inv h4
  rw [e4] at h3
  obtain ⟨e3, o3⟩ := dNum_inv h3
  rw [e3] at h2
  obtain ⟨e2, o2⟩ := dName_inv h2
  rw [e2] at h1
  have e1 := dBegin_inv h1
  refine ⟨?_, by simp [Vt.right, o2, o3, o4, o5]⟩
  rw [e1]
  simp only [Vt.enc, List.append_assoc]
theorem dVote_app {x : Vt} (ok : x.Ok) (h : x.right = true) (r : List UInt8) : dVote (some (x.enc ++ r)) = some (x, some r) := by
  unfold Vt.right at h
  simp only [Bool.and_eq_true] at h
  obtain ⟨o2, o3, o4, o5⟩ := h
  unfold dVote Vt.enc
  simp only [List.append_assoc]
  rw [dBegin_app (by omega) (by omega), Option.bind_some, dName_app o2, Option.bind_some]
  simp only
  rw [dNum_app ok.height.l ok.height.h o3, Option.bind_some]
  simp only
  rw [dNum_app ok.round.l ok.round.h o4, Option.bind_some]
  simp only
  rw [dNum_app ok.type.l ok.type.h o5, Option.bind_some]
  simp only
  rw [(vH_app x.block ok.block _).1, (vH_app x.block ok.block _).2, (vW_app x.key ok.key _).1, (vW_app x.key ok.key _).2, (vW_app x.r ok.r _).1, (vW_app x.r ok.r _).2, (vW_app x.s ok.s _).1, (vW_app x.s ok.s _).2]

/-! ### Packets -/
structure Pk where
  seq : Int
  «from» : ByteArray
  data : ByteArray
  timeout : Int
structure Pk.Ok (x : Pk) : Prop where
  seq : I64 x.seq
  «from» : x.from.size ≤ maxLen
  data : x.data.size ≤ maxLen
  timeout : I64 x.timeout
def Pk.cells (x : Pk) : List Value := [.int .i64 x.seq, .string x.from, .string x.data, .int .i64 x.timeout]
def Pk.right (x : Pk) : Bool := inR 1 1099511627776 x.seq && (nameOk x.from && (decide (x.data.size ≤ 256) && inR 1 1099511627776 x.timeout))
def Pk.enc (x : Pk) : List UInt8 := num 6 ++ (num x.seq ++ (tx x.from.data.toList ++ (tx x.data.data.toList ++ num x.timeout)))
def dPacket (st : St) : Option (Pk × St) :=
  (dBegin 6 st).bind fun s1 => (dNum 1 1099511627776 s1).bind fun q => (dName q.2).bind fun f => (dText 256 f.2).bind fun d => (dNum 1 1099511627776 d.2).bind fun t =>
    some (⟨q.1, f.1, d.1, t.1⟩, t.2)
theorem dPacket_inv {st : St} {x : Pk} {r : List UInt8} (h : dPacket st = some (x, some r)) : st = some (x.enc ++ r) ∧ x.right = true := by
  unfold dPacket at h
  simp only [Option.bind_eq_some_iff, Option.some.injEq, Prod.mk.injEq, Prod.exists] at h
  obtain ⟨s1, h1, q, s2, h2, f, s3, h3, d, s4, h4, t, s5, h5, rfl, rfl⟩ := h
  obtain ⟨e5, o5⟩ := dNum_inv h5
  rw [e5] at h4
  obtain ⟨e4, o4⟩ := dText_inv h4
  rw [e4] at h3
  obtain ⟨e3, o3⟩ := dName_inv h3
  rw [e3] at h2
  obtain ⟨e2, o2⟩ := dNum_inv h2
  rw [e2] at h1
  have e1 := dBegin_inv h1
  refine ⟨?_, by simp [Pk.right, o2, o3, o4, o5]⟩
  rw [e1]
  simp only [Pk.enc, List.append_assoc]
theorem dPacket_app {x : Pk} (ok : x.Ok) (h : x.right = true) (r : List UInt8) : dPacket (some (x.enc ++ r)) = some (x, some r) := by
  unfold Pk.right at h
  simp only [Bool.and_eq_true, decide_eq_true_eq] at h
  obtain ⟨o2, o3, o4, o5⟩ := h
  unfold dPacket Pk.enc
  simp only [List.append_assoc]
  rw [dBegin_app (by omega) (by omega), Option.bind_some, dNum_app ok.seq.l ok.seq.h o2, Option.bind_some]
  simp only
  rw [dName_app o3, Option.bind_some]
  simp only
  rw [dText_app o4 (by omega), Option.bind_some]
  simp only
  rw [dNum_app ok.timeout.l ok.timeout.h o5, Option.bind_some]

/-! ### Headers -/
structure Hd where
  chain : ByteArray
  height : Int
  time : Int
  last : List UInt8
  set : List UInt8
  next : List UInt8
  data : List UInt8
  app : List UInt8
structure Hd.Ok (x : Hd) : Prop where
  chain : x.chain.size ≤ maxLen
  height : I64 x.height
  time : I64 x.time
  last : x.last.length = 32
  set : x.set.length = 32
  next : x.next.length = 32
  data : x.data.length = 32
  app : x.app.length = 32
def Hd.cells (x : Hd) : List Value := [.string x.chain, .int .i64 x.height, .int .i64 x.time] ++ (bv x.last ++ (bv x.set ++ (bv x.next ++ (bv x.data ++ bv x.app))))
def Hd.right (x : Hd) : Bool := nameOk x.chain && (inR 1 1099511627776 x.height && inR 0 1099511627776 x.time)
def Hd.enc (x : Hd) : List UInt8 := num 2 ++ (tx x.chain.data.toList ++ (num x.height ++ (num x.time ++ (x.last ++ (x.set ++ (x.next ++ (x.data ++ x.app)))))))
def dHeader (st : St) : Option (Hd × St) :=
  (dBegin 2 st).bind fun s1 => (dName s1).bind fun c => (dNum 1 1099511627776 c.2).bind fun h => (dNum 0 1099511627776 h.2).bind fun t =>
    some (⟨c.1, h.1, t.1, vH t.2, vH (nH t.2), vH (nH (nH t.2)), vH (nH (nH (nH t.2))), vH (nH (nH (nH (nH t.2))))⟩, nH (nH (nH (nH (nH t.2)))))
theorem dHeader_inv {st : St} {x : Hd} {r : List UInt8} (h : dHeader st = some (x, some r)) : st = some (x.enc ++ r) ∧ x.right = true := by
  unfold dHeader at h
  simp only [Option.bind_eq_some_iff, Option.some.injEq, Prod.mk.injEq, Prod.exists] at h
  obtain ⟨s1, h1, c, s2, h2, ht, s3, h3, tm, s5, h5, rfl, h6⟩ := h
  have e6 := nH_inv h6
  have e7 := nH_inv e6
  have e8 := nH_inv e7
  have e9 := nH_inv e8
  have e10 := nH_inv e9
  rw [e10] at h5
  obtain ⟨e5, o5⟩ := dNum_inv h5
  rw [e5] at h3
  obtain ⟨e3, o3⟩ := dNum_inv h3
  rw [e3] at h2
  obtain ⟨e2, o2⟩ := dName_inv h2
  rw [e2] at h1
  have e1 := dBegin_inv h1
  refine ⟨?_, by simp [Hd.right, o2, o3, o5]⟩
  rw [e1]
  simp only [Hd.enc, List.append_assoc]
theorem dHeader_app {x : Hd} (ok : x.Ok) (h : x.right = true) (r : List UInt8) : dHeader (some (x.enc ++ r)) = some (x, some r) := by
  unfold Hd.right at h
  simp only [Bool.and_eq_true] at h
  obtain ⟨o2, o3, o5⟩ := h
  unfold dHeader Hd.enc
  simp only [List.append_assoc]
  rw [dBegin_app (by omega) (by omega), Option.bind_some, dName_app o2, Option.bind_some]
  simp only
  rw [dNum_app ok.height.l ok.height.h o3, Option.bind_some]
  simp only
  rw [dNum_app ok.time.l ok.time.h o5, Option.bind_some]
  simp only
  rw [(vH_app x.last ok.last _).1, (vH_app x.last ok.last _).2, (vH_app x.set ok.set _).1, (vH_app x.set ok.set _).2, (vH_app x.next ok.next _).1, (vH_app x.next ok.next _).2, (vH_app x.data ok.data _).1, (vH_app x.data ok.data _).2, (vH_app x.app ok.app _).1, (vH_app x.app ok.app _).2]

def Vt.zero : Vt := ⟨⟨#[]⟩, 0, 0, 0, noH, 0, 0, 0⟩
def Pk.zero : Pk := ⟨0, ⟨#[]⟩, ⟨#[]⟩, 0⟩
def Hd.zero : Hd := ⟨⟨#[]⟩, 0, 0, noH, noH, noH, noH, noH⟩

theorem one_bv (h : List UInt8) : ∀ v ∈ bv h, v.oneCell' = true := bv_one h
theorem Vt.one (x : Vt) : ∀ v ∈ x.cells, v.oneCell' = true := by
  intro v hv
  simp only [Vt.cells, List.mem_append, List.mem_cons, List.not_mem_nil, or_false] at hv
  rcases hv with (rfl | rfl | rfl | rfl) | (h | rfl | rfl | rfl) <;> first | rfl | exact bv_one _ _ h
theorem Pk.one (x : Pk) : ∀ v ∈ x.cells, v.oneCell' = true := by
  intro v hv
  simp only [Pk.cells, List.mem_cons, List.not_mem_nil, or_false] at hv
  rcases hv with rfl | rfl | rfl | rfl <;> rfl
theorem Hd.one (x : Hd) : ∀ v ∈ x.cells, v.oneCell' = true := by
  intro v hv
  simp only [Hd.cells, List.mem_append, List.mem_cons, List.not_mem_nil, or_false] at hv
  rcases hv with (rfl | rfl | rfl) | (h | h | h | h | h) <;> first | rfl | exact bv_one _ _ h

/-! ### Ranges -/
theorem rangeAt_app {w : World} {b o : Nat} {p q : List Value} (h : w.rangeAt b o (p ++ q)) : w.rangeAt b o p ∧ w.rangeAt b (o + p.length) q := by
  refine ⟨fun j u hu => h j u ?_, fun j u hu => ?_⟩
  · rw [List.getElem?_append_left (List.getElem?_eq_some_iff.1 hu).1]; exact hu
  · rw [Nat.add_assoc]
    exact h _ u (by rw [List.getElem?_append_right (by omega)]; rw [Nat.add_sub_cancel_left]; exact hu)
theorem rangeAt_cons {w : World} {b o : Nat} {u : Value} {q : List Value} (h : w.rangeAt b o (u :: q)) : w.cell? ⟨b, o, none⟩ = some u ∧ w.rangeAt b (o + 1) q :=
  ⟨h 0 u rfl, (rangeAt_app (p := [u]) h).2⟩
end Go.Proofs.Yteglpgakikigiaa
