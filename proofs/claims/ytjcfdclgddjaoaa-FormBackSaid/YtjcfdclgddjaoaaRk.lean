/- The document's own reader: what each field's reading answers. -/
import Derived.Test.YtjcfdclgddjaoaaChecked
import Derived.WalkKit
import Derived.Lib.Hide
import Derived.Deep.QuietTactic
import Derived.BigQuiet
import Derived.Test.YtjcfdclgddjaoaaRg
namespace Go.Proofs.Ytjcfdclgddjaoaa
open Go.RowKit
set_option linter.unusedVariables false
set_option maxRecDepth 20000

/-- The document's reader has read: v, and what stands behind it. -/
def Gotf (w : World) (g : Nat) (F : Nat → Prop) (v : Value) (st : Option (List UInt8)) (e : Ending) (w' : World) : Prop := e = .returned v ∧ RdF w' g F st ∧ Chg (Eqg g) w w'
/-- The program's reader has. -/
def Gotv (w : World) (g : Nat) (F : Nat → Prop) (v : Value) (st : Option (List UInt8)) (e : Ending) (w' : World) : Prop := e = .returned v ∧ Rdr w' g F st ∧ Chg (Eqg g) w w'

def vW (st : Option (List UInt8)) : Nat := ((st.bind fWord).map (·.1)).getD 0
def vN (st : Option (List UInt8)) : Int := ((st.bind fNumber).map (·.1)).getD 0
def vH (st : Option (List UInt8)) : List UInt8 := ((st.bind fHash).map (·.1)).getD noH
def vT (st : Option (List UInt8)) : List UInt8 := ((st.bind fText).map (·.1)).getD []
def vC (most : Int) (st : Option (List UInt8)) : Int := ((st.bind (fCount most)).map (·.1)).getD 0
def nW (st : Option (List UInt8)) : Option (List UInt8) := (st.bind fWord).map (·.2)
def nH (st : Option (List UInt8)) : Option (List UInt8) := (st.bind fHash).map (·.2)
def nT (st : Option (List UInt8)) : Option (List UInt8) := (st.bind fText).map (·.2)
def nC (most : Int) (st : Option (List UInt8)) : Option (List UInt8) := (st.bind (fCount most)).map (·.2)

theorem wordR_v (w : World) (g : Nat) (F : Nat → Prop) (st : Option (List UInt8)) (h : Rdr w g F st) : Calls Try.prog 122 #[.pointer (some ⟨g, 0, none⟩)] w (Gotv w g F (.int .u64 (vW st : Int)) (nW st)) := by
  refine (wordR_any w g F st h).mono fun e w' ⟨he, h1, h2⟩ => ⟨?_, ?_, h2⟩
  · rw [he]; unfold vW; cases st.bind fWord <;> rfl
  · unfold nW; revert h1; cases st.bind fWord <;> exact id
theorem numberR_v (w : World) (g : Nat) (F : Nat → Prop) (st : Option (List UInt8)) (h : Rdr w g F st) : Calls Try.prog 115 #[.pointer (some ⟨g, 0, none⟩)] w (Gotv w g F (.int .i64 (vN st)) (nW st)) := by
  refine (numberR_any w g F st h).mono fun e w' ⟨he, h1, h2⟩ => ⟨?_, ?_, h2⟩
  · rw [he]; unfold vN; cases st.bind fNumber <;> rfl
  · revert h1; unfold nW fNumber; cases st with
    | none => exact id
    | some l => simp only [Option.bind_some]; cases fWord l <;> exact id
theorem hashR_v (w : World) (g : Nat) (F : Nat → Prop) (st : Option (List UInt8)) (h : Rdr w g F st) : Calls Try.prog 120 #[.pointer (some ⟨g, 0, none⟩)] w (Gotv w g F (.agg (bv (vH st)).toArray) (nH st)) := by
  refine (hashR_any w g F st h).mono fun e w' ⟨he, h1, h2⟩ => ⟨?_, ?_, h2⟩
  · rw [he]; unfold vH; cases st.bind fHash <;> rfl
  · unfold nH; revert h1; cases st.bind fHash <;> exact id
theorem textR_v (w : World) (g : Nat) (F : Nat → Prop) (st : Option (List UInt8)) (h : Rdr w g F st) : Calls Try.prog 117 #[.pointer (some ⟨g, 0, none⟩)] w (Gotv w g F (.string ⟨(vT st).toArray⟩) (nT st)) := by
  refine (textR_any w g F st h).mono fun e w' ⟨he, h1, h2⟩ => ⟨?_, ?_, h2⟩
  · rw [he]; unfold vT; cases st.bind fText <;> rfl
  · unfold nT; revert h1; cases st.bind fText <;> exact id
theorem takeS_8 (st : Option (List UInt8)) : takeS st 8 = nW st := by
  unfold takeS nW fWord
  cases st with
  | none => rfl
  | some l =>
    simp only [Option.bind_some]
    by_cases h : 8 ≤ l.length
    · rw [if_pos h, if_neg (by omega)]; rfl
    · rw [if_neg h, if_pos (by omega)]; rfl
theorem takeB_8 (st : Option (List UInt8)) : ofbe (takeB st 8) = vW st := by
  unfold takeB vW fWord
  cases st with
  | none => rfl
  | some l =>
    simp only [Option.bind_some]
    by_cases h : 8 ≤ l.length
    · rw [if_pos h, if_neg (by omega)]; rfl
    · rw [if_neg h, if_pos (by omega)]; rfl
theorem takeS_32 (st : Option (List UInt8)) : takeS st 32 = nH st := by
  unfold takeS nH fHash
  cases st with
  | none => rfl
  | some l =>
    simp only [Option.bind_some]
    by_cases h : 32 ≤ l.length
    · rw [if_pos h, if_neg (by omega)]; rfl
    · rw [if_neg h, if_pos (by omega)]; rfl
theorem takeB_32 (st : Option (List UInt8)) : takeB st 32 = vH st := by
  unfold takeB vH fHash
  cases st with
  | none => rfl
  | some l =>
    simp only [Option.bind_some]
    by_cases h : 32 ≤ l.length
    · rw [if_pos h, if_neg (by omega)]; rfl
    · rw [if_neg h, if_pos (by omega)]; rfl
theorem vH_length (st : Option (List UInt8)) : (vH st).length = 32 := by rw [← takeB_32, takeB_length]
theorem vW_lt (st : Option (List UInt8)) : vW st < 18446744073709551616 := by
  rw [← takeB_8]
  have := ofbe_lt (takeB st 8)
  rw [takeB_length] at this
  simpa using this

set_option maxHeartbeats 800000 in
theorem refRWord (w : World) (g : Nat) (F : Nat → Prop) (st : Option (List UInt8)) (h : RdF w g F st) (hFs : ∀ j, F j → j < w.heap.size) :
    Calls Try.prog 96 #[.pointer (some ⟨g, 0, none⟩)] w (Gotf w g F (.int .u64 (vW st : Int)) (nW st)) := by
  have HK : Calls Try.prog 100 #[.pointer (some ⟨g, 0, none⟩), .int .i64 8] w (Tk w g F st 8) := take_any w g F st 8 h hFs (by omega)
  have hl := takeB_length st 8
  rw [← takeB_8, ← takeS_8]
  unfold Tk at HK
  generalize takeB st 8 = bs at *
  generalize takeS st 8 = s2 at *
  have HL := Lib.hid hl
  clear hl h
  go_enter Try.func96, Try.ntmps96
  go_wp2_with fail
  refine HK.mono ?_
  rintro e w1 ⟨A, c, rfl, hc, hr, hR, hC, _⟩
  obtain ⟨ad, rfl, _⟩ := hr.blk_lt (by rw [HL.out]; omega)
  go_wp2_with fail
  go_loop [4, 5] (fun x i => ∃ k : Nat, k ≤ 8 ∧ x = .int .u64 (ofbe (bs.take k) : Int) ∧ i = .int .i64 (k : Int)) (fun _ i => 8 - (intOf i).toNat)
  case atStart => exact ⟨0, by omega, rfl, rfl⟩
  case round =>
    obtain ⟨k, hk, rfl, rfl⟩ := hrel
    by_cases hlt : k < 8
    · have hkl : k < bs.length := by rw [HL.out]; exact hlt
      have hcell := hr.at_ (j := k) hkl
      have hs : bs.take (k + 1) = bs.take k ++ [bs[k]] := List.take_succ_eq_append_getElem hkl
      have hb := ofbe_lt (bs.take k)
      have hb2 : ofbe (bs.take k) < 72057594037927936 := by
        refine Nat.lt_of_lt_of_le hb ?_
        have : (bs.take k).length ≤ 7 := by simp; omega
        calc 256 ^ (bs.take k).length ≤ 256 ^ 7 := Nat.pow_le_pow_right (by omega) this
          _ = _ := by decide
      have HS := Lib.hid (hs ▸ ofbe_snoc (bs.take k) bs[k])
      have hbt := bs[k].toNat_lt
      generalize bs[k] = b at *
      generalize ofbe (bs.take k) = x at *
      clear hs hb hkl
      go_wp2
      go_round
      case rel =>
        refine ⟨k + 1, by omega, ?_, by go_num⟩
        rw [HS.out]
        go_num
      case measure => simp [intOf]; omega
    · obtain rfl : k = 8 := by omega
      have e2 : bs.take 8 = bs := List.take_of_length_le (by rw [HL.out]; omega)
      rw [e2]
      clear e2
      go_wp2
      go_ret
      exact ⟨rfl, hR, hC⟩

theorem vN_eq (st : Option (List UInt8)) : vN st = sgn (vW st) := by
  unfold vN vW fNumber
  cases st with
  | none => rfl
  | some l =>
    simp only [Option.bind_some]
    cases fWord l <;> rfl

theorem refRNumber (w : World) (g : Nat) (F : Nat → Prop) (st : Option (List UInt8)) (h : RdF w g F st) (hFs : ∀ j, F j → j < w.heap.size) :
    Calls Try.prog 57 #[.pointer (some ⟨g, 0, none⟩)] w (Gotf w g F (.int .i64 (vN st)) (nW st)) := by
  have H := refRWord w g F st h hFs
  have hv := vN_eq st
  have hc := conv_sgn _ (vW_lt st)
  rw [hv, ← hc]
  have hlt := vW_lt st
  generalize vW st = x at *
  clear hv hc
  go_enter Try.func57, Try.ntmps57
  go_wp2_with fail
  refine H.mono ?_
  rintro e w1 ⟨rfl, hR, hC⟩
  go_wp2
  go_ret
  refine ⟨?_, hR, hC⟩
  simp [IntKind.wrap_i64, wrap64]

/-- A hash's cells, the first k of them laid. -/
def hcells (bs : List UInt8) (k : Nat) : Array Value := (bv (bs.take k ++ List.replicate (32 - k) 0)).toArray
theorem hcells_set (bs : List UInt8) (k : Nat) (hl : bs.length = 32) (hk : k < 32) : (hcells bs k).setIfInBounds k (Value.int .u8 ((bs[k]'(by omega)).toNat : Int)) = hcells bs (k + 1) := by
  unfold hcells bv
  rw [List.setIfInBounds_toArray, ← List.map_set (f := fun b : UInt8 => Value.int .u8 (b.toNat : Int)) (a := bs[k]'(by omega))]
  congr 2
  have e : List.replicate (32 - k) (0 : UInt8) = 0 :: List.replicate (32 - (k + 1)) 0 := by
    rw [show 32 - k = (32 - (k + 1)) + 1 by omega, List.replicate_succ]
  have hlk : (bs.take k).length = k := by simp; omega
  rw [e, List.set_append, if_neg (by omega), hlk, Nat.sub_self, List.set_cons_zero, List.take_succ_eq_append_getElem (by omega), List.append_assoc]
  rfl
theorem hcells_zero (bs : List UInt8) : hcells bs 0 = (bv noH).toArray := rfl
theorem hcells_get (bs : List UInt8) (k : Nat) (hk : k < 32) (hl : bs.length = 32) : ∃ v, (hcells bs k)[k]? = some v := by
  have : (hcells bs k).size = 32 := by simp [hcells, bv]; omega
  exact ⟨_, Array.getElem?_eq_getElem (by omega)⟩
theorem hcells_full (bs : List UInt8) (hl : bs.length = 32) : hcells bs 32 = (bv bs).toArray := by
  unfold hcells
  rw [List.take_of_length_le (by omega)]
  simp

set_option maxHeartbeats 800000 in
theorem refRHash (w : World) (g : Nat) (F : Nat → Prop) (st : Option (List UInt8)) (h : RdF w g F st) (hFs : ∀ j, F j → j < w.heap.size) :
    Calls Try.prog 61 #[.pointer (some ⟨g, 0, none⟩)] w (Gotf w g F (.agg (bv (vH st)).toArray) (nH st)) := by
  have hch := (Chg.refl Non w).alloc (.cells (bv noH).toArray 45)
  have h1 := h.chg hch (fun f => f) (fun _ _ f => f)
  have hz := Hb.new w 45 (bv noH).toArray
  have hgl := h.lt
  have hs1 : (w.alloc (.cells (bv noH).toArray 45)).heap.size = w.heap.size + 1 := by simp
  have HK : Calls Try.prog 100 #[.pointer (some ⟨g, 0, none⟩), .int .i64 32] (w.alloc (.cells (bv noH).toArray 45)) (Tk _ g F st 32) :=
    take_any _ g F st 32 h1 (fun j hj => by rw [hs1]; have := hFs j hj; omega) (by omega)
  have hl := takeB_length st 32
  rw [← takeB_32, ← takeS_32]
  unfold Tk at HK
  generalize takeB st 32 = bs at *
  generalize takeS st 32 = s2 at *
  have HL := Lib.hid hl
  have HS1 := Lib.hid hs1
  clear hl h h1 hs1
  go_enter Try.func61, Try.ntmps61
  go_wp2_with (with_reducible refine wpList_alloc_hash rfl rfl ?_)
  refine HK.mono ?_
  rintro e w1 ⟨A, c, rfl, hc, hr, hR, hC, hAb⟩
  have hz1 := hz.chg hC (fun e => by unfold Eqg at e; omega)
  obtain ⟨ad, rfl, hadl⟩ := hr.blk_lt (by rw [HL.out]; omega)
  have hC0 := (hch.mono (S' := Eqg g) (fun _ f => f.elim)).trans hC (fun _ hj => .inl hj)
  have hw1 := hC.size
  rw [HS1.out] at hw1
  have hgl1 := hR.lt
  have hne1 : bs ≠ [] := by intro e; have := HL.out; rw [e] at this; simp at this
  have hab := hAb hne1 _ ⟨ad, rfl, rfl⟩
  have had0 : ad.block ≠ w.heap.size := by
    rcases hab with h2 | h2
    · have := hFs _ h2; omega
    · rw [HS1.out] at h2; omega
  clear hAb HK hne1
  go_wp2_with (with_reducible refine wpList_alloc_hash rfl rfl ?_)
  go_loopw [5] (fun i wr => ∃ k : Nat, k ≤ 32 ∧ i = .int .i64 (k : Int) ∧ Chg (fun j => j = w1.heap.size) w1 wr ∧ Hb wr w1.heap.size 45 (hcells bs k)) (fun i _ => 32 - (intOf i).toNat)
  case atStart => exact ⟨0, by omega, rfl, (Chg.refl _ w1).alloc _, Hb.new w1 _ _⟩
  case round =>
    obtain ⟨k, hk, rfl, hCk, hbk⟩ := hrel
    by_cases hlt : k < 32
    · have hkl : k < bs.length := by rw [HL.out]; exact hlt
      have hrk := hr.chg hCk (fun j hj e => by obtain ⟨_, e1, rfl⟩ := hj; injection e1 with e1; subst e1; omega)
      have hcell := hrk.at_ (j := k) hkl
      obtain ⟨u, hu⟩ := hcells_get bs k hlt HL.out
      have hcu := hbk.cell k
      rw [hu] at hcu
      have hfu := hbk.frozen k
      have HST := Lib.hid (hcells_set bs k HL.out hlt)
      generalize bs[k] = b at *
      clear hu hkl hrk
      go_wp2
      go_roundw
      case rel =>
        refine ⟨k + 1, by omega, by go_num, hCk.setCell (p := ⟨w1.heap.size, k, none⟩) (.inl rfl) _, ?_⟩
        rw [← HST.out]
        exact hbk.set k _
      case measure => simp [intOf]; omega
    · obtain rfl : k = 32 := by omega
      rw [hcells_full bs HL.out] at hbk
      have hrd : Rd wr (some ⟨w1.heap.size, 0, none⟩) bs := rd_of_blk hbk (fun j b hj => by simpa using bv_get bs j b hj)
      have hz2 := hz1.chg hCk (by omega)
      go_wp2_with (first | (with_reducible refine wpList_load_hash rfl _ rfl (h := bs) rfl HL.out hrd ?_) | (with_reducible refine wpList_store_hash rfl _ _ rfl (g := w.heap.size) (h := bs) rfl rfl HL.out hz2 rfl ?_))
      refine ret_hash rfl rfl (hz2.setRow _) HL.out rfl ⟨rfl, ?_, ?_⟩
      · exact (hR.chg hCk (by omega) (fun j hj e => by have := hFs j hj; omega)).chg ((Chg.refl (fun j => j = w.heap.size) wr).setRow (.inl rfl) _) (by omega) (fun j hj e => by have := hFs j hj; omega)
      · exact (hC0.trans hCk (fun j hj => .inr (by omega))).setRow (.inr (Nat.le_refl _)) _

theorem refREnd (w : World) (g : Nat) (F : Nat → Prop) (st : Option (List UInt8)) (h : RdF w g F st) :
    Calls Try.prog 97 #[.pointer (some ⟨g, 0, none⟩)] w fun e w' => e = .returned (.int .i64 (endv st)) ∧ w' = w := by
  unfold endv
  cases st with
  | none =>
    rw [if_neg (by simp)]
    obtain ⟨_, A, n, c, hb⟩ := h
    have c0 : w.cell? ⟨g, 0, none⟩ = some (.slice A n c) := hb.cell 0
    have c1 : w.cell? ⟨g, 1, none⟩ = some (.bool true) := hb.cell 1
    go_enter Try.func97, Try.ntmps97
    go_wp2
    go_ret
    exact ⟨rfl, rfl⟩
  | some l =>
    obtain ⟨_, A, c, hb, _⟩ := h
    have c0 : w.cell? ⟨g, 0, none⟩ = some (.slice A l.length c) := hb.cell 0
    have c1 : w.cell? ⟨g, 1, none⟩ = some (.bool false) := hb.cell 1
    by_cases hl : 0 < l.length
    · rw [if_neg (by intro e; injection e with e; subst e; simp at hl)]
      have hl' : (0 : Int) < (l.length : Int) := by omega
      go_enter Try.func97, Try.ntmps97
      go_wp2
      go_ret
      exact ⟨rfl, rfl⟩
    · have e : l = [] := List.eq_nil_of_length_eq_zero (by omega)
      subst e
      rw [if_pos rfl]
      go_enter Try.func97, Try.ntmps97
      go_wp2
      go_ret
      exact ⟨rfl, rfl⟩
end Go.Proofs.Ytjcfdclgddjaoaa
