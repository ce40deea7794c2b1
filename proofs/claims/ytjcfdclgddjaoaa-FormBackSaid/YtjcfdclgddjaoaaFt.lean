/- The things of package forms: their bytes, when they are right, and what bytes are. Plain mathematics. -/
import Derived.Test.YtjcfdclgddjaoaaChecked
import Derived.WalkKit
import Derived.Lib.Hide
import Derived.Deep.MidRow
import Derived.Test.YtjcfdclgddjaoaaRk
import Derived.Test.YtjcfdclgddjaoaaFq
namespace Go.Proofs.Ytjcfdclgddjaoaa
open Go.RowKit
set_option linter.unusedVariables false
set_option maxRecDepth 20000

abbrev St := Option (List UInt8)
/-- A number's bytes. -/
def num (n : Int) : List UInt8 := be 8 (n % 18446744073709551616).toNat
theorem num_length (n : Int) : (num n).length = 8 := be_length 8 _
def inR (lo hi n : Int) : Bool := decide (lo ≤ n ∧ n ≤ hi)
theorem inR_iff {lo hi n : Int} : inR lo hi n = true ↔ lo ≤ n ∧ n ≤ hi := decide_eq_true_iff
theorem tx_length (l : List UInt8) : (tx l).length = 2 + l.length := by unfold tx; rw [List.length_append, be_length]

/-! ### What a reading gives -/
def dNum (lo hi : Int) (st : St) : Option (Int × St) := if inR lo hi (vN st) then some (vN st, nW st) else none
def dText (most : Nat) (st : St) : Option (ByteArray × St) := if (vT st).length ≤ most then some (⟨(vT st).toArray⟩, nT st) else none
def dName (st : St) : Option (ByteArray × St) := if nameOk ⟨(vT st).toArray⟩ then some (⟨(vT st).toArray⟩, nT st) else none
def dBegin (k : Int) (st : St) : Option St := if vN st = k then some (nW st) else none
def dWord (st : St) : Nat × St := (vW st, nW st)
def dHash (st : St) : List UInt8 × St := (vH st, nH st)

/-! ### Back -/
theorem be_ofbe : ∀ (s : Nat) (l : List UInt8), l.length = s → be s (ofbe l) = l := by
  intro s
  induction s with
  | zero => intro l hl; cases l <;> simp_all [be]
  | succ s ih =>
    intro l hl
    have hne : l ≠ [] := by rintro rfl; simp at hl
    rw [← List.dropLast_concat_getLast hne] at hl ⊢
    generalize l.dropLast = a at *
    generalize l.getLast hne = b at *
    rw [List.length_append, List.length_singleton] at hl
    have hb := b.toNat_lt
    rw [ofbe_snoc, be_succ]
    have h1 : (ofbe a * 256 + b.toNat) / 256 = ofbe a := by omega
    have h2 : (ofbe a * 256 + b.toNat) % 256 = b.toNat := by omega
    rw [h1, h2, ih a (by omega)]
    congr 2
    simp
theorem nW_inv {st : St} {r : List UInt8} (h : nW st = some r) : st = some (be 8 (vW st) ++ r) := by
  unfold nW at h
  unfold vW
  cases st with
  | none => cases h
  | some l =>
    simp only [Option.bind_some] at h ⊢
    unfold fWord at h ⊢
    by_cases hl : l.length < 8
    · rw [if_pos hl] at h; cases h
    · rw [if_neg hl] at h ⊢
      simp only [Option.map_some, Option.some.injEq, Option.getD_some] at h ⊢
      rw [be_ofbe 8 _ (by simp; omega), ← h, List.take_append_drop]
theorem num_vN (st : St) : num (vN st) = be 8 (vW st) := by
  have hv : vN st = sgn (vW st) := by
    unfold vN vW fNumber
    cases st with
    | none => rfl
    | some l => simp only [Option.bind_some]; cases fWord l <;> rfl
  have hw := vW_lt st
  rw [hv]
  unfold num sgn
  congr 1
  split <;> omega
theorem vN_bounds (st : St) : -9223372036854775808 ≤ vN st ∧ vN st ≤ 9223372036854775807 := by
  have hv : vN st = sgn (vW st) := by
    unfold vN vW fNumber
    cases st with
    | none => rfl
    | some l => simp only [Option.bind_some]; cases fWord l <;> rfl
  have hw := vW_lt st
  rw [hv]
  unfold sgn
  split <;> omega
theorem nH_inv {st : St} {r : List UInt8} (h : nH st = some r) : st = some (vH st ++ r) := by
  unfold nH at h
  unfold vH
  cases st with
  | none => cases h
  | some l =>
    simp only [Option.bind_some] at h ⊢
    unfold fHash at h ⊢
    by_cases hl : l.length < 32
    · rw [if_pos hl] at h; cases h
    · rw [if_neg hl] at h ⊢
      simp only [Option.map_some, Option.some.injEq, Option.getD_some] at h ⊢
      rw [← h, List.take_append_drop]
theorem nT_inv {st : St} {r : List UInt8} (h : nT st = some r) : st = some (tx (vT st) ++ r) := by
  unfold nT at h
  unfold vT
  cases st with
  | none => cases h
  | some l =>
    simp only [Option.bind_some] at h ⊢
    unfold fText at h ⊢
    by_cases hl : l.length < 2
    · rw [if_pos hl] at h; cases h
    · rw [if_neg hl] at h ⊢
      by_cases hn : 4096 < ofbe (l.take 2)
      · rw [if_pos hn] at h; cases h
      · rw [if_neg hn] at h ⊢
        by_cases hr : (l.drop 2).length < ofbe (l.take 2)
        · rw [if_pos hr] at h; cases h
        · rw [if_neg hr] at h ⊢
          simp only [Option.map_some, Option.some.injEq, Option.getD_some] at h ⊢
          have e1 : ((l.drop 2).take (ofbe (l.take 2))).length = ofbe (l.take 2) := by rw [List.length_take]; omega
          unfold tx
          rw [e1, be_ofbe 2 _ (by simp; omega), ← h, List.append_assoc, List.take_append_drop, List.take_append_drop]
theorem vT_small (st : St) : (vT st).length ≤ 4096 := by
  unfold vT fText
  cases st with
  | none => simp
  | some l =>
    simp only [Option.bind_some]
    split
    · simp
    · split
      · simp
      · split
        · simp
        · simp; omega

/-! ### There -/
theorem vW_app (n : Nat) (hn : n < 18446744073709551616) (r : List UInt8) : vW (some (be 8 n ++ r)) = n ∧ nW (some (be 8 n ++ r)) = some r := by
  unfold vW nW
  rw [Option.bind_some, fWord_app n hn]
  exact ⟨rfl, rfl⟩
theorem vN_app (n : Int) (h1 : -9223372036854775808 ≤ n) (h2 : n ≤ 9223372036854775807) (r : List UInt8) : vN (some (num n ++ r)) = n ∧ nW (some (num n ++ r)) = some r := by
  refine ⟨?_, (vW_app _ (by omega) r).2⟩
  unfold vN num
  rw [Option.bind_some, fNumber_app n h1 h2]
  rfl
theorem vH_app (h : List UInt8) (hl : h.length = 32) (r : List UInt8) : vH (some (h ++ r)) = h ∧ nH (some (h ++ r)) = some r := by
  unfold vH nH
  rw [Option.bind_some, fHash_app h hl]
  exact ⟨rfl, rfl⟩
theorem vT_app (s : List UInt8) (hs : s.length ≤ 4096) (r : List UInt8) : vT (some (tx s ++ r)) = s ∧ nT (some (tx s ++ r)) = some r := by
  unfold vT nT
  rw [Option.bind_some, fText_app s hs]
  exact ⟨rfl, rfl⟩

theorem bytes_eta (s : ByteArray) : (⟨s.data.toList.toArray⟩ : ByteArray) = s := by rw [Array.toArray_toList]
theorem bytes_len (s : ByteArray) : s.data.toList.length = s.size := by rw [Array.length_toList]; rfl

theorem dNum_inv {lo hi : Int} {st : St} {n : Int} {r : List UInt8} (h : dNum lo hi st = some (n, some r)) : st = some (num n ++ r) ∧ inR lo hi n = true := by
  unfold dNum at h
  split at h
  · rename_i hr
    simp only [Option.some.injEq, Prod.mk.injEq] at h
    obtain ⟨rfl, h2⟩ := h
    exact ⟨by rw [num_vN]; exact nW_inv h2, hr⟩
  · cases h
theorem dNum_app {lo hi n : Int} (h1 : -9223372036854775808 ≤ n) (h2 : n ≤ 9223372036854775807) (h : inR lo hi n = true) (r : List UInt8) : dNum lo hi (some (num n ++ r)) = some (n, some r) := by
  unfold dNum
  obtain ⟨e1, e2⟩ := vN_app n h1 h2 r
  rw [e1, e2, if_pos h]
theorem dBegin_inv {k : Int} {st : St} {r : List UInt8} (h : dBegin k st = some (some r)) : st = some (num k ++ r) := by
  unfold dBegin at h
  split at h
  · rename_i hr
    rw [← hr, num_vN]
    exact nW_inv (by simpa using h)
  · cases h
theorem dBegin_app {k : Int} (h1 : -9223372036854775808 ≤ k) (h2 : k ≤ 9223372036854775807) (r : List UInt8) : dBegin k (some (num k ++ r)) = some (some r) := by
  unfold dBegin
  obtain ⟨e1, e2⟩ := vN_app k h1 h2 r
  rw [e1, e2, if_pos rfl]
theorem dName_inv {st : St} {s : ByteArray} {r : List UInt8} (h : dName st = some (s, some r)) : st = some (tx s.data.toList ++ r) ∧ nameOk s = true := by
  unfold dName at h
  split at h
  · rename_i hr
    simp only [Option.some.injEq, Prod.mk.injEq] at h
    obtain ⟨rfl, h2⟩ := h
    exact ⟨nT_inv h2, hr⟩
  · cases h
theorem nameOk_size {s : ByteArray} (h : nameOk s = true) : s.size ≤ 16 := by
  unfold nameOk at h
  rw [Bool.and_eq_true] at h
  exact of_decide_eq_true h.1
theorem dName_app {s : ByteArray} (h : nameOk s = true) (r : List UInt8) : dName (some (tx s.data.toList ++ r)) = some (s, some r) := by
  unfold dName
  have := nameOk_size h
  obtain ⟨e1, e2⟩ := vT_app s.data.toList (by rw [bytes_len]; omega) r
  rw [e1, e2, bytes_eta, if_pos h]
theorem dText_inv {most : Nat} {st : St} {s : ByteArray} {r : List UInt8} (h : dText most st = some (s, some r)) : st = some (tx s.data.toList ++ r) ∧ s.size ≤ most := by
  unfold dText at h
  split at h
  · rename_i hr
    simp only [Option.some.injEq, Prod.mk.injEq] at h
    obtain ⟨rfl, h2⟩ := h
    exact ⟨nT_inv h2, hr⟩
  · cases h
theorem dText_app {most : Nat} {s : ByteArray} (h : s.size ≤ most) (hm : most ≤ 4096) (r : List UInt8) : dText most (some (tx s.data.toList ++ r)) = some (s, some r) := by
  unfold dText
  obtain ⟨e1, e2⟩ := vT_app s.data.toList (by rw [bytes_len]; omega) r
  rw [e1, e2, bytes_eta, bytes_len, if_pos h]

/-- Bounds of 64 bits. -/
structure I64 (n : Int) : Prop where
  l : -9223372036854775808 ≤ n
  h : n ≤ 9223372036854775807

/-! ### Votes -/
structure Vt where
  chain : ByteArray
  height : Int
  round : Int
  type : Int
  block : List UInt8
  key : Nat
  r : Nat
  s : Nat
structure Vt.Ok (x : Vt) : Prop where
  chain : x.chain.size ≤ maxLen
  height : I64 x.height
  round : I64 x.round
  type : I64 x.type
  block : x.block.length = 32
  key : x.key < 18446744073709551616
  r : x.r < 18446744073709551616
  s : x.s < 18446744073709551616
def Vt.cells (x : Vt) : List Value := [.string x.chain, .int .i64 x.height, .int .i64 x.round, .int .i64 x.type] ++ (bv x.block ++ [.int .u64 (x.key : Int), .int .u64 (x.r : Int), .int .u64 (x.s : Int)])
def Vt.right (x : Vt) : Bool := nameOk x.chain && (inR 1 1099511627776 x.height && (inR 0 1048576 x.round && inR 1 2 x.type))
def Vt.enc (x : Vt) : List UInt8 := num 1 ++ (tx x.chain.data.toList ++ (num x.height ++ (num x.round ++ (num x.type ++ (x.block ++ (be 8 x.key ++ (be 8 x.r ++ be 8 x.s)))))))
def dVote (st : St) : Option (Vt × St) :=
  (dBegin 1 st).bind fun s1 => (dName s1).bind fun c => (dNum 1 1099511627776 c.2).bind fun h => (dNum 0 1048576 h.2).bind fun r => (dNum 1 2 r.2).bind fun t =>
    some (⟨c.1, h.1, r.1, t.1, vH t.2, vW (nH t.2), vW (nW (nH t.2)), vW (nW (nW (nH t.2)))⟩, nW (nW (nW (nH t.2))))
theorem dVote_inv {st : St} {x : Vt} {r : List UInt8} (h : dVote st = some (x, some r)) : st = some (x.enc ++ r) ∧ x.right = true := by
  unfold dVote at h
  simp only [Option.bind_eq_some_iff, Option.some.injEq, Prod.mk.injEq, Prod.exists] at h
  obtain ⟨s1, h1, c, s2, h2, ht, s3, h3, rd, s4, h4, ty, s5, h5, rfl, h6⟩ := h
  have e6 := nW_inv h6
  have e7 := nW_inv e6
  have e8 := nW_inv e7
  have e9 := nH_inv e8
  rw [e9] at h5
  obtain ⟨e5, o5⟩ := dNum_inv h5
  rw [e5] at h4
  obtain ⟨e4, o4⟩ := dNum_inv h4
  rw [e4] at h3
  obtain ⟨e3, o3⟩ := dNum_inv h3
  rw [e3] at h2
  obtain ⟨e2, o2⟩ := dName_inv h2
  rw [e2] at h1
  have e1 := dBegin_inv h1
  refine ⟨?_, by simp [Vt.right, o2, o3, o4, o5]⟩
  rw [e1]
  simp only [Vt.enc, List.append_assoc]
theorem dVote_app {x : Vt} (ok : x.Ok) (h : x.right = true) (r : List UInt8) : dVote (some (x.enc ++ r)) = some (x, some r) := by
  unfold Vt.right at h
  simp only [Bool.and_eq_true] at h
  obtain ⟨o2, o3, o4, o5⟩ := h
  unfold dVote Vt.enc
  simp only [List.append_assoc]
  rw [dBegin_app (by omega) (by omega), Option.bind_some, dName_app o2, Option.bind_some]
  simp only
  rw [dNum_app ok.height.l ok.height.h o3, Option.bind_some]
  simp only
  rw [dNum_app ok.round.l ok.round.h o4, Option.bind_some]
  simp only
  rw [dNum_app ok.type.l ok.type.h o5, Option.bind_some]
  simp only
  rw [(vH_app x.block ok.block _).1, (vH_app x.block ok.block _).2, (vW_app x.key ok.key _).1, (vW_app x.key ok.key _).2, (vW_app x.r ok.r _).1, (vW_app x.r ok.r _).2, (vW_app x.s ok.s _).1, (vW_app x.s ok.s _).2]

/-! ### Packets -/
structure Pk where
  seq : Int
  «from» : ByteArray
  data : ByteArray
  timeout : Int
structure Pk.Ok (x : Pk) : Prop where
  seq : I64 x.seq
  «from» : x.from.size ≤ maxLen
  data : x.data.size ≤ maxLen
  timeout : I64 x.timeout
def Pk.cells (x : Pk) : List Value := [.int .i64 x.seq, .string x.from, .string x.data, .int .i64 x.timeout]
def Pk.right (x : Pk) : Bool := inR 1 1099511627776 x.seq && (nameOk x.from && (decide (x.data.size ≤ 256) && inR 1 1099511627776 x.timeout))
def Pk.enc (x : Pk) : List UInt8 := num 6 ++ (num x.seq ++ (tx x.from.data.toList ++ (tx x.data.data.toList ++ num x.timeout)))
def dPacket (st : St) : Option (Pk × St) :=
  (dBegin 6 st).bind fun s1 => (dNum 1 1099511627776 s1).bind fun q => (dName q.2).bind fun f => (dText 256 f.2).bind fun d => (dNum 1 1099511627776 d.2).bind fun t =>
    some (⟨q.1, f.1, d.1, t.1⟩, t.2)
theorem dPacket_inv {st : St} {x : Pk} {r : List UInt8} (h : dPacket st = some (x, some r)) : st = some (x.enc ++ r) ∧ x.right = true := by
  unfold dPacket at h
  simp only [Option.bind_eq_some_iff, Option.some.injEq, Prod.mk.injEq, Prod.exists] at h
  obtain ⟨s1, h1, q, s2, h2, f, s3, h3, d, s4, h4, t, s5, h5, rfl, rfl⟩ := h
  obtain ⟨e5, o5⟩ := dNum_inv h5
  rw [e5] at h4
  obtain ⟨e4, o4⟩ := dText_inv h4
  rw [e4] at h3
  obtain ⟨e3, o3⟩ := dName_inv h3
  rw [e3] at h2
  obtain ⟨e2, o2⟩ := dNum_inv h2
  rw [e2] at h1
  have e1 := dBegin_inv h1
  refine ⟨?_, by simp [Pk.right, o2, o3, o4, o5]⟩
  rw [e1]
  simp only [Pk.enc, List.append_assoc]
theorem dPacket_app {x : Pk} (ok : x.Ok) (h : x.right = true) (r : List UInt8) : dPacket (some (x.enc ++ r)) = some (x, some r) := by
  unfold Pk.right at h
  simp only [Bool.and_eq_true, decide_eq_true_eq] at h
  obtain ⟨o2, o3, o4, o5⟩ := h
  unfold dPacket Pk.enc
  simp only [List.append_assoc]
  rw [dBegin_app (by omega) (by omega), Option.bind_some, dNum_app ok.seq.l ok.seq.h o2, Option.bind_some]
  simp only
  rw [dName_app o3, Option.bind_some]
  simp only
  rw [dText_app o4 (by omega), Option.bind_some]
  simp only
  rw [dNum_app ok.timeout.l ok.timeout.h o5, Option.bind_some]

/-! ### Headers -/
structure Hd where
  chain : ByteArray
  height : Int
  time : Int
  last : List UInt8
  set : List UInt8
  next : List UInt8
  data : List UInt8
  app : List UInt8
structure Hd.Ok (x : Hd) : Prop where
  chain : x.chain.size ≤ maxLen
  height : I64 x.height
  time : I64 x.time
  last : x.last.length = 32
  set : x.set.length = 32
  next : x.next.length = 32
  data : x.data.length = 32
  app : x.app.length = 32
def Hd.cells (x : Hd) : List Value := [.string x.chain, .int .i64 x.height, .int .i64 x.time] ++ (bv x.last ++ (bv x.set ++ (bv x.next ++ (bv x.data ++ bv x.app))))
def Hd.right (x : Hd) : Bool := nameOk x.chain && (inR 1 1099511627776 x.height && inR 0 1099511627776 x.time)
def Hd.enc (x : Hd) : List UInt8 := num 2 ++ (tx x.chain.data.toList ++ (num x.height ++ (num x.time ++ (x.last ++ (x.set ++ (x.next ++ (x.data ++ x.app)))))))
def dHeader (st : St) : Option (Hd × St) :=
  (dBegin 2 st).bind fun s1 => (dName s1).bind fun c => (dNum 1 1099511627776 c.2).bind fun h => (dNum 0 1099511627776 h.2).bind fun t =>
    some (⟨c.1, h.1, t.1, vH t.2, vH (nH t.2), vH (nH (nH t.2)), vH (nH (nH (nH t.2))), vH (nH (nH (nH (nH t.2))))⟩, nH (nH (nH (nH (nH t.2)))))
theorem dHeader_inv {st : St} {x : Hd} {r : List UInt8} (h : dHeader st = some (x, some r)) : st = some (x.enc ++ r) ∧ x.right = true := by
  unfold dHeader at h
  simp only [Option.bind_eq_some_iff, Option.some.injEq, Prod.mk.injEq, Prod.exists] at h
  obtain ⟨s1, h1, c, s2, h2, ht, s3, h3, tm, s5, h5, rfl, h6⟩ := h
  have e6 := nH_inv h6
  have e7 := nH_inv e6
  have e8 := nH_inv e7
  have e9 := nH_inv e8
  have e10 := nH_inv e9
  rw [e10] at h5
  obtain ⟨e5, o5⟩ := dNum_inv h5
  rw [e5] at h3
  obtain ⟨e3, o3⟩ := dNum_inv h3
  rw [e3] at h2
  obtain ⟨e2, o2⟩ := dName_inv h2
  rw [e2] at h1
  have e1 := dBegin_inv h1
  refine ⟨?_, by simp [Hd.right, o2, o3, o5]⟩
  rw [e1]
  simp only [Hd.enc, List.append_assoc]
theorem dHeader_app {x : Hd} (ok : x.Ok) (h : x.right = true) (r : List UInt8) : dHeader (some (x.enc ++ r)) = some (x, some r) := by
  unfold Hd.right at h
  simp only [Bool.and_eq_true] at h
  obtain ⟨o2, o3, o5⟩ := h
  unfold dHeader Hd.enc
  simp only [List.append_assoc]
  rw [dBegin_app (by omega) (by omega), Option.bind_some, dName_app o2, Option.bind_some]
  simp only
  rw [dNum_app ok.height.l ok.height.h o3, Option.bind_some]
  simp only
  rw [dNum_app ok.time.l ok.time.h o5, Option.bind_some]
  simp only
  rw [(vH_app x.last ok.last _).1, (vH_app x.last ok.last _).2, (vH_app x.set ok.set _).1, (vH_app x.set ok.set _).2, (vH_app x.next ok.next _).1, (vH_app x.next ok.next _).2, (vH_app x.data ok.data _).1, (vH_app x.data ok.data _).2, (vH_app x.app ok.app _).1, (vH_app x.app ok.app _).2]

def Vt.zero : Vt := ⟨⟨#[]⟩, 0, 0, 0, noH, 0, 0, 0⟩
def Pk.zero : Pk := ⟨0, ⟨#[]⟩, ⟨#[]⟩, 0⟩
def Hd.zero : Hd := ⟨⟨#[]⟩, 0, 0, noH, noH, noH, noH, noH⟩

theorem one_bv (h : List UInt8) : ∀ v ∈ bv h, v.oneCell' = true := bv_one h
theorem Vt.one (x : Vt) : ∀ v ∈ x.cells, v.oneCell' = true := by
  intro v hv
  simp only [Vt.cells, List.mem_append, List.mem_cons, List.not_mem_nil, or_false] at hv
  rcases hv with (rfl | rfl | rfl | rfl) | (h | rfl | rfl | rfl) <;> first | rfl | exact bv_one _ _ h
theorem Pk.one (x : Pk) : ∀ v ∈ x.cells, v.oneCell' = true := by
  intro v hv
  simp only [Pk.cells, List.mem_cons, List.not_mem_nil, or_false] at hv
  rcases hv with rfl | rfl | rfl | rfl <;> rfl
theorem Hd.one (x : Hd) : ∀ v ∈ x.cells, v.oneCell' = true := by
  intro v hv
  simp only [Hd.cells, List.mem_append, List.mem_cons, List.not_mem_nil, or_false] at hv
  rcases hv with (rfl | rfl | rfl) | (h | h | h | h | h) <;> first | rfl | exact bv_one _ _ h

/-! ### Ranges -/
theorem rangeAt_app {w : World} {b o : Nat} {p q : List Value} (h : w.rangeAt b o (p ++ q)) : w.rangeAt b o p ∧ w.rangeAt b (o + p.length) q := by
  refine ⟨fun j u hu => h j u ?_, fun j u hu => ?_⟩
  · rw [List.getElem?_append_left (List.getElem?_eq_some_iff.1 hu).1]; exact hu
  · rw [Nat.add_assoc]
    exact h _ u (by rw [List.getElem?_append_right (by omega)]; rw [Nat.add_sub_cancel_left]; exact hu)
theorem rangeAt_cons {w : World} {b o : Nat} {u : Value} {q : List Value} (h : w.rangeAt b o (u :: q)) : w.cell? ⟨b, o, none⟩ = some u ∧ w.rangeAt b (o + 1) q :=
  ⟨h 0 u rfl, (rangeAt_app (p := [u]) h).2⟩
end Go.Proofs.Ytjcfdclgddjaoaa
