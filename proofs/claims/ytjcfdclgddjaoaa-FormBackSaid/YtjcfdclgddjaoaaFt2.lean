/- Things of package forms that hold lists: their bytes, when they are right, and what bytes are. Plain mathematics. -/
import Derived.Test.YtjcfdclgddjaoaaChecked
import Derived.WalkKit
import Derived.Lib.Hide
import Derived.Test.YtjcfdclgddjaoaaFlw
namespace Go.Proofs.Ytjcfdclgddjaoaa
open Go.RowKit
set_option linter.unusedVariables false
set_option linter.unusedSimpArgs false
set_option maxRecDepth 20000

theorem i64_in {lo hi n : Int} (h : inR lo hi n = true) (h1 : -9223372036854775808 ≤ lo) (h2 : hi ≤ 9223372036854775807) : I64 n := ⟨by have := (inR_iff.1 h).1; omega, by have := (inR_iff.1 h).2; omega⟩

/-! ### Lists -/
/-- The first k things, read one behind the other. -/
def dK {α : Type} (d : St → Option (α × St)) (st : St) : Nat → Option (List α × St)
  | 0 => some ([], st)
  | k + 1 => (dK d st k).bind fun x => (d x.2).bind fun y => some (x.1 ++ [y.1], y.2)
def dList {α : Type} (d : St → Option (α × St)) (most : Int) (st : St) : Option (List α × St) := (dNum 0 most st).bind fun n => dK d n.2 n.1.toNat
theorem dK_len {α : Type} {d : St → Option (α × St)} {st : St} : ∀ {k : Nat} {l : List α} {s : St}, dK d st k = some (l, s) → l.length = k
  | 0, l, s, h => by
    simp only [dK, Option.some.injEq, Prod.mk.injEq] at h
    rw [← h.1]; rfl
  | k + 1, l, s, h => by
    simp only [dK, Option.bind_eq_some_iff, Option.some.injEq, Prod.mk.injEq, Prod.exists] at h
    obtain ⟨a, s1, h1, b, s2, h2, rfl, rfl⟩ := h
    rw [List.length_append, dK_len h1]; rfl
theorem dK_inv {α : Type} {d : St → Option (α × St)} {enc : α → List UInt8} {P : α → Prop} (hd : ∀ st x r, d st = some (x, some r) → st = some (enc x ++ r) ∧ P x) {st : St} : ∀ {k : Nat} {l : List α} {r : List UInt8}, dK d st k = some (l, some r) → st = some (l.flatMap enc ++ r) ∧ ∀ x ∈ l, P x
  | 0, l, r, h => by
    simp only [dK, Option.some.injEq, Prod.mk.injEq] at h
    obtain ⟨rfl, rfl⟩ := h
    simp
  | k + 1, l, r, h => by
    simp only [dK, Option.bind_eq_some_iff, Option.some.injEq, Prod.mk.injEq, Prod.exists] at h
    obtain ⟨a, s1, h1, b, s2, h2, rfl, rfl⟩ := h
    obtain ⟨e2, o2⟩ := hd _ _ _ h2
    rw [e2] at h1
    obtain ⟨e1, o1⟩ := dK_inv hd h1
    refine ⟨by rw [e1]; simp, fun x hx => ?_⟩
    rw [List.mem_append, List.mem_singleton] at hx
    rcases hx with hx | rfl
    · exact o1 x hx
    · exact o2
theorem dK_app {α : Type} {d : St → Option (α × St)} {enc : α → List UInt8} {P : α → Prop} (hd : ∀ x r, P x → d (some (enc x ++ r)) = some (x, some r)) : ∀ (n : Nat) (l : List α), l.length = n → (∀ x ∈ l, P x) → ∀ r, dK d (some (l.flatMap enc ++ r)) l.length = some (l, some r) := by
  intro n
  induction n with
  | zero =>
    intro l hl _ r
    obtain rfl := List.eq_nil_of_length_eq_zero hl
    rfl
  | succ n ih =>
    intro l hl hp r
    have hne : l ≠ [] := by rintro rfl; simp at hl
    rw [← List.dropLast_concat_getLast hne] at hl hp ⊢
    generalize l.dropLast = a at *
    generalize l.getLast hne = b at *
    rw [List.length_append, List.length_singleton] at hl ⊢
    unfold dK
    have h1 := ih a (by omega) (fun x hx => hp x (by simp [hx])) (enc b ++ r)
    have e : (a ++ [b]).flatMap enc ++ r = a.flatMap enc ++ (enc b ++ r) := by simp
    rw [e, h1, Option.bind_some]
    simp only
    rw [hd b r (hp b (by simp)), Option.bind_some]

/-- A list's bytes. -/
def encL {α : Type} (enc : α → List UInt8) (l : List α) : List UInt8 := num l.length ++ l.flatMap enc
theorem dList_inv {α : Type} {d : St → Option (α × St)} {enc : α → List UInt8} {P : α → Prop} (hd : ∀ st x r, d st = some (x, some r) → st = some (enc x ++ r) ∧ P x) {most : Int} {st : St} {l : List α} {r : List UInt8} (h : dList d most st = some (l, some r)) : st = some (encL enc l ++ r) ∧ (∀ x ∈ l, P x) ∧ inR 0 most l.length = true := by
  unfold dList at h
  simp only [Option.bind_eq_some_iff, Prod.exists] at h
  obtain ⟨n, s1, h1, h2⟩ := h
  obtain ⟨e2, o2⟩ := dK_inv hd h2
  have hl := dK_len h2
  rw [e2] at h1
  obtain ⟨e1, o1⟩ := dNum_inv h1
  have hn : ((l.length : Nat) : Int) = n := by have := (inR_iff.1 o1).1; omega
  refine ⟨?_, o2, by rw [hn]; exact o1⟩
  rw [e1]
  unfold encL
  rw [hn, List.append_assoc]
theorem dList_app {α : Type} {d : St → Option (α × St)} {enc : α → List UInt8} {P : α → Prop} (hd : ∀ x r, P x → d (some (enc x ++ r)) = some (x, some r)) {most : Int} {l : List α} (hl : inR 0 most l.length = true) (h64 : (l.length : Int) ≤ 9223372036854775807) (hp : ∀ x ∈ l, P x) (r : List UInt8) : dList d most (some (encL enc l ++ r)) = some (l, some r) := by
  unfold dList encL
  rw [List.append_assoc, dNum_app (by omega) h64 hl, Option.bind_some]
  simp only [Int.toNat_natCast]
  exact dK_app hd l.length l rfl hp r

/-- An element's right and bytes, by place. -/
def okAt {α : Type} (p : α → Bool) (l : List α) (i : Nat) : Bool := ((l[i]?).map p).getD true
def bsAt {α : Type} (f : α → List UInt8) (l : List α) (i : Nat) : List UInt8 := ((l[i]?).map f).getD []
theorem jn_list {α : Type} (f : α → List UInt8) (l : List α) : ∀ k, k ≤ l.length → jn (bsAt f l) k = (l.take k).flatMap f
  | 0, _ => by simp [jn]
  | k + 1, h => by
    unfold jn
    rw [jn_list f l k (by omega), List.take_succ_eq_append_getElem (by omega), List.flatMap_append]
    simp [bsAt, List.getElem?_eq_getElem (show k < l.length by omega)]
theorem allB_list {α : Type} (p : α → Bool) (l : List α) : ∀ k, k ≤ l.length → allB (okAt p l) k = (l.take k).all p
  | 0, _ => by simp [allB]
  | k + 1, h => by
    unfold allB
    rw [allB_list p l k (by omega), List.take_succ_eq_append_getElem (by omega), List.all_append]
    simp [okAt, List.getElem?_eq_getElem (show k < l.length by omega)]
theorem jn_all {α : Type} (f : α → List UInt8) (l : List α) : jn (bsAt f l) l.length = l.flatMap f := by rw [jn_list f l _ (Nat.le_refl _), List.take_length]
theorem allB_all {α : Type} (p : α → Bool) (l : List α) : allB (okAt p l) l.length = l.all p := by rw [allB_list p l _ (Nat.le_refl _), List.take_length]

/-! ### Validators -/
structure Va where
  key : Nat
  power : Int
  deriving DecidableEq
structure Va.Ok (x : Va) : Prop where
  key : x.key < 18446744073709551616
  power : I64 x.power
def Va.cells (x : Va) : List Value := [.int .u64 (x.key : Int), .int .i64 x.power]
def Va.right (x : Va) : Bool := inR (-9223372036854775808) 9223372036854775807 x.power
theorem Va.right_ok {x : Va} (ox : x.Ok) : x.right = true := inR_iff.2 ⟨ox.power.l, ox.power.h⟩
def Va.enc (x : Va) : List UInt8 := be 8 x.key ++ num x.power
def dVa (st : St) : Option (Va × St) := (dNum (-9223372036854775808) 9223372036854775807 (nW st)).bind fun p => some (⟨vW st, p.1⟩, p.2)
theorem dVa_inv (st : St) (x : Va) (r : List UInt8) (h : dVa st = some (x, some r)) : st = some (x.enc ++ r) ∧ x.Ok := by
  have hw := vW_lt st
  unfold dVa at h
  simp only [Option.bind_eq_some_iff, Option.some.injEq, Prod.mk.injEq, Prod.exists] at h
  obtain ⟨p, s1, h1, rfl, rfl⟩ := h
  obtain ⟨e1, o1⟩ := dNum_inv h1
  have e2 := nW_inv e1
  refine ⟨?_, hw, (inR_iff.1 o1).1, (inR_iff.1 o1).2⟩
  rw [e2]
  simp [Va.enc]
  rw [← e2]
theorem dVa_app (x : Va) (r : List UInt8) (ox : x.Ok) : dVa (some (x.enc ++ r)) = some (x, some r) := by
  unfold dVa Va.enc
  rw [List.append_assoc, (vW_app x.key ox.key _).1, (vW_app x.key ox.key _).2, dNum_app ox.power.l ox.power.h (Va.right_ok ox), Option.bind_some]
/-- A set's bytes; is it right? -/
def setEnc (l : List Va) : List UInt8 := num 3 ++ encL Va.enc l
def setRight (l : List Va) : Bool := inR 0 64 l.length
def dSet (st : St) : Option (List Va × St) := (dBegin 3 st).bind fun s => dList dVa 64 s
theorem dSet_inv {st : St} {l : List Va} {r : List UInt8} (h : dSet st = some (l, some r)) : st = some (setEnc l ++ r) ∧ setRight l = true ∧ ∀ x ∈ l, x.Ok := by
  unfold dSet at h
  simp only [Option.bind_eq_some_iff] at h
  obtain ⟨s1, h1, h2⟩ := h
  obtain ⟨e2, o2, o3⟩ := dList_inv dVa_inv h2
  rw [e2] at h1
  have e1 := dBegin_inv h1
  exact ⟨by rw [e1]; simp [setEnc], o3, o2⟩
theorem dSet_app {l : List Va} (h : setRight l = true) (ol : ∀ x ∈ l, x.Ok) (r : List UInt8) : dSet (some (setEnc l ++ r)) = some (l, some r) := by
  unfold dSet setEnc
  have := (inR_iff.1 h).2
  rw [List.append_assoc, dBegin_app (by omega) (by omega), Option.bind_some]
  exact dList_app dVa_app h (by omega) ol r

/-! ### Commits -/
structure Se where
  key : Nat
  r : Nat
  s : Nat
  deriving DecidableEq
structure Se.Ok (x : Se) : Prop where
  key : x.key < 18446744073709551616
  r : x.r < 18446744073709551616
  s : x.s < 18446744073709551616
def Se.cells (x : Se) : List Value := [.int .u64 (x.key : Int), .int .u64 (x.r : Int), .int .u64 (x.s : Int)]
def Se.right (_ : Se) : Bool := true
def Se.enc (x : Se) : List UInt8 := be 8 x.key ++ (be 8 x.r ++ be 8 x.s)
def dSe (st : St) : Option (Se × St) := some (⟨vW st, vW (nW st), vW (nW (nW st))⟩, nW (nW (nW st)))
theorem dSe_inv (st : St) (x : Se) (r : List UInt8) (h : dSe st = some (x, some r)) : st = some (x.enc ++ r) ∧ x.Ok := by
  unfold dSe at h
  simp only [Option.some.injEq, Prod.mk.injEq] at h
  obtain ⟨rfl, h1⟩ := h
  have e1 := nW_inv h1
  have e2 := nW_inv e1
  have e3 := nW_inv e2
  refine ⟨?_, vW_lt _, vW_lt _, vW_lt _⟩
  conv => lhs; rw [e3]
  simp only [Se.enc, List.append_assoc]
theorem dSe_app (x : Se) (r : List UInt8) (ox : x.Ok) : dSe (some (x.enc ++ r)) = some (x, some r) := by
  unfold dSe Se.enc
  simp only [List.append_assoc]
  rw [(vW_app x.key ox.key _).1, (vW_app x.key ox.key _).2, (vW_app x.r ox.r _).1, (vW_app x.r ox.r _).2, (vW_app x.s ox.s _).1, (vW_app x.s ox.s _).2]
structure Cm where
  height : Int
  round : Int
  block : List UInt8
  seals : List Se
  deriving DecidableEq
structure Cm.Ok (x : Cm) : Prop where
  height : I64 x.height
  round : I64 x.round
  block : x.block.length = 32
  seals : ∀ y ∈ x.seals, y.Ok
def Cm.cells (x : Cm) (s : Value) : List Value := [.int .i64 x.height, .int .i64 x.round] ++ (bv x.block ++ [s])
def Cm.right (x : Cm) : Bool := inR 1 1099511627776 x.height && (inR 0 1048576 x.round && inR 0 64 x.seals.length)
def Cm.enc (x : Cm) : List UInt8 := num 4 ++ (num x.height ++ (num x.round ++ (x.block ++ encL Se.enc x.seals)))
def dCommit (st : St) : Option (Cm × St) :=
  (dBegin 4 st).bind fun s1 => (dNum 1 1099511627776 s1).bind fun h => (dNum 0 1048576 h.2).bind fun r => (dList dSe 64 (nH r.2)).bind fun l => some (⟨h.1, r.1, vH r.2, l.1⟩, l.2)
theorem dCommit_inv {st : St} {x : Cm} {r : List UInt8} (h : dCommit st = some (x, some r)) : st = some (x.enc ++ r) ∧ x.right = true ∧ x.Ok := by
  unfold dCommit at h
  simp only [Option.bind_eq_some_iff, Option.some.injEq, Prod.mk.injEq, Prod.exists] at h
  obtain ⟨s1, h1, ht, s2, h2, rd, s3, h3, l, s4, h4, rfl, rfl⟩ := h
  obtain ⟨e4, o4, o5⟩ := dList_inv dSe_inv h4
  have e3 := nH_inv e4
  have hb := vH_length s3
  generalize hbb : vH s3 = bb at *
  rw [e3] at h3
  obtain ⟨e2, o2⟩ := dNum_inv h3
  rw [e2] at h2
  obtain ⟨e1, o1⟩ := dNum_inv h2
  rw [e1] at h1
  have e0 := dBegin_inv h1
  refine ⟨?_, by simp [Cm.right, o1, o2, o5], i64_in o1 (by omega) (by omega), i64_in o2 (by omega) (by omega), hb, o4⟩
  rw [e0]
  simp only [Cm.enc, List.append_assoc]
theorem dCommit_app {x : Cm} (ox : x.Ok) (h : x.right = true) (r : List UInt8) : dCommit (some (x.enc ++ r)) = some (x, some r) := by
  unfold Cm.right at h
  simp only [Bool.and_eq_true] at h
  obtain ⟨o1, o2, o3⟩ := h
  unfold dCommit Cm.enc
  have h64 := (inR_iff.1 o3).2
  simp only [List.append_assoc]
  rw [dBegin_app (by omega) (by omega), Option.bind_some, dNum_app ox.height.l ox.height.h o1, Option.bind_some]
  simp only
  rw [dNum_app ox.round.l ox.round.h o2, Option.bind_some]
  simp only
  rw [(vH_app x.block ox.block _).1, (vH_app x.block ox.block _).2, dList_app dSe_app o3 (by omega) ox.seals, Option.bind_some]

/-! ### Light blocks -/
structure Lt where
  header : Hd
  commit : Cm
  set : List Va
  next : List Va
structure Lt.Ok (x : Lt) : Prop where
  header : x.header.Ok
  commit : x.commit.Ok
  set : ∀ y ∈ x.set, y.Ok
  next : ∀ y ∈ x.next, y.Ok
def Lt.cells (x : Lt) (a b c : Value) : List Value := x.header.cells ++ (x.commit.cells a ++ [b, c])
def Lt.right (x : Lt) : Bool := x.header.right && (x.commit.right && (setRight x.set && setRight x.next))
def Lt.enc (x : Lt) : List UInt8 := num 5 ++ (x.header.enc ++ (x.commit.enc ++ (setEnc x.set ++ setEnc x.next)))
def dLight (st : St) : Option (Lt × St) :=
  (dBegin 5 st).bind fun s1 => (dHeader s1).bind fun h => (dCommit h.2).bind fun c => (dSet c.2).bind fun s => (dSet s.2).bind fun n => some (⟨h.1, c.1, s.1, n.1⟩, n.2)
theorem dLight_app {x : Lt} (ox : x.Ok) (h : x.right = true) (r : List UInt8) : dLight (some (x.enc ++ r)) = some (x, some r) := by
  unfold Lt.right at h
  simp only [Bool.and_eq_true] at h
  obtain ⟨o1, o2, o3, o4⟩ := h
  unfold dLight Lt.enc
  simp only [List.append_assoc]
  rw [dBegin_app (by omega) (by omega), Option.bind_some, dHeader_app ox.header o1, Option.bind_some]
  simp only
  rw [dCommit_app ox.commit o2, Option.bind_some]
  simp only
  rw [dSet_app o3 ox.set, Option.bind_some]
  simp only
  rw [dSet_app o4 ox.next, Option.bind_some]
end Go.Proofs.Ytjcfdclgddjaoaa
