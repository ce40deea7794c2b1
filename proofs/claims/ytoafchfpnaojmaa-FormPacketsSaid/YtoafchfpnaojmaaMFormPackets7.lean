import Derived.Test.YtoafchfpnaojmaaChecked
import Derived.WalkKit
import Derived.Lib.Hide
import Derived.WalkLawsBesides
import Derived.Deep.RegionHeld3
import Derived.Recover
import Derived.Test.YtoafchfpnaojmaaMFormPackets4
import Derived.Test.YtoafchfpnaojmaaMFormPackets5
import Derived.Test.YtoafchfpnaojmaaMFormPackets6
/- Things of package forms that hold lists: their bytes, when they are right, and what bytes are. Plain mathematics. -/
namespace Go.Proofs.Ytoafchfpnaojmaa
open Go.RowKit
set_option linter.unusedVariables false
set_option linter.unusedSimpArgs false
set_option maxRecDepth 20000

theorem i64_in {lo hi n : Int} (h : inR lo hi n = true) (h1 : -9223372036854775808 ≤ lo) (h2 : hi ≤ 9223372036854775807) : I64 n := ⟨by have := (inR_iff.1 h).1; omega, by have := (inR_iff.1 h).2; omega⟩

/-! ### Lists -/
/-- The first k things, read one behind the other. -/
def dK {α : Type} (d : St → Option (α × St)) (st : St) : Nat → Option (List α × St)
  | 0 => some ([], st)
  | k + 1 => (dK d st k).bind fun x => (d x.2).bind fun y => some (x.1 ++ [y.1], y.2)
def dList {α : Type} (d : St → Option (α × St)) (most : Int) (st : St) : Option (List α × St) := (dNum 0 most st).bind fun n => dK d n.2 n.1.toNat
theorem dK_len {α : Type} {d : St → Option (α × St)} {st : St} : ∀ {k : Nat} {l : List α} {s : St}, dK d st k = some (l, s) → l.length = k
  | 0, l, s, h => by
    simp only [dK, Option.some.injEq, Prod.mk.injEq] at h
    rw [← h.1]; rfl
  | k + 1, l, s, h => by
    simp only [dK, Option.bind_eq_some_iff, Option.some.injEq, Prod.mk.injEq, Prod.exists] at h
    obtain ⟨a, s1, h1, b, s2, h2, rfl, rfl⟩ := h
    rw [List.length_append, dK_len h1]; rfl
theorem dK_inv {α : Type} {d : St → Option (α × St)} {enc : α → List UInt8} {P : α → Prop} (hd : ∀ st x r, d st = some (x, some r) → st = some (enc x ++ r) ∧ P x) {st : St} : ∀ {k : Nat} {l : List α} {r : List UInt8}, dK d st k = some (l, some r) → st = some (l.flatMap enc ++ r) ∧ ∀ x ∈ l, P x
  | 0, l, r, h => by
    simp only [dK, Option.some.injEq, Prod.mk.injEq] at h
    obtain ⟨rfl, rfl⟩ := h
    simp
  | k + 1, l, r, h => by
    simp only [dK, Option.bind_eq_some_iff, Option.some.injEq, Prod.mk.injEq, Prod.exists] at h
    obtain ⟨a, s1, h1, b, s2, h2, rfl, rfl⟩ := h
    obtain ⟨e2, o2⟩ := hd _ _ _ h2
    rw [e2] at h1
    obtain ⟨e1, o1⟩ := dK_inv hd h1
    refine ⟨by rw [e1]; simp, fun x hx => ?_⟩
    rw [List.mem_append, List.mem_singleton] at hx
    rcases hx with hx | rfl
    · exact o1 x hx
    · exact o2
theorem dK_app {α : Type} {d : St → Option (α × St)} {enc : α → List UInt8} {P : α → Prop} (hd : ∀ x r, P x → d (some (enc x ++ r)) = some (x, some r)) : ∀ (n : Nat) (l : List α), l.length = n → (∀ x ∈ l, P x) → ∀ r, dK d (some (l.flatMap enc ++ r)) l.length = some (l, some r) := by
  intro n
  induction n with
  | zero =>
    intro l hl _ r
    obtain rfl := List.eq_nil_of_length_eq_zero hl
    rfl
  | succ n ih =>
    intro l hl hp r
    have hne : l ≠ [] := by rintro rfl; simp at hl
    rw [← List.dropLast_concat_getLast hne] at hl hp ⊢
    generalize l.dropLast = a at *
    generalize l.getLast hne = b at *
    rw [List.length_append, List.length_singleton] at hl ⊢
    unfold dK
    have h1 := ih a (by omega) (fun x hx => hp x (by simp [hx])) (enc b ++ r)
    have e : (a ++ [b]).flatMap enc ++ r = a.flatMap enc ++ (enc b ++ r) := by simp
    rw [e, h1, Option.bind_some]
    simp only
    rw [hd b r (hp b (by simp)), Option.bind_some]

/-- A list's bytes. -/
def encL {α : Type} (enc : α → List UInt8) (l : List α) : List UInt8 := num l.length ++ l.flatMap enc
theorem dList_inv {α : Type} {d : St → Option (α × St)} {enc : α → List UInt8} {P : α → Prop} (hd : ∀ st x r, d st = some (x, some r) → st = some (enc x ++ r) ∧ P x) {most : Int} {st : St} {l : List α} {r : List UInt8} (h : dList d most st = some (l, some r)) : st = some (encL enc l ++ r) ∧ (∀ x ∈ l, P x) ∧ inR 0 most l.length = true := by
  unfold dList at h
  simp only [Option.bind_eq_some_iff, Prod.exists] at h
  obtain ⟨n, s1, h1, h2⟩ := h
  obtain ⟨e2, o2⟩ := dK_inv hd h2
  have hl := dK_len h2
  rw [e2] at h1
  obtain ⟨e1, o1⟩ := dNum_inv h1
  have hn : ((l.length : Nat) : Int) = n := by have := (inR_iff.1 o1).1; omega
  refine ⟨?_, o2, by rw [hn]; exact o1⟩
  rw [e1]
  unfold encL
  rw [hn, List.append_assoc]
theorem dList_app {α : Type} {d : St → Option (α × St)} {enc : α → List UInt8} {P : α → Prop} (hd : ∀ x r, P x → d (some (enc x ++ r)) = some (x, some r)) {most : Int} {l : List α} (hl : inR 0 most l.length = true) (h64 : (l.length : Int) ≤ 9223372036854775807) (hp : ∀ x ∈ l, P x) (r : List UInt8) : dList d most (some (encL enc l ++ r)) = some (l, some r) := by
  unfold dList encL
  rw [List.append_assoc, dNum_app (by omega) h64 hl, Option.bind_some]
  simp only [Int.toNat_natCast]
  exact dK_app hd l.length l rfl hp r

/-- An element's right and bytes, by place. -/
def okAt {α : Type} (p : α → Bool) (l : List α) (i : Nat) : Bool := ((l[i]?).map p).getD true
def bsAt {α : Type} (f : α → List UInt8) (l : List α) (i : Nat) : List UInt8 := ((l[i]?).map f).getD []
theorem jn_list {α : Type} (f : α → List UInt8) (l : List α) : ∀ k, k ≤ l.length → jn (bsAt f l) k = (l.take k).flatMap f
  | 0, _ => by simp [jn]
  | k + 1, h => by
    unfold jn
    rw [jn_list f l k (by omega), List.take_succ_eq_append_getElem (by omega), List.flatMap_append]
    simp [bsAt, List.getElem?_eq_getElem (show k < l.length by omega)]
theorem allB_list {α : Type} (p : α → Bool) (l : List α) : ∀ k, k ≤ l.length → allB (okAt p l) k = (l.take k).all p
  | 0, _ => by simp [allB]
  | k + 1, h => by
    unfold allB
    rw [allB_list p l k (by omega), List.take_succ_eq_append_getElem (by omega), List.all_append]
    simp [okAt, List.getElem?_eq_getElem (show k < l.length by omega)]
theorem jn_all {α : Type} (f : α → List UInt8) (l : List α) : jn (bsAt f l) l.length = l.flatMap f := by rw [jn_list f l _ (Nat.le_refl _), List.take_length]
theorem allB_all {α : Type} (p : α → Bool) (l : List α) : allB (okAt p l) l.length = l.all p := by rw [allB_list p l _ (Nat.le_refl _), List.take_length]

/-! ### Validators -/
structure Va where
  key : Nat
  power : Int
  deriving DecidableEq
structure Va.Ok (x : Va) : Prop where
  key : x.key < 18446744073709551616
  power : I64 x.power
def Va.cells (x : Va) : List Value := [.int .u64 (x.key : Int), .int .i64 x.power]
def Va.right (x : Va) : Bool := inR (-9223372036854775808) 9223372036854775807 x.power
theorem Va.right_ok {x : Va} (ox : x.Ok) : x.right = true := inR_iff.2 ⟨ox.power.l, ox.power.h⟩
def Va.enc (x : Va) : List UInt8 := be 8 x.key ++ num x.power
def dVa (st : St) : Option (Va × St) := (dNum (-9223372036854775808) 9223372036854775807 (nW st)).bind fun p => some (⟨vW st, p.1⟩, p.2)
theorem dVa_inv (st : St) (x : Va) (r : List UInt8) (h : dVa st = some (x, some r)) : st = some (x.enc ++ r) ∧ x.Ok := by
  have hw := vW_lt st
  unfold dVa at h
  simp only [Option.bind_eq_some_iff, Option.some.injEq, Prod.mk.injEq, Prod.exists] at h
  obtain ⟨p, s1, h1, rfl, rfl⟩ := h
  obtain ⟨e1, o1⟩ := dNum_inv h1
  have e2 := nW_inv e1
  refine ⟨?_, hw, (inR_iff.1 o1).1, (inR_iff.1 o1).2⟩
  rw [e2]
  simp [Va.enc]
  rw [← e2]
theorem dVa_app (x : Va) (r : List UInt8) (ox : x.Ok) : dVa (some (x.enc ++ r)) = some (x, some r) := by
  unfold dVa Va.enc
  rw [List.append_assoc, (vW_app x.key ox.key _).1, (vW_app x.key ox.key _).2, dNum_app ox.power.l ox.power.h (Va.right_ok ox), Option.bind_some]
/-- A set's bytes; is it right? -/
def setEnc (l : List Va) : List UInt8 := num 3 ++ encL Va.enc l
def setRight (l : List Va) : Bool := inR 0 64 l.length
def dSet (st : St) : Option (List Va × St) := (dBegin 3 st).bind fun s => dList dVa 64 s
theorem dSet_inv {st : St} {l : List Va} {r : List UInt8} (h : dSet st = some (l, some r)) : st = some (setEnc l ++ r) ∧ setRight l = true ∧ ∀ x ∈ l, x.Ok := by
  unfold dSet at h
  simp only [Option.bind_eq_some_iff] at h
  obtain ⟨s1, h1, h2⟩ := h
  obtain ⟨e2, o2, o3⟩ := dList_inv dVa_inv h2
  rw [e2] at h1
  have e1 := dBegin_inv h1
  exact ⟨by rw [e1]; simp [setEnc], o3, o2⟩
theorem dSet_app {l : List Va} (h : setRight l = true) (ol : ∀ x ∈ l, x.Ok) (r : List UInt8) : dSet (some (setEnc l ++ r)) = some (l, some r) := by
  unfold dSet setEnc
  have := (inR_iff.1 h).2
  rw [List.append_assoc, dBegin_app (by omega) (by omega), Option.bind_some]
  exact dList_app dVa_app h (by omega) ol r

/-! ### Commits -/
structure Se where
  key : Nat
  r : Nat
  s : Nat
  deriving DecidableEq
structure Se.Ok (x : Se) : Prop where
  key : x.key < 18446744073709551616
  r : x.r < 18446744073709551616
  s : x.s < 18446744073709551616
def Se.cells (x : Se) : List Value := [.int .u64 (x.key : Int), .int .u64 (x.r : Int), .int .u64 (x.s : Int)]
def Se.right (_ : Se) : Bool := true
def Se.enc (x : Se) : List UInt8 := be 8 x.key ++ (be 8 x.r ++ be 8 x.s)
def dSe (st : St) : Option (Se × St) := some (⟨vW st, vW (nW st), vW (nW (nW st))⟩, nW (nW (nW st)))
theorem dSe_inv (st : St) (x : Se) (r : List UInt8) (h : dSe st = some (x, some r)) : st = some (x.enc ++ r) ∧ x.Ok := by
  unfold dSe at h
  simp only [Option.some.injEq, Prod.mk.injEq] at h
  obtain ⟨rfl, h1⟩ := h
  have e1 := nW_inv h1
  have e2 := nW_inv e1
  have e3 := nW_inv e2
  refine ⟨?_, vW_lt _, vW_lt _, vW_lt _⟩
  conv => lhs; rw [e3]
  simp only [Se.enc, List.append_assoc]
theorem dSe_app (x : Se) (r : List UInt8) (ox : x.Ok) : dSe (some (x.enc ++ r)) = some (x, some r) := by
  unfold dSe Se.enc
  simp only [List.append_assoc]
  rw [(vW_app x.key ox.key _).1, (vW_app x.key ox.key _).2, (vW_app x.r ox.r _).1, (vW_app x.r ox.r _).2, (vW_app x.s ox.s _).1, (vW_app x.s ox.s _).2]
structure Cm where
  height : Int
  round : Int
  block : List UInt8
  seals : List Se
  deriving DecidableEq
structure Cm.Ok (x : Cm) : Prop where
  height : I64 x.height
  round : I64 x.round
  block : x.block.length = 32
  seals : ∀ y ∈ x.seals, y.Ok
def Cm.cells (x : Cm) (s : Value) : List Value := [.int .i64 x.height, .int .i64 x.round] ++ (bv x.block ++ [s])
def Cm.right (x : Cm) : Bool := inR 1 1099511627776 x.height && (inR 0 1048576 x.round && inR 0 64 x.seals.length)
def Cm.enc (x : Cm) : List UInt8 := num 4 ++ (num x.height ++ (num x.round ++ (x.block ++ encL Se.enc x.seals)))
def dCommit (st : St) : Option (Cm × St) :=
  (dBegin 4 st).bind fun s1 => (dNum 1 1099511627776 s1).bind fun h => (dNum 0 1048576 h.2).bind fun r => (dList dSe 64 (nH r.2)).bind fun l => some (⟨h.1, r.1, vH r.2, l.1⟩, l.2)
theorem dCommit_inv {st : St} {x : Cm} {r : List UInt8} (h : dCommit st = some (x, some r)) : st = some (x.enc ++ r) ∧ x.right = true ∧ x.Ok := by
  unfold dCommit at h
  simp only [Option.bind_eq_some_iff, Option.some.injEq, Prod.mk.injEq, Prod.exists] at h
  obtain ⟨s1, h1, ht, s2, h2, rd, s3, h3, l, s4, h4, rfl, rfl⟩ := h
  obtain ⟨e4, o4, o5⟩ := dList_inv dSe_inv h4
  have e3 := nH_inv e4
  have hb := vH_length s3
  generalize hbb : vH s3 = bb at *
  rw [e3] at h3
  obtain ⟨e2, o2⟩ := dNum_inv h3
  rw [e2] at h2
  obtain ⟨e1, o1⟩ := dNum_inv h2
  rw [e1] at h1
  have e0 := dBegin_inv h1
  refine ⟨?_, by simp [Cm.right, o1, o2, o5], i64_in o1 (by omega) (by omega), i64_in o2 (by omega) (by omega), hb, o4⟩
  rw [e0]
  simp only [Cm.enc, List.append_assoc]
theorem dCommit_app {x : Cm} (ox : x.Ok) (h : x.right = true) (r : List UInt8) : dCommit (some (x.enc ++ r)) = some (x, some r) := by
  unfold Cm.right at h
  simp only [Bool.and_eq_true] at h
  obtain ⟨o1, o2, o3⟩ := h
  unfold dCommit Cm.enc
  have h64 := (inR_iff.1 o3).2
  simp only [List.append_assoc]
  rw [dBegin_app (by omega) (by omega), Option.bind_some, dNum_app ox.height.l ox.height.h o1, Option.bind_some]
  simp only
  rw [dNum_app ox.round.l ox.round.h o2, Option.bind_some]
  simp only
  rw [(vH_app x.block ox.block _).1, (vH_app x.block ox.block _).2, dList_app dSe_app o3 (by omega) ox.seals, Option.bind_some]

/-! ### Light blocks -/
structure Lt where
  header : Hd
  commit : Cm
  set : List Va
  next : List Va
structure Lt.Ok (x : Lt) : Prop where
  header : x.header.Ok
  commit : x.commit.Ok
  set : ∀ y ∈ x.set, y.Ok
  next : ∀ y ∈ x.next, y.Ok
def Lt.cells (x : Lt) (a b c : Value) : List Value := x.header.cells ++ (x.commit.cells a ++ [b, c])
def Lt.right (x : Lt) : Bool := x.header.right && (x.commit.right && (setRight x.set && setRight x.next))
def Lt.enc (x : Lt) : List UInt8 := num 5 ++ (x.header.enc ++ (x.commit.enc ++ (setEnc x.set ++ setEnc x.next)))
def dLight (st : St) : Option (Lt × St) :=
  (dBegin 5 st).bind fun s1 => (dHeader s1).bind fun h => (dCommit h.2).bind fun c => (dSet c.2).bind fun s => (dSet s.2).bind fun n => some (⟨h.1, c.1, s.1, n.1⟩, n.2)
theorem dLight_app {x : Lt} (ox : x.Ok) (h : x.right = true) (r : List UInt8) : dLight (some (x.enc ++ r)) = some (x, some r) := by
  unfold Lt.right at h
  simp only [Bool.and_eq_true] at h
  obtain ⟨o1, o2, o3, o4⟩ := h
  unfold dLight Lt.enc
  simp only [List.append_assoc]
  rw [dBegin_app (by omega) (by omega), Option.bind_some, dHeader_app ox.header o1, Option.bind_some]
  simp only
  rw [dCommit_app ox.commit o2, Option.bind_some]
  simp only
  rw [dSet_app o3 ox.set, Option.bind_some]
  simp only
  rw [dSet_app o4 ox.next, Option.bind_some]
end Go.Proofs.Ytoafchfpnaojmaa

/- Package forms: words for lists, read. -/
namespace Go.Proofs.Ytoafchfpnaojmaa
open Go.RowKit
set_option linter.unusedVariables false
set_option linter.unusedSimpArgs false
set_option maxRecDepth 20000

/-- What the reading of a list leaves: a slice of new memory, in which its elements lie; or the panic. -/
def RLO {α : Type} (w : World) (g : Nat) (F : Nat → Prop) (tb : Nat) (t : TypeId) (n : Nat) (p q : List Value) (et : TypeId) (cells : α → List Value) (r : Option (List α × St)) (e : Ending) (w' : World) : Prop :=
  match r with
  | some x => e = .returned (.tuple #[]) ∧ ∃ nb, w.heap.size ≤ nb ∧ Rst w g F tb t (p ++ .slice (some ⟨nb, 0, none⟩) x.1.length x.1.length :: q) x.2 w' ∧ Hb w' nb et (x.1.flatMap cells).toArray
  | none => e = .panicked bad ∧ Chg (Two g tb) w w' ∧ ∃ L' : List Value, L'.length = n ∧ Hb w' tb t L'.toArray
theorem dK_none {α : Type} {d : St → Option (α × St)} {st : St} {k n : Nat} (h : k ≤ n) (hk : dK d st k = none) : dK d st n = none := by
  induction n with
  | zero =>
    obtain rfl : k = 0 := by omega
    exact hk
  | succ n ih =>
    by_cases e : k = n + 1
    · subst e; exact hk
    · unfold dK
      rw [ih (by omega)]
      rfl
theorem dK_flat {α : Type} {d : St → Option (α × St)} {cells : α → List Value} {sz : Nat} (hc : ∀ st x s, d st = some (x, s) → (cells x).length = sz) {st : St} : ∀ {k : Nat} {l : List α} {s : St}, dK d st k = some (l, s) → (l.flatMap cells).length = k * sz
  | 0, l, s, h => by
    simp only [dK, Option.some.injEq, Prod.mk.injEq] at h
    rw [← h.1]; simp
  | k + 1, l, s, h => by
    simp only [dK, Option.bind_eq_some_iff, Option.some.injEq, Prod.mk.injEq, Prod.exists] at h
    obtain ⟨a, s1, h1, b, s2, h2, rfl, rfl⟩ := h
    rw [List.flatMap_append, List.length_append, dK_flat hc h1]
    simp [hc _ _ _ h2, Nat.succ_mul]
end Go.Proofs.Ytoafchfpnaojmaa

/- Package forms: validators, and lists of them, read. -/
namespace Go.Proofs.Ytoafchfpnaojmaa
open Go.RowKit
set_option linter.unusedVariables false
set_option linter.unusedSimpArgs false
set_option maxRecDepth 20000
theorem validator_r_old {old : List Value} (h : old.length = 2) : ∃ (a0 : Value) (a1 : Value), old = [a0] ++ [a1] ∧ True := by
  refine ⟨(old[0]'(by omega)), (old[1]'(by omega)), ?_, trivial⟩
  apply List.ext_getElem?
  intro j
  have hone : ∀ (i : Nat) (hi : i < old.length), [old[i]] = (old.drop i).take 1 := by
    intro i hi
    apply List.ext_getElem?
    intro k
    rw [List.getElem?_take, List.getElem?_drop]
    by_cases hk : k < 1
    · obtain rfl : k = 0 := by omega
      simp [List.getElem?_eq_getElem hi]
    · rw [if_neg hk, List.getElem?_eq_none (by simp; omega)]
  simp only [hone]
  have hj : ∀ (a b c : Nat), a + b = c → (old.drop a).take b ++ old.drop c = old.drop a := by
    intro a b c e
    subst e
    rw [← List.drop_drop, List.take_append_drop]
  have he : old.drop 2 = [] := List.drop_of_length_le (by omega)
  have hall : (old.drop 0).take 1 ++ ((old.drop 1).take 1 ++ old.drop 2) = old := by
    rw [hj 1 1 2 rfl, hj 0 1 1 rfl]
    rfl
  rw [he, List.append_nil] at hall
  conv => lhs; rw [← hall]
  try simp only [List.append_assoc]

end Go.Proofs.Ytoafchfpnaojmaa

/- Package forms: seals, and lists of them; sets and commits, read. -/
namespace Go.Proofs.Ytoafchfpnaojmaa
open Go.RowKit
set_option linter.unusedVariables false
set_option linter.unusedSimpArgs false
set_option maxRecDepth 20000
theorem seal_r_old {old : List Value} (h : old.length = 3) : ∃ (a0 : Value) (a1 : Value) (a2 : Value), old = [a0] ++ [a1] ++ [a2] ∧ True := by
  refine ⟨(old[0]'(by omega)), (old[1]'(by omega)), (old[2]'(by omega)), ?_, trivial⟩
  apply List.ext_getElem?
  intro j
  have hone : ∀ (i : Nat) (hi : i < old.length), [old[i]] = (old.drop i).take 1 := by
    intro i hi
    apply List.ext_getElem?
    intro k
    rw [List.getElem?_take, List.getElem?_drop]
    by_cases hk : k < 1
    · obtain rfl : k = 0 := by omega
      simp [List.getElem?_eq_getElem hi]
    · rw [if_neg hk, List.getElem?_eq_none (by simp; omega)]
  simp only [hone]
  have hj : ∀ (a b c : Nat), a + b = c → (old.drop a).take b ++ old.drop c = old.drop a := by
    intro a b c e
    subst e
    rw [← List.drop_drop, List.take_append_drop]
  have he : old.drop 3 = [] := List.drop_of_length_le (by omega)
  have hall : (old.drop 0).take 1 ++ ((old.drop 1).take 1 ++ ((old.drop 2).take 1 ++ old.drop 3)) = old := by
    rw [hj 2 1 3 rfl, hj 1 1 2 rfl, hj 0 1 1 rfl]
    rfl
  rw [he, List.append_nil] at hall
  conv => lhs; rw [← hall]
  try simp only [List.append_assoc]

end Go.Proofs.Ytoafchfpnaojmaa

/- Package forms: sets and commits, read. -/
namespace Go.Proofs.Ytoafchfpnaojmaa
open Go.RowKit
set_option linter.unusedVariables false
set_option linter.unusedSimpArgs false
set_option maxRecDepth 20000

theorem RLO.cases {α : Type} {w w' : World} {g : Nat} {F : Nat → Prop} {tb : Nat} {t : TypeId} {n : Nat} {p q : List Value} {et : TypeId} {cells : α → List Value} {r : Option (List α × St)} {e : Ending} (h : RLO w g F tb t n p q et cells r e w') : (r = none ∧ e = .panicked bad ∧ Chg (Two g tb) w w' ∧ ∃ L' : List Value, L'.length = n ∧ Hb w' tb t L'.toArray) ∨
    (∃ x, r = some x ∧ e = .returned (.tuple #[]) ∧ ∃ nb, w.heap.size ≤ nb ∧ Rst w g F tb t (p ++ .slice (some ⟨nb, 0, none⟩) x.1.length x.1.length :: q) x.2 w' ∧ Hb w' nb et (x.1.flatMap cells).toArray) := by
  cases r with
  | some x => exact .inr ⟨x, rfl, h.1, h.2⟩
  | none => exact .inl ⟨rfl, h.1, h.2⟩
theorem RLO.chg {α : Type} {w w' : World} {g : Nat} {F : Nat → Prop} {tb : Nat} {t : TypeId} {n : Nat} {p q : List Value} {et : TypeId} {cells : α → List Value} {r : Option (List α × St)} {e : Ending} (h : RLO w g F tb t n p q et cells r e w') : Chg (Two g tb) w w' := by
  cases r with
  | some x => obtain ⟨_, nb, _, h1, _⟩ := h; exact h1.chg
  | none => exact h.2.1
end Go.Proofs.Ytoafchfpnaojmaa

/- Package forms: headers, read: contracts. -/
namespace Go.Proofs.Ytoafchfpnaojmaa
open Go.RowKit
set_option linter.unusedVariables false
set_option linter.unusedSimpArgs false
set_option maxRecDepth 20000
theorem header_r_old {old : List Value} (h : old.length = 163) : ∃ (a0 : Value) (a1 : Value) (a2 : Value) (o3 : List Value) (o4 : List Value) (o5 : List Value) (o6 : List Value) (o7 : List Value), old = [a0] ++ [a1] ++ [a2] ++ o3 ++ o4 ++ o5 ++ o6 ++ o7 ∧ o3.length = 32 ∧ o4.length = 32 ∧ o5.length = 32 ∧ o6.length = 32 ∧ o7.length = 32 ∧ True := by
  refine ⟨(old[0]'(by omega)), (old[1]'(by omega)), (old[2]'(by omega)), ((old.drop 3).take 32), ((old.drop 35).take 32), ((old.drop 67).take 32), ((old.drop 99).take 32), ((old.drop 131).take 32), ?_, by simp; omega, by simp; omega, by simp; omega, by simp; omega, by simp; omega, trivial⟩
  apply List.ext_getElem?
  intro j
  have hone : ∀ (i : Nat) (hi : i < old.length), [old[i]] = (old.drop i).take 1 := by
    intro i hi
    apply List.ext_getElem?
    intro k
    rw [List.getElem?_take, List.getElem?_drop]
    by_cases hk : k < 1
    · obtain rfl : k = 0 := by omega
      simp [List.getElem?_eq_getElem hi]
    · rw [if_neg hk, List.getElem?_eq_none (by simp; omega)]
  simp only [hone]
  have hj : ∀ (a b c : Nat), a + b = c → (old.drop a).take b ++ old.drop c = old.drop a := by
    intro a b c e
    subst e
    rw [← List.drop_drop, List.take_append_drop]
  have he : old.drop 163 = [] := List.drop_of_length_le (by omega)
  have hall : (old.drop 0).take 1 ++ ((old.drop 1).take 1 ++ ((old.drop 2).take 1 ++ ((old.drop 3).take 32 ++ ((old.drop 35).take 32 ++ ((old.drop 67).take 32 ++ ((old.drop 99).take 32 ++ ((old.drop 131).take 32 ++ old.drop 163))))))) = old := by
    rw [hj 131 32 163 rfl, hj 99 32 131 rfl, hj 67 32 99 rfl, hj 35 32 67 rfl, hj 3 32 35 rfl, hj 2 1 3 rfl, hj 1 1 2 rfl, hj 0 1 1 rfl]
    rfl
  rw [he, List.append_nil] at hall
  conv => lhs; rw [← hall]
  try simp only [List.append_assoc]

end Go.Proofs.Ytoafchfpnaojmaa

/- Package forms: light blocks, read. -/
namespace Go.Proofs.Ytoafchfpnaojmaa
open Go.RowKit
set_option linter.unusedVariables false
set_option linter.unusedSimpArgs false
set_option maxRecDepth 20000

/-- A slice of new memory. -/
abbrev sl (n k : Nat) : Value := .slice (some ⟨n, 0, none⟩) k k
theorem dHeader_len {st : St} {y : Hd × St} (h : dHeader st = some y) : y.1.cells.length = 163 := by
  unfold dHeader at h
  simp only [Option.bind_eq_some_iff, Option.some.injEq, Prod.exists] at h
  obtain ⟨s1, h1, c, s2, h2, ht, s3, h3, tm, s5, h5, rfl⟩ := h
  simp [Hd.cells, bv_length, vH_length]
theorem dCommit_len {st : St} {y : Cm × St} (h : dCommit st = some y) (a : Value) : (y.1.cells a).length = 35 := by
  unfold dCommit at h
  simp only [Option.bind_eq_some_iff, Option.some.injEq, Prod.exists] at h
  obtain ⟨s1, h1, ht, s2, h2, rd, s3, h3, l, s4, h4, rfl⟩ := h
  simp [Cm.cells, bv_length, vH_length]
end Go.Proofs.Ytoafchfpnaojmaa

/- Package forms: decoded[api.Light]. -/
namespace Go.Proofs.Ytoafchfpnaojmaa
open Go.RowKit
set_option linter.unusedVariables false
set_option linter.unusedSimpArgs false
set_option maxRecDepth 20000


def Lt.zero : Lt := ⟨Hd.zero, ⟨0, 0, noH, []⟩, [], []⟩
def ltz : List Value := Lt.zero.cells (.slice none 0 0) (.slice none 0 0) (.slice none 0 0)
theorem Lt.one (x : Lt) (n1 n2 n3 : Nat) : ∀ v ∈ x.cells (sl n1 x.commit.seals.length) (sl n2 x.set.length) (sl n3 x.next.length), v.oneCell' = true := by
  intro v hv
  simp only [Lt.cells, Cm.cells, List.mem_append, List.mem_cons, List.not_mem_nil, or_false] at hv
  rcases hv with h | ((rfl | rfl) | h | rfl) | rfl | rfl <;> first | rfl | exact bv_one _ _ h | exact x.header.one _ h
theorem ltz_one : ∀ v ∈ ltz, v.oneCell' = true := by
  intro v hv
  simp only [ltz, Lt.cells, Cm.cells, List.mem_append, List.mem_cons, List.not_mem_nil, or_false] at hv
  rcases hv with h | ((rfl | rfl) | h | rfl) | rfl | rfl <;> first | rfl | exact bv_one _ _ h | exact Hd.one _ _ h
theorem dLight_len {st : St} {y : Lt × St} (h : dLight st = some y) (a b c : Value) : (y.1.cells a b c).length = 200 := by
  unfold dLight at h
  simp only [Option.bind_eq_some_iff, Option.some.injEq, Prod.exists] at h
  obtain ⟨s1, h1, hd, s2, h2, cm, s3, h3, s, s4, h4, n, s5, h5, rfl⟩ := h
  have e1 := dHeader_len h2
  have e2 := dCommit_len h3 a
  simp only at e1 e2
  simp [Lt.cells, e1, e2]
theorem dLight.zlen : ltz.length = 200 := by rfl

end Go.Proofs.Ytoafchfpnaojmaa

/- Package forms: list[nuncio/api.Seal], written. -/
namespace Go.Proofs.Ytoafchfpnaojmaa
open Go.RowKit
set_option linter.unusedVariables false
set_option linter.unusedSimpArgs false
set_option maxRecDepth 20000

end Go.Proofs.Ytoafchfpnaojmaa

/- Package forms: list[nuncio/api.Validator], written. -/
namespace Go.Proofs.Ytoafchfpnaojmaa
open Go.RowKit
set_option linter.unusedVariables false
set_option linter.unusedSimpArgs false
set_option maxRecDepth 20000

end Go.Proofs.Ytoafchfpnaojmaa

/- Package forms: validators and sets, written. -/
namespace Go.Proofs.Ytoafchfpnaojmaa
open Go.RowKit
set_option linter.unusedVariables false
set_option linter.unusedSimpArgs false
set_option maxRecDepth 20000

/-- A list's elements lie from A on, in memory that is not the writer's. -/
def LstW {α : Type} (w : World) (g : Nat) (v : Value) (A : Option Addr) (l : List α) (cells : α → List Value) (sz : Nat) : Prop :=
  ∀ (i : Nat) (x : α), l[i]? = some x → ∃ eb eo, A = some ⟨eb, eo, none⟩ ∧ ¬ Wft g v eb ∧ eb < w.heap.size ∧ w.rangeAt eb (eo + i * sz) (cells x)
theorem LstW.chg {α : Type} {w w' : World} {g : Nat} {v : Value} {A : Option Addr} {l : List α} {cells : α → List Value} {sz : Nat} (h : LstW w g v A l cells sz) (k : Chg Non w w') : LstW w' g v A l cells sz := by
  intro i x hx
  obtain ⟨eb, eo, e, h1, h2, h3⟩ := h i x hx
  exact ⟨eb, eo, e, h1, Nat.lt_of_lt_of_le h2 k.size, k.range' h3 (fun f => f)⟩
theorem LstW.later {α : Type} {B w : World} {g : Nat} {v v' : Value} {l0 : List UInt8} {A : Option Addr} {l : List α} {cells : α → List Value} {sz : Nat} (h : LstW B g v A l cells sz) (S : Wst B g v l0 w v') : LstW w g v' A l cells sz := by
  intro i x hx
  obtain ⟨eb, eo, e, h1, h2, h3⟩ := h i x hx
  exact ⟨eb, eo, e, S.nw h1 h2, Nat.lt_of_lt_of_le h2 S.chg.size, S.range h3 h1⟩
theorem okAt_get {α : Type} {p : α → Bool} {l : List α} {i : Nat} {x : α} (h : l[i]? = some x) : okAt p l i = p x := by unfold okAt; rw [h]; rfl
theorem bsAt_get {α : Type} {f : α → List UInt8} {l : List α} {i : Nat} {x : α} (h : l[i]? = some x) : bsAt f l i = f x := by unfold bsAt; rw [h]; rfl
end Go.Proofs.Ytoafchfpnaojmaa

/- Package forms: seals and commits, written. -/
namespace Go.Proofs.Ytoafchfpnaojmaa
open Go.RowKit
set_option linter.unusedVariables false
set_option linter.unusedSimpArgs false
set_option maxRecDepth 20000
end Go.Proofs.Ytoafchfpnaojmaa

/- Package forms: headers, written: contracts. -/
namespace Go.Proofs.Ytoafchfpnaojmaa
open Go.RowKit
set_option linter.unusedVariables false
set_option linter.unusedSimpArgs false
set_option maxRecDepth 20000
end Go.Proofs.Ytoafchfpnaojmaa

/- Package forms: light blocks, written. -/
namespace Go.Proofs.Ytoafchfpnaojmaa
open Go.RowKit
set_option linter.unusedVariables false
set_option linter.unusedSimpArgs false
set_option maxRecDepth 20000

theorem Hd.enc_len (x : Hd) (h : x.right = true) (ox : x.Ok) : x.enc.length ≤ 1000 := by
  unfold Hd.right at h
  simp only [Bool.and_eq_true] at h
  have := nameOk_size h.1
  unfold Hd.enc
  simp [num_length, tx_length, ox.last, ox.set, ox.next, ox.data, ox.app]
  have e1 : x.chain.data.size = x.chain.size := rfl
  omega
theorem flat_len {α : Type} (f : α → List UInt8) (m : Nat) (hf : ∀ x, (f x).length ≤ m) : ∀ l : List α, (l.flatMap f).length ≤ l.length * m
  | [] => by simp
  | x :: l => by
    have h1 := flat_len f m hf l
    have h2 := hf x
    simp only [List.flatMap_cons, List.length_append, List.length_cons, Nat.succ_mul]
    omega
theorem Se.enc_len (x : Se) : x.enc.length ≤ 24 := by simp [Se.enc, be_length]
theorem Va.enc_len (x : Va) : x.enc.length ≤ 16 := by simp [Va.enc, be_length, num_length]
theorem Cm.enc_len (x : Cm) (h : x.right = true) (ox : x.Ok) : x.enc.length ≤ 3000 := by
  unfold Cm.right at h
  simp only [Bool.and_eq_true] at h
  have h3 := (inR_iff.1 h.2.2).2
  have h4 := flat_len Se.enc 24 Se.enc_len x.seals
  unfold Cm.enc encL
  simp only [List.length_append, num_length, ox.block]
  omega
theorem set_len (l : List Va) (h : setRight l = true) : (setEnc l).length ≤ 3000 := by
  have h3 := (inR_iff.1 h).2
  have h4 := flat_len Va.enc 16 Va.enc_len l
  unfold setEnc encL
  simp only [List.length_append, num_length]
  omega
theorem Lt.enc_len (x : Lt) (h : x.right = true) (ox : x.Ok) : x.enc.length ≤ 100000 := by
  unfold Lt.right at h
  simp only [Bool.and_eq_true] at h
  have h1 := x.header.enc_len h.1 ox.header
  have h2 := x.commit.enc_len h.2.1 ox.commit
  have h3 := set_len x.set h.2.2.1
  have h4 := set_len x.next h.2.2.2
  unfold Lt.enc
  simp only [List.length_append, num_length]
  omega
theorem Hd.cells_len (x : Hd) (ox : x.Ok) : x.cells.length = 163 := by
  unfold Hd.cells
  simp [bv_length, ox.last, ox.set, ox.next, ox.data, ox.app]
theorem Cm.cells_len (x : Cm) (ox : x.Ok) (a : Value) : (x.cells a).length = 35 := by
  unfold Cm.cells
  simp [bv_length, ox.block]
end Go.Proofs.Ytoafchfpnaojmaa

/- Package forms: EncodeLight, DecodeLight. -/
namespace Go.Proofs.Ytoafchfpnaojmaa
open Go.RowKit
set_option linter.unusedVariables false
set_option linter.unusedSimpArgs false
set_option maxRecDepth 20000

/-- A list's elements lie from A on. -/
def LstM {α : Type} (w : World) (A : Option Addr) (l : List α) (cells : α → List Value) (sz : Nat) : Prop :=
  ∀ (i : Nat) (x : α), l[i]? = some x → ∃ eb eo, A = some ⟨eb, eo, none⟩ ∧ eb < w.heap.size ∧ w.rangeAt eb (eo + i * sz) (cells x)
theorem LstM.chg {α : Type} {w w' : World} {A : Option Addr} {l : List α} {cells : α → List Value} {sz : Nat} (h : LstM w A l cells sz) (k : Chg Non w w') : LstM w' A l cells sz := by
  intro i x hx
  obtain ⟨eb, eo, e, h2, h3⟩ := h i x hx
  exact ⟨eb, eo, e, Nat.lt_of_lt_of_le h2 k.size, k.range' h3 (fun f => f)⟩
theorem LstM.not {α : Type} {w w' : World} {A : Option Addr} {l : List α} {cells : α → List Value} {sz : Nat} (h : LstM w A l cells sz) (k : Chg Non w w') {g : Nat} (hg : w.heap.size ≤ g) : LstW w' g (.slice none 0 0) A l cells sz := by
  intro i x hx
  obtain ⟨eb, eo, e, h2, h3⟩ := h i x hx
  exact ⟨eb, eo, e, (by rintro (h | h); omega; cases h), Nat.lt_of_lt_of_le h2 k.size, k.range' h3 (fun f => f)⟩
theorem flat_get {α : Type} {cells : α → List Value} {sz : Nat} (hc : ∀ x, (cells x).length = sz) : ∀ (l : List α) (i : Nat) (x : α), l[i]? = some x → ∀ (j : Nat) (u : Value), (cells x)[j]? = some u → (l.flatMap cells)[i * sz + j]? = some u
  | [], i, x, h, _, _, _ => by simp at h
  | y :: l, 0, x, h, j, u, hu => by
    simp only [List.getElem?_cons_zero, Option.some.injEq] at h
    subst h
    rw [Nat.zero_mul, Nat.zero_add, List.flatMap_cons, List.getElem?_append_left (List.getElem?_eq_some_iff.1 hu).1]
    exact hu
  | y :: l, i + 1, x, h, j, u, hu => by
    rw [List.flatMap_cons, List.getElem?_append_right (by rw [hc, Nat.succ_mul]; omega), hc]
    have e : (i + 1) * sz + j - sz = i * sz + j := by rw [Nat.succ_mul]; omega
    rw [e]
    exact flat_get hc l i x (by simpa using h) j u hu
/-- A new block of elements. -/
theorem lstM_new {α : Type} {w : World} {n : Nat} {t : TypeId} {l : List α} {cells : α → List Value} {sz : Nat} (hc : ∀ x, (cells x).length = sz) (h : Hb w n t (l.flatMap cells).toArray) : LstM w (some ⟨n, 0, none⟩) l cells sz := by
  intro i x hx
  refine ⟨n, 0, rfl, h.lt, fun j u hu => ?_⟩
  rw [Nat.zero_add, h.cell]
  simpa using flat_get hc l i x hx j u hu

end Go.Proofs.Ytoafchfpnaojmaa

/- Light blocks as arguments: their cells and their lists out of a reading. -/
namespace Go.Proofs.Ytoafchfpnaojmaa
open Go.RowKit
set_option linter.unusedVariables false
set_option linter.unusedSimpArgs false
set_option maxRecDepth 20000

/-- A slice of elements, out of a reading. -/
theorem slice_of {α : Type} {w : World} {n : Nat} {t e : TypeId} {cs : List Value} (ht : Try.prog.underlying t = some (.slice e)) {cells : α → List Value} {Ok : α → Prop} {sz : Nat} (hsz : Try.prog.cellsOf e = sz) (hpos : 0 < sz)
    (hel : ∀ es, Okc Try.prog w n e es → ∃ x : α, es = cells x ∧ Ok x) (h : Okc Try.prog w (n + 1) t cs) : ∃ A c l, cs = [.slice A l.length c] ∧ l.length ≤ maxLen ∧ LstM w A l cells sz ∧ ∀ x ∈ l, Ok x := by
  unfold Okc at h
  simp only [ht, hsz] at h
  rcases h with h | ⟨a, len, c, h, hlc, hcm, hi⟩
  · exact ⟨none, 0, [], h, by simp, fun i x hx => by simp at hx, by simp⟩
  · have hex : ∀ i, i < len → ∃ x : α, Ok x ∧ ∀ j, j < sz → w.cell? (a.add (i * sz + j)) = (cells x)[j]? ∧ (cells x).length = sz := by
      intro i hil
      obtain ⟨es, hl, hc, ho⟩ := hi i hil
      obtain ⟨x, rfl, ox⟩ := hel es ho
      exact ⟨x, ox, fun j hj => ⟨hc j hj, hl⟩⟩
    obtain ⟨l, hl, hP⟩ : ∃ l : List α, l.length = len ∧ ∀ i x, l[i]? = some x → Ok x ∧ ∀ j, j < sz → w.cell? (a.add (i * sz + j)) = (cells x)[j]? ∧ (cells x).length = sz := by
      clear h hlc
      have : ∀ m, m ≤ len → ∃ l : List α, l.length = m ∧ ∀ i x, l[i]? = some x → Ok x ∧ ∀ j, j < sz → w.cell? (a.add (i * sz + j)) = (cells x)[j]? ∧ (cells x).length = sz := by
        intro m
        induction m with
        | zero => intro _; exact ⟨[], rfl, by simp⟩
        | succ m ih =>
          intro hm
          obtain ⟨l, hl, hP⟩ := ih (by omega)
          obtain ⟨x, hx⟩ := hex m (by omega)
          refine ⟨l ++ [x], by simp [hl], fun i y hy => ?_⟩
          rcases Nat.lt_or_ge i m with hlt | hge
          · rw [List.getElem?_append_left (by omega)] at hy
            exact hP i y hy
          · rw [List.getElem?_append_right (by omega)] at hy
            have : i = m := by
              have := (List.getElem?_eq_some_iff.1 hy).1
              simp at this
              omega
            subst this
            simp [hl] at hy
            subst hy
            exact hx
      exact this len (Nat.le_refl _)
    subst hl
    refine ⟨some a, c, l, h, by omega, fun i x hx => ?_, fun x hx => ?_⟩
    · obtain ⟨_, hc⟩ := hP i x hx
      have h0l : 0 < l.length := by have := (List.getElem?_eq_some_iff.1 hx).1; omega
      obtain ⟨_, h0⟩ := hP 0 _ (List.getElem?_eq_getElem h0l)
      have h00 := h0 0 hpos
      rw [Nat.zero_mul, Nat.zero_add, List.getElem?_eq_getElem (by omega)] at h00
      have hadd : a.add 0 = a := by unfold Addr.add; simp
      rw [hadd] at h00
      have hsp : a.spot = none := by
        cases hs : a.spot with
        | none => rfl
        | some s =>
          have h1 := h00.1
          unfold World.cell? at h1
          simp [hs] at h1
          split at h1 <;> simp_all
      have hlt := World.block_lt_of_cell? w a h00.1
      obtain ⟨b, o, s⟩ := a
      simp only at hsp
      subst hsp
      refine ⟨b, o, rfl, hlt, fun j u hu => ?_⟩
      have hj : j < sz := by have := (List.getElem?_eq_some_iff.1 hu).1; have := (hc 0 hpos).2; omega
      have := (hc j hj).1
      rw [Addr.add_mid, ← Nat.add_assoc, hu] at this
      exact this
    · obtain ⟨i, hi⟩ := List.mem_iff_getElem?.1 hx
      exact (hP i x hi).1

end Go.Proofs.Ytoafchfpnaojmaa

/- Parts and proofs of package forms: their bytes, when they are right. Plain mathematics. -/
namespace Go.Proofs.Ytoafchfpnaojmaa
open Go.RowKit
set_option linter.unusedVariables false
set_option linter.unusedSimpArgs false
set_option maxRecDepth 20000

structure Pa where
  index : Int
  key : ByteArray
  value : ByteArray
  path : List (List UInt8)
structure Pa.Ok (x : Pa) : Prop where
  index : I64 x.index
  key : x.key.size ≤ maxLen
  value : x.value.size ≤ maxLen
  path : ∀ h ∈ x.path, h.length = 32
def Pa.right (x : Pa) : Bool := inR 0 4096 x.index && (decide (x.key.size ≤ 4096) && (decide (x.value.size ≤ 4096) && inR 0 16 x.path.length))
def Pa.enc (x : Pa) : List UInt8 := num x.index ++ (tx x.key.data.toList ++ (tx x.value.data.toList ++ encL id x.path))
/-- A part in memory: its path is a slice. -/
structure Pm where
  part : Pa
  A : Option Addr
  c : Nat
def Pm.cells (m : Pm) : List Value := [.int .i64 m.part.index, .string m.part.key, .string m.part.value, .slice m.A m.part.path.length m.c]
structure Pf where
  size : Int
  parts : List Pa
def Pf.right (x : Pf) : Bool := inR 0 4096 x.size && (inR 0 2 x.parts.length && x.parts.all Pa.right)
def Pf.enc (x : Pf) : List UInt8 := num 7 ++ (num x.size ++ encL Pa.enc x.parts)
theorem path_len {l : List (List UInt8)} (h : ∀ x ∈ l, x.length = 32) : (l.flatMap id).length = l.length * 32 := by
  induction l with
  | nil => rfl
  | cons x l ih =>
    rw [List.flatMap_cons, List.length_append, ih (fun y hy => h y (by simp [hy])), List.length_cons]
    have := h x (by simp)
    simp only [id]
    omega
theorem Pa.enc_len {x : Pa} (h : x.right = true) (ox : x.Ok) : x.enc.length ≤ 20000 := by
  unfold Pa.right at h
  simp only [Bool.and_eq_true, decide_eq_true_eq] at h
  obtain ⟨_, h1, h2, h3⟩ := h
  have h4 := (inR_iff.1 h3).2
  have hp := path_len ox.path
  unfold Pa.enc encL
  simp only [List.length_append, num_length, tx_length, hp]
  have e1 : x.key.data.size = x.key.size := rfl
  have e2 : x.value.data.size = x.value.size := rfl
  simp only [Array.length_toList]
  omega
end Go.Proofs.Ytoafchfpnaojmaa

/- Package forms: list[nuncio/api.Part], written. -/
namespace Go.Proofs.Ytoafchfpnaojmaa
open Go.RowKit
set_option linter.unusedVariables false
set_option linter.unusedSimpArgs false
set_option maxRecDepth 20000

set_option maxHeartbeats 1600000 in
theorem listPart_w (g : Nat) (l : List UInt8) (w : World) (v : Value) (b o : Nat) (A : Option Addr) (n c most : Nat) (ok : Nat → Bool) (bs : Nat → List UInt8) (h : Wri w g v (some l)) (hc : w.cell? ⟨b, o, none⟩ = some (.slice A n c)) (hb : ¬ Wft g v b) (hbl : b < w.heap.size)
    (hn : n ≤ maxLen) (hmost : most ≤ 4096) (hl : l.length ≤ 100000000) (hbs : ∀ i, ok i = true → (bs i).length ≤ 20000)
    (H : ∀ i, i < n → ∃ eb eo, A = some ⟨eb, eo, none⟩ ∧ ∀ (l' : List UInt8) (w' : World) (v' : Value), Wst w g v l' w' v' → l'.length ≤ 300000000 → Calls Try.prog 34 #[.agg #[.pointer (some ⟨g, 0, none⟩), .pointer none], .pointer (some ⟨eb, eo + i * 4, none⟩)] w' (WO w' g v' (ok i) (l' ++ bs i))) :
    Calls Try.prog 33 #[.agg #[.pointer (some ⟨g, 0, none⟩), .pointer none], .pointer (some ⟨b, o, none⟩), .int .i64 (most : Int), .func (.func 34) #[] #[]] w (WO w g v (inR 0 most n && allB ok n) (l ++ (num n ++ jn bs n))) := by
  unfold maxLen at hn
  have S0 := (Wst.here h).non (((Chg.refl Non w).alloc (.cells #[.pointer (some ⟨g, 0, none⟩), .pointer none] 64)).alloc (.cells #[.int .i64 (n : Int)] 3))
  have c0 := (((Chg.refl Non w).alloc (.cells #[.pointer (some ⟨g, 0, none⟩), .pointer none] 64)).alloc (.cells #[.int .i64 (n : Int)] 3)).cell hc (fun f => f)
  have hw := h.nnew (Nat.le_refl w.heap.size)
  have hw1 := h.nnew (show w.heap.size ≤ w.heap.size + 1 by omega)
  have hx0 := ((Hb.new w 64 #[.pointer (some ⟨g, 0, none⟩), .pointer none]).alloc (.cells #[.int .i64 (n : Int)] 3)).cell 0
  have hx1 := ((Hb.new w 64 #[.pointer (some ⟨g, 0, none⟩), .pointer none]).alloc (.cells #[.int .i64 (n : Int)] 3)).cell 1
  have hxn : ((w.alloc (.cells #[.pointer (some ⟨g, 0, none⟩), .pointer none] 64)).alloc (.cells #[.int .i64 (n : Int)] 3)).cell? ⟨w.heap.size + 1, 0, none⟩ = some (.int .i64 (n : Int)) := by
    have := (Hb.new (w.alloc (.cells #[.pointer (some ⟨g, 0, none⟩), .pointer none] 64)) 3 #[.int .i64 (n : Int)]).cell 0
    rwa [show (w.alloc (.cells #[.pointer (some ⟨g, 0, none⟩), .pointer none] 64)).heap.size = w.heap.size + 1 by simp] at this
  have hBl : w.heap.size + 1 < ((w.alloc (.cells #[.pointer (some ⟨g, 0, none⟩), .pointer none] 64)).alloc (.cells #[.int .i64 (n : Int)] 3)).heap.size := by simp
  obtain ⟨B, hB⟩ : ∃ B, B = (w.alloc (.cells #[.pointer (some ⟨g, 0, none⟩), .pointer none] 64)).alloc (.cells #[.int .i64 (n : Int)] 3) := ⟨_, rfl⟩
  generalize hok : (inR 0 most n && allB ok n) = okt
  have HOK := Lib.hid hok
  have HH := Lib.hid H
  clear hok H
  go_enter Try.func33, Try.ntmps33
  go_wp2_with fail
  rw [← hB] at S0 c0 hx0 hx1 hxn hBl ⊢
  clear hB
  have S1 := Wst.here S0.wri
  have N := numberI_w g l B v (w.heap.size + 1) 0 n 0 most S1.wri hxn hw1 ⟨by omega, by omega⟩ (by omega)
  have NN := Lib.hid N
  clear N
  refine NN.out.mono ?_
  rintro e w2 h2
  clear NN
  rcases h2.cases with ⟨k2, he, C⟩ | ⟨k2, he, v2, T2⟩
  · subst he
    obtain rfl : okt = false := HOK.out.symm.trans (by rw [k2]; rfl)
    go_wp2
    exact ⟨rfl, rfl, S0.chg.trans C S0.wft⟩
  · subst he
    have hnm : n ≤ most := by have := (inR_iff.1 k2).2; omega
    have x0 := T2.cell hx0 hw
    have x1 := T2.cell hx1 hw
    have y0 := T2.cell c0 hb
    clear hxn h2
    go_wp2_with fail
    refine (writes_w _ g).mono ?_
    rintro e w3 ⟨rfl, hC3⟩
    have S3 := T2.non hC3
    have z0 := S3.cell hx0 hw
    have z1 := S3.cell hx1 hw
    have z2 := S3.cell c0 hb
    clear x0 x1 y0 T2 hC3
    go_wp2_with fail
    go_loopw [9, 28] (fun x i wr => ∃ (k : Nat) (v' : Value), k ≤ n ∧ i = .int .i64 (k : Int) ∧ allB ok k = true ∧ Wst B g v (l ++ num n ++ jn bs k) wr v') (fun _ i _ => n - (intOf i).toNat)
    case atStart => exact ⟨0, v2, by omega, rfl, rfl, by simpa [jn] using S3⟩
    case round =>
      obtain ⟨k, v', hk, rfl, hall, S⟩ := hrel
      have a0 := S.cell hx0 hw
      have a1 := S.cell hx1 hw
      have a2 := S.cell c0 hb
      have hjl := jn_len hbs k hall
      have hln : (l ++ num n ++ jn bs k).length ≤ 300000000 := by rw [List.length_append, List.length_append, num_length]; have : k * 20000 ≤ 4096 * 20000 := Nat.mul_le_mul_right _ (by omega); omega
      by_cases hlt : k < n
      · obtain ⟨eb, eo, rfl, HE⟩ := HH.out k hlt
        have hwn := S.nw hw (by omega)
        have hbn := S.nw hb (by have := S0.chg.size; omega)
        have D := S.non ((Chg.refl Non wr).drew)
        have HC := HE _ _ v' (S0.trans D) hln
        have HCC := Lib.hid HC
        have e0 := D.cell hx0 hw
        have e1 := D.cell hx1 hw
        have e2 := D.cell c0 hb
        have hki : (k : Int) < (n : Int) := by omega
        have hke : allB ok (k + 1) = ok k := by unfold allB; rw [hall, Bool.true_and]
        clear HE HC
        go_wp2_with fail
        go_region_held (fun w' => w'.cell? ⟨w.heap.size, 0, none⟩ = some (.pointer (some ⟨g, 0, none⟩)) ∧ w'.cell? ⟨w.heap.size, 1, none⟩ = some (.pointer none) ∧ w'.cell? ⟨b, o, none⟩ = some (.slice (some ⟨eb, eo, none⟩) n c)) (first | exact ⟨f0, f1, f2⟩ | exact ⟨e0, e1, e2⟩ | assumption) (first | (go_at_call 34; go_loud (refine HCC.out.mono ?_; rintro e w5 h5; have f0 := h5.chg.cell e0 hwn; have f1 := h5.chg.cell e1 hwn; have f2 := h5.chg.cell e2 hbn; rcases h5.cases with ⟨k5, he, C⟩ | ⟨k5, he, v5, T5⟩; (subst he; obtain rfl : okt = false := HOK.out.symm.trans (by rw [allB_no hlt k5, Bool.and_false]); exact ⟨rfl, rfl, S0.chg.trans (D.chg.trans C D.wft) S0.wft⟩); subst he)) | fail)
        have S5 := D.trans T5
        clear h5 HCC
        go_wp2_with fail
        go_roundw
        case rel => exact ⟨k + 1, v5, by omega, by go_num, by rw [hke, k5], by simpa [jn, List.append_assoc] using S5⟩
        case measure => simp [intOf]; omega
      · obtain rfl : k = n := by omega
        obtain rfl : okt = true := HOK.out.symm.trans (by rw [k2, hall]; rfl)
        go_wp2
        go_end0
        exact ⟨rfl, v', by simpa [List.append_assoc] using S0.trans S⟩
end Go.Proofs.Ytoafchfpnaojmaa

/- Package forms: list[nuncio/api.Hash], written. -/
namespace Go.Proofs.Ytoafchfpnaojmaa
open Go.RowKit
set_option linter.unusedVariables false
set_option linter.unusedSimpArgs false
set_option maxRecDepth 20000

set_option maxHeartbeats 1600000 in
theorem listHash_w (g : Nat) (l : List UInt8) (w : World) (v : Value) (b o : Nat) (A : Option Addr) (n c most : Nat) (ok : Nat → Bool) (bs : Nat → List UInt8) (h : Wri w g v (some l)) (hc : w.cell? ⟨b, o, none⟩ = some (.slice A n c)) (hb : ¬ Wft g v b) (hbl : b < w.heap.size)
    (hn : n ≤ maxLen) (hmost : most ≤ 4096) (hl : l.length ≤ 400000000) (hbs : ∀ i, ok i = true → (bs i).length ≤ 20000)
    (H : ∀ i, i < n → ∃ eb eo, A = some ⟨eb, eo, none⟩ ∧ ∀ (l' : List UInt8) (w' : World) (v' : Value), Wst w g v l' w' v' → l'.length ≤ 500000000 → Calls Try.prog 44 #[.agg #[.pointer (some ⟨g, 0, none⟩), .pointer none], .pointer (some ⟨eb, eo + i * 32, none⟩)] w' (WO w' g v' (ok i) (l' ++ bs i))) :
    Calls Try.prog 43 #[.agg #[.pointer (some ⟨g, 0, none⟩), .pointer none], .pointer (some ⟨b, o, none⟩), .int .i64 (most : Int), .func (.func 44) #[] #[]] w (WO w g v (inR 0 most n && allB ok n) (l ++ (num n ++ jn bs n))) := by
  unfold maxLen at hn
  have S0 := (Wst.here h).non (((Chg.refl Non w).alloc (.cells #[.pointer (some ⟨g, 0, none⟩), .pointer none] 64)).alloc (.cells #[.int .i64 (n : Int)] 3))
  have c0 := (((Chg.refl Non w).alloc (.cells #[.pointer (some ⟨g, 0, none⟩), .pointer none] 64)).alloc (.cells #[.int .i64 (n : Int)] 3)).cell hc (fun f => f)
  have hw := h.nnew (Nat.le_refl w.heap.size)
  have hw1 := h.nnew (show w.heap.size ≤ w.heap.size + 1 by omega)
  have hx0 := ((Hb.new w 64 #[.pointer (some ⟨g, 0, none⟩), .pointer none]).alloc (.cells #[.int .i64 (n : Int)] 3)).cell 0
  have hx1 := ((Hb.new w 64 #[.pointer (some ⟨g, 0, none⟩), .pointer none]).alloc (.cells #[.int .i64 (n : Int)] 3)).cell 1
  have hxn : ((w.alloc (.cells #[.pointer (some ⟨g, 0, none⟩), .pointer none] 64)).alloc (.cells #[.int .i64 (n : Int)] 3)).cell? ⟨w.heap.size + 1, 0, none⟩ = some (.int .i64 (n : Int)) := by
    have := (Hb.new (w.alloc (.cells #[.pointer (some ⟨g, 0, none⟩), .pointer none] 64)) 3 #[.int .i64 (n : Int)]).cell 0
    rwa [show (w.alloc (.cells #[.pointer (some ⟨g, 0, none⟩), .pointer none] 64)).heap.size = w.heap.size + 1 by simp] at this
  have hBl : w.heap.size + 1 < ((w.alloc (.cells #[.pointer (some ⟨g, 0, none⟩), .pointer none] 64)).alloc (.cells #[.int .i64 (n : Int)] 3)).heap.size := by simp
  obtain ⟨B, hB⟩ : ∃ B, B = (w.alloc (.cells #[.pointer (some ⟨g, 0, none⟩), .pointer none] 64)).alloc (.cells #[.int .i64 (n : Int)] 3) := ⟨_, rfl⟩
  generalize hok : (inR 0 most n && allB ok n) = okt
  have HOK := Lib.hid hok
  have HH := Lib.hid H
  clear hok H
  go_enter Try.func43, Try.ntmps43
  go_wp2_with fail
  rw [← hB] at S0 c0 hx0 hx1 hxn hBl ⊢
  clear hB
  have S1 := Wst.here S0.wri
  have N := numberI_w g l B v (w.heap.size + 1) 0 n 0 most S1.wri hxn hw1 ⟨by omega, by omega⟩ (by omega)
  have NN := Lib.hid N
  clear N
  refine NN.out.mono ?_
  rintro e w2 h2
  clear NN
  rcases h2.cases with ⟨k2, he, C⟩ | ⟨k2, he, v2, T2⟩
  · subst he
    obtain rfl : okt = false := HOK.out.symm.trans (by rw [k2]; rfl)
    go_wp2
    exact ⟨rfl, rfl, S0.chg.trans C S0.wft⟩
  · subst he
    have hnm : n ≤ most := by have := (inR_iff.1 k2).2; omega
    have x0 := T2.cell hx0 hw
    have x1 := T2.cell hx1 hw
    have y0 := T2.cell c0 hb
    clear hxn h2
    go_wp2_with fail
    refine (writes_w _ g).mono ?_
    rintro e w3 ⟨rfl, hC3⟩
    have S3 := T2.non hC3
    have z0 := S3.cell hx0 hw
    have z1 := S3.cell hx1 hw
    have z2 := S3.cell c0 hb
    clear x0 x1 y0 T2 hC3
    go_wp2_with fail
    go_loopw [9, 28] (fun x i wr => ∃ (k : Nat) (v' : Value), k ≤ n ∧ i = .int .i64 (k : Int) ∧ allB ok k = true ∧ Wst B g v (l ++ num n ++ jn bs k) wr v') (fun _ i _ => n - (intOf i).toNat)
    case atStart => exact ⟨0, v2, by omega, rfl, rfl, by simpa [jn] using S3⟩
    case round =>
      obtain ⟨k, v', hk, rfl, hall, S⟩ := hrel
      have a0 := S.cell hx0 hw
      have a1 := S.cell hx1 hw
      have a2 := S.cell c0 hb
      have hjl := jn_len hbs k hall
      have hln : (l ++ num n ++ jn bs k).length ≤ 500000000 := by rw [List.length_append, List.length_append, num_length]; have : k * 20000 ≤ 4096 * 20000 := Nat.mul_le_mul_right _ (by omega); omega
      by_cases hlt : k < n
      · obtain ⟨eb, eo, rfl, HE⟩ := HH.out k hlt
        have hwn := S.nw hw (by omega)
        have hbn := S.nw hb (by have := S0.chg.size; omega)
        have D := S.non ((Chg.refl Non wr).drew)
        have HC := HE _ _ v' (S0.trans D) hln
        have HCC := Lib.hid HC
        have e0 := D.cell hx0 hw
        have e1 := D.cell hx1 hw
        have e2 := D.cell c0 hb
        have hki : (k : Int) < (n : Int) := by omega
        have hke : allB ok (k + 1) = ok k := by unfold allB; rw [hall, Bool.true_and]
        clear HE HC
        go_wp2_with fail
        go_region_held (fun w' => w'.cell? ⟨w.heap.size, 0, none⟩ = some (.pointer (some ⟨g, 0, none⟩)) ∧ w'.cell? ⟨w.heap.size, 1, none⟩ = some (.pointer none) ∧ w'.cell? ⟨b, o, none⟩ = some (.slice (some ⟨eb, eo, none⟩) n c)) (first | exact ⟨f0, f1, f2⟩ | exact ⟨e0, e1, e2⟩ | assumption) (first | (go_at_call 44; go_loud (refine HCC.out.mono ?_; rintro e w5 h5; have f0 := h5.chg.cell e0 hwn; have f1 := h5.chg.cell e1 hwn; have f2 := h5.chg.cell e2 hbn; rcases h5.cases with ⟨k5, he, C⟩ | ⟨k5, he, v5, T5⟩; (subst he; obtain rfl : okt = false := HOK.out.symm.trans (by rw [allB_no hlt k5, Bool.and_false]); exact ⟨rfl, rfl, S0.chg.trans (D.chg.trans C D.wft) S0.wft⟩); subst he)) | fail)
        have S5 := D.trans T5
        clear h5 HCC
        go_wp2_with fail
        go_roundw
        case rel => exact ⟨k + 1, v5, by omega, by go_num, by rw [hke, k5], by simpa [jn, List.append_assoc] using S5⟩
        case measure => simp [intOf]; omega
      · obtain rfl : k = n := by omega
        obtain rfl : okt = true := HOK.out.symm.trans (by rw [k2, hall]; rfl)
        go_wp2
        go_end0
        exact ⟨rfl, v', by simpa [List.append_assoc] using S0.trans S⟩
end Go.Proofs.Ytoafchfpnaojmaa
