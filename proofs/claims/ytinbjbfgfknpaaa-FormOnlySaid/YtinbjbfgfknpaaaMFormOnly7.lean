import Derived.Test.YtinbjbfgfknpaaaChecked
import Derived.WalkKit
import Derived.Lib.Hide
import Derived.WalkLawsBesides
import Derived.Deep.RegionHeld3
import Derived.Test.YtinbjbfgfknpaaaMFormOnly6
/- Things of package forms that hold lists: their bytes, when they are right, and what bytes are. Plain mathematics. -/
namespace Go.Proofs.Ytinbjbfgfknpaaa
open Go.RowKit
set_option linter.unusedVariables false
set_option linter.unusedSimpArgs false
set_option maxRecDepth 20000

theorem i64_in {lo hi n : Int} (h : inR lo hi n = true) (h1 : -9223372036854775808 ≤ lo) (h2 : hi ≤ 9223372036854775807) : I64 n := ⟨by have := (inR_iff.1 h).1; omega, by have := (inR_iff.1 h).2; omega⟩

/-! ### Lists -/
/-- The first k things, read one behind the other. -/
def dK {α : Type} (d : St → Option (α × St)) (st : St) : Nat → Option (List α × St)
  | 0 => some ([], st)
  | k + 1 => (dK d st k).bind fun x => (d x.2).bind fun y => some (x.1 ++ [y.1], y.2)
def dList {α : Type} (d : St → Option (α × St)) (most : Int) (st : St) : Option (List α × St) := (dNum 0 most st).bind fun n => dK d n.2 n.1.toNat
theorem dK_len {α : Type} {d : St → Option (α × St)} {st : St} : ∀ {k : Nat} {l : List α} {s : St}, dK d st k = some (l, s) → l.length = k
  | 0, l, s, h => by
    simp only [dK, Option.some.injEq, Prod.mk.injEq] at h
    rw [← h.1]; rfl
  | k + 1, l, s, h => by
    simp only [dK, Option.bind_eq_some_iff, Option.some.injEq, Prod.mk.injEq, Prod.exists] at h
    obtain ⟨a, s1, h1, b, s2, h2, rfl, rfl⟩ := h
    rw [List.length_append, dK_len h1]; rfl
theorem dK_inv {α : Type} {d : St → Option (α × St)} {enc : α → List UInt8} {P : α → Prop} (hd : ∀ st x r, d st = some (x, some r) → st = some (enc x ++ r) ∧ P x) {st : St} : ∀ {k : Nat} {l : List α} {r : List UInt8}, dK d st k = some (l, some r) → st = some (l.flatMap enc ++ r) ∧ ∀ x ∈ l, P x
  | 0, l, r, h => by
    simp only [dK, Option.some.injEq, Prod.mk.injEq] at h
    obtain ⟨rfl, rfl⟩ := h
    simp
  | k + 1, l, r, h => by
    simp only [dK, Option.bind_eq_some_iff, Option.some.injEq, Prod.mk.injEq, Prod.exists] at h
    obtain ⟨a, s1, h1, b, s2, h2, rfl, rfl⟩ := h
    obtain ⟨e2, o2⟩ := hd _ _ _ h2
    rw [e2] at h1
    obtain ⟨e1, o1⟩ := dK_inv hd h1
    refine ⟨by rw [e1]; simp, fun x hx => ?_⟩
    rw [List.mem_append, List.mem_singleton] at hx
    rcases hx with hx | rfl
    · exact o1 x hx
    · exact o2
theorem dK_app {α : Type} {d : St → Option (α × St)} {enc : α → List UInt8} {P : α → Prop} (hd : ∀ x r, P x → d (some (enc x ++ r)) = some (x, some r)) : ∀ (n : Nat) (l : List α), l.length = n → (∀ x ∈ l, P x) → ∀ r, dK d (some (l.flatMap enc ++ r)) l.length = some (l, some r) := by
  intro n
  induction n with
  | zero =>
    intro l hl _ r
    obtain rfl := List.eq_nil_of_length_eq_zero hl
    rfl
  | succ n ih =>
    intro l hl hp r
    have hne : l ≠ [] := by rintro rfl; simp at hl
    rw [← List.dropLast_concat_getLast hne] at hl hp ⊢
    generalize l.dropLast = a at *
    generalize l.getLast hne = b at *
    rw [List.length_append, List.length_singleton] at hl ⊢
    unfold dK
    have h1 := ih a (by omega) (fun x hx => hp x (by simp [hx])) (enc b ++ r)
    have e : (a ++ [b]).flatMap enc ++ r = a.flatMap enc ++ (enc b ++ r) := by simp
    rw [e, h1, Option.bind_some]
    simp only
    rw [hd b r (hp b (by simp)), Option.bind_some]

/-- A list's bytes. -/
def encL {α : Type} (enc : α → List UInt8) (l : List α) : List UInt8 := num l.length ++ l.flatMap enc
theorem dList_inv {α : Type} {d : St → Option (α × St)} {enc : α → List UInt8} {P : α → Prop} (hd : ∀ st x r, d st = some (x, some r) → st = some (enc x ++ r) ∧ P x) {most : Int} {st : St} {l : List α} {r : List UInt8} (h : dList d most st = some (l, some r)) : st = some (encL enc l ++ r) ∧ (∀ x ∈ l, P x) ∧ inR 0 most l.length = true := by
  unfold dList at h
  simp only [Option.bind_eq_some_iff, Prod.exists] at h
  obtain ⟨n, s1, h1, h2⟩ := h
  obtain ⟨e2, o2⟩ := dK_inv hd h2
  have hl := dK_len h2
  rw [e2] at h1
  obtain ⟨e1, o1⟩ := dNum_inv h1
  have hn : ((l.length : Nat) : Int) = n := by have := (inR_iff.1 o1).1; omega
  refine ⟨?_, o2, by rw [hn]; exact o1⟩
  rw [e1]
  unfold encL
  rw [hn, List.append_assoc]
theorem dList_app {α : Type} {d : St → Option (α × St)} {enc : α → List UInt8} {P : α → Prop} (hd : ∀ x r, P x → d (some (enc x ++ r)) = some (x, some r)) {most : Int} {l : List α} (hl : inR 0 most l.length = true) (h64 : (l.length : Int) ≤ 9223372036854775807) (hp : ∀ x ∈ l, P x) (r : List UInt8) : dList d most (some (encL enc l ++ r)) = some (l, some r) := by
  unfold dList encL
  rw [List.append_assoc, dNum_app (by omega) h64 hl, Option.bind_some]
  simp only [Int.toNat_natCast]
  exact dK_app hd l.length l rfl hp r

/-- An element's right and bytes, by place. -/
def okAt {α : Type} (p : α → Bool) (l : List α) (i : Nat) : Bool := ((l[i]?).map p).getD true
def bsAt {α : Type} (f : α → List UInt8) (l : List α) (i : Nat) : List UInt8 := ((l[i]?).map f).getD []
theorem jn_list {α : Type} (f : α → List UInt8) (l : List α) : ∀ k, k ≤ l.length → jn (bsAt f l) k = (l.take k).flatMap f
  | 0, _ => by simp [jn]
  | k + 1, h => by
    unfold jn
    rw [jn_list f l k (by omega), List.take_succ_eq_append_getElem (by omega), List.flatMap_append]
    simp [bsAt, List.getElem?_eq_getElem (show k < l.length by omega)]
theorem allB_list {α : Type} (p : α → Bool) (l : List α) : ∀ k, k ≤ l.length → allB (okAt p l) k = (l.take k).all p
  | 0, _ => by simp [allB]
  | k + 1, h => by
    unfold allB
    rw [allB_list p l k (by omega), List.take_succ_eq_append_getElem (by omega), List.all_append]
    simp [okAt, List.getElem?_eq_getElem (show k < l.length by omega)]
theorem jn_all {α : Type} (f : α → List UInt8) (l : List α) : jn (bsAt f l) l.length = l.flatMap f := by rw [jn_list f l _ (Nat.le_refl _), List.take_length]
theorem allB_all {α : Type} (p : α → Bool) (l : List α) : allB (okAt p l) l.length = l.all p := by rw [allB_list p l _ (Nat.le_refl _), List.take_length]

/-! ### Validators -/
structure Va where
  key : Nat
  power : Int
  deriving DecidableEq
structure Va.Ok (x : Va) : Prop where
  key : x.key < 18446744073709551616
  power : I64 x.power
def Va.cells (x : Va) : List Value := [.int .u64 (x.key : Int), .int .i64 x.power]
def Va.right (x : Va) : Bool := inR (-9223372036854775808) 9223372036854775807 x.power
theorem Va.right_ok {x : Va} (ox : x.Ok) : x.right = true := inR_iff.2 ⟨ox.power.l, ox.power.h⟩
def Va.enc (x : Va) : List UInt8 := be 8 x.key ++ num x.power
def dVa (st : St) : Option (Va × St) := (dNum (-9223372036854775808) 9223372036854775807 (nW st)).bind fun p => some (⟨vW st, p.1⟩, p.2)
theorem dVa_inv (st : St) (x : Va) (r : List UInt8) (h : dVa st = some (x, some r)) : st = some (x.enc ++ r) ∧ x.Ok := by
  have hw := vW_lt st
  unfold dVa at h
  simp only [Option.bind_eq_some_iff, Option.some.injEq, Prod.mk.injEq, Prod.exists] at h
  obtain ⟨p, s1, h1, rfl, rfl⟩ := h
  obtain ⟨e1, o1⟩ := dNum_inv h1
  have e2 := nW_inv e1
  refine ⟨?_, hw, (inR_iff.1 o1).1, (inR_iff.1 o1).2⟩
  rw [e2]
  simp [Va.enc]
  rw [← e2]
theorem dVa_app (x : Va) (r : List UInt8) (ox : x.Ok) : dVa (some (x.enc ++ r)) = some (x, some r) := by
  unfold dVa Va.enc
  rw [List.append_assoc, (vW_app x.key ox.key _).1, (vW_app x.key ox.key _).2, dNum_app ox.power.l ox.power.h (Va.right_ok ox), Option.bind_some]
/-- A set's bytes; is it right? -/
def setEnc (l : List Va) : List UInt8 := num 3 ++ encL Va.enc l
def setRight (l : List Va) : Bool := inR 0 64 l.length
def dSet (st : St) : Option (List Va × St) := (dBegin 3 st).bind fun s => dList dVa 64 s
theorem dSet_inv {st : St} {l : List Va} {r : List UInt8} (h : dSet st = some (l, some r)) : st = some (setEnc l ++ r) ∧ setRight l = true ∧ ∀ x ∈ l, x.Ok := by
  unfold dSet at h
  simp only [Option.bind_eq_some_iff] at h
  obtain ⟨s1, h1, h2⟩ := h
  obtain ⟨e2, o2, o3⟩ := dList_inv dVa_inv h2
  rw [e2] at h1
  have e1 := dBegin_inv h1
  exact ⟨by rw [e1]; simp [setEnc], o3, o2⟩
theorem dSet_app {l : List Va} (h : setRight l = true) (ol : ∀ x ∈ l, x.Ok) (r : List UInt8) : dSet (some (setEnc l ++ r)) = some (l, some r) := by
  unfold dSet setEnc
  have := (inR_iff.1 h).2
  rw [List.append_assoc, dBegin_app (by omega) (by omega), Option.bind_some]
  exact dList_app dVa_app h (by omega) ol r

/-! ### Commits -/
structure Se where
  key : Nat
  r : Nat
  s : Nat
  deriving DecidableEq
structure Se.Ok (x : Se) : Prop where
  key : x.key < 18446744073709551616
  r : x.r < 18446744073709551616
  s : x.s < 18446744073709551616
def Se.cells (x : Se) : List Value := [.int .u64 (x.key : Int), .int .u64 (x.r : Int), .int .u64 (x.s : Int)]
def Se.right (_ : Se) : Bool := true
def Se.enc (x : Se) : List UInt8 := be 8 x.key ++ (be 8 x.r ++ be 8 x.s)
def dSe (st : St) : Option (Se × St) := some (⟨vW st, vW (nW st), vW (nW (nW st))⟩, nW (nW (nW st)))
theorem dSe_inv (st : St) (x : Se) (r : List UInt8) (h : dSe st = some (x, some r)) : st = some (x.enc ++ r) ∧ x.Ok := by
  unfold dSe at h
  simp only [Option.some.injEq, Prod.mk.injEq] at h
  obtain ⟨rfl, h1⟩ := h
  have e1 := nW_inv h1
  have e2 := nW_inv e1
  have e3 := nW_inv e2
  refine ⟨?_, vW_lt _, vW_lt _, vW_lt _⟩
  conv => lhs; rw [e3]
  simp only [Se.enc, List.append_assoc]
theorem dSe_app (x : Se) (r : List UInt8) (ox : x.Ok) : dSe (some (x.enc ++ r)) = some (x, some r) := by
  unfold dSe Se.enc
  simp only [List.append_assoc]
  rw [(vW_app x.key ox.key _).1, (vW_app x.key ox.key _).2, (vW_app x.r ox.r _).1, (vW_app x.r ox.r _).2, (vW_app x.s ox.s _).1, (vW_app x.s ox.s _).2]
structure Cm where
  height : Int
  round : Int
  block : List UInt8
  seals : List Se
  deriving DecidableEq
structure Cm.Ok (x : Cm) : Prop where
  height : I64 x.height
  round : I64 x.round
  block : x.block.length = 32
  seals : ∀ y ∈ x.seals, y.Ok
def Cm.cells (x : Cm) (s : Value) : List Value := [.int .i64 x.height, .int .i64 x.round] ++ (bv x.block ++ [s])
def Cm.right (x : Cm) : Bool := inR 1 1099511627776 x.height && (inR 0 1048576 x.round && inR 0 64 x.seals.length)
def Cm.enc (x : Cm) : List UInt8 := num 4 ++ (num x.height ++ (num x.round ++ (x.block ++ encL Se.enc x.seals)))
def dCommit (st : St) : Option (Cm × St) :=
  (dBegin 4 st).bind fun s1 => (dNum 1 1099511627776 s1).bind fun h => (dNum 0 1048576 h.2).bind fun r => (dList dSe 64 (nH r.2)).bind fun l => some (⟨h.1, r.1, vH r.2, l.1⟩, l.2)
theorem dCommit_inv {st : St} {x : Cm} {r : List UInt8} (h : dCommit st = some (x, some r)) : st = some (x.enc ++ r) ∧ x.right = true ∧ x.Ok := by
  unfold dCommit at h
  simp only [Option.bind_eq_some_iff, Option.some.injEq, Prod.mk.injEq, Prod.exists] at h
  obtain ⟨s1, h1, ht, s2, h2, rd, s3, h3, l, s4, h4, rfl, rfl⟩ := h
  obtain ⟨e4, o4, o5⟩ := dList_inv dSe_inv h4
  have e3 := nH_inv e4
  have hb := vH_length s3
  generalize hbb : vH s3 = bb at *
  rw [e3] at h3
  obtain ⟨e2, o2⟩ := dNum_inv h3
  rw [e2] at h2
  obtain ⟨e1, o1⟩ := dNum_inv h2
  rw [e1] at h1
  have e0 := dBegin_inv h1
  refine ⟨?_, by simp [Cm.right, o1, o2, o5], i64_in o1 (by omega) (by omega), i64_in o2 (by omega) (by omega), hb, o4⟩
  rw [e0]
  simp only [Cm.enc, List.append_assoc]
theorem dCommit_app {x : Cm} (ox : x.Ok) (h : x.right = true) (r : List UInt8) : dCommit (some (x.enc ++ r)) = some (x, some r) := by
  unfold Cm.right at h
  simp only [Bool.and_eq_true] at h
  obtain ⟨o1, o2, o3⟩ := h
  unfold dCommit Cm.enc
  have h64 := (inR_iff.1 o3).2
  simp only [List.append_assoc]
  rw [dBegin_app (by omega) (by omega), Option.bind_some, dNum_app ox.height.l ox.height.h o1, Option.bind_some]
  simp only
  rw [dNum_app ox.round.l ox.round.h o2, Option.bind_some]
  simp only
  rw [(vH_app x.block ox.block _).1, (vH_app x.block ox.block _).2, dList_app dSe_app o3 (by omega) ox.seals, Option.bind_some]

/-! ### Light blocks -/
structure Lt where
  header : Hd
  commit : Cm
  set : List Va
  next : List Va
structure Lt.Ok (x : Lt) : Prop where
  header : x.header.Ok
  commit : x.commit.Ok
  set : ∀ y ∈ x.set, y.Ok
  next : ∀ y ∈ x.next, y.Ok
def Lt.cells (x : Lt) (a b c : Value) : List Value := x.header.cells ++ (x.commit.cells a ++ [b, c])
def Lt.right (x : Lt) : Bool := x.header.right && (x.commit.right && (setRight x.set && setRight x.next))
def Lt.enc (x : Lt) : List UInt8 := num 5 ++ (x.header.enc ++ (x.commit.enc ++ (setEnc x.set ++ setEnc x.next)))
def dLight (st : St) : Option (Lt × St) :=
  (dBegin 5 st).bind fun s1 => (dHeader s1).bind fun h => (dCommit h.2).bind fun c => (dSet c.2).bind fun s => (dSet s.2).bind fun n => some (⟨h.1, c.1, s.1, n.1⟩, n.2)
theorem dLight_app {x : Lt} (ox : x.Ok) (h : x.right = true) (r : List UInt8) : dLight (some (x.enc ++ r)) = some (x, some r) := by
  unfold Lt.right at h
  simp only [Bool.and_eq_true] at h
  obtain ⟨o1, o2, o3, o4⟩ := h
  unfold dLight Lt.enc
  simp only [List.append_assoc]
  rw [dBegin_app (by omega) (by omega), Option.bind_some, dHeader_app ox.header o1, Option.bind_some]
  simp only
  rw [dCommit_app ox.commit o2, Option.bind_some]
  simp only
  rw [dSet_app o3 ox.set, Option.bind_some]
  simp only
  rw [dSet_app o4 ox.next, Option.bind_some]
end Go.Proofs.Ytinbjbfgfknpaaa

/- Package forms: words for lists, read. -/
namespace Go.Proofs.Ytinbjbfgfknpaaa
open Go.RowKit
set_option linter.unusedVariables false
set_option linter.unusedSimpArgs false
set_option maxRecDepth 20000

/-- What the reading of a list leaves: a slice of new memory, in which its elements lie; or the panic. -/
def RLO {α : Type} (w : World) (g : Nat) (F : Nat → Prop) (tb : Nat) (t : TypeId) (n : Nat) (p q : List Value) (et : TypeId) (cells : α → List Value) (r : Option (List α × St)) (e : Ending) (w' : World) : Prop :=
  match r with
  | some x => e = .returned (.tuple #[]) ∧ ∃ nb, w.heap.size ≤ nb ∧ Rst w g F tb t (p ++ .slice (some ⟨nb, 0, none⟩) x.1.length x.1.length :: q) x.2 w' ∧ Hb w' nb et (x.1.flatMap cells).toArray
  | none => e = .panicked bad ∧ Chg (Two g tb) w w' ∧ ∃ L' : List Value, L'.length = n ∧ Hb w' tb t L'.toArray
theorem dK_none {α : Type} {d : St → Option (α × St)} {st : St} {k n : Nat} (h : k ≤ n) (hk : dK d st k = none) : dK d st n = none := by
  induction n with
  | zero =>
    obtain rfl : k = 0 := by omega
    exact hk
  | succ n ih =>
    by_cases e : k = n + 1
    · subst e; exact hk
    · unfold dK
      rw [ih (by omega)]
      rfl
theorem dK_flat {α : Type} {d : St → Option (α × St)} {cells : α → List Value} {sz : Nat} (hc : ∀ st x s, d st = some (x, s) → (cells x).length = sz) {st : St} : ∀ {k : Nat} {l : List α} {s : St}, dK d st k = some (l, s) → (l.flatMap cells).length = k * sz
  | 0, l, s, h => by
    simp only [dK, Option.some.injEq, Prod.mk.injEq] at h
    rw [← h.1]; simp
  | k + 1, l, s, h => by
    simp only [dK, Option.bind_eq_some_iff, Option.some.injEq, Prod.mk.injEq, Prod.exists] at h
    obtain ⟨a, s1, h1, b, s2, h2, rfl, rfl⟩ := h
    rw [List.flatMap_append, List.length_append, dK_flat hc h1]
    simp [hc _ _ _ h2, Nat.succ_mul]
end Go.Proofs.Ytinbjbfgfknpaaa

/- Package forms: validators, and lists of them, read. -/
namespace Go.Proofs.Ytinbjbfgfknpaaa
open Go.RowKit
set_option linter.unusedVariables false
set_option linter.unusedSimpArgs false
set_option maxRecDepth 20000
theorem validator_r_old {old : List Value} (h : old.length = 2) : ∃ (a0 : Value) (a1 : Value), old = [a0] ++ [a1] ∧ True := by
  refine ⟨(old[0]'(by omega)), (old[1]'(by omega)), ?_, trivial⟩
  apply List.ext_getElem?
  intro j
  have hone : ∀ (i : Nat) (hi : i < old.length), [old[i]] = (old.drop i).take 1 := by
    intro i hi
    apply List.ext_getElem?
    intro k
    rw [List.getElem?_take, List.getElem?_drop]
    by_cases hk : k < 1
    · obtain rfl : k = 0 := by omega
      simp [List.getElem?_eq_getElem hi]
    · rw [if_neg hk, List.getElem?_eq_none (by simp; omega)]
  simp only [hone]
  have hj : ∀ (a b c : Nat), a + b = c → (old.drop a).take b ++ old.drop c = old.drop a := by
    intro a b c e
    subst e
    rw [← List.drop_drop, List.take_append_drop]
  have he : old.drop 2 = [] := List.drop_of_length_le (by omega)
  have hall : (old.drop 0).take 1 ++ ((old.drop 1).take 1 ++ old.drop 2) = old := by
    rw [hj 1 1 2 rfl, hj 0 1 1 rfl]
    rfl
  rw [he, List.append_nil] at hall
  conv => lhs; rw [← hall]
  try simp only [List.append_assoc]

set_option maxHeartbeats 1600000 in
theorem validator_r (w : World) (g : Nat) (F : Nat → Prop) (tb o : Nat) (t : TypeId) (p q old : List Value) (st : St) (S : Rst w g F tb t (p ++ (old ++ q)) st w) (ho : o = p.length) (hold : old.length = 2) :
    Calls Try.prog 70 #[.agg #[.pointer none, .pointer (some ⟨g, 0, none⟩)], .pointer (some ⟨tb, o, none⟩)] w (RO w g F tb t (p ++ (old ++ q)).length ((dVa st).map fun y => (p ++ (y.1.cells ++ q), y.2))) := by
  obtain ⟨a0, a1, rfl, _⟩ := validator_r_old hold
  generalize hn : (p ++ (_ ++ q)).length = n
  generalize hr : (dVa st).map _ = r
  have HR := Lib.hid hr
  have HN := Lib.hid hn
  have HO := Lib.hid ho
  clear hr hn ho hold
  have S0 := S.non ((Chg.refl Non w).alloc (.cells #[.pointer none, .pointer (some ⟨g, 0, none⟩)] 88))
  have hw := S.nw (Nat.le_refl w.heap.size)
  have hx := Hb.new w 88 #[.pointer none, .pointer (some ⟨g, 0, none⟩)]
  have hx0 : (w.alloc (.cells #[.pointer none, .pointer (some ⟨g, 0, none⟩)] 88)).cell? ⟨w.heap.size, 0, none⟩ = some (.pointer none) := hx.cell 0
  have hx1 : (w.alloc (.cells #[.pointer none, .pointer (some ⟨g, 0, none⟩)] 88)).cell? ⟨w.heap.size, 1, none⟩ = some (.pointer (some ⟨g, 0, none⟩)) := hx.cell 1
  have S1 := S0.here
  obtain ⟨B, hB⟩ : ∃ B, B = w.alloc (.cells #[.pointer none, .pointer (some ⟨g, 0, none⟩)] 88) := ⟨_, rfl⟩
  clear hx S
  go_enter Try.func70, Try.ntmps70
  go_wp2_with fail
  rw [← hB] at S0 hx0 hx1 S1 ⊢
  clear hB
  have D2 := S1.non ((Chg.refl Non B).drew)
  have x0 := D2.chg.cell hx0 hw
  have x1 := D2.chg.cell hx1 hw
  go_region_held (fun w' => w'.cell? ⟨w.heap.size, 0, none⟩ = some (.pointer none) ∧ w'.cell? ⟨w.heap.size, 1, none⟩ = some (.pointer (some ⟨g, 0, none⟩))) (first | exact ⟨y0, y1⟩ | exact ⟨x0, x1⟩ | assumption) (first | (go_at_call 41; go_loud (refine (word_r _ g F tb o t (p) (a1 :: q) a0 st (D2.here.eq (by simp)) HO.out).mono ?_; rintro e w2 h2; have y0 := h2.chg.cell x0 hw; have y1 := h2.chg.cell x1 hw; obtain ⟨rfl, T2⟩ := h2)) | fail)
  have S2 := D2.trans T2
  clear D2 T2 x0 x1 y0 y1
  go_wp2_with fail
  have D3 := S2.non ((Chg.refl Non w2).drew)
  have x0 := D3.chg.cell hx0 hw
  have x1 := D3.chg.cell hx1 hw
  go_region_held (fun w' => w'.cell? ⟨w.heap.size, 0, none⟩ = some (.pointer none) ∧ w'.cell? ⟨w.heap.size, 1, none⟩ = some (.pointer (some ⟨g, 0, none⟩))) (first | exact ⟨y0, y1⟩ | exact ⟨x0, x1⟩ | assumption) (first | (go_at_call 47; go_loud (refine (number_r _ g F tb (o + 1) t (p ++ (.int .u64 (vW st : Int) :: [])) (q) a1 (nW st) (D3.here.eq (by simp)) (by rw [HO.out]; simp [bv_length, vH_length]) (-9223372036854775808) 9223372036854775807).mono ?_; rintro e w3 h3; have y0 := h3.chg.cell x0 hw; have y1 := h3.chg.cell x1 hw; rcases h3.cases with ⟨k, he, C, L', hL1, hL2⟩ | ⟨y, k, he, T3⟩; (subst he; obtain rfl : r = none := HR.out.symm.trans (by (simp only [Option.map_eq_none_iff] at k) <;> simp [dVa, k]); exact ⟨rfl, rfl, (S0.chg.trans (D3.chg.trans C (fun _ h => .inl h)) (fun _ h => .inl h)), L', by (rw [hL1, ← HN.out]) <;> simp [bv_length, vH_length], hL2⟩); subst he; obtain ⟨z3, k3, rfl⟩ := Option.map_eq_some_iff.1 k; clear k)) | fail)
  have S3 := D3.trans T3
  clear D3 T3 x0 x1 y0 y1
  clear h3
  obtain rfl : r = some (_, z3.2) := HR.out.symm.trans (by simp only [dVa, k3, Option.bind_some, Option.map_some]; rfl)
  go_wp2
  go_end0
  refine ⟨rfl, (S0.trans S3).eq ?_⟩
  simp [Va.cells]


theorem makeValidator (n : Nat) (hn : n ≤ 4096) : ∃ L0 : List Value, L0.length = n * 2 ∧ ∀ w : World, (Instr.makeSlice 46 (.int .i64 (n : Int)) (.int .i64 (n : Int))).run Try.prog w = .ok (.slice (some ⟨w.heap.size, 0, none⟩) n n) (w.alloc (.cells L0.toArray 137)) := by
  have hinfo : (Try.prog.info? 137).map (fun i => (i.zero.isSome, i.size, i.bytes)) = some (true, 2, 16) := by kernel_rfl
  cases hq : Try.prog.info? 137 with
  | none => rw [hq] at hinfo; cases hinfo
  | some i =>
    rw [hq] at hinfo
    simp only [Option.map_some, Option.some.injEq, Prod.mk.injEq] at hinfo
    obtain ⟨hz, hs, hb⟩ := hinfo
    obtain ⟨z, hz⟩ := Option.isSome_iff_exists.1 hz
    refine ⟨(madeCells z.cells (n * 2)).toList, by rw [Array.length_toList, size_madeCells], fun w => ?_⟩
    have h := run_make (P := Try.prog) w 46 137 i z Try.underlying46 hq hz .i64 .i64 (n : Int) (n : Int) (by omega) (by omega) (by rw [hb]; omega) (by omega)
    rw [h, hs, Int.toNat_natCast, Array.toArray_toList]

set_option maxHeartbeats 1600000 in
theorem listValidator_r (w : World) (g : Nat) (F : Nat → Prop) (tb o : Nat) (t : TypeId) (p q : List Value) (A0 : Option Addr) (n0 c0 : Nat) (st : St) (S : Rst w g F tb t (p ++ .slice A0 n0 c0 :: q) st w) (ho : o = p.length) (hn0 : n0 ≤ maxLen) (most : Nat) (hmost : most ≤ 4096) :
    Calls Try.prog 69 #[.agg #[.pointer none, .pointer (some ⟨g, 0, none⟩)], .pointer (some ⟨tb, o, none⟩), .int .i64 (most : Int), .func (.func 70) #[] #[]] w (RLO w g F tb t (p ++ .slice A0 n0 c0 :: q).length p q 137 Va.cells (dList dVa most st)) := by
  unfold maxLen at hn0
  have hC := ((Chg.refl Non w).alloc (.cells #[.pointer none, .pointer (some ⟨g, 0, none⟩)] 88)).alloc (.cells #[.int .i64 (n0 : Int)] 3)
  have S0 := S.non hC
  obtain ⟨k0, _⟩ := S.cell ho
  have hw := S.nw (Nat.le_refl w.heap.size)
  have hx0 := ((Hb.new w 88 #[.pointer none, .pointer (some ⟨g, 0, none⟩)]).alloc (.cells #[.int .i64 (n0 : Int)] 3)).cell 0
  have hx1 := ((Hb.new w 88 #[.pointer none, .pointer (some ⟨g, 0, none⟩)]).alloc (.cells #[.int .i64 (n0 : Int)] 3)).cell 1
  have hn : Hb ((w.alloc (.cells #[.pointer none, .pointer (some ⟨g, 0, none⟩)] 88)).alloc (.cells #[.int .i64 (n0 : Int)] 3)) (w.heap.size + 1) 3 #[.int .i64 (n0 : Int)] := by
    have := Hb.new (w.alloc (.cells #[.pointer none, .pointer (some ⟨g, 0, none⟩)] 88)) 3 #[.int .i64 (n0 : Int)]
    rwa [show (w.alloc (.cells #[.pointer none, .pointer (some ⟨g, 0, none⟩)] 88)).heap.size = w.heap.size + 1 by simp] at this
  have hg := S.rdr.lt
  have ht := S.row.lt
  have SN : Rst _ g F (w.heap.size + 1) 3 ([] ++ .int .i64 (n0 : Int) :: []) st _ := ⟨S0.rdr, hn, Chg.refl _ _, by omega, fun hf => by have := S.rdr.Flt _ hf; omega⟩
  have H := number_r _ g F (w.heap.size + 1) 0 3 [] [] (.int .i64 (n0 : Int)) st SN rfl 0 most
  have hBs : ((w.alloc (.cells #[.pointer none, .pointer (some ⟨g, 0, none⟩)] 88)).alloc (.cells #[.int .i64 (n0 : Int)] 3)).heap.size = w.heap.size + 2 := by simp
  have HH := Lib.hid H
  have HO := Lib.hid ho
  obtain ⟨N, hN⟩ : ∃ N, N = (p ++ Value.slice A0 n0 c0 :: q).length := ⟨_, rfl⟩
  rw [← hN]
  have HN := Lib.hid hN
  generalize hr : dList dVa most st = r
  have HR := Lib.hid hr
  clear H ho SN hn hr hN
  go_enter Try.func69, Try.ntmps69
  go_wp2_with fail
  obtain ⟨B, hB⟩ : ∃ B, B = (w.alloc (.cells #[.pointer none, .pointer (some ⟨g, 0, none⟩)] 88)).alloc (.cells #[.int .i64 (n0 : Int)] 3) := ⟨_, rfl⟩
  rw [← hB] at S0 hx0 hx1 HH hBs hC ⊢
  clear hB
  refine HH.out.mono ?_
  rintro e w2 h2
  clear HH
  have hnt : ¬ Two g (w.heap.size + 1) tb := by rintro (h | h); exact S.ne h; omega
  have hrow2 := S0.row.chg h2.chg hnt
  have hC2 : Chg (Two g tb) w w2 := (hC.mono (S' := Two g tb) (fun _ f => f.elim)).trans h2.chg (fun j hj => by rcases hj with rfl | rfl; exact .inl (.inl rfl); exact .inr (by omega))
  rcases h2.cases with ⟨k, he, _⟩ | ⟨y, k, he, T⟩
  · subst he
    simp only [Option.map_eq_none_iff] at k
    obtain rfl : r = none := HR.out.symm.trans (by unfold dList; rw [k]; rfl)
    go_wp2
    exact ⟨rfl, rfl, hC2, _, HN.out.symm, hrow2⟩
  · subst he
    obtain ⟨z, kz, rfl⟩ := Option.map_eq_some_iff.1 k
    obtain ⟨m, s2⟩ := z
    have hm : inR 0 most m = true ∧ m = vN st := by
      unfold dNum at kz
      split at kz
      · rename_i h; simp only [Option.some.injEq, Prod.mk.injEq] at kz; rw [← kz.1]; exact ⟨h, rfl⟩
      · cases kz
    have hm1 := inR_iff.1 hm.1
    obtain ⟨mn, rfl⟩ : ∃ mn : Nat, m = (mn : Int) := ⟨m.toNat, by omega⟩
    have hmn : mn ≤ 4096 := by omega
    have hRL : r = dK dVa s2 mn := HR.out.symm.trans (by unfold dList; rw [kz, Option.bind_some]; simp)
    have HRL := Lib.hid hRL
    obtain ⟨L0, hL0, HM⟩ := makeValidator mn hmn
    have T' : Rst B g F (w.heap.size + 1) 3 ([] ++ .int .i64 (mn : Int) :: []) s2 w2 := T
    have cn := (T'.cell (o := 0) rfl).1
    have hnx : ¬ Two g (w.heap.size + 1) w.heap.size := by rintro (h | h) <;> omega
    have x0 := T'.chg.cell hx0 hnx
    have x1 := T'.chg.cell hx1 hnx
    have S2 : Rst w g F tb t (p ++ .slice A0 n0 c0 :: q) s2 w2 := ⟨T'.rdr, hrow2, hC2, S.ne, S.nF⟩
    clear hRL h2 kz k T hm hm1 hx0 hx1 S0 hC hrow2 HR
    go_wp2_with fail
    refine (writes_r _ g).mono ?_
    rintro e w3 ⟨rfl, hC3⟩
    have S3 := S2.non hC3
    have cn3 := hC3.cell cn (fun f => f)
    have x03 := hC3.cell x0 (fun f => f)
    have x13 := hC3.cell x1 (fun f => f)
    have HM3 := HM w3
    have S4 := S3.non ((Chg.refl Non w3).alloc (.cells L0.toArray 137))
    have hs3 : w.heap.size + 2 ≤ w3.heap.size := by have := T'.chg.size; have := hC3.size; omega
    obtain ⟨c4, f4⟩ := S4.cell HO.out
    have S5' := S3.set HO.out (.slice (some ⟨w3.heap.size, 0, none⟩) mn mn)
    have hss : (w3.setCell ⟨tb, o, none⟩ (.slice (some ⟨w3.heap.size, 0, none⟩) mn mn)).heap.size = w3.heap.size := by simp [World.setCell]
    have S5B := S5'.non ((Chg.refl Non _).alloc (.cells L0.toArray 137))
    obtain ⟨c5, _⟩ := S5B.cell HO.out
    have S5 := S4.set HO.out (.slice (some ⟨w3.heap.size, 0, none⟩) mn mn)
    have hb5 := (Hb.new w3 137 L0.toArray).far (p := ⟨tb, o, none⟩) (show w3.heap.size ≠ tb by omega) (.slice (some ⟨w3.heap.size, 0, none⟩) mn mn)
    have kk := ((Chg.refl (fun j => j = tb) w3).alloc (.cells L0.toArray 137)).setCell (p := ⟨tb, o, none⟩) (.inl rfl) (.slice (some ⟨w3.heap.size, 0, none⟩) mn mn)
    have x05 := kk.cell x03 (show ¬ w.heap.size = tb by omega)
    have x15 := kk.cell x13 (show ¬ w.heap.size = tb by omega)
    clear cn x0 x1 S2 S3 HM S4 S5' S5B kk
    have hFn : ∀ j, F j → j < w.heap.size := S.rdr.Flt
    have HFN := Lib.hid hFn
    have hcl : ∀ (st : St) (x : _) (s : St), dVa st = some (x, s) → (Va.cells x).length = 2 := fun _ _ _ h => rfl
    clear hFn
    go_wp2_with fail
    clear x03 x13 cn3 c4 f4
    go_loopw [9, 28] (fun x i wr => ∃ (k : Nat) (lk : List _) (sk : St) (rest : List Value), k ≤ mn ∧ i = .int .i64 (k : Int) ∧ dK dVa s2 k = some (lk, sk) ∧ rest.length = (mn - k) * 2 ∧ Rst w g F tb t (p ++ .slice (some ⟨w3.heap.size, 0, none⟩) mn mn :: q) sk wr ∧ Hb wr w3.heap.size 137 (lk.flatMap Va.cells ++ rest).toArray ∧ wr.cell? ⟨w.heap.size, 0, none⟩ = some (.pointer none) ∧ wr.cell? ⟨w.heap.size, 1, none⟩ = some (.pointer (some ⟨g, 0, none⟩))) (fun _ i _ => mn - (intOf i).toNat)
    case atStart => exact ⟨0, [], s2, L0, by omega, rfl, rfl, by rw [hL0, Nat.sub_zero], S5, by simpa using hb5, x05, x15⟩
    case round =>
      obtain ⟨k, lk, sk, rest, hk, rfl, hd, hrest, SK, hbk, a0, a1⟩ := hrel
      obtain ⟨a2, _⟩ := SK.cell HO.out
      have HSK := Lib.hid SK
      by_cases hlt : k < mn
      · have hro : rest = rest.take 2 ++ rest.drop 2 := (List.take_append_drop _ _).symm
        have hrl : (rest.take 2).length = 2 := by rw [List.length_take, hrest]; have : 1 * 2 ≤ (mn - k) * 2 := Nat.mul_le_mul_right _ (by omega); omega
        have hrl2 : (rest.drop 2).length = (mn - (k + 1)) * 2 := by
          have e : mn - k = (mn - (k + 1)) + 1 := by omega
          rw [List.length_drop, hrest, e, Nat.succ_mul]
          omega
        rw [hro] at hbk
        generalize rest.take 2 = old at *
        generalize rest.drop 2 = rest' at *
        have hfl := dK_flat hcl hd
        have hnb := hbk.lt
        have SE : Rst wr.drew g F w3.heap.size 137 (lk.flatMap Va.cells ++ (old ++ rest')) sk wr.drew := ⟨(SK.non ((Chg.refl Non wr).drew)).rdr, hbk.chg ((Chg.refl Non wr).drew) (fun f => f), Chg.refl _ _, by omega, fun hf => by have := HFN.out _ hf; omega⟩
        have HE := validator_r wr.drew g F w3.heap.size (k * 2) 137 (lk.flatMap Va.cells) rest' old sk SE hfl.symm hrl
        have HEE := Lib.hid HE
        have e0 := ((Chg.refl Non wr).drew).cell a0 (fun f => f)
        have e1 := ((Chg.refl Non wr).drew).cell a1 (fun f => f)
        have e2 := ((Chg.refl Non wr).drew).cell a2 (fun f => f)
        have n1 : ¬ Two g w3.heap.size w.heap.size := by rintro (h | h) <;> omega
        have n2 : ¬ Two g w3.heap.size tb := by rintro (h | h); exact SK.ne h; omega
        have hki : (k : Int) < (mn : Int) := by omega
        have hdn : dK dVa s2 (k + 1) = (dVa sk).bind fun y => some (lk ++ [y.1], y.2) := by
          have e : dK dVa s2 (k + 1) = (dK dVa s2 k).bind fun x => (dVa x.2).bind fun y => some (x.1 ++ [y.1], y.2) := rfl
          rw [e, hd, Option.bind_some]
        have HDN := Lib.hid hdn
        have HD := Lib.hid hd
        have HRE := Lib.hid hrl2
        clear SE HE hro hrl hrest hfl hdn hd hrl2 SK hbk a0 a1 a2
        go_wp2_with fail
        go_region_held (fun w' => w'.cell? ⟨w.heap.size, 0, none⟩ = some (.pointer none) ∧ w'.cell? ⟨w.heap.size, 1, none⟩ = some (.pointer (some ⟨g, 0, none⟩)) ∧ w'.cell? ⟨tb, o, none⟩ = some (.slice (some ⟨w3.heap.size, 0, none⟩) mn mn)) (first | exact ⟨f0, f1, f2⟩ | exact ⟨e0, e1, e2⟩ | assumption) (first | (go_at_call 70; go_loud (refine HEE.out.mono ?_; rintro e wz hz; have f0 := hz.chg.cell e0 n1; have f1 := hz.chg.cell e1 n1; have f2 := hz.chg.cell e2 n2; rcases hz.cases with ⟨kn, he, C, _⟩ | ⟨y, ky, he, TZ⟩; (subst he; simp only [Option.map_eq_none_iff] at kn; obtain rfl : r = none := HRL.out.trans (dK_none (k := k + 1) (by omega) (by rw [HDN.out, kn]; rfl)); exact ⟨rfl, rfl, HSK.out.chg.trans (((Chg.refl Non wr).drew.mono (S' := Two g w3.heap.size) (fun _ f => f.elim)).trans C (fun _ h => .inl h)) (fun j hj => by rcases hj with rfl | rfl; exact .inl (.inl rfl); exact .inr (by omega)), _, HN.out.symm ▸ (by simp), (HSK.out.non ((Chg.refl Non wr).drew)).row.chg C n2⟩); subst he; obtain ⟨z, kz, rfl⟩ := Option.map_eq_some_iff.1 ky; clear ky)) | fail)
        have hz2 : dK dVa s2 (k + 1) = some (lk ++ [z.1], z.2) := by rw [HDN.out, kz]; rfl
        have T1 : Rst w g F tb t (p ++ .slice (some ⟨w3.heap.size, 0, none⟩) mn mn :: q) z.2 wz := by
          have b1 := HSK.out.non ((Chg.refl Non wr).drew)
          exact ⟨TZ.rdr, b1.row.chg TZ.chg n2, b1.chg.trans TZ.chg (fun j hj => by rcases hj with rfl | rfl; exact .inl (.inl rfl); exact .inr (by omega)), b1.ne, b1.nF⟩
        have T2 : Hb wz w3.heap.size 137 ((lk ++ [z.1]).flatMap Va.cells ++ rest').toArray := by
          have := TZ.row
          simpa [List.append_assoc] using this
        clear hz HEE TZ kz
        go_wp2_with fail
        go_roundw
        case rel => exact ⟨k + 1, _, _, rest', by omega, by go_num, hz2, HRE.out, T1, T2, f0, f1⟩
        case measure => simp [intOf]; omega
      · obtain rfl : k = mn := by omega
        have hln := dK_len hd
        obtain rfl : rest = [] := List.eq_nil_of_length_eq_zero (by rw [hrest, Nat.sub_self, Nat.zero_mul])
        obtain rfl : r = some (lk, sk) := HRL.out.trans hd
        rw [List.append_nil] at hbk
        go_wp2
        go_end0
        refine ⟨rfl, w3.heap.size, by omega, ?_, hbk⟩
        have e : lk.length = k := hln
        show Rst w g F tb t (p ++ .slice (some ⟨w3.heap.size, 0, none⟩) lk.length lk.length :: q) sk wr
        rw [e]
        exact SK
end Go.Proofs.Ytinbjbfgfknpaaa

/- Package forms: seals, and lists of them; sets and commits, read. -/
namespace Go.Proofs.Ytinbjbfgfknpaaa
open Go.RowKit
set_option linter.unusedVariables false
set_option linter.unusedSimpArgs false
set_option maxRecDepth 20000
theorem seal_r_old {old : List Value} (h : old.length = 3) : ∃ (a0 : Value) (a1 : Value) (a2 : Value), old = [a0] ++ [a1] ++ [a2] ∧ True := by
  refine ⟨(old[0]'(by omega)), (old[1]'(by omega)), (old[2]'(by omega)), ?_, trivial⟩
  apply List.ext_getElem?
  intro j
  have hone : ∀ (i : Nat) (hi : i < old.length), [old[i]] = (old.drop i).take 1 := by
    intro i hi
    apply List.ext_getElem?
    intro k
    rw [List.getElem?_take, List.getElem?_drop]
    by_cases hk : k < 1
    · obtain rfl : k = 0 := by omega
      simp [List.getElem?_eq_getElem hi]
    · rw [if_neg hk, List.getElem?_eq_none (by simp; omega)]
  simp only [hone]
  have hj : ∀ (a b c : Nat), a + b = c → (old.drop a).take b ++ old.drop c = old.drop a := by
    intro a b c e
    subst e
    rw [← List.drop_drop, List.take_append_drop]
  have he : old.drop 3 = [] := List.drop_of_length_le (by omega)
  have hall : (old.drop 0).take 1 ++ ((old.drop 1).take 1 ++ ((old.drop 2).take 1 ++ old.drop 3)) = old := by
    rw [hj 2 1 3 rfl, hj 1 1 2 rfl, hj 0 1 1 rfl]
    rfl
  rw [he, List.append_nil] at hall
  conv => lhs; rw [← hall]
  try simp only [List.append_assoc]

set_option maxHeartbeats 1600000 in
theorem seal_r (w : World) (g : Nat) (F : Nat → Prop) (tb o : Nat) (t : TypeId) (p q old : List Value) (st : St) (S : Rst w g F tb t (p ++ (old ++ q)) st w) (ho : o = p.length) (hold : old.length = 3) :
    Calls Try.prog 68 #[.agg #[.pointer none, .pointer (some ⟨g, 0, none⟩)], .pointer (some ⟨tb, o, none⟩)] w (RO w g F tb t (p ++ (old ++ q)).length ((dSe st).map fun y => (p ++ (y.1.cells ++ q), y.2))) := by
  obtain ⟨a0, a1, a2, rfl, _⟩ := seal_r_old hold
  generalize hn : (p ++ (_ ++ q)).length = n
  generalize hr : (dSe st).map _ = r
  have HR := Lib.hid hr
  have HN := Lib.hid hn
  have HO := Lib.hid ho
  clear hr hn ho hold
  have S0 := S.non ((Chg.refl Non w).alloc (.cells #[.pointer none, .pointer (some ⟨g, 0, none⟩)] 88))
  have hw := S.nw (Nat.le_refl w.heap.size)
  have hx := Hb.new w 88 #[.pointer none, .pointer (some ⟨g, 0, none⟩)]
  have hx0 : (w.alloc (.cells #[.pointer none, .pointer (some ⟨g, 0, none⟩)] 88)).cell? ⟨w.heap.size, 0, none⟩ = some (.pointer none) := hx.cell 0
  have hx1 : (w.alloc (.cells #[.pointer none, .pointer (some ⟨g, 0, none⟩)] 88)).cell? ⟨w.heap.size, 1, none⟩ = some (.pointer (some ⟨g, 0, none⟩)) := hx.cell 1
  have S1 := S0.here
  obtain ⟨B, hB⟩ : ∃ B, B = w.alloc (.cells #[.pointer none, .pointer (some ⟨g, 0, none⟩)] 88) := ⟨_, rfl⟩
  clear hx S
  go_enter Try.func68, Try.ntmps68
  go_wp2_with fail
  rw [← hB] at S0 hx0 hx1 S1 ⊢
  clear hB
  have D2 := S1.non ((Chg.refl Non B).drew)
  have x0 := D2.chg.cell hx0 hw
  have x1 := D2.chg.cell hx1 hw
  go_region_held (fun w' => w'.cell? ⟨w.heap.size, 0, none⟩ = some (.pointer none) ∧ w'.cell? ⟨w.heap.size, 1, none⟩ = some (.pointer (some ⟨g, 0, none⟩))) (first | exact ⟨y0, y1⟩ | exact ⟨x0, x1⟩ | assumption) (first | (go_at_call 41; go_loud (refine (word_r _ g F tb o t (p) (a1 :: a2 :: q) a0 st (D2.here.eq (by simp)) HO.out).mono ?_; rintro e w2 h2; have y0 := h2.chg.cell x0 hw; have y1 := h2.chg.cell x1 hw; obtain ⟨rfl, T2⟩ := h2)) | fail)
  have S2 := D2.trans T2
  clear D2 T2 x0 x1 y0 y1
  go_wp2_with fail
  have D3 := S2.non ((Chg.refl Non w2).drew)
  have x0 := D3.chg.cell hx0 hw
  have x1 := D3.chg.cell hx1 hw
  go_region_held (fun w' => w'.cell? ⟨w.heap.size, 0, none⟩ = some (.pointer none) ∧ w'.cell? ⟨w.heap.size, 1, none⟩ = some (.pointer (some ⟨g, 0, none⟩))) (first | exact ⟨y0, y1⟩ | exact ⟨x0, x1⟩ | assumption) (first | (go_at_call 42; go_loud (refine (signature_r _ g F tb (o + 1) t (p ++ (.int .u64 (vW st : Int) :: [])) (q) a1 a2 (nW st) (D3.here.eq (by simp)) (by rw [HO.out]; simp [bv_length, vH_length])).mono ?_; rintro e w3 h3; have y0 := h3.chg.cell x0 hw; have y1 := h3.chg.cell x1 hw; obtain ⟨rfl, T3⟩ := h3)) | fail)
  have S3 := D3.trans T3
  clear D3 T3 x0 x1 y0 y1
  obtain rfl : r = some (_, (nW (nW (nW st)))) := HR.out.symm.trans (by simp only [dSe, Option.bind_some, Option.map_some]; rfl)
  go_wp2
  go_end0
  refine ⟨rfl, (S0.trans S3).eq ?_⟩
  simp [Se.cells]


theorem makeSeal (n : Nat) (hn : n ≤ 4096) : ∃ L0 : List Value, L0.length = n * 3 ∧ ∀ w : World, (Instr.makeSlice 43 (.int .i64 (n : Int)) (.int .i64 (n : Int))).run Try.prog w = .ok (.slice (some ⟨w.heap.size, 0, none⟩) n n) (w.alloc (.cells L0.toArray 132)) := by
  have hinfo : (Try.prog.info? 132).map (fun i => (i.zero.isSome, i.size, i.bytes)) = some (true, 3, 24) := by kernel_rfl
  cases hq : Try.prog.info? 132 with
  | none => rw [hq] at hinfo; cases hinfo
  | some i =>
    rw [hq] at hinfo
    simp only [Option.map_some, Option.some.injEq, Prod.mk.injEq] at hinfo
    obtain ⟨hz, hs, hb⟩ := hinfo
    obtain ⟨z, hz⟩ := Option.isSome_iff_exists.1 hz
    refine ⟨(madeCells z.cells (n * 3)).toList, by rw [Array.length_toList, size_madeCells], fun w => ?_⟩
    have h := run_make (P := Try.prog) w 43 132 i z Try.underlying43 hq hz .i64 .i64 (n : Int) (n : Int) (by omega) (by omega) (by rw [hb]; omega) (by omega)
    rw [h, hs, Int.toNat_natCast, Array.toArray_toList]

set_option maxHeartbeats 1600000 in
theorem listSeal_r (w : World) (g : Nat) (F : Nat → Prop) (tb o : Nat) (t : TypeId) (p q : List Value) (A0 : Option Addr) (n0 c0 : Nat) (st : St) (S : Rst w g F tb t (p ++ .slice A0 n0 c0 :: q) st w) (ho : o = p.length) (hn0 : n0 ≤ maxLen) (most : Nat) (hmost : most ≤ 4096) :
    Calls Try.prog 67 #[.agg #[.pointer none, .pointer (some ⟨g, 0, none⟩)], .pointer (some ⟨tb, o, none⟩), .int .i64 (most : Int), .func (.func 68) #[] #[]] w (RLO w g F tb t (p ++ .slice A0 n0 c0 :: q).length p q 132 Se.cells (dList dSe most st)) := by
  unfold maxLen at hn0
  have hC := ((Chg.refl Non w).alloc (.cells #[.pointer none, .pointer (some ⟨g, 0, none⟩)] 88)).alloc (.cells #[.int .i64 (n0 : Int)] 3)
  have S0 := S.non hC
  obtain ⟨k0, _⟩ := S.cell ho
  have hw := S.nw (Nat.le_refl w.heap.size)
  have hx0 := ((Hb.new w 88 #[.pointer none, .pointer (some ⟨g, 0, none⟩)]).alloc (.cells #[.int .i64 (n0 : Int)] 3)).cell 0
  have hx1 := ((Hb.new w 88 #[.pointer none, .pointer (some ⟨g, 0, none⟩)]).alloc (.cells #[.int .i64 (n0 : Int)] 3)).cell 1
  have hn : Hb ((w.alloc (.cells #[.pointer none, .pointer (some ⟨g, 0, none⟩)] 88)).alloc (.cells #[.int .i64 (n0 : Int)] 3)) (w.heap.size + 1) 3 #[.int .i64 (n0 : Int)] := by
    have := Hb.new (w.alloc (.cells #[.pointer none, .pointer (some ⟨g, 0, none⟩)] 88)) 3 #[.int .i64 (n0 : Int)]
    rwa [show (w.alloc (.cells #[.pointer none, .pointer (some ⟨g, 0, none⟩)] 88)).heap.size = w.heap.size + 1 by simp] at this
  have hg := S.rdr.lt
  have ht := S.row.lt
  have SN : Rst _ g F (w.heap.size + 1) 3 ([] ++ .int .i64 (n0 : Int) :: []) st _ := ⟨S0.rdr, hn, Chg.refl _ _, by omega, fun hf => by have := S.rdr.Flt _ hf; omega⟩
  have H := number_r _ g F (w.heap.size + 1) 0 3 [] [] (.int .i64 (n0 : Int)) st SN rfl 0 most
  have hBs : ((w.alloc (.cells #[.pointer none, .pointer (some ⟨g, 0, none⟩)] 88)).alloc (.cells #[.int .i64 (n0 : Int)] 3)).heap.size = w.heap.size + 2 := by simp
  have HH := Lib.hid H
  have HO := Lib.hid ho
  obtain ⟨N, hN⟩ : ∃ N, N = (p ++ Value.slice A0 n0 c0 :: q).length := ⟨_, rfl⟩
  rw [← hN]
  have HN := Lib.hid hN
  generalize hr : dList dSe most st = r
  have HR := Lib.hid hr
  clear H ho SN hn hr hN
  go_enter Try.func67, Try.ntmps67
  go_wp2_with fail
  obtain ⟨B, hB⟩ : ∃ B, B = (w.alloc (.cells #[.pointer none, .pointer (some ⟨g, 0, none⟩)] 88)).alloc (.cells #[.int .i64 (n0 : Int)] 3) := ⟨_, rfl⟩
  rw [← hB] at S0 hx0 hx1 HH hBs hC ⊢
  clear hB
  refine HH.out.mono ?_
  rintro e w2 h2
  clear HH
  have hnt : ¬ Two g (w.heap.size + 1) tb := by rintro (h | h); exact S.ne h; omega
  have hrow2 := S0.row.chg h2.chg hnt
  have hC2 : Chg (Two g tb) w w2 := (hC.mono (S' := Two g tb) (fun _ f => f.elim)).trans h2.chg (fun j hj => by rcases hj with rfl | rfl; exact .inl (.inl rfl); exact .inr (by omega))
  rcases h2.cases with ⟨k, he, _⟩ | ⟨y, k, he, T⟩
  · subst he
    simp only [Option.map_eq_none_iff] at k
    obtain rfl : r = none := HR.out.symm.trans (by unfold dList; rw [k]; rfl)
    go_wp2
    exact ⟨rfl, rfl, hC2, _, HN.out.symm, hrow2⟩
  · subst he
    obtain ⟨z, kz, rfl⟩ := Option.map_eq_some_iff.1 k
    obtain ⟨m, s2⟩ := z
    have hm : inR 0 most m = true ∧ m = vN st := by
      unfold dNum at kz
      split at kz
      · rename_i h; simp only [Option.some.injEq, Prod.mk.injEq] at kz; rw [← kz.1]; exact ⟨h, rfl⟩
      · cases kz
    have hm1 := inR_iff.1 hm.1
    obtain ⟨mn, rfl⟩ : ∃ mn : Nat, m = (mn : Int) := ⟨m.toNat, by omega⟩
    have hmn : mn ≤ 4096 := by omega
    have hRL : r = dK dSe s2 mn := HR.out.symm.trans (by unfold dList; rw [kz, Option.bind_some]; simp)
    have HRL := Lib.hid hRL
    obtain ⟨L0, hL0, HM⟩ := makeSeal mn hmn
    have T' : Rst B g F (w.heap.size + 1) 3 ([] ++ .int .i64 (mn : Int) :: []) s2 w2 := T
    have cn := (T'.cell (o := 0) rfl).1
    have hnx : ¬ Two g (w.heap.size + 1) w.heap.size := by rintro (h | h) <;> omega
    have x0 := T'.chg.cell hx0 hnx
    have x1 := T'.chg.cell hx1 hnx
    have S2 : Rst w g F tb t (p ++ .slice A0 n0 c0 :: q) s2 w2 := ⟨T'.rdr, hrow2, hC2, S.ne, S.nF⟩
    clear hRL h2 kz k T hm hm1 hx0 hx1 S0 hC hrow2 HR
    go_wp2_with fail
    refine (writes_r _ g).mono ?_
    rintro e w3 ⟨rfl, hC3⟩
    have S3 := S2.non hC3
    have cn3 := hC3.cell cn (fun f => f)
    have x03 := hC3.cell x0 (fun f => f)
    have x13 := hC3.cell x1 (fun f => f)
    have HM3 := HM w3
    have S4 := S3.non ((Chg.refl Non w3).alloc (.cells L0.toArray 132))
    have hs3 : w.heap.size + 2 ≤ w3.heap.size := by have := T'.chg.size; have := hC3.size; omega
    obtain ⟨c4, f4⟩ := S4.cell HO.out
    have S5' := S3.set HO.out (.slice (some ⟨w3.heap.size, 0, none⟩) mn mn)
    have hss : (w3.setCell ⟨tb, o, none⟩ (.slice (some ⟨w3.heap.size, 0, none⟩) mn mn)).heap.size = w3.heap.size := by simp [World.setCell]
    have S5B := S5'.non ((Chg.refl Non _).alloc (.cells L0.toArray 132))
    obtain ⟨c5, _⟩ := S5B.cell HO.out
    have S5 := S4.set HO.out (.slice (some ⟨w3.heap.size, 0, none⟩) mn mn)
    have hb5 := (Hb.new w3 132 L0.toArray).far (p := ⟨tb, o, none⟩) (show w3.heap.size ≠ tb by omega) (.slice (some ⟨w3.heap.size, 0, none⟩) mn mn)
    have kk := ((Chg.refl (fun j => j = tb) w3).alloc (.cells L0.toArray 132)).setCell (p := ⟨tb, o, none⟩) (.inl rfl) (.slice (some ⟨w3.heap.size, 0, none⟩) mn mn)
    have x05 := kk.cell x03 (show ¬ w.heap.size = tb by omega)
    have x15 := kk.cell x13 (show ¬ w.heap.size = tb by omega)
    clear cn x0 x1 S2 S3 HM S4 S5' S5B kk
    have hFn : ∀ j, F j → j < w.heap.size := S.rdr.Flt
    have HFN := Lib.hid hFn
    have hcl : ∀ (st : St) (x : _) (s : St), dSe st = some (x, s) → (Se.cells x).length = 3 := fun _ _ _ h => rfl
    clear hFn
    go_wp2_with fail
    clear x03 x13 cn3 c4 f4
    go_loopw [9, 28] (fun x i wr => ∃ (k : Nat) (lk : List _) (sk : St) (rest : List Value), k ≤ mn ∧ i = .int .i64 (k : Int) ∧ dK dSe s2 k = some (lk, sk) ∧ rest.length = (mn - k) * 3 ∧ Rst w g F tb t (p ++ .slice (some ⟨w3.heap.size, 0, none⟩) mn mn :: q) sk wr ∧ Hb wr w3.heap.size 132 (lk.flatMap Se.cells ++ rest).toArray ∧ wr.cell? ⟨w.heap.size, 0, none⟩ = some (.pointer none) ∧ wr.cell? ⟨w.heap.size, 1, none⟩ = some (.pointer (some ⟨g, 0, none⟩))) (fun _ i _ => mn - (intOf i).toNat)
    case atStart => exact ⟨0, [], s2, L0, by omega, rfl, rfl, by rw [hL0, Nat.sub_zero], S5, by simpa using hb5, x05, x15⟩
    case round =>
      obtain ⟨k, lk, sk, rest, hk, rfl, hd, hrest, SK, hbk, a0, a1⟩ := hrel
      obtain ⟨a2, _⟩ := SK.cell HO.out
      have HSK := Lib.hid SK
      by_cases hlt : k < mn
      · have hro : rest = rest.take 3 ++ rest.drop 3 := (List.take_append_drop _ _).symm
        have hrl : (rest.take 3).length = 3 := by rw [List.length_take, hrest]; have : 1 * 3 ≤ (mn - k) * 3 := Nat.mul_le_mul_right _ (by omega); omega
        have hrl2 : (rest.drop 3).length = (mn - (k + 1)) * 3 := by
          have e : mn - k = (mn - (k + 1)) + 1 := by omega
          rw [List.length_drop, hrest, e, Nat.succ_mul]
          omega
        rw [hro] at hbk
        generalize rest.take 3 = old at *
        generalize rest.drop 3 = rest' at *
        have hfl := dK_flat hcl hd
        have hnb := hbk.lt
        have SE : Rst wr.drew g F w3.heap.size 132 (lk.flatMap Se.cells ++ (old ++ rest')) sk wr.drew := ⟨(SK.non ((Chg.refl Non wr).drew)).rdr, hbk.chg ((Chg.refl Non wr).drew) (fun f => f), Chg.refl _ _, by omega, fun hf => by have := HFN.out _ hf; omega⟩
        have HE := seal_r wr.drew g F w3.heap.size (k * 3) 132 (lk.flatMap Se.cells) rest' old sk SE hfl.symm hrl
        have HEE := Lib.hid HE
        have e0 := ((Chg.refl Non wr).drew).cell a0 (fun f => f)
        have e1 := ((Chg.refl Non wr).drew).cell a1 (fun f => f)
        have e2 := ((Chg.refl Non wr).drew).cell a2 (fun f => f)
        have n1 : ¬ Two g w3.heap.size w.heap.size := by rintro (h | h) <;> omega
        have n2 : ¬ Two g w3.heap.size tb := by rintro (h | h); exact SK.ne h; omega
        have hki : (k : Int) < (mn : Int) := by omega
        have hdn : dK dSe s2 (k + 1) = (dSe sk).bind fun y => some (lk ++ [y.1], y.2) := by
          have e : dK dSe s2 (k + 1) = (dK dSe s2 k).bind fun x => (dSe x.2).bind fun y => some (x.1 ++ [y.1], y.2) := rfl
          rw [e, hd, Option.bind_some]
        have HDN := Lib.hid hdn
        have HD := Lib.hid hd
        have HRE := Lib.hid hrl2
        clear SE HE hro hrl hrest hfl hdn hd hrl2 SK hbk a0 a1 a2
        go_wp2_with fail
        go_region_held (fun w' => w'.cell? ⟨w.heap.size, 0, none⟩ = some (.pointer none) ∧ w'.cell? ⟨w.heap.size, 1, none⟩ = some (.pointer (some ⟨g, 0, none⟩)) ∧ w'.cell? ⟨tb, o, none⟩ = some (.slice (some ⟨w3.heap.size, 0, none⟩) mn mn)) (first | exact ⟨f0, f1, f2⟩ | exact ⟨e0, e1, e2⟩ | assumption) (first | (go_at_call 68; go_loud (refine HEE.out.mono ?_; rintro e wz hz; have f0 := hz.chg.cell e0 n1; have f1 := hz.chg.cell e1 n1; have f2 := hz.chg.cell e2 n2; rcases hz.cases with ⟨kn, he, C, _⟩ | ⟨y, ky, he, TZ⟩; (subst he; simp only [Option.map_eq_none_iff] at kn; obtain rfl : r = none := HRL.out.trans (dK_none (k := k + 1) (by omega) (by rw [HDN.out, kn]; rfl)); exact ⟨rfl, rfl, HSK.out.chg.trans (((Chg.refl Non wr).drew.mono (S' := Two g w3.heap.size) (fun _ f => f.elim)).trans C (fun _ h => .inl h)) (fun j hj => by rcases hj with rfl | rfl; exact .inl (.inl rfl); exact .inr (by omega)), _, HN.out.symm ▸ (by simp), (HSK.out.non ((Chg.refl Non wr).drew)).row.chg C n2⟩); subst he; obtain ⟨z, kz, rfl⟩ := Option.map_eq_some_iff.1 ky; clear ky)) | fail)
        have hz2 : dK dSe s2 (k + 1) = some (lk ++ [z.1], z.2) := by rw [HDN.out, kz]; rfl
        have T1 : Rst w g F tb t (p ++ .slice (some ⟨w3.heap.size, 0, none⟩) mn mn :: q) z.2 wz := by
          have b1 := HSK.out.non ((Chg.refl Non wr).drew)
          exact ⟨TZ.rdr, b1.row.chg TZ.chg n2, b1.chg.trans TZ.chg (fun j hj => by rcases hj with rfl | rfl; exact .inl (.inl rfl); exact .inr (by omega)), b1.ne, b1.nF⟩
        have T2 : Hb wz w3.heap.size 132 ((lk ++ [z.1]).flatMap Se.cells ++ rest').toArray := by
          have := TZ.row
          simpa [List.append_assoc] using this
        clear hz HEE TZ kz
        go_wp2_with fail
        go_roundw
        case rel => exact ⟨k + 1, _, _, rest', by omega, by go_num, hz2, HRE.out, T1, T2, f0, f1⟩
        case measure => simp [intOf]; omega
      · obtain rfl : k = mn := by omega
        have hln := dK_len hd
        obtain rfl : rest = [] := List.eq_nil_of_length_eq_zero (by rw [hrest, Nat.sub_self, Nat.zero_mul])
        obtain rfl : r = some (lk, sk) := HRL.out.trans hd
        rw [List.append_nil] at hbk
        go_wp2
        go_end0
        refine ⟨rfl, w3.heap.size, by omega, ?_, hbk⟩
        have e : lk.length = k := hln
        show Rst w g F tb t (p ++ .slice (some ⟨w3.heap.size, 0, none⟩) lk.length lk.length :: q) sk wr
        rw [e]
        exact SK
end Go.Proofs.Ytinbjbfgfknpaaa
