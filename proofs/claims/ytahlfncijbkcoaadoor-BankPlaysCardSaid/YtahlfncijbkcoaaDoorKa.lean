/- Names, keys, entries and their order, in words. It knows no program. -/
import Derived.WalkKit
import Derived.Lib.ItoaNum
import Derived.Lib.Strings
import Derived.Test.YtahlfncijbkcoaaDoorBk
namespace Go.Proofs.YtahlfncijbkcoaaDoor
set_option linter.unusedVariables false
set_option linter.unusedSimpArgs false
set_option linter.unusedSectionVars false

/-! ### Names -/
def isL (c : UInt8) : Bool := decide (97 ≤ c.toNat) && decide (c.toNat ≤ 122)
def isD (c : UInt8) : Bool := isL c || decide (c.toNat = 47)
def accOk (s : ByteArray) : Bool := decide (1 ≤ s.size) && (decide (s.size ≤ 16) && s.data.toList.all isL)
def firstOk (s : ByteArray) : Bool := !(decide (s.data.toList[0]? = some 47))
def lastOk (s : ByteArray) : Bool := !(decide (s.data.toList[s.size - 1]? = some 47))
def denOk (s : ByteArray) : Bool := decide (1 ≤ s.size) && (decide (s.size ≤ 40) && (s.data.toList.all isD && (firstOk s && lastOk s)))
theorem accOk_size {s : ByteArray} (h : accOk s = true) : s.size ≤ 16 := by
  unfold accOk at h
  simp only [Bool.and_eq_true, decide_eq_true_eq] at h
  exact h.2.1
theorem denOk_size {s : ByteArray} (h : denOk s = true) : s.size ≤ 40 := by
  unfold denOk at h
  simp only [Bool.and_eq_true, decide_eq_true_eq] at h
  exact h.2.1
theorem accOk_no {s : ByteArray} (h : accOk s = true) : (47 : UInt8) ∉ s.data.toList := by
  intro hm
  unfold accOk at h
  simp only [Bool.and_eq_true, decide_eq_true_eq] at h
  have := List.all_eq_true.1 h.2.2 _ hm
  revert this
  decide

/-! ### Keys -/
theorem ba_eq {a b : ByteArray} (h : a.data.toList = b.data.toList) : a = b := by
  cases a; cases b
  congr 1
  exact Array.toList_inj.1 h
theorem ba_app (a b : ByteArray) : (a ++ b).data.toList = a.data.toList ++ b.data.toList := by simp
theorem ba_len (a : ByteArray) : a.data.toList.length = a.size := by rw [Array.length_toList]; rfl
theorem ba_app_size (a b : ByteArray) : (a ++ b).size = a.size + b.size := by rw [← ba_len, ba_app, List.length_append, ba_len, ba_len]
/-- An account and a denom. -/
abbrev Key := ByteArray × ByteArray
def eKey (k : Key) : ByteArray := ((⟨#[98, 97, 110, 107, 47]⟩ ++ k.2) ++ ⟨#[47]⟩) ++ k.1
theorem split_last {α : Type} {c : α} {p q a b : List α} (h : (p ++ [c]) ++ a = (q ++ [c]) ++ b) (ha : c ∉ a) (hb : c ∉ b) : p = q ∧ a = b := by
  have key : ∀ {p q a b : List α} (r : List α), c ∉ a → q ++ [c] = (p ++ [c]) ++ r → a = r ++ b → p = q ∧ a = b := by
    intro p q a b r ha h1 h2
    rcases List.eq_nil_or_concat r with rfl | ⟨r', x, rfl⟩
    · rw [List.append_nil] at h1
      exact ⟨(List.append_cancel_right h1).symm, by simpa using h2⟩
    · exfalso
      rw [List.concat_eq_append, ← List.append_assoc] at h1
      have := (List.append_inj_right' h1 rfl)
      simp only [List.cons.injEq, and_true] at this
      apply ha
      rw [h2, List.concat_eq_append, this]
      simp
  rcases List.append_eq_append_iff.1 h with ⟨r, h1, h2⟩ | ⟨r, h1, h2⟩
  · exact key r ha h1 h2
  · obtain ⟨e1, e2⟩ := key r hb h1 h2
    exact ⟨e1.symm, e2.symm⟩
theorem eKey_inj {k k' : Key} (h : accOk k.1 = true) (h' : accOk k'.1 = true) (e : eKey k = eKey k') : k = k' := by
  have e1 := congrArg (fun s : ByteArray => s.data.toList) e
  unfold eKey at e1
  simp only [ba_app] at e1
  obtain ⟨e2, e3⟩ := split_last e1 (accOk_no h) (accOk_no h')
  have e4 := List.append_cancel_left e2
  exact Prod.ext (ba_eq e3) (ba_eq e4)
theorem eKey_size {k : Key} (h : accOk k.1 = true) (h' : denOk k.2 = true) : (eKey k).size ≤ 100 := by
  have := accOk_size h
  have := denOk_size h'
  unfold eKey
  rw [ba_app_size, ba_app_size, ba_app_size]
  have e1 : (⟨#[98, 97, 110, 107, 47]⟩ : ByteArray).size = 5 := rfl
  have e2 : (⟨#[47]⟩ : ByteArray).size = 1 := rfl
  omega

/-! ### The order of bytes -/
theorem bl_irrefl : ∀ x : List UInt8, Op.bytesLess x x = false
  | [] => rfl
  | a :: x => by
    unfold Op.bytesLess
    rw [bl_irrefl x]
    simp
theorem bl_tri : ∀ x y : List UInt8, Op.bytesLess x y = false → Op.bytesLess y x = false → x = y
  | [], [], _, _ => rfl
  | [], b :: y, h, _ => by simp [Op.bytesLess] at h
  | a :: x, [], _, h => by simp [Op.bytesLess] at h
  | a :: x, b :: y, h1, h2 => by
    unfold Op.bytesLess at h1 h2
    simp only [Bool.or_eq_false_iff, decide_eq_false_iff_not, Bool.and_eq_false_iff, beq_eq_false_iff_ne] at h1 h2
    have e : a = b := by
      have q1 := h1.1
      have q2 := h2.1
      rw [UInt8.lt_iff_toNat_lt] at q1 q2
      exact UInt8.toNat_inj.1 (by omega)
    subst e
    rw [bl_tri x y (by simpa using h1.2) (by simpa using h2.2)]
theorem bl_trans : ∀ x y z : List UInt8, Op.bytesLess x y = true → Op.bytesLess y z = true → Op.bytesLess x z = true
  | _, [], _, h, _ => by simp [Op.bytesLess] at h
  | _, _ :: _, [], _, h => by simp [Op.bytesLess] at h
  | [], _ :: _, _ :: _, _, _ => by simp [Op.bytesLess]
  | a :: x, b :: y, c :: z, h1, h2 => by
    unfold Op.bytesLess at h1 h2 ⊢
    simp only [Bool.or_eq_true, decide_eq_true_eq, Bool.and_eq_true, beq_iff_eq] at h1 h2 ⊢
    rcases h1 with h1 | ⟨rfl, h1⟩
    · rcases h2 with h2 | ⟨rfl, h2⟩
      · exact .inl (UInt8.lt_trans h1 h2)
      · exact .inl h1
    · rcases h2 with h2 | ⟨rfl, h2⟩
      · exact .inl h2
      · exact .inr ⟨rfl, bl_trans x y z h1 h2⟩
def lessB (a b : ByteArray) : Bool := Op.bytesLess a.toList b.toList
theorem lessB_irrefl (a : ByteArray) : lessB a a = false := bl_irrefl _
theorem lessB_trans {a b c : ByteArray} (h : lessB a b = true) (k : lessB b c = true) : lessB a c = true := bl_trans _ _ _ h k
theorem lessB_tri {a b : ByteArray} (h : lessB a b = false) (k : lessB b a = false) : a = b := by
  have := bl_tri _ _ h k
  rw [ByteArray.toList_eq, ByteArray.toList_eq] at this
  exact ba_eq this
theorem lessB_ntrans {a b c : ByteArray} (h : lessB a b = false) (k : lessB b c = false) : lessB a c = false := by
  cases h1 : lessB a c with
  | false => rfl
  | true =>
    exfalso
    cases h2 : lessB b a with
    | true => rw [lessB_trans h2 h1] at k; cases k
    | false =>
      have e := lessB_tri h h2
      subst e
      rw [h1] at k
      cases k

/-! ### Entries -/
/-- An entry: its key and its value, as bytes. -/
structure En where
  key : ByteArray
  val : ByteArray
instance : Inhabited En := ⟨⟨⟨#[]⟩, ⟨#[]⟩⟩⟩
def En.cells (x : En) : List Value := [.string x.key, .string x.val]
theorem En.cells_len (x : En) : x.cells.length = 2 := rfl
def dec (n : Nat) : ByteArray := ⟨(Lib.decDigits n).toArray⟩
def entOf (x : Key × Nat) : En := ⟨eKey x.1, dec x.2⟩
/-- All keys that have something may be. -/
def Fine (F : Key → Nat) : Prop := ∀ k, 0 < F k → accOk k.1 = true ∧ denOk k.2 = true
/-- The list of entries of the amounts F, by rising keys. -/
def EntsOf (F : Key → Nat) (es : List En) : Prop := ∃ l, Lsg F l ∧ es.Perm (l.map entOf) ∧ es.Pairwise (fun x y => lessB y.key x.key = false)
theorem EntsOf.one {F : Key → Nat} {es es' : List En} (hF : Fine F) (h : EntsOf F es) (h' : EntsOf F es') : es = es' := by
  obtain ⟨l, h1, h2, h3⟩ := h
  obtain ⟨l', k1, k2, k3⟩ := h'
  refine List.Perm.eq_of_pairwise (le := fun x y => lessB y.key x.key = false) ?_ h3 k3 (h2.trans (((h1.perm k1).map entOf).trans k2.symm))
  intro x y hx hy q1 q2
  have e := lessB_tri q2 q1
  obtain ⟨⟨a, n⟩, ha, rfl⟩ := List.mem_map.1 (h2.mem_iff.1 hx)
  obtain ⟨⟨b, m⟩, hb, rfl⟩ := List.mem_map.1 (k2.mem_iff.1 hy)
  obtain ⟨f1, f2⟩ := (h1.mem a n).1 ha
  obtain ⟨g1, g2⟩ := (k1.mem b m).1 hb
  have e' : a = b := eKey_inj (hF a (by omega)).1 (hF b (by omega)).1 e
  subst e'
  have : n = m := by omega
  subst this
  rfl
theorem Fine.put {F : Key → Nat} (h : Fine F) {k : Key} (h1 : accOk k.1 = true) (h2 : denOk k.2 = true) (n : Nat) : Fine (kupd F k n) := by
  intro x hx
  unfold kupd at hx
  split at hx
  · rename_i e; rw [e]; exact ⟨h1, h2⟩
  · exact h x hx
theorem Fine.none : Fine (fun _ => 0) := fun k h => absurd h (Nat.lt_irrefl 0)
end Go.Proofs.YtahlfncijbkcoaaDoor
