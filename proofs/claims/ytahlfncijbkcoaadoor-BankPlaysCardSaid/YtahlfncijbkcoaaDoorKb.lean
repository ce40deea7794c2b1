/- Maps from names and holdings to amounts, by what they say of each key. -/
import Derived.Test.YtahlfncijbkcoaaDoorChecked
import Derived.WalkKit
import Derived.Lib.Hide
import Derived.Maps.OwnOps
import Derived.Maps.OwnSet
import Derived.Maps.RangeWalk
import Derived.DeepKeys4
import Derived.StringKeys
import Derived.Test.YtahlfncijbkcoaaDoorWd
import Derived.Test.YtahlfncijbkcoaaDoorGw
import Derived.Test.YtahlfncijbkcoaaDoorKa
namespace Go.Proofs.YtahlfncijbkcoaaDoor
open Go.RowKit
set_option linter.unusedVariables false
set_option linter.unusedSimpArgs false
set_option linter.unusedSectionVars false
set_option maxRecDepth 20000

theorem u64_zero (w : World) : (zeroValue 30).run Tryd.prog w = .ok (.int .u64 0) w := by kernel_rfl
theorem u64_wf {n : Nat} (h : n < 18446744073709551616) : (Lit.int .u64 (n : Int)).wf = true := by
  have hmin : IntKind.u64.min = 0 := rfl
  have hmax : IntKind.u64.max = 18446744073709551615 := rfl
  simp only [Lit.wf, Bool.and_eq_true, decide_eq_true_eq, hmin, hmax]
  omega

/-- A type of keys: what a key is as a value, and what it reads as. -/
structure KeyT (κ : Type) where
  kt : TypeId
  enc : κ → Value
  Ok : κ → Prop
  lit : κ → Lit
  keyed : Maps.Keyed Tryd.prog kt
  of : ∀ k, Ok k → keyOf Tryd.prog kt (enc k) = some (lit k)
  inj : ∀ a b, enc a = enc b → a = b
  inv : ∀ v l, keyOf Tryd.prog kt v = some l → ∃ k, v = enc k ∧ Ok k ∧ l = lit k

section
variable {κ : Type} [DecidableEq κ]
theorem KeyT.lit_inj (T : KeyT κ) {a b : κ} (ha : T.Ok a) (hb : T.Ok b) (h : T.lit a = T.lit b) : a = b :=
  T.inj a b (T.keyed.inj (T.of a ha) (by rw [T.of b hb, h]))
/-- What the datum says of each key. -/
def SaysK (T : KeyT κ) (D : DataW Unit) (F : κ → Nat) : Prop :=
  ∀ k, T.Ok k → Maps.has D (T.lit k) = decide (0 < F k) ∧ ∀ zd, D.atKey (T.lit k) zd = if 0 < F k then .lit (.int .u64 (F k : Int)) else zd
/-- Block b is a map of at most n entries that says F: who has nothing isn't there. -/
def MapK (T : KeyT κ) (w : World) (b n : Nat) (F : κ → Nat) : Prop :=
  ∃ D : DataW Unit, w.ownsMap Tryd.prog T.kt (plainElem Tryd.prog 30) b n D ∧ SaysK T D F
theorem SaysK.put {T : KeyT κ} {D : DataW Unit} {F : κ → Nat} (h : SaysK T D F) (hD : Maps.IsMap D) (k : κ) (hk : T.Ok k) {c : Nat} (hc : 0 < c) : SaysK T (D.put (T.lit k) (.lit (.int .u64 (c : Int)))) (kupd F k c) := by
  intro j hj
  have key := T.keyed.key (T.of k hk)
  by_cases e : j = k
  · subst e
    have e1 : kupd F j c j = c := by simp [kupd]
    refine ⟨by rw [Maps.has_put_same hD key, e1, decide_eq_true hc], fun zd => ?_⟩
    rw [Maps.atKey_put_same hD key, e1, if_pos hc]
  · have e1 : kupd F k c j = F j := by simp [kupd, e]
    have ne : T.lit j ≠ T.lit k := fun h => e (T.lit_inj hj hk h)
    obtain ⟨h1, h2⟩ := h j hj
    refine ⟨by rw [Maps.has_put_other ne, e1]; exact h1, fun zd => ?_⟩
    rw [Maps.atKey_put_other ne, e1]
    exact h2 zd
theorem SaysK.del {T : KeyT κ} {D : DataW Unit} {F : κ → Nat} (h : SaysK T D F) (k : κ) (hk : T.Ok k) : SaysK T (D.del (T.lit k)) (kupd F k 0) := by
  intro j hj
  by_cases e : j = k
  · subst e
    have e1 : kupd F j 0 j = 0 := by simp [kupd]
    refine ⟨by rw [Maps.has_del_same, e1]; rfl, fun zd => ?_⟩
    rw [Maps.atKey_del_same, e1, if_neg (by omega)]
  · have e1 : kupd F k 0 j = F j := by simp [kupd, e]
    have ne : T.lit j ≠ T.lit k := fun h => e (T.lit_inj hj hk h)
    obtain ⟨h1, h2⟩ := h j hj
    refine ⟨by rw [Maps.has_del_other ne, e1]; exact h1, fun zd => ?_⟩
    rw [Maps.atKey_del_other ne, e1]
    exact h2 zd

section
variable {T : KeyT κ} {w : World} {b n : Nat} {F : κ → Nat}
theorem MapK.made (T : KeyT κ) (w : World) : MapK T (w.alloc (.map #[] 0)) w.heap.size 0 (fun _ => 0) :=
  ⟨.map [], World.ownsMap_made w _ _ _, fun k _ => ⟨rfl, fun zd => rfl⟩⟩
theorem MapK.lt (h : MapK T w b n F) : b < w.heap.size := by
  obtain ⟨D, h, _⟩ := h
  exact h.lt
theorem MapK.mono (h : MapK T w b n F) {n' : Nat} (hn : n ≤ n') : MapK T w b n' F := by
  obtain ⟨D, h, r⟩ := h
  exact ⟨D, h.mono hn, r⟩
theorem MapK.chg {S : Nat → Prop} {w' : World} (h : MapK T w b n F) (k : Chg S w w') (hb : ¬ S b) : MapK T w' b n F := by
  have hlt := h.lt
  obtain ⟨D, ⟨es, clock, h1, r⟩, s⟩ := h
  exact ⟨D, ⟨es, clock, (k.block b hlt hb).trans h1, r⟩, s⟩
/-- What is found. -/
theorem MapK.look (h : MapK T w b n F) {t : TypeId} (ht : Tryd.prog.underlying t = some (.map T.kt 30)) (k : κ) (hk : T.Ok k) : (Instr.lookup t (.map (some b)) (T.enc k) false).run Tryd.prog w = .ok (.int .u64 (F k : Int)) w := by
  obtain ⟨D, hown, hs⟩ := h
  obtain ⟨s1, s2⟩ := hs k hk
  obtain ⟨c, hrun, hat, _⟩ := hown.lookup_int T.keyed ht Tryd.underlying30 (u64_zero w) (T.of k hk)
  rw [hrun]
  rw [s2] at hat
  by_cases h0 : 0 < F k
  · rw [if_pos h0] at hat
    simp only [DataW.lit.injEq, Lit.int.injEq, true_and] at hat
    rw [hat]
  · rw [if_neg h0] at hat
    simp only [DataW.lit.injEq, Lit.int.injEq, true_and] at hat
    have : F k = 0 := by omega
    rw [this, ← hat]
    rfl
theorem wpList_lookK {ops : Array Oper} {rest : List Oper} {o : Oper} {a : Act} {Q : Exit → Act → World → Prop} (hg : o.guard = none) (x y : Operand) (t : TypeId) (ho : o.op = Op.lookup t x y false)
    (ht : Tryd.prog.underlying t = some (.map T.kt 30)) (hx : a.eval x = .map (some b)) (h : MapK T w b n F) (k : κ) (hk : T.Ok k) (hy : a.eval y = T.enc k) {c : Nat} (hc : F k = c)
    (hK : wpList Tryd.prog ops Q rest (a.put o.dst (.int .u64 (c : Int))) w) : wpList Tryd.prog ops Q (o :: rest) a w := by
  refine wpList_plain hg fun K' hK' => ?_
  have hrun := h.look ht k hk
  unfold Oper.wp execOp
  simp only [ho, hx, hy, Sem.run_bind, Sem.run_pure, hrun, Result.andThen_ok]
  subst hc
  exact hK' _ _ hK
theorem wpList_putK {ops : Array Oper} {rest : List Oper} {o : Oper} {a : Act} {Q : Exit → Act → World → Prop} (hg : o.guard = none) (x y z : Operand) (t : TypeId) (ho : o.op = Op.mapUpdate t x y z)
    (ht : Tryd.prog.underlying t = some (.map T.kt 30)) (hx : a.eval x = .map (some b)) (h : MapK T w b n F) (hn : n < maxLen) (k : κ) (hk : T.Ok k) (hy : a.eval y = T.enc k) {c : Nat} (hz : a.eval z = .int .u64 (c : Int)) (hc : 0 < c) (hc2 : c < 18446744073709551616)
    (hK : ∀ w', MapK T w' b (n + 1) (kupd F k c) → Chg (· = b) w w' → w'.heap.size = w.heap.size → wpList Tryd.prog ops Q rest (a.put o.dst undef) w') : wpList Tryd.prog ops Q (o :: rest) a w := by
  obtain ⟨D, hown, hs⟩ := h
  refine wpList_plain hg fun K' hK' => ?_
  obtain ⟨w', hrun, h2, h3⟩ := hown.store T.keyed ht hn (T.of k hk) (plainElem_int Tryd.underlying30 (u64_wf hc2))
  have hg2 := h3.grown
  have hsz : w'.heap.size = w.heap.size := by
    obtain ⟨es, cl, es', cl', hb, rfl⟩ := h3
    simp [Go.ChangeMaps.setBlock]
  unfold Oper.wp execOp
  simp only [ho, hx, hy, hz, Sem.run_bind, Sem.run_pure, hrun, Result.andThen_ok]
  exact hK' _ _ (hK w' ⟨_, h2, hs.put hown.isMap k hk hc⟩ ((Chg.refl _ w).grown hg2 (fun j hj => .inl (by injection hj with hj; exact hj.symm))) hsz)
theorem wpList_delK {ops : Array Oper} {rest : List Oper} {o : Oper} {a : Act} {Q : Exit → Act → World → Prop} (hg : o.guard = none) (x y : Operand) (t : TypeId) (ho : o.op = Op.call { callee := Callee.builtin Builtin.delete, args := #[x, y], argTypes := #[t, T.kt] })
    (ht : Tryd.prog.underlying t = some (.map T.kt 30)) (hx : a.eval x = .map (some b)) (h : MapK T w b n F) (k : κ) (hk : T.Ok k) (hy : a.eval y = T.enc k)
    (hK : ∀ w', MapK T w' b n (kupd F k 0) → Chg (· = b) w w' → w'.heap.size = w.heap.size → wpList Tryd.prog ops Q rest (a.put o.dst (.tuple #[])) w') : wpList Tryd.prog ops Q (o :: rest) a w := by
  obtain ⟨D, hown, hs⟩ := h
  refine wpList_delete_own w hg x y t T.kt ho 30 T.keyed ht _ b n D hx hown _ _ hy (T.of k hk) fun w' h2 h3 => ?_
  have hsz : w'.heap.size = w.heap.size := by
    obtain ⟨es, cl, es', cl', hb, rfl⟩ := h3
    simp [Go.ChangeMaps.setBlock]
  exact hK w' ⟨_, h2, hs.del k hk⟩ ((Chg.refl _ w).grown h3.grown (fun j hj => .inl (by injection hj with hj; exact hj.symm))) hsz
end
end

/-! ### The two types of keys -/
def strT : KeyT ByteArray where
  kt := 9
  enc s := .string s
  Ok s := s.size ≤ maxLen
  lit s := .string s.data.toList
  keyed := Maps.string_keyed Tryd.underlying9
  of k hk := Go.WideMaps.keyOf_string_mk Tryd.underlying9 hk
  inj a b h := by injection h
  inv v l h := by
    unfold keyOf mapKey at h
    rw [Tryd.underlying9] at h
    cases v with
    | string s =>
      dsimp only at h
      split at h
      · rename_i hs
        exact ⟨s, rfl, hs, (Option.some.inj h).symm⟩
      · cases h
    | _ => cases h
theorem hol_laid : laidOutB Tryd.prog = true := by kernel_rfl
theorem hol_keyType : Tryd.prog.keyTypeAt 2 51 = true := by kernel_rfl
theorem hol_keyed : Maps.Keyed Tryd.prog 51 :=
  Maps.Keyed.of_law (deep_law_laid hol_laid (m := 2) (by omega) (of_decide_eq_true (by kernel_rfl)) hol_keyType (by rw [Tryd.underlying51]))
theorem hol_lits (d : Nat) (a b : ByteArray) (ha : a.size ≤ maxLen) (hb : b.size ≤ maxLen) : Tryd.prog.keyLits (d + 2) 51 [.string a, .string b] = some [.string a.data.toList, .string b.data.toList] := by
  have hc : Tryd.prog.cellsOf 51 = 2 := by kernel_rfl
  have hs : Tryd.prog.cellsOf 9 = 1 := by kernel_rfl
  simp [Program.keyLits, Tryd.underlying51, Tryd.underlying9, hc, hs, ha, hb]
theorem hol_lits_inv (d : Nat) (xs : List Value) (L : List Lit) (h : Tryd.prog.keyLits (d + 2) 51 xs = some L) : ∃ a b : ByteArray, xs = [.string a, .string b] ∧ a.size ≤ maxLen ∧ b.size ≤ maxLen := by
  have hc : Tryd.prog.cellsOf 51 = 2 := by kernel_rfl
  have hs : Tryd.prog.cellsOf 9 = 1 := by kernel_rfl
  have str : ∀ (y : Value) (M : List Lit), Tryd.prog.keyLits (d + 1) 9 [y] = some M → ∃ a : ByteArray, y = .string a ∧ a.size ≤ maxLen := by
    intro y M hM
    cases y with
    | string a =>
      simp only [Program.keyLits, Tryd.underlying9] at hM
      split at hM
      · rename_i ha; exact ⟨a, rfl, ha⟩
      · cases hM
    | _ => simp [Program.keyLits, Tryd.underlying9] at hM
  unfold Program.keyLits at h
  simp only [Tryd.underlying51, hc] at h
  split at h
  · rename_i hl
    obtain ⟨x, y, rfl⟩ : ∃ x y, xs = [x, y] := by
      match xs, hl.1 with
      | [x, y], _ => exact ⟨x, y, rfl⟩
    simp only [List.mapM_cons, List.mapM_nil, hs, Option.map_eq_some_iff, Option.bind_eq_bind, Option.bind_eq_some_iff, Option.pure_def] at h
    obtain ⟨_, ⟨M1, h1, M2, ⟨M3, h2, _⟩, _⟩, _⟩ := h
    obtain ⟨a, rfl, ha⟩ := str x M1 h1
    obtain ⟨b, rfl, hb⟩ := str y M3 h2
    exact ⟨a, b, rfl, ha, hb⟩
  · cases h
theorem hol_of (k : Key) (h : k.1.size ≤ maxLen ∧ k.2.size ≤ maxLen) : keyOf Tryd.prog 51 (.agg #[.string k.1, .string k.2]) = some (.string (keyBytes [.string k.1.data.toList, .string k.2.data.toList])) := by
  have hk : Tryd.prog.keyType 51 = true := by kernel_rfl
  have hf : (Value.agg #[.string k.1, .string k.2]).formed Tryd.prog 51 = true := by
    have hc : Tryd.prog.cellsOf 51 = 2 := by kernel_rfl
    simp [Value.formed, Tryd.underlying51, hc]
  have hd : Tryd.prog.types.size + 1 = (Tryd.prog.types.size - 1) + 2 := by
    have : 1 ≤ Tryd.prog.types.size := of_decide_eq_true (by kernel_rfl)
    omega
  unfold keyOf
  rw [Tryd.underlying51]
  dsimp only
  rw [hk, hf, hd]
  simp only [Bool.and_self, if_true]
  have e : (Value.agg #[.string k.1, .string k.2]).cells.toList = [.string k.1, .string k.2] := rfl
  rw [e, hol_lits _ k.1 k.2 h.1 h.2]
  rfl
def holT : KeyT Key where
  kt := 51
  enc k := .agg #[.string k.1, .string k.2]
  Ok k := k.1.size ≤ maxLen ∧ k.2.size ≤ maxLen
  lit k := .string (keyBytes [.string k.1.data.toList, .string k.2.data.toList])
  keyed := hol_keyed
  of := hol_of
  inj a b h := by
    simp only [Value.agg.injEq, Array.mk.injEq, List.cons.injEq, Value.string.injEq, and_true] at h
    exact Prod.ext h.1 h.2
  inv v l h := by
    obtain ⟨xs, L, rfl, h1, h2⟩ := keyOf_top (by rw [Tryd.underlying51]) h
    have hd : Tryd.prog.types.size + 1 = (Tryd.prog.types.size - 1) + 2 := by
      have : 1 ≤ Tryd.prog.types.size := of_decide_eq_true (by kernel_rfl)
      omega
    rw [hd] at h1
    obtain ⟨a, b, e, ha, hb⟩ := hol_lits_inv _ _ _ h1
    have ex : xs = #[.string a, .string b] := Array.toList_inj.1 e
    subst ex
    refine ⟨(a, b), rfl, ⟨ha, hb⟩, ?_⟩
    have := hol_of (a, b) ⟨ha, hb⟩
    rw [h] at this
    exact Option.some.inj this
theorem map_hol : Tryd.prog.underlying 43 = some (.map holT.kt 30) := by kernel_rfl
theorem map_str : Tryd.prog.underlying 44 = some (.map strT.kt 30) := by kernel_rfl
end Go.Proofs.YtahlfncijbkcoaaDoor
