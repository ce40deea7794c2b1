/- Package forms: EncodeLight, DecodeLight. -/
import Derived.Test.YtjcfdclgddjaoaaChecked
import Derived.WalkKit
import Derived.WalkLawsBesides
import Derived.Lib.Hide
import Derived.Test.YtjcfdclgddjaoaaFdl
import Derived.Test.YtjcfdclgddjaoaaFml
import Derived.Test.YtjcfdclgddjaoaaFe
namespace Go.Proofs.Ytjcfdclgddjaoaa
open Go.RowKit
set_option linter.unusedVariables false
set_option linter.unusedSimpArgs false
set_option maxRecDepth 20000

/-- A list's elements lie from A on. -/
def LstM {α : Type} (w : World) (A : Option Addr) (l : List α) (cells : α → List Value) (sz : Nat) : Prop :=
  ∀ (i : Nat) (x : α), l[i]? = some x → ∃ eb eo, A = some ⟨eb, eo, none⟩ ∧ eb < w.heap.size ∧ w.rangeAt eb (eo + i * sz) (cells x)
theorem LstM.chg {α : Type} {w w' : World} {A : Option Addr} {l : List α} {cells : α → List Value} {sz : Nat} (h : LstM w A l cells sz) (k : Chg Non w w') : LstM w' A l cells sz := by
  intro i x hx
  obtain ⟨eb, eo, e, h2, h3⟩ := h i x hx
  exact ⟨eb, eo, e, Nat.lt_of_lt_of_le h2 k.size, k.range' h3 (fun f => f)⟩
theorem LstM.not {α : Type} {w w' : World} {A : Option Addr} {l : List α} {cells : α → List Value} {sz : Nat} (h : LstM w A l cells sz) (k : Chg Non w w') {g : Nat} (hg : w.heap.size ≤ g) : LstW w' g (.slice none 0 0) A l cells sz := by
  intro i x hx
  obtain ⟨eb, eo, e, h2, h3⟩ := h i x hx
  exact ⟨eb, eo, e, (by rintro (h | h); omega; cases h), Nat.lt_of_lt_of_le h2 k.size, k.range' h3 (fun f => f)⟩
theorem flat_get {α : Type} {cells : α → List Value} {sz : Nat} (hc : ∀ x, (cells x).length = sz) : ∀ (l : List α) (i : Nat) (x : α), l[i]? = some x → ∀ (j : Nat) (u : Value), (cells x)[j]? = some u → (l.flatMap cells)[i * sz + j]? = some u
  | [], i, x, h, _, _, _ => by simp at h
  | y :: l, 0, x, h, j, u, hu => by
    simp only [List.getElem?_cons_zero, Option.some.injEq] at h
    subst h
    rw [Nat.zero_mul, Nat.zero_add, List.flatMap_cons, List.getElem?_append_left (List.getElem?_eq_some_iff.1 hu).1]
    exact hu
  | y :: l, i + 1, x, h, j, u, hu => by
    rw [List.flatMap_cons, List.getElem?_append_right (by rw [hc, Nat.succ_mul]; omega), hc]
    have e : (i + 1) * sz + j - sz = i * sz + j := by rw [Nat.succ_mul]; omega
    rw [e]
    exact flat_get hc l i x (by simpa using h) j u hu
/-- A new block of elements. -/
theorem lstM_new {α : Type} {w : World} {n : Nat} {t : TypeId} {l : List α} {cells : α → List Value} {sz : Nat} (hc : ∀ x, (cells x).length = sz) (h : Hb w n t (l.flatMap cells).toArray) : LstM w (some ⟨n, 0, none⟩) l cells sz := by
  intro i x hx
  refine ⟨n, 0, rfl, h.lt, fun j u hu => ?_⟩
  rw [Nat.zero_add, h.cell]
  simpa using flat_get hc l i x hx j u hu

theorem EncodeLight_any (w : World) (A1 A2 A3 : Option Addr) (c1 c2 c3 : Nat) (x : Lt) (ox : x.Ok) (hl1 : x.commit.seals.length ≤ maxLen) (hl2 : x.set.length ≤ maxLen) (hl3 : x.next.length ≤ maxLen) (M1 : LstM w A1 x.commit.seals Se.cells 3) (M2 : LstM w A2 x.set Va.cells 2) (M3 : LstM w A3 x.next Va.cells 2) : Calls Try.prog 35 #[.agg (x.cells (.slice A1 x.commit.seals.length c1) (.slice A2 x.set.length c2) (.slice A3 x.next.length c3)).toArray] w (Enc w x.right x.enc) := by
  have hC := (Chg.refl Non w).alloc (.cells (x.cells (.slice A1 x.commit.seals.length c1) (.slice A2 x.set.length c2) (.slice A3 x.next.length c3)).toArray 72)
  have hb := Hb.new w 72 (x.cells (.slice A1 x.commit.seals.length c1) (.slice A2 x.set.length c2) (.slice A3 x.next.length c3)).toArray
  have hs : (w.alloc (.cells (x.cells (.slice A1 x.commit.seals.length c1) (.slice A2 x.set.length c2) (.slice A3 x.next.length c3)).toArray 72)).heap.size = w.heap.size + 1 := by simp
  have H := encoded_Light (w.alloc (.cells (x.cells (.slice A1 x.commit.seals.length c1) (.slice A2 x.set.length c2) (.slice A3 x.next.length c3)).toArray 72)) ⟨w.heap.size, 0, none⟩ x.right x.enc (fun h => by have := x.enc_len h ox; omega) (fun w1 g k hg hw => by
    have hb1 := hb.chg k (fun f => f)
    exact light_w g [] w1 _ w.heap.size 0 A1 A2 A3 c1 c2 c3 x hw hb1.range0 hl1 hl2 hl3 ((M1.chg hC).not k (by omega)) ((M2.chg hC).not k (by omega)) ((M3.chg hC).not k (by omega)) ox (by simp) (by rintro (h | h); omega; cases h) (by have := hb1.lt; omega))
  have HH := Lib.hid H
  have HC := Lib.hid hC
  clear H hC hb hs
  clear hl1 hl2 hl3 M1 M2 M3
  generalize (x.cells (.slice A1 x.commit.seals.length c1) (.slice A2 x.set.length c2) (.slice A3 x.next.length c3)) = cs at *
  go_enter Try.func35, Try.ntmps35
  go_wp2_with fail
  refine HH.out.mono ?_
  rintro e w1 ⟨h1, h2⟩
  clear HH
  have h0 := HC.out.trans h1 (fun _ f => f.elim)
  generalize x.right = ok at *
  cases ok with
  | true =>
    obtain ⟨v, rfl, ho, hl⟩ := h2
    go_wp2
    go_ret2
    exact ⟨h0, v, rfl, ho, fun k hk => by have := hl k hk; have := HC.out.size; omega⟩
  | false =>
    obtain rfl := h2
    go_wp2
    go_ret2
    exact ⟨h0, rfl⟩

theorem DecodeLight_any (w : World) (A : Option Addr) (n c : Nat) (bs : List UInt8) (hn : n = bs.length) (hr : Rd w A bs) (hsz : bs.length ≤ 1000000000) : Calls Try.prog 28 #[.slice A n c] w (DecL w ltz (whole (dLight (some bs)))) := by
  have hz := dLight.alloc0 w
  have hzl := dLight.zlen
  have hrow := dLight.row
  have hC := (Chg.refl Non w).alloc (.cells ltz.toArray 72)
  have hb := Hb.new w 72 ltz.toArray
  have hltz : ltz = Hd.zero.cells ++ (.int .i64 0 :: .int .i64 0 :: (bv noH ++ (.slice none 0 0 :: .slice none 0 0 :: .slice none 0 0 :: []))) := rfl
  have hzh : Hd.zero.cells.length = 163 := rfl
  have H := decoded_Light (w.alloc (.cells ltz.toArray 72)) A n c bs (dLight (some bs)) hn (hr.chg hC (fun _ _ f => f)) hsz (fun x s h => dLight_len h) (fun w1 g F S => by
    generalize (w.alloc (.cells ltz.toArray 72)).heap.size = tb at *
    have h := light_r w1 g F tb 0 72 [] [] Hd.zero.cells hzh (.int .i64 0) (.int .i64 0) (bv noH) (by rw [bv_length]; rfl) (some bs) (S.eq (by rw [List.nil_append]; exact hltz)) rfl
    rw [List.nil_append, ← hltz, hzl] at h
    exact h)
  have hlen : ∀ x, whole (dLight (some bs)) = some x → ∀ a b c, (x.cells a b c).length = 200 := by
    intro x h a b c
    cases hd : dLight (some bs) with
    | none => rw [hd] at h; cases h
    | some y =>
      rw [hd] at h
      obtain ⟨y, st⟩ := y
      match st, h with
      | some [], h =>
        simp only [whole, Option.some.injEq] at h
        subst h
        exact dLight_len hd a b c
  generalize whole (dLight (some bs)) = r at *
  have hzone := ltz_one
  have HH := Lib.hid H
  have HC := Lib.hid hC
  clear H hC hn hr hltz hzh
  generalize ltz = z at *
  go_enter Try.func28, Try.ntmps28
  go_wp2_with (with_reducible refine wpList_alloc_row rfl _ rfl z hz ?_)
  refine HH.out.mono ?_
  rintro e w1 ⟨h1, h2⟩
  clear HH
  have hb1 := hb.chg h1 (fun f => f)
  have h0 := HC.out.trans h1 (fun _ f => f.elim)
  have hs1 := HC.out.size
  have hss : (w.alloc (.cells z.toArray 72)).heap.size = w.heap.size + 1 := by simp
  obtain ⟨L, k, rfl, hL1, hL2, hk⟩ : ∃ (L : List Value) (k : Int), e = .returned (.tuple #[.agg L.toArray, .int .i64 k]) ∧ L.length = 200 ∧ (∀ v ∈ L, v.oneCell' = true) ∧ (∀ w', Chg (fun j => j = w.heap.size) w1 w' → DecL w z r (.returned (.tuple #[.agg L.toArray, .int .i64 k])) w') := by
    cases r with
    | some x =>
      obtain ⟨n1, n2, n3, g1, g2, g3, rfl, B1, B2, B3⟩ := h2
      refine ⟨_, 0, rfl, hlen x rfl _ _ _, x.one n1 n2 n3, fun w' k => ⟨h0.trans k (fun j hj => .inr (by omega)), n1, n2, n3, by omega, by omega, by omega, rfl, B1.chg k (by omega), B2.chg k (by omega), B3.chg k (by omega)⟩⟩
    | none => exact ⟨z, 61, h2, hzl, hzone, fun w' k => ⟨h0.trans k (fun j hj => .inr (by omega)), rfl⟩⟩
  have hLs : L.toArray.size = 200 := by rw [List.size_toArray, hL1]
  have hth := hb1.there0
  rw [hzl] at hth
  have hb2 := hb1.sets0 (L' := L) (by rw [hzl, hL1])
  have HK := Lib.hid hk
  clear h2 hk hlen
  go_wp2_with (with_reducible refine wpList_store_mid rfl 72 _ _ rfl w.heap.size 0 L.toArray rfl rfl (by rw [hLs]; exact hth) (by rw [hLs, hrow]) (one_mem hL2) ?_)
  refine bodyPost_ret ((results_cell_tmp rfl _ _ _).trans ?_) rfl (R := DecL w z r) (v := .tuple #[.agg L.toArray, .int .i64 k]) ?_
  · simp only [asAddr, Sem.run_pure, Result.andThen_ok]
    have hl := load_row hb2 Try.underlying72 rfl (by rw [hrow, hL1])
    simp [hl]
  · exact HK.out _ (Chg.setCells (S := fun j => j = w.heap.size) rfl L _ 0 (Chg.refl _ _))
end Go.Proofs.Ytjcfdclgddjaoaa
