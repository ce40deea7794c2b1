/- What the calls on package wire's reader answer, of any reader: a right one, a broken one, none. -/
import Derived.Test.YtjcfdclgddjaoaaChecked
import Derived.WalkKit
import Derived.WalkLawsBesides
import Derived.Lib.Hide
import Derived.Test.YtjcfdclgddjaoaaRh
namespace Go.Proofs.Ytjcfdclgddjaoaa
open Go.RowKit
set_option linter.unusedVariables false

theorem Readd.after {w w1 w' : World} {g : Nat} {F : Nat → Prop} {z : Value} {o : Option (Value × List UInt8)} {e : Ending} (k : Chg Non w w1) (h : Readd w1 g F z o e w') : Readd w g F z o e w' :=
  ⟨h.1, h.2.1, (k.mono (S' := Eqg g) (fun _ f => f.elim)).trans h.2.2 (fun _ hj => .inl hj)⟩
/-- A call on no reader: zero. -/
def Zero (w : World) (z : Value) (e : Ending) (w' : World) : Prop := e = .returned z ∧ Chg Non w w'

theorem numberR_any (w : World) (g : Nat) (F : Nat → Prop) (st : Option (List UInt8)) (h : Rdr w g F st) :
    Calls Try.prog 115 #[.pointer (some ⟨g, 0, none⟩)] w (Readd w g F (.int .i64 0) ((st.bind fNumber).map fun x => (.int .i64 x.1, x.2))) := by
  have hmf := mkf
  cases st with
  | none =>
    go_enter Try.func115, Try.ntmps115
    go_wp2_with fail
    refine (readB_int w g F _ h).mono ?_
    rintro e w' ⟨rfl, h2, h3⟩
    go_wp2
    go_ret
    exact ⟨rfl, h2, h3⟩
  | some l =>
    have H := readNumber_any w g F l h
    rw [Option.bind_some]
    generalize (fNumber l).map _ = o at H ⊢
    go_enter Try.func115, Try.ntmps115
    go_wp2_with fail
    refine H.mono ?_
    rintro e w' ⟨rfl, h2, h3⟩
    go_wp2
    go_ret
    exact ⟨rfl, h2, h3⟩

theorem numberR_nil (w : World) : Calls Try.prog 115 #[.pointer none] w (Zero w (.int .i64 0)) := by
  have hmf := mkf
  go_enter Try.func115, Try.ntmps115
  go_wp2_with fail
  refine (readN_int w _).mono ?_
  rintro e w' ⟨rfl, h3⟩
  go_wp2
  go_ret
  exact ⟨rfl, h3⟩

theorem wordR_any (w : World) (g : Nat) (F : Nat → Prop) (st : Option (List UInt8)) (h : Rdr w g F st) :
    Calls Try.prog 122 #[.pointer (some ⟨g, 0, none⟩)] w (Readd w g F (.int .u64 0) ((st.bind fWord).map fun x => (.int .u64 (x.1 : Int), x.2))) := by
  have hmf := mkf
  cases st with
  | none =>
    go_enter Try.func122, Try.ntmps122
    go_wp2_with fail
    refine (readB_u64 w g F _ h).mono ?_
    rintro e w' ⟨rfl, h2, h3⟩
    go_wp2
    go_ret
    exact ⟨rfl, h2, h3⟩
  | some l =>
    have H := readWord_any w g F l h
    rw [Option.bind_some]
    generalize (fWord l).map _ = o at H ⊢
    go_enter Try.func122, Try.ntmps122
    go_wp2_with fail
    refine H.mono ?_
    rintro e w' ⟨rfl, h2, h3⟩
    go_wp2
    go_ret
    exact ⟨rfl, h2, h3⟩

theorem wordR_nil (w : World) : Calls Try.prog 122 #[.pointer none] w (Zero w (.int .u64 0)) := by
  have hmf := mkf
  go_enter Try.func122, Try.ntmps122
  go_wp2_with fail
  refine (readN_u64 w _).mono ?_
  rintro e w' ⟨rfl, h3⟩
  go_wp2
  go_ret
  exact ⟨rfl, h3⟩

theorem textR_any (w : World) (g : Nat) (F : Nat → Prop) (st : Option (List UInt8)) (h : Rdr w g F st) :
    Calls Try.prog 117 #[.pointer (some ⟨g, 0, none⟩)] w (Readd w g F (.string ⟨#[]⟩) ((st.bind fText).map fun x => (.string ⟨x.1.toArray⟩, x.2))) := by
  have hmf := mkf
  cases st with
  | none =>
    go_enter Try.func117, Try.ntmps117
    go_wp2_with fail
    refine (readB_str w g F _ h).mono ?_
    rintro e w' ⟨rfl, h2, h3⟩
    go_wp2
    go_ret
    exact ⟨rfl, h2, h3⟩
  | some l =>
    have H := readText_any w g F l h
    rw [Option.bind_some]
    generalize (fText l).map _ = o at H ⊢
    go_enter Try.func117, Try.ntmps117
    go_wp2_with fail
    refine H.mono ?_
    rintro e w' ⟨rfl, h2, h3⟩
    go_wp2
    go_ret
    exact ⟨rfl, h2, h3⟩

theorem textR_nil (w : World) : Calls Try.prog 117 #[.pointer none] w (Zero w (.string ⟨#[]⟩)) := by
  have hmf := mkf
  go_enter Try.func117, Try.ntmps117
  go_wp2_with fail
  refine (readN_str w _).mono ?_
  rintro e w' ⟨rfl, h3⟩
  go_wp2
  go_ret
  exact ⟨rfl, h3⟩

theorem fHash_length {l : List UInt8} {x : List UInt8 × List UInt8} (hf : fHash l = some x) : x.1.length = 32 := by
  unfold fHash at hf
  split at hf
  · cases hf
  · injection hf with hf; rw [← hf]; simp; omega

set_option maxHeartbeats 400000 in
theorem hashR_any (w : World) (g : Nat) (F : Nat → Prop) (st : Option (List UInt8)) (h : Rdr w g F st) :
    Calls Try.prog 120 #[.pointer (some ⟨g, 0, none⟩)] w (Readd w g F (.agg (bv noH).toArray) ((st.bind fHash).map fun x => (.agg (bv x.1).toArray, x.2))) := by
  have hmf := mkf
  have hz := Hb.new w 45 (bv noH).toArray
  have hch := (Chg.refl Non w).alloc (.cells (bv noH).toArray 45)
  have h1 := h.chg hch (fun f => f) (fun _ _ f => f)
  cases st with
  | none =>
    go_enter Try.func120, Try.ntmps120
    go_wp2_with (with_reducible refine wpList_alloc_hash rfl rfl ?_)
    refine (readB_hash _ g F _ h1).mono ?_
    rintro e w' ⟨rfl, h2, h3⟩
    have hz1 := hz.chg h3 (fun e => by have := h.lt; unfold Eqg at e; omega)
    go_wp2_with (with_reducible refine wpList_store_hash rfl _ _ rfl (h := noH) rfl rfl noH_length hz1 rfl ?_)
    refine ret_hash rfl rfl (hz1.setRow _) noH_length rfl ⟨rfl, ?_, ?_⟩
    · exact h2.chg ((Chg.refl (fun k => k = w.heap.size) _).setRow (.inl rfl) _) (fun e => by have := h.lt; omega) (fun j hj e => by have := h.Flt j hj; omega)
    · exact ((hch.mono (S' := Eqg g) (fun _ f => f.elim)).trans h3 (fun _ hj => .inl hj)).setRow (.inr (by omega)) _
  | some l =>
    have H := readHash_any _ g F l h1
    cases hf : fHash l with
    | none =>
      rw [hf] at H
      rw [Option.bind_some, hf]
      clear hf
      go_enter Try.func120, Try.ntmps120
      go_wp2_with (with_reducible refine wpList_alloc_hash rfl rfl ?_)
      refine H.mono ?_
      rintro e w' ⟨rfl, h2, h3⟩
      have hz1 := hz.chg h3 (fun e => by have := h.lt; unfold Eqg at e; omega)
      go_wp2_with (with_reducible refine wpList_store_hash rfl _ _ rfl (h := noH) rfl rfl noH_length hz1 rfl ?_)
      refine ret_hash rfl rfl (hz1.setRow _) noH_length rfl ⟨rfl, ?_, ?_⟩
      · exact h2.chg ((Chg.refl (fun k => k = w.heap.size) _).setRow (.inl rfl) _) (fun e => by have := h.lt; omega) (fun j hj e => by have := h.Flt j hj; omega)
      · exact ((hch.mono (S' := Eqg g) (fun _ f => f.elim)).trans h3 (fun _ hj => .inl hj)).setRow (.inr (by omega)) _
    | some x =>
      have HX := Lib.hid (fHash_length hf)
      rw [hf] at H
      rw [Option.bind_some, hf]
      clear hf
      go_enter Try.func120, Try.ntmps120
      go_wp2_with (with_reducible refine wpList_alloc_hash rfl rfl ?_)
      refine H.mono ?_
      rintro e w' ⟨rfl, h2, h3⟩
      have hz1 := hz.chg h3 (fun e => by have := h.lt; unfold Eqg at e; omega)
      go_wp2_with (with_reducible refine wpList_store_hash rfl _ _ rfl (h := x.1) rfl rfl HX.out hz1 rfl ?_)
      refine ret_hash rfl rfl (hz1.setRow _) HX.out rfl ⟨rfl, ?_, ?_⟩
      · exact h2.chg ((Chg.refl (fun k => k = w.heap.size) _).setRow (.inl rfl) _) (fun e => by have := h.lt; omega) (fun j hj e => by have := h.Flt j hj; omega)
      · exact ((hch.mono (S' := Eqg g) (fun _ f => f.elim)).trans h3 (fun _ hj => .inl hj)).setRow (.inr (by omega)) _

theorem hashR_nil (w : World) : Calls Try.prog 120 #[.pointer none] w (Zero w (.agg (bv noH).toArray)) := by
  have hmf := mkf
  have hz := Hb.new w 45 (bv noH).toArray
  have hch := (Chg.refl Non w).alloc (.cells (bv noH).toArray 45)
  go_enter Try.func120, Try.ntmps120
  go_wp2_with (with_reducible refine wpList_alloc_hash rfl rfl ?_)
  refine (readN_hash _ _).mono ?_
  rintro e w' ⟨rfl, h3⟩
  have hz1 := hz.chg h3 (fun e => e)
  go_wp2_with (with_reducible refine wpList_store_hash rfl _ _ rfl (h := noH) rfl rfl noH_length hz1 rfl ?_)
  refine ret_hash rfl rfl (hz1.setRow _) noH_length rfl ⟨rfl, ?_⟩
  exact (hch.trans h3 (fun _ hj => .inl hj)).setRow (.inr (by omega)) _

/-- What End answers. -/
def endv (st : Option (List UInt8)) : Int := if st = some [] then 0 else 21

theorem endR_any (w : World) (g : Nat) (F : Nat → Prop) (st : Option (List UInt8)) (h : Rdr w g F st) :
    Calls Try.prog 90 #[.pointer (some ⟨g, 0, none⟩)] w fun e w' => e = .returned (.int .i64 (endv st)) ∧ w' = w := by
  unfold endv
  cases st with
  | none =>
    rw [if_neg (by simp)]
    have c0 : w.cell? ⟨g, 0, none⟩ = some (.slice none 0 0) := h.2.2.cell 0
    have c1 : w.cell? ⟨g, 1, none⟩ = some (.bool true) := h.2.2.cell 1
    go_enter Try.func90, Try.ntmps90
    go_wp2
    go_ret
    exact ⟨rfl, rfl⟩
  | some l =>
    obtain ⟨_, _, A, c, hb, _⟩ := h
    have c0 : w.cell? ⟨g, 0, none⟩ = some (.slice A l.length c) := hb.cell 0
    have c1 : w.cell? ⟨g, 1, none⟩ = some (.bool false) := hb.cell 1
    by_cases hl : 0 < l.length
    · rw [if_neg (by intro e; injection e with e; subst e; simp at hl)]
      have hl' : (0 : Int) < (l.length : Int) := by omega
      go_enter Try.func90, Try.ntmps90
      go_wp2
      go_ret
      exact ⟨rfl, rfl⟩
    · have e : l = [] := List.eq_nil_of_length_eq_zero (by omega)
      subst e
      rw [if_pos rfl]
      go_enter Try.func90, Try.ntmps90
      go_wp2
      go_ret
      exact ⟨rfl, rfl⟩

theorem endR_nil (w : World) : Calls Try.prog 90 #[.pointer none] w fun e w' => e = .returned (.int .i64 1) ∧ w' = w := by
  go_enter Try.func90, Try.ntmps90
  go_wp2
  go_ret
  exact ⟨rfl, rfl⟩

/-- What NewReader leaves: a new reader, whose bytes lie in new memory. -/
def Newr (w : World) (l : List UInt8) (e : Ending) (w' : World) : Prop :=
  ∃ g F, e = .returned (.pointer (some ⟨g, 0, none⟩)) ∧ Rdr w' g F (some l) ∧ w.heap.size ≤ g ∧ (∀ j, F j → w.heap.size ≤ j) ∧ Chg Non w w'

theorem newReader_any (w : World) (A : Option Addr) (n c : Nat) (l : List UInt8) (hn : n = l.length) (hr : Rd w A l) (hsz : l.length ≤ 1000000000) :
    Calls Try.prog 89 #[.slice A n c] w (Newr w l) := by
  have HN := Lib.hid hn
  clear hn
  have hown := Own.nil 5 w
  go_enter Try.func89, Try.ntmps89
  go_wp2_with (at_builtin; refine wpList_app byt _ rfl _ _ rfl (v := .slice none 0 0) rfl hown rfl HN.out hr (by simp; omega) ?_; intro v' w1 hown' hgr hloc; rw [List.nil_append] at hown'; obtain ⟨A', c', rfl, hc', hm', hr', hab', hlt'⟩ := hown'.slice)
  go_ret
  have hch : Chg Non w w1 := (Chg.refl Non w).grown hgr (fun k hk => by cases hk)
  refine ⟨w1.heap.size, abl A', rfl, ⟨?_, ?_, A', c', ?_, ?_, hc', hm', fun _ hj => hj⟩, hch.size, ?_, hch.alloc _⟩
  · intro hj; have := hlt' _ hj; omega
  · intro j hj; have := hlt' _ hj; simp; omega
  · exact Hb.new w1 180 #[.slice A' l.length c', .bool false]
  · exact hr'.chg ((Chg.refl Non w1).alloc _) (fun _ _ f => f)
  · intro j hj
    have hv := (hab' j).1 hj
    unfold vbl at hv
    rcases hloc with h1 | h1
    · rw [h1] at hv; cases hv
    · rw [h1] at hv; injection hv with hv; omega
end Go.Proofs.Ytjcfdclgddjaoaa
