/- Of the program at this commit: the law ValsetUpdates answers true for every set and every changes (Update answers what the document's definition answers, or its error, and both lists stay); no condition. -/
import Derived.Test.YtddkcdlioglkmaaRows
import Derived.WalkKit
import Derived.ProofKit
import Derived.Test.YtddkcdlioglkmaaYu
namespace Go.Proofs.Ytddkcdlioglkmaa.valsetUpdates
open Go.ChangeShapes Go.WideShapes Go.ChangeAt Go.RowKit
set_option linter.unusedVariables false

/-- What Update answers: an error's number, and a list. -/
def Det (l ch : List Va) (er : Int) (r : List Va) : Prop :=
  (¬ Rt l ∧ er = 71 ∧ r = []) ∨ (Rt l ∧ ∃ x, runC (pw l) ch = .error x ∧ er = x ∧ r = []) ∨
  (Rt l ∧ ∃ f r0, runC (pw l) ch = .ok f ∧ Nf r0 f ∧ ((¬ Fits r0 ∧ er = 72 ∧ r = []) ∨ (Fits r0 ∧ ¬ Rt r0 ∧ er = 71 ∧ r = []) ∨ (Rt r0 ∧ er = 0 ∧ r = r0)))
theorem Det.uniq {l ch r s : List Va} {x y : Int} (h : Det l ch x r) (k : Det l ch y s) : x = y ∧ r = s := by
  rcases h with ⟨a, rfl, rfl⟩ | ⟨a, z, b, rfl, rfl⟩ | ⟨a, f, r0, b, c, d⟩
  · rcases k with ⟨_, rfl, rfl⟩ | ⟨a', _⟩ | ⟨a', _⟩
    · exact ⟨rfl, rfl⟩
    · exact absurd a' a
    · exact absurd a' a
  · rcases k with ⟨a', _⟩ | ⟨_, z', b', rfl, rfl⟩ | ⟨_, f, r0, b', _⟩
    · exact absurd a a'
    · rw [b] at b'
      injection b' with b'
      exact ⟨b', rfl⟩
    · rw [b] at b'; cases b'
  · rcases k with ⟨a', _⟩ | ⟨_, z', b', _⟩ | ⟨_, g, s0, b', c', d'⟩
    · exact absurd a a'
    · rw [b] at b'; cases b'
    · rw [b] at b'
      injection b' with b'
      subst b'
      obtain rfl := c.uniq c'
      rcases d with ⟨p, rfl, rfl⟩ | ⟨p, q, rfl, rfl⟩ | ⟨p, rfl, rfl⟩
      · rcases d' with ⟨_, rfl, rfl⟩ | ⟨p', _⟩ | ⟨p', _⟩
        · exact ⟨rfl, rfl⟩
        · exact absurd p' p
        · exact absurd p'.2.2.2 p
      · rcases d' with ⟨p', _⟩ | ⟨_, _, rfl, rfl⟩ | ⟨p', _⟩
        · exact absurd p p'
        · exact ⟨rfl, rfl⟩
        · exact absurd p' q
      · rcases d' with ⟨p', _⟩ | ⟨_, p', _⟩ | ⟨_, rfl, rfl⟩
        · exact absurd p.2.2.2 p'
        · exact absurd p p'
        · exact ⟨rfl, rfl⟩
theorem Upd.det {w w' : World} {l ch : List Va} {e : Ending} (h : Upd w l ch e w') : Chg Non w w' ∧ ∃ (er : Int) (r : List Va) (A : Option Addr) (c : Nat), e = .returned (.tuple #[.slice A r.length c, .int .i64 er]) ∧ Hid (Det l ch er r ∧ r.length ≤ 64 ∧ LstM w' A r Va.cells 2) := by
  obtain ⟨k, h⟩ := h
  have nl : LstM w' none ([] : List Va) Va.cells 2 := fun i x hx => by simp at hx
  refine ⟨k, ?_⟩
  rcases h with ⟨a, rfl⟩ | ⟨a, x, b, _, rfl⟩ | ⟨a, f, r, b, c, _, ⟨d, rfl⟩ | ⟨d, d2, rfl⟩ | ⟨d, A, c', rfl, M⟩⟩
  · exact ⟨71, [], none, 0, rfl, Lib.hid ⟨.inl ⟨a, rfl, rfl⟩, by simp, nl⟩⟩
  · exact ⟨x, [], none, 0, rfl, Lib.hid ⟨.inr (.inl ⟨a, x, b, rfl, rfl⟩), by simp, nl⟩⟩
  · exact ⟨72, [], none, 0, rfl, Lib.hid ⟨.inr (.inr ⟨a, f, r, b, c, .inl ⟨d, rfl, rfl⟩⟩), by simp, nl⟩⟩
  · exact ⟨71, [], none, 0, rfl, Lib.hid ⟨.inr (.inr ⟨a, f, r, b, c, .inr (.inl ⟨d, d2, rfl, rfl⟩)⟩), by simp, nl⟩⟩
  · exact ⟨0, r, A, c', rfl, Lib.hid ⟨.inr (.inr ⟨a, f, r, b, c, .inr (.inr ⟨d, rfl, rfl⟩)⟩), d.2.1, M⟩⟩

theorem own_some {w : World} {v : Value} {l : List Va} (h : OwnV w v l) (h0 : l ≠ []) {m : Nat} (hm : l.length = m) : ∃ g cap, v = .slice (some ⟨g, 0, none⟩) m cap ∧ Hid (m ≤ cap ∧ cap ≤ maxLen ∧ RowV w g l) := by
  subst hm
  obtain ⟨_, h1⟩ | ⟨g, cap, e, a, b, _, r⟩ := h.form
  · exact absurd h1 h0
  · exact ⟨g, cap, e, Lib.hid ⟨a, b, r⟩⟩
theorem own_any {w : World} {v : Value} {l : List Va} (h : OwnV w v l) {m : Nat} (hm : l.length = m) : ∃ A c, v = .slice A m c ∧ Hid (LstM w A l Va.cells 2) := by
  subst hm
  obtain ⟨A, c, e, _, _, M⟩ := h.slice
  exact ⟨A, c, e, Lib.hid M⟩

set_option maxRecDepth 100000 in
set_option maxHeartbeats 6400000 in
theorem walk (W : World) (v0 v1 : Value) (h0 : Okv Try.prog W 22 v0) (h1 : Okv Try.prog W 22 v1) :
    Calls Try.prog 3 #[v0, v1] W fun e W' => e = .returned (.bool true) ∧ Below W.heap.size W W' := by
  obtain ⟨A, c, l, rfl, hl, M, ol⟩ := set_arg h0
  obtain ⟨B, d, ch, rfl, hch, N, och⟩ := set_arg h1
  clear h0 h1
  have HAL := Lib.hid (fun w => alive_any w)
  have DONE : ∀ w', Chg Non W w' → Below W.heap.size W w' := fun w' k => k.below (Nat.le_refl _) (fun _ f => f.elim)
  have HD := Lib.hid DONE
  clear DONE
  unfold maxLen at hl hch
  by_cases b1 : 80 < l.length
  · have b1' : (80 : Int) < (l.length : Int) := by omega
    clear M N ol och
    generalize l.length = n1 at *
    generalize ch.length = n2 at *
    go_enter Try.func3, Try.ntmps3
    go_wp2_with fail
    refine (HAL.out _).mono ?_
    rintro e w1 ⟨rfl, k1⟩
    go_wp2_with fail
    go_ret
    exact ⟨rfl, HD.out _ k1⟩
  by_cases b2 : 80 < ch.length
  · have b2' : (80 : Int) < (ch.length : Int) := by omega
    have b1' : ¬ (80 : Int) < (l.length : Int) := by omega
    clear M N ol och
    generalize l.length = n1 at *
    generalize ch.length = n2 at *
    go_enter Try.func3, Try.ntmps3
    go_wp2_with fail
    refine (HAL.out _).mono ?_
    rintro e w1 ⟨rfl, k1⟩
    go_wp2_with fail
    go_ret
    exact ⟨rfl, HD.out _ k1⟩
  have b1' : ¬ (80 : Int) < (l.length : Int) := by omega
  have b2' : ¬ (80 : Int) < (ch.length : Int) := by omega
  have HM := Lib.hid M
  have HN := Lib.hid N
  have OL := Lib.hid ol
  have OC := Lib.hid och
  have HSL : Hid (∀ w' A' c' A'' c'', LstM w' A' l Va.cells 2 → LstM w' A'' l Va.cells 2 → Calls Try.prog 8 #[.slice A' l.length c', .slice A'' l.length c''] w' (Zero w' (.bool true))) := Lib.hid fun w' A' c' A'' c'' m1 m2 => sameSet_yes w' A' A'' c' c'' l (by unfold maxLen; omega) m1 m2
  have HSC : Hid (∀ w' A' c' A'' c'', LstM w' A' ch Va.cells 2 → LstM w' A'' ch Va.cells 2 → Calls Try.prog 8 #[.slice A' ch.length c', .slice A'' ch.length c''] w' (Zero w' (.bool true))) := Lib.hid fun w' A' c' A'' c'' m1 m2 => sameSet_yes w' A' A'' c' c'' ch (by unfold maxLen; omega) m1 m2
  have HU : Hid (∀ w' A' c' B' d', LstM w' A' l Va.cells 2 → LstM w' B' ch Va.cells 2 → Calls Try.prog 6 #[.slice A' l.length c', .slice B' ch.length d'] w' (Upd w' l ch)) := Lib.hid fun w' A' c' B' d' m1 m2 => Update_any w' A' B' c' d' l ch (by omega) (by omega) ol och m1 m2
  have HV : Hid (∀ w' A' c' B' d', LstM w' A' l Va.cells 2 → LstM w' B' ch Va.cells 2 → Calls Try.prog 7 #[.slice A' l.length c', .slice B' ch.length d'] w' (Upd w' l ch)) := Lib.hid fun w' A' c' B' d' m1 m2 => rUpdate_any w' A' B' c' d' l ch (by omega) (by omega) ol och m1 m2
  clear M N ol och
  generalize hn1 : l.length = n1 at *
  generalize hn2 : ch.length = n2 at *
  have E1 := Lib.hid hn1
  have E2 := Lib.hid hn2
  clear hn1 hn2
  have kA : Chg Non W (W.alloc (.cells #[] 26)) := (Chg.refl _ _).alloc _
  have HKA := Lib.hid kA
  have O0 : Hid (OwnV (W.alloc (.cells #[] 26)) (.slice (some ⟨W.heap.size, 0, none⟩) 0 0) []) := Lib.hid (own0_of (Hb.new W _ #[]))
  have G1 : Hid (∀ (v1 : Value) (w1 : World), (W.alloc (.cells #[] 26)).grownBy w1 (Value.slice (some ⟨W.heap.size, 0, none⟩) 0 0).ownBlock → (v1.ownBlock = (Value.slice (some ⟨W.heap.size, 0, none⟩) 0 0).ownBlock ∨ v1.ownBlock = some (W.alloc (.cells #[] 26)).heap.size) → Chg Non W w1 ∧ ∀ j, vbl v1 j → W.heap.size ≤ j) := Lib.hid (by
    intro v1 w1 g b
    refine ⟨HKA.out.grown g (fun j hj => .inr ?_), own_next2 (W := W.alloc (.cells #[] 26)) (v := .slice (some ⟨W.heap.size, 0, none⟩) 0 0) (fun j hj => ?_) HKA.out.size b⟩
    · have hj : some W.heap.size = some j := hj.symm ▸ rfl
      injection hj with hj
      omega
    · have hj : some W.heap.size = some j := hj
      injection hj with hj
      omega)
  have G2 : Hid (∀ (v1 : Value) (w1 w2 : World), Chg Non W w1 → (∀ j, vbl v1 j → W.heap.size ≤ j) → (w1.alloc (.cells #[.int .u64 77, .int .i64 0] 26)).grownBy w2 v1.ownBlock → Chg Non W w2) := Lib.hid (fun v1 w1 w2 k h g => (k.alloc _).grown g (fun j hj => .inr (h j hj)))
  have G3 : Hid (∀ (w2 w3 : World), (w2.alloc (.cells #[] 26)).grownBy w3 (Value.slice (some ⟨w2.heap.size, 0, none⟩) 0 0).ownBlock → Chg Non w2 w3) := Lib.hid (by
    intro w2 w3 g
    refine ((Chg.refl Non w2).alloc _).grown g (fun j hj => .inr ?_)
    have hj : some w2.heap.size = some j := hj.symm ▸ rfl
    injection hj with hj
    omega)
  have L1 : Hid (([] : List Va).length + l.length ≤ 1000000000000) := Lib.hid (by have := E1.out; simp; omega)
  have L2 : Hid ((([] : List Va) ++ l).length + ([⟨77, 0⟩] : List Va).length ≤ 1000000000000) := Lib.hid (by have := E1.out; simp; omega)
  have L22 : Hid (((([] : List Va) ++ l) ++ ([⟨77, 0⟩] : List Va)).length = n1 + 1) := Lib.hid (by have := E1.out; simp; omega)
  have L3 : Hid (([] : List Va).length + ch.length ≤ 1000000000000) := Lib.hid (by have := E2.out; simp; omega)
  have L33 : Hid ((([] : List Va) ++ ch).length = n2) := Lib.hid (by have := E2.out; simpa using this)
  go_enter Try.func3, Try.ntmps3
  go_wp2_with (first
    | (at_builtin; refine wpList_appV _ rfl _ _ rfl rfl O0.out (A := A) (c := c) rfl E1.out.symm (HM.out.chg HKA.out) L1.out ?_; intro v1 w1 o1 g1 b1; obtain ⟨K1, BB1⟩ := G1.out v1 w1 g1 b1)
    | (at_builtin; refine wpList_appV _ rfl _ _ rfl rfl (o1.chg ((Chg.refl Non w1).alloc (.cells #[.int .u64 77, .int .i64 0] 26)) (fun _ _ h => h)) (A := some ⟨w1.heap.size, 0, none⟩) (n := 1) (c := 1) rfl (m := [⟨77, 0⟩]) rfl (one_new w1 ⟨77, 0⟩) L2.out ?_; intro v2 w2 o2 g2 b2; have K2 := G2.out v1 w1 w2 K1 BB1 g2; obtain ⟨g, cap, rfl, F2⟩ := own_some o2 (by simp) (m := n1 + 1) L22.out; have F20 := F2.out.1; have F21 := F2.out.2.1; unfold maxLen at F21)
    | (at_builtin; refine wpList_appV _ rfl _ _ rfl rfl (own0_of (Hb.new w2 _ #[])) (A := B) (c := d) rfl E2.out.symm (HN.out.chg (K2.alloc (.cells #[] 26))) L3.out ?_; intro v3 w3 o3 g3 b3; have K23 := G3.out w2 w3 g3; obtain ⟨A3, c3, rfl, F3⟩ := own_any o3 (m := n2) L33.out))
  have R2 := Lib.hid (F2.out.2.2.chg K23 (fun h => h))
  have M3 : Hid (LstM w3 (some ⟨g, 0, none⟩) l Va.cells 2) := Lib.hid (by
    have := (R2.out.take n1).lst
    rwa [show List.take n1 (([] ++ l) ++ [(⟨77, 0⟩ : Va)]) = l by rw [List.nil_append, ← E1.out]; simp] at this)
  have N3 : Hid (LstM w3 A3 ch Va.cells 2) := Lib.hid (by have := F3.out; rwa [List.nil_append] at this)
  have KW := Lib.hid (K2.trans K23 (fun _ h => (h : False).elim))
  have C77 : Hid (w3.cell? ⟨g, n1 * 2, none⟩ = some (.int .u64 77)) := Lib.hid (R2.out.cells (i := n1) (x := ⟨77, 0⟩) (by rw [List.nil_append, ← E1.out]; simp)).1.1
  clear F2 F3 R2 K2 K23 K1 BB1 o1 o2 o3 g1 g2 g3 b1 b2 b3
  refine (HU.out w3 _ cap _ c3 M3.out N3.out).mono ?_
  rintro e w4 hu
  obtain ⟨k4, er, r, A4, c4, rfl, hdu⟩ := Upd.det hu
  clear hu
  have hrl := hdu.out.2.1
  generalize hrn : r.length = rn at *
  have ER := Lib.hid hrn
  clear hrn
  have kw4 := Lib.hid (KW.out.trans k4 (fun _ h => (h : False).elim))
  go_wp2_with fail
  refine (HV.out w4 A c B d (HM.out.chg kw4.out) (HN.out.chg kw4.out)).mono ?_
  rintro e w5 hv
  obtain ⟨k5, er', r', A5, c5, rfl, hdv⟩ := Upd.det hv
  clear hv
  obtain ⟨rfl, rfl⟩ := hdu.out.1.uniq hdv.out.1
  have hrn := ER.out
  rw [hrn]
  have HSR := Lib.hid (sameSet_yes w5 A4 A5 c4 c5 r (by unfold maxLen; omega) (hdu.out.2.2.chg k5) hdv.out.2.2)
  rw [hrn] at HSR
  have k35 := k4.trans k5 (fun _ h => (h : False).elim)
  clear hdu hdv hrn
  go_wp2_with fail
  refine HSR.out.mono ?_
  rintro e w6 ⟨rfl, k6⟩
  have k36 := k35.trans k6 (fun _ h => (h : False).elim)
  have kw6 := Lib.hid (KW.out.trans k36 (fun _ h => (h : False).elim))
  go_wp2_with fail
  refine (HSL.out w6 _ cap A c (M3.out.chg k36) (HM.out.chg kw6.out)).mono ?_
  rintro e w7 ⟨rfl, k7⟩
  have k37 := k36.trans k7 (fun _ h => (h : False).elim)
  have kw7 := Lib.hid (KW.out.trans k37 (fun _ h => (h : False).elim))
  go_wp2_with fail
  refine (HSC.out w7 A3 c3 B d (N3.out.chg k37) (HN.out.chg kw7.out)).mono ?_
  rintro e w8 ⟨rfl, k8⟩
  have k38 := k37.trans k8 (fun _ h => (h : False).elim)
  go_wp2_with fail
  refine (HAL.out w8).mono ?_
  rintro e w9 ⟨rfl, k9⟩
  have k39 := k38.trans k9 (fun _ h => (h : False).elim)
  have kw9 := Lib.hid (KW.out.trans k39 (fun _ h => (h : False).elim))
  have c77 := k39.cell C77.out (fun h => h)
  have hn1i : ((n1 : Nat) : Int) < ((n1 : Nat) : Int) + 1 := by omega
  go_wp2_with fail
  go_ret
  exact ⟨rfl, HD.out _ kw9.out⟩

/-! ### The row's frame -/
theorem own : ownKnob Try.prog.godebug = none := by kernel_rfl
theorem walkA (W : World) (args : Array Value) (hsz : args.size = Try.f3.params.size) (hok : ∀ (j : Nat) (t : TypeId) (v : Value), Try.f3.params[j]? = some t → args[j]? = some v → Okv Try.prog W t v) :
    Calls Try.prog 3 args W fun e W' => e = .returned (.bool true) ∧ Below W.heap.size W W' := by
  rw [Try.params3] at hsz hok
  obtain ⟨v0, v1, rfl⟩ : ∃ v0 v1 : Value, args = #[v0, v1] := by
    obtain ⟨l⟩ := args
    match l, hsz with
    | [v0, v1], _ => exact ⟨v0, v1, rfl⟩
  exact walk W v0 v1 (hok 0 22 v0 rfl rfl) (hok 1 22 v1 rfl rfl)
set_option maxRecDepth 100000 in
theorem lifted (os : Os) (started : os.Started) (H : Type) (enc : TypeId × Value → H) :
    ReturnsInHanded {} Try.checked os 3 .any (Rows.valsetUpdatesSpec.pre6 enc Try.prog Try.f3 Rows.valsetUpdatesRow.domain false) (Rows.valsetUpdatesSpec.post enc Try.prog Try.f3 false true false false) :=
  lifted_of_walk (C := Try.checked) (s := Rows.valsetUpdatesSpec) (conds := Rows.valsetUpdatesRow.domain) (apart := false) (fresh := true) (T := 4) own started (by kernel_rfl) Try.func3
    (ChangeSpec.witness6 (enc := enc) (C := Try.checked) false ⟨#[], #[.slice none 0 0, .slice none 0 0], []⟩ 8 (by kernel_rfl) (by kernel_rfl) (by kernel_rfl) (by kernel_rfl))
    rfl (fun ds hd => by
      rw [Try.params3] at hd
      match ds, hd with
      | [d0, d1], _ => exact ⟨rfl, rfl, rfl⟩)
    (by kernel_rfl) Try.underlying4 (by kernel_rfl) (by rw [Try.params3]; intro t ht; simp only [List.mem_cons, List.not_mem_nil, or_false] at ht; rcases ht with rfl | rfl <;> exact ⟨by kernel_rfl, of_decide_eq_true (by kernel_rfl)⟩) walkA

theorem holds : Rows.valsetUpdatesRow.holds Try.pinned (OpenSpec.ofChange Rows.valsetUpdatesSpec) :=
  OpenClaim.holds_of_wide 3 Try.f3 rfl rfl rfl rfl rfl rfl rfl ⟨rfl, rfl, rfl, rfl, rfl⟩ rfl rfl rfl rfl rfl (by kernel_rfl) Try.func3 (by kernel_rfl)
    (of_decide_eq_true (by kernel_rfl)) (by unfold Func.isWrapper; first | (rw [if_pos (by decide +kernel)]; kernel_rfl) | (rw [if_neg (by decide +kernel)]; exact ⟨rfl, rfl⟩))
    (fun os started H enc _ => lifted os started H enc)
end Go.Proofs.Ytddkcdlioglkmaa.valsetUpdates
namespace Go.Proofs.Ytddkcdlioglkmaa
/-- The statement. -/
theorem valsetUpdates_holds : Rows.ValsetUpdatesSaid := valsetUpdates.holds
end Go.Proofs.Ytddkcdlioglkmaa
