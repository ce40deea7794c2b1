/- Package turns: Order, Proposer, Turn. -/
import Derived.Test.YtalfaoljbhmihaaTc
import Derived.Test.YtalfaoljbhmihaaVr
namespace Go.Proofs.Ytalfaoljbhmihaa
open Go.RowKit Go.Shelf
attribute [local go_sem] Oper.semAt_some
set_option linter.unusedVariables false
set_option linter.unusedSimpArgs false
set_option maxRecDepth 20000

theorem abl_lt {w : World} {A : Option Addr} {l : List Va} (M : LstM w A l Va.cells 2) (h : 1 ≤ l.length) {j : Nat} (hj : abl A j) : j < w.heap.size := by
  obtain ⟨eb, eo, rfl, hl, _⟩ := M 0 _ (List.getElem?_eq_getElem (show 0 < l.length by omega))
  obtain ⟨ad, e, rfl⟩ := hj
  injection e with e
  subst e
  exact hl

theorem Total_yes (w : World) (A : Option Addr) (c : Nat) (l : List Va) (hl : l.length ≤ maxLen) (ol : ∀ x ∈ l, x.Ok) (M : LstM w A l Va.cells 2) (h : Rt l) :
    Calls Try.prog 12 #[.slice A l.length c] w fun e w' => Chg Non w w' ∧ e = .returned (.tuple #[.int .i64 (sumP l), .int .i64 0]) := by
  refine (Total_any w A c l hl ol M).mono ?_
  rintro e w' ⟨k, ⟨_, rfl⟩ | ⟨h', _⟩⟩
  · exact ⟨k, rfl⟩
  · exact absurd h h'
theorem Total_no (w : World) (A : Option Addr) (c : Nat) (l : List Va) (hl : l.length ≤ maxLen) (ol : ∀ x ∈ l, x.Ok) (M : LstM w A l Va.cells 2) (h : ¬ Rt l) :
    Calls Try.prog 12 #[.slice A l.length c] w fun e w' => Chg Non w w' ∧ e = .returned (.tuple #[.int .i64 0, .int .i64 71]) := by
  refine (Total_any w A c l hl ol M).mono ?_
  rintro e w' ⟨k, ⟨h', _⟩ | ⟨_, rfl⟩⟩
  · exact absurd h' h
  · exact ⟨k, rfl⟩
/-- The world in which first has been called. -/
def Bx (w : World) (A : Option Addr) (len c : Nat) (P n : Int) : World := ((w.alloc (.cells #[.slice A len c] 22)).alloc (.cells #[.int .i64 P] 3)).alloc (.cells #[.int .i64 n] 3)
theorem Bx.chg (w : World) (A : Option Addr) (len c : Nat) (P n : Int) : Chg Non w (Bx w A len c P n) := (((Chg.refl _ _).alloc _).alloc _).alloc _
theorem Bx.size (w : World) (A : Option Addr) (len c : Nat) (P n : Int) : (Bx w A len c P n).heap.size = w.heap.size + 3 := by simp [Bx]
theorem Bx.caught {w : World} {A : Option Addr} {c : Nat} {l : List Va} (h1 : 1 ≤ l.length) (M : LstM w A l Va.cells 2) (m : Nat) {Fr : Nat → Prop} (hF : ∀ j, j < w.heap.size → abl A j → ¬ Fr j) (h0 : ¬ Fr w.heap.size) (h2 : ¬ Fr (w.heap.size + 1)) (h3 : ¬ Fr (w.heap.size + 2)) (ht : ∀ j, w.heap.size + 3 ≤ j → Fr j) :
    Caught (Bx w A l.length c (sumP l) m) Fr w.heap.size (w.heap.size + 2) (w.heap.size + 1) A c l m := by
  have b0 := Hb.new w 22 #[.slice A l.length c]
  have b1 := Hb.new (w.alloc (.cells #[.slice A l.length c] 22)) 3 #[.int .i64 (sumP l)]
  have b2 := Hb.new ((w.alloc (.cells #[.slice A l.length c] 22)).alloc (.cells #[.int .i64 (sumP l)] 3)) 3 #[.int .i64 (m : Int)]
  rw [World.size_alloc] at b1 b2
  rw [World.size_alloc] at b2
  have b0' := (b0.alloc (.cells #[.int .i64 (sumP l)] 3)).alloc (.cells #[.int .i64 (m : Int)] 3)
  have b1' := b1.alloc (.cells #[.int .i64 (m : Int)] 3)
  exact ⟨h0, h3, h2, fun j hj => hF j (abl_lt M h1 hj) hj, fun j hj => ht j (by rw [Bx.size] at hj; exact hj), b0'.cell 0, b2.cell 0, b1'.cell 0, M.chg (Bx.chg _ _ _ _ _ _)⟩

/-- What Order leaves. -/
def Ord (w : World) (l : List Va) (n : Int) (e : Ending) (w' : World) : Prop :=
  Chg Non w w' ∧ (¬ Rt l ∧ e = .returned (.tuple #[.slice none 0 0, .int .i64 71]) ∨
    Rt l ∧ (n < 0 ∨ 4096 < n) ∧ e = .returned (.tuple #[.slice none 0 0, .int .i64 81]) ∨
    Rt l ∧ 0 ≤ n ∧ n ≤ 4096 ∧ ∃ v, e = .returned (.tuple #[v, .int .i64 0]) ∧ OwnK w.heap.size w' v (ords l n.toNat))

set_option maxHeartbeats 1600000 in
theorem Order_any (w : World) (A : Option Addr) (c : Nat) (l : List Va) (hl : l.length ≤ maxLen) (ol : ∀ x ∈ l, x.Ok) (M : LstM w A l Va.cells 2) (n : Int) :
    Calls Try.prog 5 #[.slice A l.length c, .int .i64 n] w (Ord w l n) := by
  have HT := Lib.hid (Total_any w A c l hl ol M)
  have HM := Lib.hid M
  have HO := Lib.hid ol
  clear M ol
  generalize hln : l.length = len at *
  have HL := Lib.hid hln
  clear hln hl
  go_enter Try.func5, Try.ntmps5
  go_wp2_with fail
  refine HT.out.mono ?_
  rintro e w1 ⟨k1, ⟨hr, rfl⟩ | ⟨hr, rfl⟩⟩
  · have HR := Lib.hid hr
    clear hr
    by_cases h1 : n < 0
    · go_wp2_with fail
      go_ret2
      exact ⟨k1, .inr (.inl ⟨HR.out, .inl h1, rfl⟩)⟩
    by_cases h2 : 4096 < n
    · go_wp2_with fail
      go_ret2
      exact ⟨k1, .inr (.inl ⟨HR.out, .inr h2, rfl⟩)⟩
    obtain ⟨m, rfl⟩ : ∃ m : Nat, n = (m : Int) := ⟨n.toNat, by omega⟩
    have hF := first_any w1 A len c (sumP l) (m : Int)
    have hs1 : w.heap.size ≤ w1.heap.size := k1.size
    go_wp2_with (go_at_call 14; refine hF.mono ?_; rintro e w2 ⟨rfl, hw2⟩; have HW2 : Hid (w2 = Bx w1 A len c (sumP l) m) := Lib.hid hw2; clear hw2)
    clear hF
    obtain rfl := HW2.out
    clear HW2
    have k2 : Chg Non w1 (Bx w1 A len c (sumP l) m) := Bx.chg _ _ _ _ _ _
    have hsz := Bx.size w1 A len c (sumP l) m
    have hCa := Bx.caught (c := c) HR.out.1 (HM.out.chg k1) m (Fr := fun j => (Bx w1 A len c (sumP l) m).heap.size ≤ j) (fun j hj _ h => by rw [hsz] at h; omega) (by rw [hsz]; omega) (by rw [hsz]; omega) (by rw [hsz]; omega) (fun j hj => by rw [hsz]; exact hj)
    rw [HL.out] at hCa
    have HK := Lib.hid (collect_any (Bx w1 A len c (sumP l) m) _ _ _ A c l HR.out HO.out m (by omega) hCa)
    generalize Bx w1 A len c (sumP l) m = w2 at *
    clear hCa
    go_wp2_with fail
    refine HK.out.mono ?_
    rintro e w3 ⟨k3, v, rfl, hv⟩
    have HV := Lib.hid hv
    clear hv
    go_wp2_with fail
    go_ret2
    refine ⟨(k1.trans k2 (fun _ f => f.elim)).trans k3 (fun _ f => f.elim), .inr (.inr ⟨HR.out, by omega, by omega, v, rfl, ?_⟩)⟩
    rw [Int.toNat_natCast]
    refine ⟨HV.out.1, ?_⟩
    rcases HV.out.2 with h0 | ⟨g, cap, cur, rfl, hb, r⟩
    · exact .inl h0
    · exact .inr ⟨g, cap, cur, rfl, by omega, r⟩
  · go_wp2_with fail
    go_ret2
    exact ⟨k1, .inl ⟨hr, rfl⟩⟩

/-- What Proposer leaves. -/
def Pro (w : World) (l : List Va) (t : Int) (e : Ending) (w' : World) : Prop :=
  Chg Non w w' ∧ (¬ Rt l ∧ e = .returned (.tuple #[.int .u64 0, .int .i64 71]) ∨
    Rt l ∧ (t < 0 ∨ 4096 ≤ t) ∧ e = .returned (.tuple #[.int .u64 0, .int .i64 81]) ∨
    Rt l ∧ 0 ≤ t ∧ t < 4096 ∧ e = .returned (.tuple #[.int .u64 (keyAt l (who l (sumP l) t.toNat) : Int), .int .i64 0]))
def lastK (ks : List Nat) : Nat := (ks.getLast?).getD 0
theorem lastK_snoc (ks : List Nat) (k : Nat) : lastK (ks ++ [k]) = k := by simp [lastK]

set_option maxHeartbeats 3200000 in
theorem Proposer_any (w : World) (A : Option Addr) (c : Nat) (l : List Va) (hl : l.length ≤ maxLen) (ol : ∀ x ∈ l, x.Ok) (M : LstM w A l Va.cells 2) (t : Int) :
    Calls Try.prog 7 #[.slice A l.length c, .int .i64 t] w (Pro w l t) := by
  have HTy := Lib.hid (Total_yes w A c l hl ol M)
  have HTn := Lib.hid (Total_no w A c l hl ol M)
  have HM := Lib.hid M
  have HO := Lib.hid ol
  clear M ol
  generalize hln : l.length = len at *
  have HL := Lib.hid hln
  clear hln hl
  refine (callsIn_wide (n := 4)).1 ?_
  refine callsIn_of_wp_marks Try.func7 rfl trivial ?_ rfl
  simp only [Try.ntmps7, List.size_toArray, List.length_cons, List.length_nil, Nat.reduceAdd, Nat.reduceSub, Array.replicate_succ, Array.replicate_zero, List.push_toArray, List.append_toArray, List.nil_append, List.cons_append]
  by_cases hr : Rt l
  · have HR := Lib.hid hr
    have HT := Lib.hid (HTy.out hr)
    clear hr HTy HTn
    by_cases h1 : t < 0
    · gi_wp2_with (refine ⟨trivial, ?_⟩; gi_at_call 12; refine (callsIn_wide.2 HT.out).mono ?_; rintro e w1 ⟨k1, rfl⟩)
      exact ⟨_, results_tmp2 rfl _ _ _, k1, .inr (.inl ⟨HR.out, .inl h1, rfl⟩)⟩
    by_cases h2 : 4096 ≤ t
    · gi_wp2_with (refine ⟨trivial, ?_⟩; gi_at_call 12; refine (callsIn_wide.2 HT.out).mono ?_; rintro e w1 ⟨k1, rfl⟩)
      exact ⟨_, results_tmp2 rfl _ _ _, k1, .inr (.inl ⟨HR.out, .inr h2, rfl⟩)⟩
    obtain ⟨m, rfl⟩ : ∃ m : Nat, t = (m : Int) := ⟨t.toNat, by omega⟩
    have hF := fun w1 : World => first_any (w1.alloc (.cells #[.int .u64 0] 29)) A len c (sumP l) ((m : Int) + 1)
    have HF := Lib.hid hF
    clear hF
    gi_wp2_with (first
      | (refine ⟨trivial, ?_⟩; gi_at_call 12; refine (callsIn_wide.2 HT.out).mono ?_; rintro e w1 ⟨k1, rfl⟩; have bO := Boxed.new w1 29 (.int .u64 0))
      | (refine ⟨trivial, ?_⟩; gi_at_call 14; refine (callsIn_wide.2 (HF.out _)).mono ?_; rintro e w2 ⟨rfl, hw2⟩; have HW2 : Hid (w2 = Bx (w1.alloc (.cells #[.int .u64 0] 29)) A len c (sumP l) ((m : Int) + 1)) := Lib.hid hw2; clear hw2))
    obtain ⟨B, hB⟩ : ∃ B, w1.heap.size = B := ⟨_, rfl⟩
    obtain ⟨wb, hwb⟩ : ∃ wb, w1.alloc (.cells #[.int .u64 0] 29) = wb := ⟨_, rfl⟩
    have hsb : wb.heap.size = B + 1 := by rw [← hwb, ← hB]; simp
    have kb : Chg Non w1 wb := by rw [← hwb]; exact (Chg.refl _ _).alloc _
    have hm1 : ((m + 1 : Nat) : Int) = (m : Int) + 1 := by omega
    rw [hwb, hB] at bO
    rw [hwb] at HW2
    rw [hB]
    have hw2 := HW2.out
    have M1 := HM.out.chg k1
    have hsz := Bx.size wb A len c (sumP l) ((m : Int) + 1)
    rw [← hw2] at hsz
    have k2 : Chg Non wb w2 := by rw [hw2]; exact Bx.chg _ _ _ _ _ _
    have hCa := Bx.caught (c := c) HR.out.1 (M1.chg kb) (m + 1) (Fr := fun j => j = B ∨ B + 4 ≤ j)
      (fun j hj hA h => by have := abl_lt M1 HR.out.1 hA; omega) (by rw [hsb]; omega) (by rw [hsb]; omega) (by rw [hsb]; omega) (fun j hj => by rw [hsb] at hj; omega)
    rw [HL.out, hm1, ← hw2, hsb] at hCa
    have HG := first_gives w2 (fun j => j = B ∨ B + 4 ≤ j) _ _ _ A c l HR.out HO.out (m + 1) (by omega) hCa
    have kw : Chg Non w w2 := ((k1.trans kb (fun _ f => f.elim)).trans k2 (fun _ f => f.elim))
    have hwB : w.heap.size ≤ B := by rw [← hB]; exact k1.size
    have bO2 : Boxed w2 B 29 (.int .u64 0) := (k2.block B bO.lt (fun f => f)).trans bO
    have HWo := ords_next l m
    have HRn := HR.out.1
    clear hCa hw2 HW2 bO hwb hB M1 HF HT k1 kb k2 HM HO
    refine range_walk (T := 3) (Fr := fun j => j = B ∨ B + 4 ≤ j) (by omega) rfl (enters_of Try.func20 (by kernel_rfl) rfl) HG (Chg.refl _ _) (fun k hk => by omega) (fun _ => rfl)
      (fun pre W => Boxed W B 29 (.int .u64 (lastK pre : Int)) ∧ Chg Non w W) ?hI ⟨bO2, kw⟩
      (fun x => { tmps := #[.slice A len c, .int .i64 (m : Int), undef, undef, .int .u64 0, .int .i64 0, .int .i64 (sumP l), .int .i64 0, .pointer (some ⟨B, 0, none⟩), .int .u64 (x : Int),
        .tuple #[.int .i64 (sumP l), .int .i64 0], .slice A len c, .tuple #[.int .i64 (sumP l), .int .i64 0], .int .i64 (sumP l), .int .i64 0, .int .i64 0, .bool false, undef, .int .i64 (m : Int),
        .bool (decide ((m : Int) < 0)), .bool (decide ((m : Int) < 0)), .int .i64 (m : Int), .bool (decide (4096 ≤ (m : Int))), .bool (decide ((m : Int) < 0) || decide (4096 ≤ (m : Int))), .slice A len c,
        .int .i64 (sumP l), .int .i64 (m : Int), .int .i64 ((m : Int) + 1),
        .func (.func 20) #[] #[.pointer (some ⟨B + 1, 0, none⟩), .pointer (some ⟨B + 1 + 2, 0, none⟩), .pointer (some ⟨B + 1 + 1, 0, none⟩)], .int .u64 (x : Int), undef, undef], defers := [] }) ?assign ?body ?done
    case hI =>
      rintro s X Y ⟨hv, hC⟩ hXY
      refine ⟨(hXY.block _ hv.lt (fun hj => hj.2 ⟨_, _, _, hv, by decide⟩)).trans hv, hC.trans hXY (fun j hj => .inr ?_)⟩
      have := hj.1
      omega
    case assign =>
      intro lo x W K hK
      gi_wp2
      exact hK
    case body =>
      rintro lo pre x W ⟨hv, hC⟩ hpre
      have hc := hv.cell
      have hf := hv.frozen
      gi_wp2
      have k2 : Chg (fun k => (k = B ∨ B + 4 ≤ k) ∧ Mine 3 W k) W (W.setCell ⟨B, 0, none⟩ (.int .u64 (x : Int))) := (Chg.refl _ W).setCell (.inl ⟨.inl rfl, _, _, _, hv, by decide⟩) _
      exact ⟨k2, by rw [lastK_snoc]; exact hv.set _, hC.trans k2 (fun j hj => .inr (by have := hj.1; omega))⟩
    case done =>
      rintro D W hD ⟨hv, hC⟩ hK
      rw [HWo, lastK_snoc] at hv
      have hc := hv.cell
      gi_wp2
      have hDs : w.heap.size ≤ D := by omega
      have kD : Chg (fun k => k = D) W (W.putObj D (.deferred none)) := chg_putObj _ _ _
      refine ⟨by simp, .inl ⟨_, _, rfl, run_takeDeferred hK, ?_⟩⟩
      exact ⟨_, results_tmp2 rfl _ _ _, hC.trans kD (fun j hj => .inr (by rw [hj]; exact hDs)), .inr (.inr ⟨HR.out, by omega, by omega, rfl⟩)⟩
  · have HT := Lib.hid (HTn.out hr)
    gi_wp2_with (refine ⟨trivial, ?_⟩; gi_at_call 12; refine (callsIn_wide.2 HT.out).mono ?_; rintro e w1 ⟨k1, rfl⟩)
    exact ⟨_, results_tmp2 rfl _ _ _, k1, .inl ⟨hr, rfl⟩⟩
end Go.Proofs.Ytalfaoljbhmihaa
