/- What the laws on turns lean on: keys held against each other, the live question, arguments. -/
import Derived.Deep.QuietTactic
import Derived.BigQuiet
import Derived.Test.YtmmacimneaehiaaTr
namespace Go.Proofs.Ytmmacimneaehiaa
open Go.RowKit Go.Shelf
set_option linter.unusedVariables false
set_option linter.unusedSimpArgs false
set_option maxRecDepth 20000

theorem two_new (w : World) (x y : Va) : LstM (w.alloc (.cells #[.int .u64 (x.key : Int), .int .i64 x.power, .int .u64 (y.key : Int), .int .i64 y.power] 32)) (some ⟨w.heap.size, 0, none⟩) [x, y] Va.cells 2 :=
  lstM_new (fun _ => rfl) (t := 32) (Hb.new w _ _)
theorem set_arg {w : World} {v : Value} (h : Okv Try.prog w 22 v) : ∃ A c l, v = .slice A l.length c ∧ l.length ≤ maxLen ∧ LstM w A l Va.cells 2 ∧ ∀ x ∈ l, Va.Ok x := by
  obtain ⟨h1, h2⟩ := h
  simp only [Try.underlying22] at h1
  obtain ⟨A, c, l, e, hl, M, ol⟩ := slice_of Try.underlying22 va_cells (by omega) (fun es h => va_of h) (h2 4)
  rw [h1] at e
  refine ⟨A, c, l, ?_, hl, M, ol⟩
  simpa using e

theorem int_arg {w : World} {v : Value} (h : Okv Try.prog w 3 v) : ∃ x : Int, v = .int .i64 x ∧ -9223372036854775808 ≤ x ∧ x ≤ 9223372036854775807 := by
  obtain ⟨h1, h2⟩ := h
  simp only [Try.underlying3] at h1
  obtain ⟨x, e, hx⟩ := okc_i64 Try.underlying3 (h2 4)
  rw [h1] at e
  exact ⟨x, by simpa using e, hx⟩

theorem same_next {a b : List Nat} {k : Nat} {x y : Nat} (h : a.take k = b.take k) (hx : a[k]? = some x) (hy : b[k]? = some y) : a.take (k + 1) = b.take (k + 1) ↔ x = y := by
  rw [take_next hx, take_next hy, h]
  simp

set_option maxHeartbeats 1600000 in
theorem same_any (w : World) (A B : Option Addr) (c d : Nat) (a b : List Nat) (ha : a.length ≤ maxLen) (hb : b.length ≤ maxLen) (M : LstM w A a keyC 1) (N : LstM w B b keyC 1) :
    Calls Try.prog 7 #[.slice A a.length c, .slice B b.length d] w fun e w' => Chg Non w w' ∧ e = .returned (.bool (decide (a = b))) := by
  have HM := Lib.hid M
  have HN := Lib.hid N
  unfold maxLen at ha hb
  clear M N
  generalize hna : a.length = n at *
  generalize hnb : b.length = m at *
  have HA := Lib.hid hna
  have HB := Lib.hid hnb
  clear hna hnb
  go_enter Try.func7, Try.ntmps7
  by_cases hnm : ¬ n = m
  · have hne : ¬ (n : Int) = (m : Int) := by omega
    have hab : ¬ a = b := fun h => hnm (by rw [← HA.out, ← HB.out, h])
    go_wp2_with fail
    go_ret
    exact ⟨Chg.refl _ _, by simp [hab]⟩
  · obtain rfl : n = m := by omega
    go_wp2_with fail
    go_loopw [5] (fun i wr => ∃ k : Nat, k ≤ n ∧ i = .int .i64 (k : Int) ∧ Hid (a.take k = b.take k) ∧ Chg Non w wr) (fun i _ => n - (intOf i).toNat)
    case atStart => exact ⟨0, by omega, rfl, Lib.hid (by simp), Chg.refl _ _⟩
    case round =>
      obtain ⟨k, hk, rfl, hE, hC⟩ := hrel
      by_cases hlt : k < n
      · have hki : (k : Int) < (n : Int) := by omega
        obtain ⟨x, hx⟩ : ∃ x, a[k]? = some x := ⟨_, List.getElem?_eq_getElem (by rw [HA.out]; exact hlt)⟩
        obtain ⟨y, hy⟩ : ∃ y, b[k]? = some y := ⟨_, List.getElem?_eq_getElem (by rw [HB.out]; exact hlt)⟩
        have hnx := same_next hE.out hx hy
        obtain ⟨p, po, rfl, _, r1⟩ := (HM.out.chg hC) _ _ hx
        obtain ⟨q, qo, rfl, _, r2⟩ := (HN.out.chg hC) _ _ hy
        obtain ⟨p0, _⟩ := rangeAt_cons r1
        obtain ⟨q0, _⟩ := rangeAt_cons r2
        rw [Nat.mul_one] at p0 q0
        have HX := Lib.hid hnx
        clear hx hy r1 r2 hnx
        by_cases hxy : x = y
        · have hxi : (x : Int) = (y : Int) := by omega
          go_wp2_with fail
          go_quiet (fail)
          go_wp2_with fail
          go_roundw
          case rel => exact ⟨k + 1, by omega, by go_num, Lib.hid (HX.out.2 hxy), hC.drewN _⟩
          case measure => simp [intOf]; omega
        · have hxi : ¬ (x : Int) = (y : Int) := by omega
          go_wp2_with fail
          go_quiet (fail)
          go_wp2_with fail
          go_ret
          refine ⟨hC.drewN _, ?_⟩
          have hab : ¬ a = b := fun h => hxy (HX.out.1 (by rw [h]))
          simp [hab]
      · obtain rfl : k = n := by omega
        have hab : a = b := by
          have := hE.out
          rw [List.take_of_length_le (by rw [HA.out]; omega), List.take_of_length_le (by rw [HB.out]; omega)] at this
          exact this
        go_wp2_with fail
        go_ret
        exact ⟨hC, by simp [hab]⟩

theorem rt_31 : Rt [⟨1, 2⟩, ⟨3, 1⟩] := by
  refine ⟨by simp, by simp, ?_, ?_, ?_⟩
  · simp [Rises]
  · intro x hx; simp at hx; rcases hx with rfl | rfl <;> simp
  · simp [sumP, top]
theorem ords_31 : ords [⟨1, 2⟩, ⟨3, 1⟩] 3 = [1, 3, 1] := by decide

set_option maxHeartbeats 1600000 in
theorem alive_any (w : World) : Calls Try.prog 5 #[] w fun e w' => Chg Non w w' ∧ e = .returned (.bool true) := by
  have k0 : Chg Non w (w.alloc (.cells #[.int .u64 1, .int .i64 2, .int .u64 3, .int .i64 1] 32)) := (Chg.refl _ _).alloc _
  have HO := Lib.hid (Order_any _ _ 2 _ (by unfold maxLen; simp) (by intro x hx; simp at hx; rcases hx with rfl | rfl <;> exact ⟨by simp, by simp, by simp⟩) (two_new w ⟨1, 2⟩ ⟨3, 1⟩) 3)
  go_enter Try.func5, Try.ntmps5
  go_wp2_with fail
  refine HO.out.mono ?_
  rintro e w1 ⟨k1, ⟨h, _⟩ | ⟨_, h, _⟩ | ⟨_, _, _, v, rfl, hv⟩⟩
  · exact absurd rt_31 h
  · exfalso; omega
  · have e3 : ords [⟨1, 2⟩, ⟨3, 1⟩] (Int.toNat 3) = [1, 3, 1] := ords_31
    rw [e3] at hv
    obtain ⟨B, d, rfl, hd1, hd2, L⟩ := hv.slice
    obtain ⟨b, bo, rfl, hbl, r0⟩ := L 0 1 rfl
    obtain ⟨_, _, e1, _, r1⟩ := L 1 3 rfl
    obtain ⟨_, _, e2, _, r2⟩ := L 2 1 rfl
    injection e1 with e1; injection e1 with e11 e12; subst e11; subst e12
    injection e2 with e2; injection e2 with e21 e22; subst e21; subst e22
    obtain ⟨p0, _⟩ := rangeAt_cons r0
    obtain ⟨p1, _⟩ := rangeAt_cons r1
    obtain ⟨p2, _⟩ := rangeAt_cons r2
    simp only [Nat.mul_one, Nat.add_zero] at p0 p1 p2
    simp only [List.length_cons, List.length_nil, Nat.reduceAdd, Nat.zero_mul, Nat.add_zero] at *
    clear r0 r1 r2 L hv
    go_wp2_with fail
    go_ret
    exact ⟨k0.trans k1 (fun _ f => f.elim), rfl⟩

theorem lstM_take {α : Type} {w : World} {A : Option Addr} {ks : List α} {cells : α → List Value} {sz : Nat} (M : LstM w A ks cells sz) (n : Nat) : LstM w A (ks.take n) cells sz := fun i x hx => M i x (by
  rw [List.getElem?_take] at hx
  split at hx
  · exact hx
  · cases hx)
theorem lstM_drop {w : World} {b o : Nat} {ks : List Nat} (M : LstM w (some ⟨b, o, none⟩) ks keyC 1) (n : Nat) : LstM w (some ⟨b, o + n, none⟩) (ks.drop n) keyC 1 := fun i x hx => by
  rw [List.getElem?_drop] at hx
  obtain ⟨eb, eo, e, h1, h2⟩ := M _ x hx
  injection e with e
  injection e with e1 e2
  subst e1; subst e2
  exact ⟨b, o + n, rfl, h1, by rw [Nat.mul_one, Nat.add_assoc]; rw [Nat.mul_one] at h2; exact h2⟩
theorem cap_arg {w : World} {A : Option Addr} {n c : Nat} (h : Okv Try.prog w 22 (.slice A n c)) : n ≤ c := by
  obtain ⟨h1, h2⟩ := h
  replace h2 := h2 1
  simp only [Try.underlying22] at h1
  rw [h1] at h2
  unfold Okc at h2
  simp only [Try.underlying22] at h2
  rcases h2 with h2 | ⟨a, len, cap, h2, h3, _⟩
  · injection h2 with h2
    injection h2 with _ h2 h4
    omega
  · injection h2 with h2
    injection h2 with _ h2 h4
    omega
theorem rt_one {l : List Va} (h : Rt l) : Rt (l.take 1) := by
  obtain ⟨h1, _, h2, h3⟩ := h
  exact ⟨by rw [List.length_take]; omega, by rw [List.length_take]; omega, rises_take h2 1, fits_take h3 1⟩
/-- Order of a right set. -/
theorem Order_yes (w : World) (A : Option Addr) (c : Nat) (l : List Va) (hl : l.length ≤ maxLen) (ol : ∀ x ∈ l, x.Ok) (M : LstM w A l Va.cells 2) (h : Rt l) (n : Nat) (hn : n ≤ 4096) :
    Calls Try.prog 6 #[.slice A l.length c, .int .i64 (n : Int)] w fun e w' => Chg Non w w' ∧ ∃ v, e = .returned (.tuple #[v, .int .i64 0]) ∧ OwnK w.heap.size w' v (ords l n) := by
  refine (Order_any w A c l hl ol M n).mono ?_
  rintro e w' ⟨k, ⟨h', _⟩ | ⟨_, h', _⟩ | ⟨_, _, _, v, rfl, hv⟩⟩
  · exact absurd h h'
  · exfalso; omega
  · exact ⟨k, v, rfl, by simpa using hv⟩
theorem Order_no (w : World) (A : Option Addr) (c : Nat) (l : List Va) (hl : l.length ≤ maxLen) (ol : ∀ x ∈ l, x.Ok) (M : LstM w A l Va.cells 2) (n : Int) (h : ¬ Rt l ∨ n < 0 ∨ 4096 < n) :
    Calls Try.prog 6 #[.slice A l.length c, .int .i64 n] w fun e w' => Chg Non w w' ∧ ∃ er : Int, e = .returned (.tuple #[.slice none 0 0, .int .i64 er]) ∧ Hid (¬ Rt l ∧ er = 71 ∨ Rt l ∧ er = 81) := by
  refine (Order_any w A c l hl ol M n).mono ?_
  rintro e w' ⟨k, ⟨h', rfl⟩ | ⟨h', _, rfl⟩ | ⟨h1, h2, h3, _⟩⟩
  · exact ⟨k, 71, rfl, Lib.hid (.inl ⟨h', rfl⟩)⟩
  · exact ⟨k, 81, rfl, Lib.hid (.inr ⟨h', rfl⟩)⟩
  · exfalso
    rcases h with h | h | h
    · exact h h1
    · omega
    · omega
end Go.Proofs.Ytmmacimneaehiaa
