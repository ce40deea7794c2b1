/- Two blocks turned round: what stays the same; two sets compared; three blocks as an argument. -/
import Derived.Test.YtflellcbfcakhaaChecked
import Derived.WalkKit
import Derived.WalkLawsBesides
import Derived.Lib.Hide
import Derived.IntWalk
import Derived.BigGuard
import Derived.Deep.Cut
import Derived.Deep.CutRange
import Derived.Deep.CutBlock
import Derived.BigCall
import Derived.CellFam
import Derived.Deep.Draws
import Derived.Deep.QuietTactic
import Derived.BigQuiet
import Derived.Test.YtflellcbfcakhaaZl
import Derived.Test.YtflellcbfcakhaaDs
namespace Go.Proofs.Ytflellcbfcakhaa
open Go.RowKit
set_option linter.unusedVariables false
set_option linter.unusedSimpArgs false
set_option maxRecDepth 20000

theorem conf_turn (a b c : Hd) : conf a c b = conf a b c := by
  unfold conf
  by_cases h : b.height = c.height
  · rw [h]
    by_cases e : b = c
    · subst e; rfl
    · have e' : ¬ c = b := fun k => e k.symm
      simp [e, e']
  · have h' : ¬ c.height = b.height := fun k => h k.symm
    simp [h, h']
theorem dec_turn {α : Type} [DecidableEq α] (a b : α) : decide (a = b) = decide (b = a) := by
  by_cases h : a = b
  · subst h; rfl
  · have h' : ¬ b = a := fun k => h k.symm
    simp [h, h']
theorem kd_turn (y z : Li) : kd z y = kd y z := by
  unfold kd
  rw [dec_turn z.hd.set, dec_turn z.hd.next, dec_turn z.hd.app, dec_turn z.r]
theorem nam_turn {x y z : Li} (hk : kd y z = sEqu) (hs : y.sv = z.sv) (k : Nat) : Nam x z y k ↔ Nam x y z k := by
  unfold Nam
  rw [kd_turn y z, hk, hs]
  constructor
  · rintro ⟨h1, ⟨h2, _⟩ | ⟨_, h2, h3⟩⟩
    · exact absurd h2 (by decide)
    · exact ⟨h2, .inr ⟨rfl, h1, h3⟩⟩
  · rintro ⟨h1, ⟨h2, _⟩ | ⟨_, h2, h3⟩⟩
    · exact absurd h2 (by decide)
    · exact ⟨h2, .inr ⟨rfl, h1, h3⟩⟩
theorem rising_eq {rs ss : List Nat} (hr : rs.Pairwise (· < ·)) (hs : ss.Pairwise (· < ·)) (h : ∀ k, k ∈ rs ↔ k ∈ ss) : rs = ss := by
  have n1 : rs.Nodup := List.nodup_iff_pairwise_ne.2 (hr.imp fun h => Nat.ne_of_lt h)
  have n2 : ss.Nodup := List.nodup_iff_pairwise_ne.2 (hs.imp fun h => Nat.ne_of_lt h)
  exact List.Perm.eq_of_pairwise (le := (· < ·)) (fun a b _ _ h1 h2 => absurd h1 (Nat.lt_asymm h2)) hr hs ((List.perm_ext_iff_of_nodup n1 n2).2 h)
set_option maxHeartbeats 3200000 in
theorem sameSet_any (w : World) (A B : Option Addr) (c d : Nat) (l m : List Va) (hl : l.length ≤ 1000) (hm : m.length ≤ 1000) (M : LstM w A l Va.cells 2) (N : LstM w B m Va.cells 2) :
    Calls Try.prog 7 #[.slice A l.length c, .slice B m.length d] w fun e w' => ∃ s : Bool, e = .returned (.bool s) ∧ Chg Non w w' ∧ (s = true → l = m) := by
  have HM := Lib.hid M
  have HN := Lib.hid N
  clear M N
  generalize hn : l.length = n at *
  have HL := Lib.hid hn
  generalize hk : m.length = n' at *
  have HK := Lib.hid hk
  clear hn hk
  by_cases hlen : n = n'
  · have HE : Hid (l.length = m.length) := Lib.hid (by rw [HL.out, HK.out, hlen])
    subst hlen
    go_enter Try.func7, Try.ntmps7
    go_wp2_with fail
    go_loopw [5] (fun i wr => ∃ k : Nat, k ≤ n ∧ i = .int .i64 (k : Int) ∧ Chg Non w wr ∧ Hid (l.take k = m.take k)) (fun i _ => n - (intOf i).toNat)
    case atStart => exact ⟨0, by omega, rfl, Chg.refl _ _, Lib.hid (by simp)⟩
    case round =>
      obtain ⟨k, hk, rfl, hC, hT⟩ := hrel
      by_cases hlt : k < n
      · have hkl : k < l.length := by rw [HL.out]; exact hlt
        have hkm : k < m.length := by rw [HK.out]; exact hlt
        have hx := List.getElem?_eq_getElem hkl
        have hy := List.getElem?_eq_getElem hkm
        obtain ⟨a, ao, rfl, _, r1⟩ := (HM.out.chg hC) k _ hx
        obtain ⟨b, bo, rfl, _, r2⟩ := (HN.out.chg hC) k _ hy
        have HNX : Hid (l[k] = m[k] → l.take (k + 1) = m.take (k + 1)) := Lib.hid (fun e => by
          rw [List.take_succ_eq_append_getElem hkl, List.take_succ_eq_append_getElem hkm, hT.out, e])
        have HC := Lib.hid hC
        generalize l[k] = x at *
        generalize m[k] = y at *
        clear hC hx hy hkl hkm
        obtain ⟨p0, p1⟩ := rangeAt_cons r1
        obtain ⟨p1, _⟩ := rangeAt_cons p1
        obtain ⟨q0, q1⟩ := rangeAt_cons r2
        obtain ⟨q1, _⟩ := rangeAt_cons q1
        have hki : (k : Int) < (n : Int) := by omega
        clear r1 r2
        obtain ⟨xk, xp⟩ := x
        obtain ⟨yk, yp⟩ := y
        by_cases hxy : xk = yk ∧ xp = yp
        · obtain ⟨rfl, rfl⟩ := hxy
          have HNY := Lib.hid (HNX.out rfl)
          clear HNX
          go_wp2_with fail
          go_quiet (fail)
          go_wp2_with fail
          go_roundw
          case rel => exact ⟨k + 1, by omega, by go_num, HC.out.drewN _, HNY⟩
          case measure => simp [intOf]; omega
        · by_cases hk1 : xk = yk
          · subst hk1
            have hp1 : ¬ xp = yp := fun e => hxy ⟨rfl, e⟩
            clear hxy
            go_wp2_with fail
            go_quiet (fail)
            go_wp2_with fail
            go_ret
            exact ⟨false, rfl, HC.out.drewN _, fun e => by cases e⟩
          · have hk2 : ¬ (xk : Int) = (yk : Int) := by omega
            clear hxy
            go_wp2_with fail
            go_quiet (fail)
            go_wp2_with fail
            go_ret
            exact ⟨false, rfl, HC.out.drewN _, fun e => by cases e⟩
      · obtain rfl : k = n := by omega
        go_wp2
        go_ret
        exact ⟨true, rfl, hC, fun _ => by
          have e := hT.out
          rw [List.take_of_length_le (by rw [HL.out]; exact Nat.le_refl _), List.take_of_length_le (by rw [HK.out]; exact Nat.le_refl _)] at e
          exact e⟩
  · have hne : ¬ (n : Int) = (n' : Int) := by omega
    go_enter Try.func7, Try.ntmps7
    go_wp2_with fail
    go_ret
    exact ⟨false, rfl, Chg.refl _ _, fun e => by cases e⟩
theorem three_cells : Try.prog.cellsOf 32 = 600 := by kernel_rfl
theorem three_arg {w : World} {v : Value} (h : Okv Try.prog w 32 v) : ∃ x y z : Li, v = .agg (x.cells ++ (y.cells ++ z.cells)).toArray ∧ (x.Ok ∧ x.In w) ∧ (y.Ok ∧ y.In w) ∧ (z.Ok ∧ z.In w) := by
  obtain ⟨h1, h2⟩ := h
  simp only [Try.underlying32] at h1
  obtain ⟨cs, rfl⟩ := h1
  have h := h2 9
  unfold Okc at h
  simp only [Try.underlying32] at h
  obtain ⟨hl, hf⟩ := h
  rw [three_cells] at hl
  rw [light_cells] at hf
  have hl : cs.size = 600 := by simpa [Value.cells] using hl
  obtain ⟨L, rfl⟩ : ∃ L : List Value, cs = L.toArray := ⟨cs.toList, by simp⟩
  have hf : ∀ i, i < 3 → Okc Try.prog w 8 31 ((L.drop (i * 200)).take 200) := fun i hi => by simpa [Value.cells] using hf i hi
  obtain ⟨x, e0, ox⟩ := light_of (n := 2) (hf 0 (by omega))
  obtain ⟨y, e1, oy⟩ := light_of (n := 2) (hf 1 (by omega))
  obtain ⟨z, e2, oz⟩ := light_of (n := 2) (hf 2 (by omega))
  refine ⟨x, y, z, ?_, ox, oy, oz⟩
  have k0 := cut L 0 200 200 rfl
  have k1 := cut L 200 200 400 rfl
  have k2 := cut L 400 200 600 rfl
  rw [List.size_toArray] at hl
  rw [e2, List.drop_of_length_le (i := 600) (by omega), List.append_nil] at k2
  rw [e1, k2] at k1
  rw [e0, k1] at k0
  rw [← k0, List.drop_zero]
end Go.Proofs.Ytflellcbfcakhaa
