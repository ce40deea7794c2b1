/- slices.Sort at []uint64: the whole, at rows of the call's own. -/
import Derived.Test.YtflellcbfcakhaaChecked
import Derived.WalkKit
import Derived.WalkLawsBesides
import Derived.Lib.Hide
import Derived.IntWalk
import Derived.BigGuard
import Derived.Deep.Cut
import Derived.Deep.CutRange
import Derived.Deep.CutBlock
import Derived.BigCall
import Derived.CellFam
import Derived.Deep.Draws
import Derived.Deep.QuietTactic
import Derived.BigQuiet
import Derived.Test.YtflellcbfcakhaaZk
import Derived.Test.YtflellcbfcakhaaZg
import Derived.Test.YtflellcbfcakhaaDr
namespace Go.Proofs.Ytflellcbfcakhaa
open Go.RowKit
set_option linter.unusedVariables false
set_option linter.unusedSimpArgs false
set_option maxRecDepth 20000

/-- How many bits a small number has. -/
def bl (x : Nat) : Nat := [0, 1, 2, 2, 3, 3, 3, 3, 4, 4, 4, 4, 4, 4, 4, 4, 5, 5, 5, 5, 5].getD x 0
set_option maxHeartbeats 6400000 in
theorem len64_all (w : World) (x : Nat) (h2 : x ≤ 20) : Calls Try.prog 39 #[.int .u64 x] w fun e w' => e = .returned (.int .i64 (bl x)) ∧ w' = w := by
  rcases (show x = 0 ∨ x = 1 ∨ x = 2 ∨ x = 3 ∨ x = 4 ∨ x = 5 ∨ x = 6 ∨ x = 7 ∨ x = 8 ∨ x = 9 ∨ x = 10 ∨ x = 11 ∨ x = 12 ∨ x = 13 ∨ x = 14 ∨ x = 15 ∨ x = 16 ∨ x = 17 ∨ x = 18 ∨ x = 19 ∨ x = 20 by omega) with rfl | rfl | rfl | rfl | rfl | rfl | rfl | rfl | rfl | rfl | rfl | rfl | rfl | rfl | rfl | rfl | rfl | rfl | rfl | rfl | rfl
  all_goals
    go_enter Try.func39, Try.ntmps39
    go_wp2
    go_ret
    exact ⟨by first | rfl | (simp [bl]; done) | kernel_rfl, rfl⟩
theorem len_all (w : World) (x : Nat) (h2 : x ≤ 20) : Calls Try.prog 28 #[.int .u64 x] w fun e w' => e = .returned (.int .i64 (bl x)) ∧ w' = w := by
  have H := Lib.hid (len64_all w x h2)
  generalize bl x = v at *
  go_enter Try.func28, Try.ntmps28
  go_wp2_with fail
  refine H.out.mono ?_
  rintro e w1 ⟨rfl, rfl⟩
  go_wp2_with fail
  go_ret
  exact ⟨rfl, rfl⟩
theorem bl_ok (x : Nat) (h2 : x ≤ 20) : (13 ≤ x → 1 + (x - 12) / 2 ≤ bl x) ∧ bl x ≤ 100 := by
  rcases (show x = 0 ∨ x = 1 ∨ x = 2 ∨ x = 3 ∨ x = 4 ∨ x = 5 ∨ x = 6 ∨ x = 7 ∨ x = 8 ∨ x = 9 ∨ x = 10 ∨ x = 11 ∨ x = 12 ∨ x = 13 ∨ x = 14 ∨ x = 15 ∨ x = 16 ∨ x = 17 ∨ x = 18 ∨ x = 19 ∨ x = 20 by omega) with rfl | rfl | rfl | rfl | rfl | rfl | rfl | rfl | rfl | rfl | rfl | rfl | rfl | rfl | rfl | rfl | rfl | rfl | rfl | rfl | rfl <;> decide
set_option maxHeartbeats 1600000 in
theorem Sort_any (w : World) (g off cap c n : Nat) (f : Nat → Int) (hR : Rk w g off cap n f) (hI : Inj n f) (hn : n ≤ 20) :
    Calls Try.prog 24 #[.slice (some ⟨g, off, none⟩) n c] w fun e w' =>
      e = .returned (.tuple #[]) ∧ Chg (· = g) w w' ∧ ∃ f', Hid (Rk w' g off cap n f') ∧ Hid (PermIn 0 n f f') ∧ Hid (Srt 0 n f') := by
  have HR := Lib.hid hR
  have HI := Lib.hid hI
  have HB := Lib.hid (bl_ok n hn)
  have HL := Lib.hid (len_all w n hn)
  clear hR hI
  generalize bl n = v at *
  go_enter Try.func24, Try.ntmps24
  go_wp2_with fail
  refine HL.out.mono ?_
  rintro e w1 ⟨rfl, hw⟩
  obtain rfl : w = w1 := hw.symm
  clear hw
  go_wp2_with fail
  refine (pdq_any w g off cap c n v f HR.out HI.out hn HB.out.1 HB.out.2).mono ?_
  rintro e w2 ⟨rfl, k, f', h1, h2, h3⟩
  have HK := Lib.hid k
  clear k
  go_wp2_with fail
  go_end0
  exact ⟨rfl, HK.out, f', h1, h2, h3⟩
/-- The keys of a list, by their places. -/
def kf (ks : List Nat) (i : Nat) : Int := ((ks.getD i 0 : Nat) : Int)
theorem kf_get {ks : List Nat} {i : Nat} (hi : i < ks.length) : kf ks i = ((ks[i] : Nat) : Int) := by
  unfold kf
  rw [List.getD_eq_getElem?_getD, List.getElem?_eq_getElem hi]
  rfl
theorem kf_inj {ks : List Nat} (h : ks.Nodup) : Inj ks.length (kf ks) := by
  intro i j hi hj e
  rw [kf_get hi, kf_get hj] at e
  have e : ks[i] = ks[j] := by omega
  have hp := List.pairwise_iff_getElem.1 (List.nodup_iff_pairwise_ne.1 h)
  rcases Nat.lt_trichotomy i j with h1 | h1 | h1
  · exact absurd e (hp i j hi hj h1)
  · exact h1
  · exact absurd e.symm (hp j i hj hi h1)
theorem sort_20 : SortOK 20 := by
  intro n₀ w v ks hO hl hk hnd
  by_cases h0 : ks.length ≤ 0
  · exact sort_0 n₀ w v ks hO h0 hk hnd
  obtain ⟨hlen, h⟩ := hO
  rcases h with ⟨_, h⟩ | ⟨g, cap, cur, rfl, hb, hg, hc1, hc2, hc3, hc4⟩
  · omega
  rw [Nat.mul_one] at hc3 hc4
  have hR : Rk w g 0 cap ks.length (kf ks) := ⟨cur, hg, hc3, fun i hi => by
    have e : (cur.toList.take ks.length)[i]? = (ks.map keyV64)[i]? := by rw [hc4]
    rw [List.getElem?_take_of_lt hi, List.getElem?_map, List.getElem?_eq_getElem hi, Array.getElem?_toList] at e
    rw [Nat.zero_add, e, kf_get hi]
    rfl⟩
  refine (Sort_any w g 0 cap cap ks.length _ hR (kf_inj hnd) hl).mono ?_
  rintro e w' ⟨rfl, k, f', ⟨cs, hcs, hcz, hcc⟩, hP, hS⟩
  have hP := hP.out
  have hS := hS.out
  have hnn : ∀ i, i < ks.length → f' i = ((f' i).toNat : Int) := fun i hi => by
    obtain ⟨j, hj, e⟩ := hP.mem (i := i) ⟨Nat.zero_le _, hi⟩
    rw [e]
    unfold kf
    omega
  have hI : Inj ks.length f' := hP.inj (Nat.le_refl _) (kf_inj hnd)
  refine ⟨rfl, k.mono (fun j hj => .inl (by subst hj; rfl)), (List.range ks.length).map (fun i => (f' i).toNat), ?_, ?_, ?_⟩
  · unfold OwnK
    rw [List.length_map, List.length_range]
    refine ⟨by simp, .inr ⟨g, cap, cs, rfl, hb, hcs, hc1, hc2, by omega, ?_⟩⟩
    refine List.ext_getElem? fun i => ?_
    by_cases hi : i < ks.length
    · rw [List.getElem?_take_of_lt (by omega), Array.getElem?_toList, List.map_map, List.getElem?_map, List.getElem?_range hi]
      have := hcc i hi
      rw [Nat.zero_add] at this
      rw [this]
      show some (Value.int .u64 (f' i)) = some (Value.int .u64 (((f' i).toNat : Nat) : Int))
      rw [← hnn i hi]
    · rw [List.getElem?_eq_none (by rw [List.length_take]; omega), List.getElem?_eq_none (by simp; omega)]
  · refine (List.perm_ext_iff_of_nodup ?_ hnd).2 fun a => ?_
    · rw [List.nodup_iff_pairwise_ne, List.pairwise_iff_getElem]
      intro i j hi hj hij
      rw [List.length_map, List.length_range] at hi hj
      simp only [List.getElem_map, List.getElem_range]
      intro e
      have h1 := hnn i hi
      have h2 := hnn j hj
      have := hI i j hi hj (by omega)
      omega
    · rw [List.mem_map]
      constructor
      · rintro ⟨i, hi, rfl⟩
        rw [List.mem_range] at hi
        obtain ⟨j, hj, e⟩ := hP.mem (i := i) ⟨Nat.zero_le _, hi⟩
        rw [e, kf_get hj.2]
        exact List.getElem_mem hj.2
      · intro ha
        obtain ⟨j, hj, rfl⟩ := List.getElem_of_mem ha
        obtain ⟨i, hi, e⟩ := hP.back (j := j) ⟨Nat.zero_le _, hj⟩
        refine ⟨i, List.mem_range.2 hi.2, ?_⟩
        rw [e, kf_get hj]
        rfl
  · rw [List.pairwise_iff_getElem]
    intro i j hi hj hij
    rw [List.length_map, List.length_range] at hi hj
    simp only [List.getElem_map, List.getElem_range]
    have h1 := hnn i hi
    have h2 := hnn j hj
    have := hS i j (Nat.zero_le _) hij hj
    omega
end Go.Proofs.Ytflellcbfcakhaa
