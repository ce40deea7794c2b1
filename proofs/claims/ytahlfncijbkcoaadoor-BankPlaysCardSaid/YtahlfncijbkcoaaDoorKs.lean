/- FormatUint: a number in decimal figures. -/
import Derived.Test.YtahlfncijbkcoaaDoorChecked
import Derived.WalkKit
import Derived.WalkLawsBesides
import Derived.Lib.Hide
import Derived.Lib.ItoaMem
import Derived.BigCall
import Derived.BigGuard
import Derived.Shelf.Strconv.Itoa3
import Derived.Test.YtahlfncijbkcoaaDoorSq
import Derived.Test.YtahlfncijbkcoaaDoorKj
namespace Go.Proofs.YtahlfncijbkcoaaDoor
open Go.RowKit
open Go.Sort (grow putRow Holds cell?_putRow mapBlock)
set_option linter.unusedVariables false
set_option linter.unusedSimpArgs false
set_option maxRecDepth 20000

abbrev encB : UInt8 → Value := fun (b : UInt8) => Value.int .u8 (b.toNat : Int)
theorem holds_zero0 (w : World) (T : TypeId) (nd : Nat) (hs : nd ≤ 24) : Holds encB (w.alloc (.cells Lib.zeros24 T)) w.heap.size 0 (Array.replicate nd (0 : UInt8)) := fun j hj => by
  have hj' : j < nd := by simpa using hj
  refine ⟨?_, World.frozen?_alloc_new _ _ _ _⟩
  rw [World.cell?_alloc_new, Lib.zeros24_at _ (by omega), getElem!_pos _ j hj]
  simp
theorem chg_putRow (w : World) (g off : Nat) (d : Array UInt8) : Chg (fun k => k = g) w (putRow encB w g off d) := by
  refine ⟨rfl, rfl, rfl, ?_, fun k hk hg => ?_⟩
  · unfold putRow mapBlock
    simp
  · unfold putRow mapBlock
    rw [Array.getElem?_modify, if_neg (fun h => hg h.symm)]
theorem small_any (w : World) (i : Nat) (h : i < 100) : Calls Tryd.prog 47 #[.int .i64 (i : Int)] w fun e w' => e = .returned (.string (dec i)) ∧ w' = w := Any.internal_strconv_small lay_small i h w
theorem digits_any (w : World) (u : Nat) (h1 : 1 ≤ u) (h2 : u < 18446744073709551616) (hT : Tab w) : Calls Tryd.prog 48 #[.int .u64 (u : Int)] w fun e w' => e = .returned (.int .i64 (Lib.nDigits u : Int)) ∧ w' = w := Any.internal_strconv_numDigits lay_digits u h1 h2 w hT
theorem ten_any (w : World) (blk off cap u : Nat) (d : Array UInt8) (hH : Holds encB w blk off d) (hu : u < 10 ^ d.size) (hu64 : u < 18446744073709551616) (hsz : d.size < 4611686018427387904) :
    Calls Tryd.prog 49 #[.slice (some ⟨blk, off, none⟩) d.size cap, .int .u64 (u : Int)] w fun e w' => e = .returned (.tuple #[]) ∧ ∃ (n v' : Nat) (dk : Array UInt8), w' = (putRow encB w blk off dk).drewN n ∧ Lib.FmtInv d.size u 0 v' dk :=
  Any.internal_strconv_formatBase10 lay_ten blk off cap u d w hH hu hu64 hsz
set_option maxHeartbeats 6400000 in
set_option maxRecDepth 100000 in
theorem FormatUint_in (w : World) (u : Nat) (hu64 : u < 18446744073709551616) (hT : Tab w) : Calls Tryd.prog 38 #[.int .u64 (u : Int), .int .i64 10] w (Zero w (.string (dec u))) := by
  by_cases hs : u < 100
  · have HS := Lib.hid (small_any w u hs)
    have hs' : (u : Int) < 100 := by omega
    clear hs hT
    go_enter Tryd.func38, Tryd.ntmps38
    go_wp2_with fail
    refine HS.out.mono ?_
    rintro e w1 ⟨rfl, rfl⟩
    go_wp2_with fail
    go_ret
    exact ⟨rfl, Chg.refl _ _⟩
  · have hu1 : 1 ≤ u := by omega
    have hs' : ¬ (u : Int) < 100 := by omega
    have hnd20 : Lib.nDigits u ≤ 20 := by have := Lib.numDigits_eq u hu1 hu64; split at this <;> omega
    have hal : Tryd.prog.arrayLen 74 = 24 := by kernel_rfl
    have hsl : ∀ W, (Instr.sliceAt 74 (.pointer (some ⟨w.heap.size, 0, none⟩)) none (some (.int .i64 (Lib.nDigits u : Int))) none).run Tryd.prog W = .ok (.slice (some ⟨w.heap.size, 0, none⟩) (Lib.nDigits u) 24) W := fun W => by
      rw [run_sliceAt_array_h W 74 ⟨w.heap.size, 0, none⟩ (by simp [Program.arrayLen, Program.elem, Tryd.underlying74]) .i64 (Lib.nDigits u : Int) (by omega) (by rw [hal]; omega)]
      go_simp
    have hH0 := holds_zero0 w 74 (Lib.nDigits u) (by omega)
    have hfmt := ten_any (w.alloc (.cells Lib.zeros24 74)) w.heap.size 0 24 u (Array.replicate (Lib.nDigits u) 0) hH0 (by rw [Array.size_replicate]; exact Lib.lt_pow_nDigits u) hu64 (by rw [Array.size_replicate]; omega)
    rw [Array.size_replicate] at hfmt
    have HH0 := Lib.hid hH0
    have HF := Lib.hid hfmt
    have HD : Hid (Calls Tryd.prog 48 #[.int .u64 (u : Int)] (w.alloc (.cells Lib.zeros24 74)) fun e w' => e = .returned (.int .i64 (Lib.nDigits u : Int)) ∧ w' = w.alloc (.cells Lib.zeros24 74)) := Lib.hid (digits_any _ u hu1 hu64 (hT.chg ((Chg.refl Non w).alloc _) (fun f => f)))
    clear hH0 hal hfmt hT
    go_enter Tryd.func38, Tryd.ntmps38
    go_wp2_with fail
    refine HD.out.mono ?_
    rintro e w' ⟨rfl, rfl⟩
    go_wp2_with fail
    refine HF.out.mono ?_
    rintro e w' ⟨rfl, k, v', dk, rfl, hF⟩
    have hcv : (convert 77 9 (.slice (some ⟨w.heap.size, 0, none⟩) (Lib.nDigits u) 24)).run Tryd.prog ((putRow encB (w.alloc (.cells Lib.zeros24 74)) w.heap.size 0 dk).drewN k) = .ok (.string (dec u)) ((putRow encB (w.alloc (.cells Lib.zeros24 74)) w.heap.size 0 dk).drewN k) := by
      have h := run_convert_bytes_back (P := Tryd.prog) ((putRow encB (w.alloc (.cells Lib.zeros24 74)) w.heap.size 0 dk).drewN k) 77 9 5 ⟨w.heap.size, 0, none⟩ 24 (Lib.decDigits u) Tryd.underlying77 Tryd.underlying5 Tryd.underlying9 (fun j hj => by
        rw [Lib.row_is_numeral hF j hj, Lib.add_plain, World.cell?_drewN]
        exact cell?_putRow encB _ w.heap.size 0 _ dk HH0.out (by rw [hF.size, Array.size_replicate]) j (by rw [hF.size]; rw [Lib.decDigits_length] at hj; exact hj))
      rw [Lib.decDigits_length] at h
      exact h
    have HK : Hid (Chg Non w ((putRow encB (w.alloc (.cells Lib.zeros24 74)) w.heap.size 0 dk).drewN k)) := Lib.hid ((((Chg.refl Non w).alloc _).trans (chg_putRow _ w.heap.size 0 dk) (fun j e => .inr (by rw [e]; exact Nat.le_refl _))).drewN k)
    go_wp2
    go_ret
    exact ⟨rfl, HK.out⟩
theorem FormatUint_any (w : World) (u : Nat) (hu64 : u < 18446744073709551616) (hT : Tab w) : Calls Tryd.prog 25 #[.int .u64 (u : Int), .int .i64 10] w (Zero w (.string (dec u))) := by
  have H := Lib.hid (FormatUint_in w u hu64 hT)
  clear hT
  go_enter Tryd.func25, Tryd.ntmps25
  go_wp2_with fail
  refine H.out.mono ?_
  rintro e w1 ⟨rfl, k1⟩
  go_wp2_with fail
  go_ret
  exact ⟨rfl, k1⟩
end Go.Proofs.YtahlfncijbkcoaaDoor
