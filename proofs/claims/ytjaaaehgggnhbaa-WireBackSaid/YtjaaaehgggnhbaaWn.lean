/- Calls on no writer; the live question of the laws of package wire; a field's cells. -/
import Derived.Test.YtjaaaehgggnhbaaChecked
import Derived.WalkKit
import Derived.WalkLawsBesides
import Derived.Lib.Hide
import Derived.Test.YtjaaaehgggnhbaaRi
import Derived.Test.YtjaaaehgggnhbaaFm
namespace Go.Proofs.Ytjaaaehgggnhbaa
open Go.RowKit
set_option linter.unusedVariables false

theorem wordW_nil (w : World) (n : Nat) (hn : n < 18446744073709551616) : Calls Try.prog 13 #[.pointer none, .int .u64 (n : Int)] w (Zero w (.tuple #[])) := by
  go_enter Try.func13, Try.ntmps13
  go_wp2_with (first | (go_at_call 34; refine (parted8 _ hn _).mono ?_; rintro e w' ⟨rfl, rfl⟩) | (go_at_call 33; refine (add_nil _ _).mono ?_; rintro e w' ⟨rfl, rfl⟩))
  go_end0
  exact ⟨rfl, (Chg.refl Non w).alloc _⟩

theorem numberW_nil (w : World) (n : Int) (h1 : -9223372036854775808 ≤ n) (h2 : n ≤ 9223372036854775807) : Calls Try.prog 11 #[.pointer none, .int .i64 n] w (Zero w (.tuple #[])) := by
  have H := wordW_nil w (n % 18446744073709551616).toNat (by omega)
  rw [show (((n % 18446744073709551616).toNat : Nat) : Int) = n % 18446744073709551616 by omega] at H
  go_enter Try.func11, Try.ntmps11
  go_wp2_with (go_at_call 13; refine H.mono ?_; intro e w' hw; obtain ⟨rfl, hw'⟩ := hw)
  go_end0
  exact ⟨rfl, hw'⟩

theorem hashW_nil (w : World) (hs : List UInt8) (hl : hs.length = 32) : Calls Try.prog 14 #[.pointer none, .agg (bv hs).toArray] w (Zero w (.tuple #[])) := by
  go_enter Try.func14, Try.ntmps14
  go_wp2_with (go_at_call 33; refine (add_nil _ _).mono ?_; rintro e w' ⟨rfl, rfl⟩)
  go_end0
  exact ⟨rfl, (Chg.refl Non w).alloc _⟩

theorem giveUp_nil (w : World) : Calls Try.prog 35 #[.pointer none] w (Zero w (.tuple #[])) := by
  go_enter Try.func35, Try.ntmps35
  go_wp2
  refine bodyPost_ret (results_none rfl _ _ _) rfl ?_
  exact ⟨rfl, Chg.refl _ _⟩

theorem textW_nil (w : World) (s : ByteArray) (hm : s.size ≤ maxLen) : Calls Try.prog 16 #[.pointer none, .string s] w (Zero w (.tuple #[])) := by
  unfold maxLen at hm
  by_cases hlt : 4096 < s.size
  · go_enter Try.func16, Try.ntmps16
    go_wp2_with (go_at_call 35; refine (giveUp_nil _).mono ?_; intro e w' hw; obtain ⟨rfl, hw'⟩ := hw)
    refine bodyPost_ret (results_none rfl _ _ _) rfl ?_
    exact ⟨rfl, hw'⟩
  · obtain ⟨c2, w2, hrun, _, _, hch, _⟩ := run_bytes byt (w.alloc (.cells (pcells 2 s.size 2) 5)) s
    go_enter Try.func16, Try.ntmps16
    go_wp2_with (go_at_call 34; refine (parted2 _ (by omega) _).mono ?_; rintro e w' ⟨rfl, rfl⟩)
    refine (add_nil _ _).mono ?_
    rintro e w' ⟨rfl, rfl⟩
    go_wp2_with fail
    refine (add_nil _ _).mono ?_
    rintro e w' ⟨rfl, rfl⟩
    go_wp2
    go_end0
    exact ⟨rfl, ((Chg.refl Non w).alloc _).trans hch (fun _ hj => .inl hj)⟩

theorem bytesW_nil (w : World) : Calls Try.prog 18 #[.pointer none] w fun e w' => e = .returned (.tuple #[.slice none 0 0, .int .i64 1]) ∧ w' = w := by
  go_enter Try.func18, Try.ntmps18
  go_wp2
  go_ret2
  exact ⟨rfl, rfl⟩

/-- The bytes of the live question. -/
def AL : List UInt8 := [0, 2, 104, 105, 255, 255, 255, 255, 255, 255, 255, 254]
theorem al1 : txSt (some []) [104, 105] = some [0, 2, 104, 105] := by decide
theorem al2 : (some [0, 2, 104, 105] : Option (List UInt8)).map (· ++ be 8 ((-2 : Int) % 18446744073709551616).toNat) = some AL := by decide

theorem alive_any (w : World) : Calls Try.prog 10 #[] w (Zero w (.bool true)) := by
  go_enter Try.func10, Try.ntmps10
  go_wp2_with (go_at_call 9; refine (newWriter_any _).mono ?_; rintro e w' ⟨rfl, rfl⟩)
  have hch := (Chg.refl Non w).alloc (.cells #[.slice none 0 0, .bool false] 59)
  refine (text_any _ w.heap.size (.slice none 0 0) (some []) ⟨#[104, 105]⟩ (wri_new w) (fun l h => by injection h with h; subst h; simp) (by decide)).mono ?_
  rintro e w1 ⟨rfl, v1, hv1, hc1, hl1⟩
  have hv1' : Wri w1 w.heap.size v1 (some [0, 2, 104, 105]) := hv1
  go_wp2_with fail
  refine (number_any _ w.heap.size v1 (some [0, 2, 104, 105]) (-2) (by omega) (by omega) hv1' (fun l h => by injection h with h; subst h; simp)).mono ?_
  rintro e w2 ⟨rfl, v2, hv2, hc2, hl2⟩
  rw [al2] at hv2
  go_wp2_with fail
  refine (bytes_some _ w.heap.size v2 AL hv2 (by decide)).mono ?_
  rintro e w3 ⟨v3, rfl, ho3, hl3, hc3⟩
  obtain ⟨A, c, rfl, hc, hm, hr, _, _⟩ := ho3.slice
  obtain ⟨ad, rfl, _⟩ := hr.blk_lt (by decide)
  have k1 : w3.cell? ⟨ad.block, ad.off + 1, none⟩ = some (.int .u8 2) := hr.at_ (j := 1) (by decide)
  have k2 : w3.cell? ⟨ad.block, ad.off + 2, none⟩ = some (.int .u8 104) := hr.at_ (j := 2) (by decide)
  have k3 : w3.cell? ⟨ad.block, ad.off + 11, none⟩ = some (.int .u8 254) := hr.at_ (j := 11) (by decide)
  have hlen : AL.length = 12 := by decide
  rw [hlen]
  clear hlen hr hc hm ho3
  go_wp2
  go_ret
  refine ⟨rfl, (((hch.trans hc1 ?_).trans hc2 ?_).trans hc3 (fun _ h => .inl h)).mono (fun _ h => .inl h)⟩
  · rintro j (rfl | h)
    · exact .inr (Nat.le_refl _)
    · cases h
  · rintro j (rfl | h)
    · exact .inr (Nat.le_refl _)
    · rcases hl1 j h with h | h
      · cases h
      · simp at h; exact .inr (by omega)
end Go.Proofs.Ytjaaaehgggnhbaa
