/- Calls on no writer; the live question of the laws of package wire; a field's cells. -/
import Derived.Test.YtjcfdclgddjaoaaChecked
import Derived.WalkKit
import Derived.WalkLawsBesides
import Derived.Lib.Hide
import Derived.Test.YtjcfdclgddjaoaaRi
import Derived.Test.YtjcfdclgddjaoaaFm
namespace Go.Proofs.Ytjcfdclgddjaoaa
open Go.RowKit
set_option linter.unusedVariables false
set_option maxRecDepth 20000

theorem wordW_nil (w : World) (n : Nat) (hn : n < 18446744073709551616) : Calls Try.prog 121 #[.pointer none, .int .u64 (n : Int)] w (Zero w (.tuple #[])) := by
  go_enter Try.func121, Try.ntmps121
  go_wp2_with (first | (go_at_call 127; refine (parted8 _ hn _).mono ?_; rintro e w' ⟨rfl, rfl⟩) | (go_at_call 126; refine (add_nil _ _).mono ?_; rintro e w' ⟨rfl, rfl⟩))
  go_end0
  exact ⟨rfl, (Chg.refl Non w).alloc _⟩

theorem numberW_nil (w : World) (n : Int) (h1 : -9223372036854775808 ≤ n) (h2 : n ≤ 9223372036854775807) : Calls Try.prog 114 #[.pointer none, .int .i64 n] w (Zero w (.tuple #[])) := by
  have H := wordW_nil w (n % 18446744073709551616).toNat (by omega)
  rw [show (((n % 18446744073709551616).toNat : Nat) : Int) = n % 18446744073709551616 by omega] at H
  go_enter Try.func114, Try.ntmps114
  go_wp2_with (go_at_call 121; refine H.mono ?_; intro e w' hw; obtain ⟨rfl, hw'⟩ := hw)
  go_end0
  exact ⟨rfl, hw'⟩

theorem hashW_nil (w : World) (hs : List UInt8) (hl : hs.length = 32) : Calls Try.prog 119 #[.pointer none, .agg (bv hs).toArray] w (Zero w (.tuple #[])) := by
  go_enter Try.func119, Try.ntmps119
  go_wp2_with (go_at_call 126; refine (add_nil _ _).mono ?_; rintro e w' ⟨rfl, rfl⟩)
  go_end0
  exact ⟨rfl, (Chg.refl Non w).alloc _⟩

theorem giveUp_nil (w : World) : Calls Try.prog 125 #[.pointer none] w (Zero w (.tuple #[])) := by
  go_enter Try.func125, Try.ntmps125
  go_wp2
  refine bodyPost_ret (results_none rfl _ _ _) rfl ?_
  exact ⟨rfl, Chg.refl _ _⟩

theorem textW_nil (w : World) (s : ByteArray) (hm : s.size ≤ maxLen) : Calls Try.prog 116 #[.pointer none, .string s] w (Zero w (.tuple #[])) := by
  unfold maxLen at hm
  by_cases hlt : 4096 < s.size
  · go_enter Try.func116, Try.ntmps116
    go_wp2_with (go_at_call 125; refine (giveUp_nil _).mono ?_; intro e w' hw; obtain ⟨rfl, hw'⟩ := hw)
    refine bodyPost_ret (results_none rfl _ _ _) rfl ?_
    exact ⟨rfl, hw'⟩
  · obtain ⟨c2, w2, hrun, _, _, hch, _⟩ := run_bytes byt (w.alloc (.cells (pcells 2 s.size 2) 5)) s
    go_enter Try.func116, Try.ntmps116
    go_wp2_with (go_at_call 127; refine (parted2 _ (by omega) _).mono ?_; rintro e w' ⟨rfl, rfl⟩)
    refine (add_nil _ _).mono ?_
    rintro e w' ⟨rfl, rfl⟩
    go_wp2_with fail
    refine (add_nil _ _).mono ?_
    rintro e w' ⟨rfl, rfl⟩
    go_wp2
    go_end0
    exact ⟨rfl, ((Chg.refl Non w).alloc _).trans hch (fun _ hj => .inl hj)⟩

theorem bytesW_nil (w : World) : Calls Try.prog 77 #[.pointer none] w fun e w' => e = .returned (.tuple #[.slice none 0 0, .int .i64 1]) ∧ w' = w := by
  go_enter Try.func77, Try.ntmps77
  go_wp2
  go_ret2
  exact ⟨rfl, rfl⟩

end Go.Proofs.Ytjcfdclgddjaoaa
