/- The document's Digits: a number as text. -/
import Derived.Test.YtahlfncijbkcoaaDoorChecked
import Derived.WalkKit
import Derived.WalkLawsBesides
import Derived.Lib.Hide
import Derived.Deep.MidRow
import Derived.Test.YtahlfncijbkcoaaDoorKv
namespace Go.Proofs.YtahlfncijbkcoaaDoor
open Go.RowKit
set_option linter.unusedVariables false
set_option linter.unusedSimpArgs false
set_option maxRecDepth 20000

/-- One digit as text. -/
def dgt (k : Nat) : ByteArray := ⟨#[UInt8.ofNat (48 + k)]⟩
/-- What of a number's text stands before its end: nothing, of 0. -/
def preD (n : Nat) : ByteArray := if n = 0 then ⟨#[]⟩ else dec n
theorem dec_step (n : Nat) : dec n = preD (n / 10) ++ dgt (n % 10) := by
  apply ba_eq
  rw [ba_app]
  unfold dec preD dgt
  by_cases h : n < 10
  · have h0 : n / 10 = 0 := by omega
    have h1 : n % 10 = n := by omega
    rw [if_pos h0, h1, Lib.decDigits_one h]
    rfl
  · have h0 : ¬ n / 10 = 0 := by omega
    rw [if_neg h0, Lib.decDigits, dif_neg h]
    rfl
theorem dgt_one (k : Nat) : (dgt k).size = 1 := rfl
theorem ba_assoc (a b c : ByteArray) : (a ++ b) ++ c = a ++ (b ++ c) := by
  apply ba_eq
  simp only [ba_app, List.append_assoc]
theorem ba_nil (a : ByteArray) : a ++ ⟨#[]⟩ = a := by
  apply ba_eq
  rw [ba_app]
  simp
theorem ba_nil2 (a : ByteArray) : (⟨#[]⟩ : ByteArray) ++ a = a := by
  apply ba_eq
  rw [ba_app]
  simp
theorem dgt_fin : ∀ k : Fin 10, (⟨#[48, 49, 50, 51, 52, 53, 54, 55, 56, 57]⟩ : ByteArray).extract k.val (k.val + 1) = dgt k.val := by decide +kernel
theorem run_digit (n : Nat) (W : World) : (Instr.slice 9 (.string ⟨#[48, 49, 50, 51, 52, 53, 54, 55, 56, 57]⟩) (some (.int .i64 ((n : Int) % 10))) (some (.int .i64 ((n : Int) % 10 + 1))) none).run Tryd.prog W = .ok (.string (dgt (n % 10))) W := by
  have z : (⟨#[48, 49, 50, 51, 52, 53, 54, 55, 56, 57]⟩ : ByteArray).size = 10 := rfl
  have hk : n % 10 < 10 := Nat.mod_lt _ (by omega)
  rw [run_slice_string W _ _ _ _ _ _ Tryd.underlying9 (by omega) (by omega) (by rw [z]; omega)]
  have e1 : ((n : Int) % 10).toNat = n % 10 := by omega
  have e2 : ((n : Int) % 10 + 1).toNat = n % 10 + 1 := by omega
  rw [e1, e2, dgt_fin ⟨n % 10, hk⟩]
def measD : Value → Value → Nat
  | .int _ n, .string s => n.toNat + (if s.size = 0 then 1 else 0)
  | _, _ => 0
theorem measD_lt {k k' : IntKind} {a b : Int} {s s' : ByteArray} (h : s'.size ≠ 0) (h2 : a.toNat < b.toNat ∨ (a.toNat ≤ b.toNat ∧ s.size = 0)) : measD (.int k a) (.string s') < measD (.int k' b) (.string s) := by
  show a.toNat + (if s'.size = 0 then 1 else 0) < b.toNat + (if s.size = 0 then 1 else 0)
  rw [if_neg h]
  split <;> omega
theorem pow_size {n N k : Nat} (hn : 0 < n) (hN : N < 18446744073709551616) (h : n * 10 ^ k ≤ N) : k ≤ 19 := by
  by_cases hk : k ≤ 19
  · exact hk
  · exfalso
    have h1 : 10 ^ 20 ≤ 10 ^ k := Nat.pow_le_pow_right (by omega) (by omega)
    have h2 : 1 * 10 ^ k ≤ n * 10 ^ k := Nat.mul_le_mul_right _ hn
    have h3 : (10 : Nat) ^ 20 = 100000000000000000000 := by decide
    omega
theorem pow_step {n N k : Nat} (h : n * 10 ^ k ≤ N) : (n / 10) * 10 ^ (k + 1) ≤ N := by
  have h1 : (n / 10) * 10 ^ (k + 1) = (n / 10 * 10) * 10 ^ k := by rw [Nat.pow_succ, Nat.mul_assoc, Nat.mul_comm (10 ^ k) 10]
  have h2 : n / 10 * 10 ≤ n := Nat.div_mul_le_self n 10
  have h3 := Nat.mul_le_mul_right (10 ^ k) h2
  omega
/-- How the text stands: what is behind it, what is before it. -/
def TxtP (N n : Nat) (s : ByteArray) : Prop := (s = ⟨#[]⟩ ∧ n = N) ∨ (s ≠ ⟨#[]⟩ ∧ dec N = preD n ++ s)
theorem TxtP.step {N n : Nat} {s : ByteArray} (h : TxtP N n s) (hn : 0 < n ∨ s = ⟨#[]⟩) : TxtP N (n / 10) (dgt (n % 10) ++ s) := by
  have hne : dgt (n % 10) ++ s ≠ ⟨#[]⟩ := fun e => by
    have := congrArg ByteArray.size e
    rw [ba_app_size, dgt_one] at this
    have z : (⟨#[]⟩ : ByteArray).size = 0 := rfl
    omega
  refine .inr ⟨hne, ?_⟩
  rcases h with ⟨rfl, rfl⟩ | ⟨h1, h2⟩
  · rw [ba_nil]
    exact dec_step n
  · have hp : 0 < n := by
      rcases hn with hn | hn
      · exact hn
      · exact absurd hn h1
    have e : preD n = dec n := by
      unfold preD
      rw [if_neg (by omega)]
    rw [h2, e, dec_step n, ba_assoc]
theorem TxtP.done {N n : Nat} {s : ByteArray} (h : TxtP N n s) (hn : ¬ 0 < n) (hs : s ≠ ⟨#[]⟩) : s = dec N := by
  rcases h with ⟨h1, _⟩ | ⟨h1, h2⟩
  · exact absurd h1 hs
  · have : n = 0 := by omega
    subst this
    rw [h2]
    exact (ba_nil2 s).symm
theorem size_ne {s : ByteArray} (h : s.size ≠ 0) : s ≠ ⟨#[]⟩ := fun e => by subst e; exact h rfl
theorem beqE (a : ByteArray) : (a.toList == (⟨#[]⟩ : ByteArray).toList) = decide (a = ⟨#[]⟩) := by
  by_cases h : a = ⟨#[]⟩
  · subst h; simp
  · rw [decide_eq_false h, beq_eq_false_iff_ne]
    intro e
    rw [ByteArray.toList_eq, ByteArray.toList_eq] at e
    exact h (ba_eq e)
set_option maxHeartbeats 1600000 in
theorem Digits_any (w : World) (N : Nat) (hN : N < 18446744073709551616) : Calls Tryd.prog 29 #[.int .u64 (N : Int)] w (Zero w (.string (dec N))) := by
  go_enter Tryd.func29, Tryd.ntmps29
  go_wp2_with fail
  go_loopw [0, 3] (fun v t wr => ∃ (n : Nat) (s : ByteArray), n < 18446744073709551616 ∧ v = .int .u64 (n : Int) ∧ t = .string s ∧ Hid (TxtP N n s) ∧ Hid (n * 10 ^ s.size ≤ N) ∧ Hid (Chg Non w wr)) (fun v t _ => measD v t)
  case atStart => exact ⟨N, ⟨#[]⟩, hN, rfl, rfl, Lib.hid (.inl ⟨rfl, rfl⟩), Lib.hid (by rw [show (⟨#[]⟩ : ByteArray).size = 0 from rfl]; omega), Lib.hid (Chg.refl _ _)⟩
  case round =>
    obtain ⟨n, s, hn, rfl, rfl, hT, hS, hC⟩ := hrel
    have HST : Hid (0 < n ∨ s = ⟨#[]⟩ → TxtP N (n / 10) (dgt (n % 10) ++ s) ∧ (n / 10) * 10 ^ (dgt (n % 10) ++ s).size ≤ N ∧ (dgt (n % 10) ++ s).size ≠ 0) := Lib.hid fun h => ⟨hT.out.step h, by rw [ba_app_size, dgt_one, Nat.add_comm]; exact pow_step hS.out, by rw [ba_app_size, dgt_one]; omega⟩
    have hrd := run_digit n
    by_cases h0 : (0 : Int) < (n : Int)
    · have HP : Hid (0 < n) := Lib.hid (by omega)
      have hsz : s.size ≤ 19 := pow_size HP.out hN hS.out
      have hra := str_add 9 (dgt (n % 10)) s (by rw [dgt_one]; omega)
      have HQ := Lib.hid (HST.out (.inl HP.out))
      have hdg : (dgt (n % 10)).size = 1 := rfl
      clear HST hra
      generalize dgt (n % 10) = dg at *
      go_wp2_with (exfalso; omega)
      go_roundw
      case rel => exact ⟨n / 10, dg ++ s, by omega, by go_num, rfl, Lib.hid HQ.out.1, Lib.hid HQ.out.2.1, hC⟩
      case measure =>
        have h1 := HP.out
        exact measD_lt HQ.out.2.2 (.inl (by omega))
    · have HZ : Hid (¬ 0 < n) := Lib.hid (by omega)
      by_cases hs : s = ⟨#[]⟩
      · obtain rfl : n = 0 := by omega
        subst hs
        have HQ := Lib.hid (HST.out (.inr rfl))
        have HE : Hid ((⟨#[48, 49, 50, 51, 52, 53, 54, 55, 56, 57]⟩ : ByteArray).extract 0 1 ++ ⟨#[]⟩ = dgt (0 % 10) ++ ⟨#[]⟩) := Lib.hid (by rw [show dgt (0 % 10) = dgt (0 : Fin 10).val from rfl, ← dgt_fin 0]; rfl)
        clear HST
        go_wp2_with fail
        go_roundw
        case rel => exact ⟨0, _, by omega, rfl, congrArg Value.string HE.out, Lib.hid HQ.out.1, Lib.hid HQ.out.2.1, hC⟩
        case measure => exact measD_lt (by rw [HE.out]; exact HQ.out.2.2) (.inr ⟨by simp, rfl⟩)
      · have e1 : s.toList.isEmpty = false := by
          rw [Bool.eq_false_iff]
          intro e
          rw [List.isEmpty_iff, ByteArray.toList_eq] at e
          exact hs (ba_eq e)
        have HQ := Lib.hid (hT.out.done HZ.out hs)
        clear hs HST hrd
        go_wp2_with fail
        go_ret
        exact ⟨by rw [HQ.out]; rfl, hC.out⟩
end Go.Proofs.YtahlfncijbkcoaaDoor
