/- What was written is read: bytes of fields, one behind the other. Plain mathematics, and the contracts of a reader at a field. -/
import Derived.Test.YtjcfdclgddjaoaaChecked
import Derived.WalkKit
import Derived.Lib.Hide
import Derived.Deep.MidRow
import Derived.Test.YtjcfdclgddjaoaaFi
namespace Go.Proofs.Ytjcfdclgddjaoaa
open Go.RowKit
set_option linter.unusedVariables false
set_option maxRecDepth 20000

theorem be_succ (s n : Nat) : be (s + 1) n = be s (n / 256) ++ [UInt8.ofNat (n % 256)] := by
  unfold be
  rw [List.range_succ, List.map_append]
  congr 1
  · apply List.map_congr_left
    intro j hj
    have hj' : j < s := by simpa using hj
    have e : s + 1 - 1 - j = (s - 1 - j) + 1 := by omega
    rw [e, Nat.pow_succ, Nat.mul_comm, Nat.div_div_eq_div_mul]
  · simp
theorem ofbe_be (s n : Nat) : ofbe (be s n) = n % 256 ^ s := by
  induction s generalizing n with
  | zero => simp [be, ofbe, Nat.mod_one]
  | succ s ih =>
    rw [be_succ, ofbe_snoc, ih, UInt8.toNat_ofNat']
    have h1 : n % 256 % 2 ^ 8 = n % 256 := by omega
    rw [h1, Nat.pow_succ, Nat.mul_comm (256 ^ s) 256, Nat.mod_mul]
    omega
theorem fWord_app (n : Nat) (hn : n < 18446744073709551616) (r : List UInt8) : fWord (be 8 n ++ r) = some (n, r) := by
  unfold fWord
  have hl := be_length 8 n
  rw [if_neg (by rw [List.length_append, hl]; omega), List.take_left' hl, List.drop_left' hl, ofbe_be, Nat.mod_eq_of_lt (by simpa using hn)]
theorem fNumber_app (x : Int) (h1 : -9223372036854775808 ≤ x) (h2 : x ≤ 9223372036854775807) (r : List UInt8) : fNumber (be 8 (x % 18446744073709551616).toNat ++ r) = some (x, r) := by
  unfold fNumber
  rw [fWord_app _ (by omega)]
  simp only [Option.map_some]
  congr 2
  unfold sgn
  split <;> omega
theorem fHash_app (h : List UInt8) (hl : h.length = 32) (r : List UInt8) : fHash (h ++ r) = some (h, r) := by
  unfold fHash
  rw [if_neg (by rw [List.length_append, hl]; omega), List.take_left' hl, List.drop_left' hl]
theorem fText_app (s : List UInt8) (hs : s.length ≤ 4096) (r : List UInt8) : fText (tx s ++ r) = some (s, r) := by
  unfold fText tx
  have hl := be_length 2 s.length
  have ho : ofbe (be 2 s.length) = s.length := by rw [ofbe_be, Nat.mod_eq_of_lt (by omega)]
  rw [List.append_assoc, if_neg (by rw [List.length_append, hl]; omega), List.take_left' hl, List.drop_left' hl, ho, if_neg (by omega), if_neg (by rw [List.length_append]; omega), List.take_left, List.drop_left]

/-- A field's bytes. -/
def enc (f : Fd) : List UInt8 := if f.k = 1 then be 8 (f.n % 18446744073709551616).toNat else if f.k = 2 then be 8 f.w else if f.k = 3 then f.h else if f.k = 4 then tx f.s.data.toList else []
theorem enc1 {f : Fd} (h : f.k = 1) : enc f = be 8 (f.n % 18446744073709551616).toNat := by unfold enc; rw [if_pos h]
theorem enc2 {f : Fd} (h : f.k = 2) : enc f = be 8 f.w := by unfold enc; rw [if_neg (by omega), if_pos h]
theorem enc3 {f : Fd} (h : f.k = 3) : enc f = f.h := by unfold enc; rw [if_neg (by omega), if_neg (by omega), if_pos h]
theorem enc4 {f : Fd} (h : f.k = 4) : enc f = tx f.s.data.toList := by unfold enc; rw [if_neg (by omega), if_neg (by omega), if_neg (by omega), if_pos h]
theorem enc5 {f : Fd} (h1 : ¬ f.k = 1) (h2 : ¬ f.k = 2) (h3 : ¬ f.k = 3) (h4 : ¬ f.k = 4) : enc f = [] := by unfold enc; rw [if_neg h1, if_neg h2, if_neg h3, if_neg h4]

/-- The first k fields' bytes. -/
def encs (L : Nat → Fd) : Nat → List UInt8
  | 0 => []
  | k + 1 => encs L k ++ enc (L k)
theorem encs_le (L : Nat → Fd) (k m : Nat) (h : k ≤ m) : ∃ t, encs L m = encs L k ++ t := by
  induction m with
  | zero =>
    obtain rfl : k = 0 := by omega
    exact ⟨[], by simp⟩
  | succ m ih =>
    rcases Nat.lt_or_ge m k with h1 | h1
    · obtain rfl : k = m + 1 := by omega
      exact ⟨[], by simp⟩
    · obtain ⟨t, ht⟩ := ih h1
      exact ⟨t ++ enc (L m), by rw [encs, ht, List.append_assoc]⟩
/-- What stands behind the first k. -/
def rests (L : Nat → Fd) (m k : Nat) : List UInt8 := (encs L m).drop (encs L k).length
theorem rests_zero (L : Nat → Fd) (m : Nat) : rests L m 0 = encs L m := rfl
theorem rests_end (L : Nat → Fd) (m : Nat) : rests L m m = [] := by unfold rests; exact List.drop_length
theorem rests_next (L : Nat → Fd) (m k : Nat) (h : k < m) : rests L m k = enc (L k) ++ rests L m (k + 1) := by
  obtain ⟨t, ht⟩ := encs_le L (k + 1) m h
  unfold rests
  rw [ht, List.drop_left]
  conv => lhs; rw [encs, List.append_assoc, List.drop_left]

/-- A reader has read a field. -/
def Got (w : World) (g : Nat) (F : Nat → Prop) (v : Value) (r : List UInt8) (e : Ending) (w' : World) : Prop := e = .returned v ∧ Rdr w' g F (some r) ∧ Chg (Eqg g) w w'
theorem got_number (w : World) (g : Nat) (F : Nat → Prop) (x : Int) (h1 : -9223372036854775808 ≤ x) (h2 : x ≤ 9223372036854775807) (r : List UInt8) (h : Rdr w g F (some (be 8 (x % 18446744073709551616).toNat ++ r))) :
    Calls Try.prog 115 #[.pointer (some ⟨g, 0, none⟩)] w (Got w g F (.int .i64 x) r) := by
  have H := numberR_any w g F _ h
  rw [Option.bind_some, fNumber_app x h1 h2] at H
  exact H
theorem got_word (w : World) (g : Nat) (F : Nat → Prop) (n : Nat) (hn : n < 18446744073709551616) (r : List UInt8) (h : Rdr w g F (some (be 8 n ++ r))) :
    Calls Try.prog 122 #[.pointer (some ⟨g, 0, none⟩)] w (Got w g F (.int .u64 (n : Int)) r) := by
  have H := wordR_any w g F _ h
  rw [Option.bind_some, fWord_app n hn] at H
  exact H
theorem got_hash (w : World) (g : Nat) (F : Nat → Prop) (hs : List UInt8) (hl : hs.length = 32) (r : List UInt8) (h : Rdr w g F (some (hs ++ r))) :
    Calls Try.prog 120 #[.pointer (some ⟨g, 0, none⟩)] w (Got w g F (.agg (bv hs).toArray) r) := by
  have H := hashR_any w g F _ h
  rw [Option.bind_some, fHash_app hs hl] at H
  exact H
theorem got_text (w : World) (g : Nat) (F : Nat → Prop) (s : ByteArray) (hs : s.size ≤ 4096) (r : List UInt8) (h : Rdr w g F (some (tx s.data.toList ++ r))) :
    Calls Try.prog 117 #[.pointer (some ⟨g, 0, none⟩)] w (Got w g F (.string s) r) := by
  have H := textR_any w g F _ h
  have hl : s.data.toList.length = s.size := by rw [Array.length_toList]; rfl
  rw [Option.bind_some, fText_app s.data.toList (by omega)] at H
  exact H

theorem own_zero (w : World) : Own 5 (w.alloc (.cells #[] 5)) (.slice (some ⟨w.heap.size, 0, none⟩) 0 0) [] :=
  ⟨by simp [bv], .inr ⟨w.heap.size, 0, _, rfl, Nat.zero_le _, heap_alloc_new w _, by simp, by unfold maxLen; omega, by simp, rfl⟩⟩
theorem rd_byte (w : World) (b : UInt8) : Rd (w.alloc (.cells #[.int .u8 (b.toNat : Int)] 5)) (some ⟨w.heap.size, 0, none⟩) [b] :=
  rd_of_blk (Hb.new w _ _) (fun j c h => by
    match j, h with
    | 0, h => simp at h; subst h; rfl)

theorem range_of {w : World} {b o : Nat} {l : List UInt8} (h : Rd w (some ⟨b, o, none⟩) l) : w.rangeAt b o (bv l) := by
  intro j u hu
  obtain ⟨x, hx, rfl⟩ := bv_inv l j u hu
  obtain ⟨ad, e, hc⟩ := h j x hx
  injection e with e
  subst e
  have : (⟨b, o, none⟩ : Addr).add j = ⟨b, o + j, none⟩ := by unfold Addr.add; split <;> simp_all
  rw [this] at hc
  exact hc
theorem Chg.range {w w' : World} {b o : Nat} {cs : List Value} {S : Nat → Prop} (k : Chg S w w') (h : w.rangeAt b o cs) (hb : ¬ S b) : w'.rangeAt b o cs := fun j u hu => k.cell (h j u hu) hb
end Go.Proofs.Ytjcfdclgddjaoaa
