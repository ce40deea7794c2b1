/- What the functions of package wire's writer answer: contracts. -/
import Derived.Test.YtjcfdclgddjaoaaChecked
import Derived.WalkKit
import Derived.Lib.Hide
import Derived.Test.YtjcfdclgddjaoaaWd
namespace Go.Proofs.Ytjcfdclgddjaoaa
open Go.RowKit
set_option linter.unusedVariables false

theorem byt : Byt Try.prog 33 5 9 := ⟨Try.underlying33, Try.underlying5, Try.underlying9, by kernel_rfl⟩

/-- The size bytes of n, the highest first. -/
def be (size n : Nat) : List UInt8 := (List.range size).map fun j => UInt8.ofNat (n / 256 ^ (size - 1 - j) % 256)
theorem be_length (size n : Nat) : (be size n).length = size := by simp [be]

/-- A row of so many cells, the last k of them written. -/
def pcells (size n k : Nat) : Array Value := ((List.range size).map fun j => if size - k ≤ j then Value.int .u8 ((n / 256 ^ (size - 1 - j) % 256 : Nat) : Int) else Value.int .u8 0).toArray
theorem pcells_size (size n k : Nat) : (pcells size n k).size = size := by simp [pcells]
theorem pcells_get (size n k i : Nat) (hi : i < size) : (pcells size n k)[i]? = some (if size - k ≤ i then Value.int .u8 ((n / 256 ^ (size - 1 - i) % 256 : Nat) : Int) else Value.int .u8 0) := by
  simp [pcells, hi]
theorem pcells_set (size n k i : Nat) (hk : k < size) (hi : i = size - 1 - k) : (pcells size n k).setIfInBounds i (Value.int .u8 ((n / 256 ^ k % 256 : Nat) : Int)) = pcells size n (k + 1) := by
  subst hi
  apply Array.ext_getElem?
  intro i
  rw [Array.getElem?_setIfInBounds, pcells_size]
  by_cases hi : i < size
  · rw [pcells_get _ _ _ _ hi, pcells_get _ _ _ _ hi]
    split
    · rename_i h
      subst h
      rw [if_pos (by omega), if_pos (by omega)]
      have : size - 1 - (size - 1 - k) = k := by omega
      rw [this]
    · by_cases h2 : size - k ≤ i
      · rw [if_pos h2, if_pos (by omega)]
      · rw [if_neg h2, if_neg (by omega)]
  · have e1 : (pcells size n (k + 1))[i]? = none := Array.getElem?_eq_none (by rw [pcells_size]; omega)
    have e2 : (pcells size n k)[i]? = none := Array.getElem?_eq_none (by rw [pcells_size]; omega)
    rw [e1, e2, if_neg (by omega)]

theorem pcells_full (size n : Nat) (j : Nat) (b : UInt8) (h : (be size n)[j]? = some b) : (pcells size n size)[j]? = some (Value.int .u8 (b.toNat : Int)) := by
  have hj : j < size := by have := (List.getElem?_eq_some_iff.1 h).1; simpa [be] using this
  simp [be, hj] at h
  subst h
  simp [pcells, hj]

theorem zeros_eq (z : Value) (n : Nat) : madeCells #[z] n = (List.replicate n z).toArray := by
  apply Array.ext'
  rw [toList_madeCells_one]

theorem pcells_zero (size n : Nat) : pcells size n 0 = (List.replicate size (Value.int .u8 0)).toArray := by
  apply Array.ext_getElem?
  intro i
  by_cases hi : i < size
  · rw [pcells_get _ _ _ _ hi, if_neg (by omega)]
    simp [hi]
  · rw [Array.getElem?_eq_none (by rw [pcells_size]; omega), Array.getElem?_eq_none (by simp; omega)]

theorem make_u8 (n : Nat) (hn : n ≤ 1000000) (w : World) : (Instr.makeSlice 33 (.int .i64 (n : Int)) (.int .i64 (n : Int))).run Try.prog w = .ok (.slice (some ⟨w.heap.size, 0, none⟩) n n) (w.alloc (.cells (List.replicate n (Value.int .u8 0)).toArray 5)) := by
  obtain ⟨i, hi, hz, hsi, hby⟩ := info_parts byt.hi
  have h := run_make (P := Try.prog) w 33 5 i (.int .u8 0) byt.ht hi hz .i64 .i64 (n : Int) (n : Int) (by omega) (by omega) (by rw [hby]; omega) (by omega)
  rw [h, hsi, Nat.mul_one, Int.toNat_natCast]
  exact congrArg (fun c => Result.ok _ (w.alloc (.cells c _))) (zeros_eq _ n)

theorem u8_of (x : Nat) : IntKind.u8.wrap (x : Int) = ((x % 256 : Nat) : Int) := by
  unfold IntKind.wrap; simp [IntKind.bits, IntKind.signed]

set_option maxHeartbeats 400000 in
theorem parted_any (n size : Nat) (hn : n < 18446744073709551616) (hs : size ≤ 8) (w : World) :
    Calls Try.prog 127 #[.int .u64 (n : Int), .int .i64 (size : Int)] w fun e w' => e = .returned (.slice (some ⟨w.heap.size, 0, none⟩) size size) ∧ w' = w.alloc (.cells (pcells size n size) 5) := by
  have HM := make_u8 size (by omega)
  rw [← pcells_zero size n] at HM
  go_enter Try.func127, Try.ntmps127
  go_wp2
  go_loopw [0, 6] (fun x i wr => ∃ k : Nat, k ≤ size ∧ x = .int .u64 ((n / 256 ^ k : Nat) : Int) ∧ i = .int .i64 ((size : Int) - 1 - (k : Int)) ∧ wr = w.alloc (.cells (pcells size n k) 5)) (fun _ i _ => (intOf i + 1).toNat)
  case atStart => exact ⟨0, by omega, by simp, by simp, rfl⟩
  case round =>
    obtain ⟨k, hk, rfl, rfl, rfl⟩ := hrel
    by_cases hlt : k < size
    · have hc := pcells_get size n k (size - 1 - k) (by omega)
      rw [if_neg (by omega)] at hc
      have HS := pcells_set size n k (size - 1 - k) hlt rfl
      have HD : n / 256 ^ (k + 1) = n / 256 ^ k / 256 := by rw [Nat.pow_succ, Nat.div_div_eq_div_mul]
      have hq : n / 256 ^ k < 18446744073709551616 := Nat.lt_of_le_of_lt (Nat.div_le_self _ _) hn
      generalize n / 256 ^ k = q at *
      have HS' := Lib.hid HS
      have HD' := Lib.hid HD
      clear HS HD
      go_wp2
      go_roundw
      case rel => 
        refine ⟨k + 1, by omega, ?_, by go_num, ?_⟩
        · rw [HD'.out]; go_num
        · rw [← HS'.out, Int.natCast_emod]; rfl
      case measure => simp [intOf]; omega
    · go_wp2
      go_ret
      obtain rfl : k = size := by omega
      exact ⟨rfl, rfl⟩

/-- The block g is a writer of these bytes, or one that gave up. -/
def Wri (w : World) (g : Nat) (v : Value) : Option (List UInt8) → Prop
  | some l => Hb w g 172 #[v, .bool false] ∧ Own 5 w v l
  | none => Hb w g 172 #[v, .bool true] ∧ v = .slice none 0 0
/-- What a writer has of memory. -/
def Wft (g : Nat) (v : Value) (k : Nat) : Prop := k = g ∨ vbl v k

theorem Wri.lt {w : World} {g : Nat} {v : Value} {st : Option (List UInt8)} (h : Wri w g v st) : g < w.heap.size := by
  cases st <;> exact h.1.lt
theorem Wri.vlt {w : World} {g : Nat} {v : Value} {st : Option (List UInt8)} (h : Wri w g v st) : ∀ k, vbl v k → k < w.heap.size := by
  intro k hk
  cases st with
  | none => rw [h.2] at hk; cases hk
  | some l => exact (h.2.lt k hk).2
theorem Wri.chg {w w' : World} {g : Nat} {v : Value} {st : Option (List UInt8)} {S : Nat → Prop} (h : Wri w g v st) (k : Chg S w w') (hS : ∀ j, Wft g v j → ¬ S j) : Wri w' g v st := by
  cases st with
  | none => exact ⟨h.1.chg k (hS g (.inl rfl)), h.2⟩
  | some l => exact ⟨h.1.chg k (hS g (.inl rfl)), h.2.chg k (fun j hj => hS j (.inr hj))⟩

/-- What a call on a writer leaves: the writer, with its bytes; and nothing else has changed. -/
def Wrote (w : World) (g : Nat) (v : Value) (st : Option (List UInt8)) (e : Ending) (w' : World) : Prop :=
  e = .returned (.tuple #[]) ∧ ∃ v', Wri w' g v' st ∧ Chg (Wft g v) w w' ∧ ∀ k, vbl v' k → vbl v k ∨ w.heap.size ≤ k

theorem newWriter_any (w : World) : Calls Try.prog 76 #[] w fun e w' => e = .returned (.pointer (some ⟨w.heap.size, 0, none⟩)) ∧ w' = w.alloc (.cells #[.slice none 0 0, .bool false] 172) := by
  go_enter Try.func76, Try.ntmps76
  go_wp2
  go_ret
  exact ⟨rfl, rfl⟩

theorem wri_new (w : World) : Wri (w.alloc (.cells #[.slice none 0 0, .bool false] 172)) w.heap.size (.slice none 0 0) (some []) := ⟨Hb.new w _ _, Own.nil _ _⟩

theorem add_nil (w : World) (x : Value) : Calls Try.prog 126 #[.pointer none, x] w fun e w' => e = .returned (.tuple #[]) ∧ w' = w := by
  go_enter Try.func126, Try.ntmps126
  go_wp2
  refine bodyPost_ret (results_none rfl _ _ _) rfl ?_
  exact ⟨rfl, rfl⟩

theorem add_bad (w : World) (g : Nat) (v x : Value) (h : Wri w g v none) : Calls Try.prog 126 #[.pointer (some ⟨g, 0, none⟩), x] w fun e w' => e = .returned (.tuple #[]) ∧ w' = w := by
  have c0 : w.cell? ⟨g, 0, none⟩ = some v := h.1.cell 0
  have c1 : w.cell? ⟨g, 1, none⟩ = some (.bool true) := h.1.cell 1
  clear h
  go_enter Try.func126, Try.ntmps126
  go_wp2
  refine bodyPost_ret (results_none rfl _ _ _) rfl ?_
  exact ⟨rfl, rfl⟩

theorem add_good (w : World) (g : Nat) (v : Value) (l l2 : List UInt8) (h : Wri w g v (some l)) (A : Option Addr) (n c : Nat) (hn : n = l2.length) (hr : Rd w A l2) (hsz : l.length + l2.length ≤ 140737488355328) :
    Calls Try.prog 126 #[.pointer (some ⟨g, 0, none⟩), .slice A n c] w (Wrote w g v (some (l ++ l2))) := by
  have c0 : w.cell? ⟨g, 0, none⟩ = some v := h.1.cell 0
  have c1 : w.cell? ⟨g, 1, none⟩ = some (.bool false) := h.1.cell 1
  have hown := h.2
  have hne := h.2.ne h.1 (by decide)
  have HN := Lib.hid hn
  clear hn
  go_enter Try.func126, Try.ntmps126
  go_wp2_with (at_builtin; refine wpList_app byt _ rfl _ _ rfl (v := v) rfl hown rfl HN.out hr hsz ?_; intro v' w1 hown' hgr hloc; obtain ⟨A', c', rfl, _⟩ := hown'.slice; rw [List.length_append] at hown' hloc; have hb1 := h.1.grown hgr (fun e => hne e.symm); have d0 : w1.cell? ⟨g, 0, none⟩ = some v := hb1.cell 0; have f0 : w1.frozen? ⟨g, 0, none⟩ = false := hb1.frozen 0)
  go_end0
  refine ⟨rfl, _, ⟨hb1.set 0 _, hown'.chg ((Chg.refl (fun k => k = g) w1).setCell (p := ⟨g, 0, none⟩) (.inl rfl) _) ?_⟩, ?_, ?_⟩
  · rintro j hj rfl
    exact hown'.ne hb1 (by decide) hj
  · exact ((Chg.refl (Wft g v) w).grown hgr (fun k hk => .inl (.inr hk))).setCell (p := ⟨g, 0, none⟩) (.inl (.inl rfl)) _
  · intro k hk
    rcases hloc with h1 | h1
    · left; unfold vbl at hk ⊢; rw [← h1]; exact hk
    · right; unfold vbl at hk; rw [h1] at hk; injection hk with hk; omega

theorem Wrote.same {w w' : World} {g : Nat} {v : Value} {st : Option (List UInt8)} (h : Wri w g v st) (k : Chg Non w w') : Wrote w g v st (.returned (.tuple #[])) w' :=
  ⟨rfl, v, h.chg k (fun _ _ f => f), k.mono (fun _ f => f.elim), fun _ hk => .inl hk⟩
theorem Wrote.after {w w1 w' : World} {g : Nat} {v : Value} {st : Option (List UInt8)} {e : Ending} (k : Chg Non w w1) (h : Wrote w1 g v st e w') : Wrote w g v st e w' := by
  obtain ⟨rfl, v', h1, h2, h3⟩ := h
  exact ⟨rfl, v', h1, (k.mono (S' := Wft g v) (fun _ f => f.elim)).trans h2 (fun _ hj => .inl hj), fun j hj => (h3 j hj).imp_right (fun hl => Nat.le_trans k.size hl)⟩
theorem Wrote.trans {w w1 w' : World} {g : Nat} {v v1 : Value} {st : Option (List UInt8)} {e : Ending} (k : Chg (Wft g v) w w1) (hv : ∀ j, vbl v1 j → vbl v j ∨ w.heap.size ≤ j) (h : Wrote w1 g v1 st e w') : Wrote w g v st e w' := by
  obtain ⟨rfl, v', h1, h2, h3⟩ := h
  refine ⟨rfl, v', h1, k.trans h2 ?_, fun j hj => ?_⟩
  · rintro j (rfl | hj)
    · exact .inl (.inl rfl)
    · exact (hv j hj).imp .inr id
  · rcases h3 j hj with h4 | h4
    · exact hv j h4
    · exact .inr (Nat.le_trans k.size h4)

theorem add_any (w : World) (g : Nat) (v : Value) (st : Option (List UInt8)) (l2 : List UInt8) (h : Wri w g v st) (A : Option Addr) (n c : Nat) (hn : n = l2.length) (hr : Rd w A l2) (hsz : ∀ l, st = some l → l.length + l2.length ≤ 140737488355328) :
    Calls Try.prog 126 #[.pointer (some ⟨g, 0, none⟩), .slice A n c] w (Wrote w g v (st.map (· ++ l2))) := by
  cases st with
  | none => exact (add_bad w g v _ h).mono fun e w' ⟨he, hw⟩ => by subst he; subst hw; exact Wrote.same h (Chg.refl _ _)
  | some l => exact add_good w g v l l2 h A n c hn hr (hsz l rfl)

theorem parted8 (n : Nat) (hn : n < 18446744073709551616) (w : World) : Calls Try.prog 127 #[.int .u64 (n : Int), .int .i64 8] w fun e w' => e = .returned (.slice (some ⟨w.heap.size, 0, none⟩) 8 8) ∧ w' = w.alloc (.cells (pcells 8 n 8) 5) :=
  parted_any n 8 hn (by omega) w
theorem parted2 (n : Nat) (hn : n < 18446744073709551616) (w : World) : Calls Try.prog 127 #[.int .u64 (n : Int), .int .i64 2] w fun e w' => e = .returned (.slice (some ⟨w.heap.size, 0, none⟩) 2 2) ∧ w' = w.alloc (.cells (pcells 2 n 2) 5) :=
  parted_any n 2 hn (by omega) w
theorem rd_pcells (w : World) (size n : Nat) : Rd (w.alloc (.cells (pcells size n size) 5)) (some ⟨w.heap.size, 0, none⟩) (be size n) := rd_of_blk (Hb.new w _ _) (pcells_full size n)

theorem word_any (w : World) (g : Nat) (v : Value) (st : Option (List UInt8)) (n : Nat) (hn : n < 18446744073709551616) (h : Wri w g v st) (hsz : ∀ l, st = some l → l.length ≤ 1000000000) :
    Calls Try.prog 121 #[.pointer (some ⟨g, 0, none⟩), .int .u64 (n : Int)] w (Wrote w g v (st.map (· ++ be 8 n))) := by
  have H1 := h.chg ((Chg.refl Non w).alloc (.cells (pcells 8 n 8) 5)) (fun _ _ f => f)
  have H2 := add_any _ g v st (be 8 n) H1 (some ⟨w.heap.size, 0, none⟩) 8 8 (be_length 8 n).symm (rd_pcells w 8 n) (fun l hl => by rw [be_length]; have := hsz l hl; omega)
  go_enter Try.func121, Try.ntmps121
  go_wp2_with (first | (go_at_call 127; refine (parted8 _ hn _).mono ?_; rintro e w' ⟨rfl, rfl⟩) | (go_at_call 126; refine H2.mono ?_; intro e w' hw; obtain ⟨rfl, hw'⟩ := hw))
  go_end0
  exact Wrote.after ((Chg.refl Non w).alloc _) ⟨rfl, hw'⟩

theorem number_any (w : World) (g : Nat) (v : Value) (st : Option (List UInt8)) (n : Int) (h1 : -9223372036854775808 ≤ n) (h2 : n ≤ 9223372036854775807) (h : Wri w g v st) (hsz : ∀ l, st = some l → l.length ≤ 1000000000) :
    Calls Try.prog 114 #[.pointer (some ⟨g, 0, none⟩), .int .i64 n] w (Wrote w g v (st.map (· ++ be 8 (n % 18446744073709551616).toNat))) := by
  have H := word_any w g v st (n % 18446744073709551616).toNat (by omega) h hsz
  rw [show (((n % 18446744073709551616).toNat : Nat) : Int) = n % 18446744073709551616 by omega] at H
  go_enter Try.func114, Try.ntmps114
  go_wp2_with (go_at_call 121; refine H.mono ?_; intro e w' hw; obtain ⟨rfl, hw'⟩ := hw)
  go_end0
  exact ⟨rfl, hw'⟩

theorem hash_any (w : World) (g : Nat) (v : Value) (st : Option (List UInt8)) (hs : List UInt8) (hl : hs.length = 32) (h : Wri w g v st) (hsz : ∀ l, st = some l → l.length ≤ 1000000000) :
    Calls Try.prog 119 #[.pointer (some ⟨g, 0, none⟩), .agg (bv hs).toArray] w (Wrote w g v (st.map (· ++ hs))) := by
  go_enter Try.func119, Try.ntmps119
  go_wp2_with (go_at_call 126; refine (add_any _ g v st hs (h.chg ((Chg.refl Non w).alloc _) (fun _ _ f => f)) (some ⟨w.heap.size, 0, none⟩) 32 32 hl.symm (rd_of_blk (Hb.new w _ _) (fun j b hj => by simpa using bv_get hs j b hj)) (fun l h2 => by rw [hl]; have := hsz l h2; omega)).mono ?_; intro e w' hw; obtain ⟨rfl, hw'⟩ := hw)
  go_end0
  exact Wrote.after ((Chg.refl Non w).alloc _) ⟨rfl, hw'⟩

theorem giveUp_any (w : World) (g : Nat) (v : Value) (st : Option (List UInt8)) (h : Wri w g v st) :
    Calls Try.prog 125 #[.pointer (some ⟨g, 0, none⟩)] w (Wrote w g v none) := by
  obtain ⟨b, hb⟩ : ∃ b, Hb w g 172 #[v, .bool b] := by cases st <;> exact ⟨_, h.1⟩
  have c0 : w.cell? ⟨g, 0, none⟩ = some v := hb.cell 0
  have c1 : w.cell? ⟨g, 1, none⟩ = some (.bool b) := hb.cell 1
  have f0 : w.frozen? ⟨g, 0, none⟩ = false := hb.frozen 0
  have f1 : w.frozen? ⟨g, 1, none⟩ = false := hb.frozen 1
  go_enter Try.func125, Try.ntmps125
  go_wp2
  go_end0
  refine ⟨rfl, .slice none 0 0, ⟨(hb.set 1 _).set 0 _, rfl⟩, ?_, fun k hk => by cases hk⟩
  exact ((Chg.refl (Wft g v) w).setCell (p := ⟨g, 1, none⟩) (.inl (.inl rfl)) _).setCell (p := ⟨g, 0, none⟩) (.inl (.inl rfl)) _

theorem bytes_none (w : World) (g : Nat) (v : Value) (h : Wri w g v none) :
    Calls Try.prog 77 #[.pointer (some ⟨g, 0, none⟩)] w fun e w' => e = .returned (.tuple #[.slice none 0 0, .int .i64 21]) ∧ w' = w := by
  have c0 : w.cell? ⟨g, 0, none⟩ = some v := h.1.cell 0
  have c1 : w.cell? ⟨g, 1, none⟩ = some (.bool true) := h.1.cell 1
  clear h
  go_enter Try.func77, Try.ntmps77
  go_wp2
  go_ret2
  exact ⟨rfl, rfl⟩

/-- What Bytes leaves: new bytes. -/
def Byted (w : World) (l : List UInt8) (e : Ending) (w' : World) : Prop :=
  ∃ v, e = .returned (.tuple #[v, .int .i64 0]) ∧ Own 5 w' v l ∧ (∀ k, vbl v k → w.heap.size ≤ k) ∧ Chg Non w w'

theorem bytes_some (w : World) (g : Nat) (v : Value) (l : List UInt8) (h : Wri w g v (some l)) (hsz : l.length ≤ 1000000000) :
    Calls Try.prog 77 #[.pointer (some ⟨g, 0, none⟩)] w (Byted w l) := by
  obtain ⟨A, c, rfl, hc, hm, hr, hab, hlt⟩ := h.2.slice
  have c0 : w.cell? ⟨g, 0, none⟩ = some (.slice A l.length c) := h.1.cell 0
  have c1 : w.cell? ⟨g, 1, none⟩ = some (.bool false) := h.1.cell 1
  have hown := Own.nil 5 w
  clear h
  go_enter Try.func77, Try.ntmps77
  go_wp2_with (at_builtin; refine wpList_app byt _ rfl _ _ rfl (v := .slice none 0 0) rfl hown rfl rfl hr (by simp; omega) ?_; intro v' w1 hown' hgr hloc)
  go_ret2
  refine ⟨v', rfl, hown', ?_, (Chg.refl Non w).grown hgr (fun k hk => by cases hk)⟩
  intro k hk
  rcases hloc with h1 | h1
  · unfold vbl at hk; rw [h1] at hk; cases hk
  · unfold vbl at hk; rw [h1] at hk; injection hk with hk; omega

/-- A text's bytes. -/
def tx (l : List UInt8) : List UInt8 := be 2 l.length ++ l
/-- A writer's bytes behind a text. -/
def txSt (st : Option (List UInt8)) (l : List UInt8) : Option (List UInt8) := if 4096 < l.length then none else st.map (· ++ tx l)

theorem text_any (w : World) (g : Nat) (v : Value) (st : Option (List UInt8)) (s : ByteArray) (h : Wri w g v st) (hsz : ∀ l, st = some l → l.length ≤ 1000000000) (hm : s.size ≤ maxLen) :
    Calls Try.prog 116 #[.pointer (some ⟨g, 0, none⟩), .string s] w (Wrote w g v (txSt st s.data.toList)) := by
  have hl : s.data.toList.length = s.size := by rw [Array.length_toList]; rfl
  unfold maxLen at hm
  by_cases hlt : 4096 < s.size
  · have ht : txSt st s.data.toList = none := by unfold txSt; rw [hl, if_pos hlt]
    rw [ht]
    clear ht hl
    go_enter Try.func116, Try.ntmps116
    go_wp2_with (go_at_call 125; refine (giveUp_any _ g v st h).mono ?_; intro e w' hw; obtain ⟨rfl, hw'⟩ := hw)
    refine bodyPost_ret (results_none rfl _ _ _) rfl ?_
    exact ⟨rfl, hw'⟩
  · have ht : txSt st s.data.toList = (st.map (· ++ be 2 s.size)).map (· ++ s.data.toList) := by
      unfold txSt; rw [hl, if_neg hlt]; cases st <;> simp [tx, hl]
    rw [ht]
    have HL := Lib.hid hl
    clear ht hl
    go_enter Try.func116, Try.ntmps116
    go_wp2_with (go_at_call 127; refine (parted2 _ (by omega) _).mono ?_; rintro e w' ⟨rfl, rfl⟩)
    refine (add_any _ g v st (be 2 s.size) (h.chg ((Chg.refl Non w).alloc _) (fun _ _ f => f)) (some ⟨w.heap.size, 0, none⟩) 2 2 (be_length 2 _).symm (rd_pcells w 2 _) (fun l h2 => by rw [be_length]; have := hsz l h2; omega)).mono ?_
    rintro e w1 ⟨rfl, v1, hv1, hc1, hl1⟩
    obtain ⟨c2, w2, hrun, hcc, hrd, hch, hws⟩ := run_bytes byt w1 s
    clear hcc hws
    go_wp2_with fail
    refine (add_any _ g v1 (st.map (· ++ be 2 s.size)) s.data.toList (hv1.chg hch (fun _ _ f => f)) (some ⟨w1.heap.size, 0, none⟩) s.size c2 HL.out.symm hrd (fun l h2 => ?_)).mono ?_
    · cases st with
      | none => cases h2
      | some l0 =>
        have h3 := hsz l0 rfl
        simp at h2
        rw [← h2, List.length_append, be_length, HL.out]
        omega
    rintro e w3 ⟨rfl, hw3⟩
    go_wp2
    go_end0
    have e1 : Wrote w1 g v1 _ (.returned (.tuple #[])) w3 := Wrote.after hch ⟨rfl, hw3⟩
    refine Wrote.trans ?_ ?_ e1
    · exact ((Chg.refl Non w).alloc _).mono (S' := Wft g v) (fun _ f => f.elim) |>.trans hc1 (fun j hj => .inl hj)
    · intro j hj
      rcases hl1 j hj with h4 | h4
      · exact .inl h4
      · simp at h4; exact .inr (by omega)
end Go.Proofs.Ytjcfdclgddjaoaa
