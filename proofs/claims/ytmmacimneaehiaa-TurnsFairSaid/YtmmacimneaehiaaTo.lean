/- Package turns: Order, Proposer, Turn. -/
import Derived.Test.YtmmacimneaehiaaTc
import Derived.Test.YtmmacimneaehiaaVr
namespace Go.Proofs.Ytmmacimneaehiaa
open Go.RowKit Go.Shelf
attribute [local go_sem] Oper.semAt_some
set_option linter.unusedVariables false
set_option linter.unusedSimpArgs false
set_option maxRecDepth 20000

theorem abl_lt {w : World} {A : Option Addr} {l : List Va} (M : LstM w A l Va.cells 2) (h : 1 ≤ l.length) {j : Nat} (hj : abl A j) : j < w.heap.size := by
  obtain ⟨eb, eo, rfl, hl, _⟩ := M 0 _ (List.getElem?_eq_getElem (show 0 < l.length by omega))
  obtain ⟨ad, e, rfl⟩ := hj
  injection e with e
  subst e
  exact hl

theorem Total_yes (w : World) (A : Option Addr) (c : Nat) (l : List Va) (hl : l.length ≤ maxLen) (ol : ∀ x ∈ l, x.Ok) (M : LstM w A l Va.cells 2) (h : Rt l) :
    Calls Try.prog 4 #[.slice A l.length c] w fun e w' => Chg Non w w' ∧ e = .returned (.tuple #[.int .i64 (sumP l), .int .i64 0]) := by
  refine (Total_any w A c l hl ol M).mono ?_
  rintro e w' ⟨k, ⟨_, rfl⟩ | ⟨h', _⟩⟩
  · exact ⟨k, rfl⟩
  · exact absurd h h'
theorem Total_no (w : World) (A : Option Addr) (c : Nat) (l : List Va) (hl : l.length ≤ maxLen) (ol : ∀ x ∈ l, x.Ok) (M : LstM w A l Va.cells 2) (h : ¬ Rt l) :
    Calls Try.prog 4 #[.slice A l.length c] w fun e w' => Chg Non w w' ∧ e = .returned (.tuple #[.int .i64 0, .int .i64 71]) := by
  refine (Total_any w A c l hl ol M).mono ?_
  rintro e w' ⟨k, ⟨h', _⟩ | ⟨_, rfl⟩⟩
  · exact absurd h' h
  · exact ⟨k, rfl⟩
/-- The world in which first has been called. -/
def Bx (w : World) (A : Option Addr) (len c : Nat) (P n : Int) : World := ((w.alloc (.cells #[.slice A len c] 22)).alloc (.cells #[.int .i64 P] 3)).alloc (.cells #[.int .i64 n] 3)
theorem Bx.chg (w : World) (A : Option Addr) (len c : Nat) (P n : Int) : Chg Non w (Bx w A len c P n) := (((Chg.refl _ _).alloc _).alloc _).alloc _
theorem Bx.size (w : World) (A : Option Addr) (len c : Nat) (P n : Int) : (Bx w A len c P n).heap.size = w.heap.size + 3 := by simp [Bx]
theorem Bx.caught {w : World} {A : Option Addr} {c : Nat} {l : List Va} (h1 : 1 ≤ l.length) (M : LstM w A l Va.cells 2) (m : Nat) {Fr : Nat → Prop} (hF : ∀ j, j < w.heap.size → abl A j → ¬ Fr j) (h0 : ¬ Fr w.heap.size) (h2 : ¬ Fr (w.heap.size + 1)) (h3 : ¬ Fr (w.heap.size + 2)) (ht : ∀ j, w.heap.size + 3 ≤ j → Fr j) :
    Caught (Bx w A l.length c (sumP l) m) Fr w.heap.size (w.heap.size + 2) (w.heap.size + 1) A c l m := by
  have b0 := Hb.new w 22 #[.slice A l.length c]
  have b1 := Hb.new (w.alloc (.cells #[.slice A l.length c] 22)) 3 #[.int .i64 (sumP l)]
  have b2 := Hb.new ((w.alloc (.cells #[.slice A l.length c] 22)).alloc (.cells #[.int .i64 (sumP l)] 3)) 3 #[.int .i64 (m : Int)]
  rw [World.size_alloc] at b1 b2
  rw [World.size_alloc] at b2
  have b0' := (b0.alloc (.cells #[.int .i64 (sumP l)] 3)).alloc (.cells #[.int .i64 (m : Int)] 3)
  have b1' := b1.alloc (.cells #[.int .i64 (m : Int)] 3)
  exact ⟨h0, h3, h2, fun j hj => hF j (abl_lt M h1 hj) hj, fun j hj => ht j (by rw [Bx.size] at hj; exact hj), b0'.cell 0, b2.cell 0, b1'.cell 0, M.chg (Bx.chg _ _ _ _ _ _)⟩

/-- What Order leaves. -/
def Ord (w : World) (l : List Va) (n : Int) (e : Ending) (w' : World) : Prop :=
  Chg Non w w' ∧ (¬ Rt l ∧ e = .returned (.tuple #[.slice none 0 0, .int .i64 71]) ∨
    Rt l ∧ (n < 0 ∨ 4096 < n) ∧ e = .returned (.tuple #[.slice none 0 0, .int .i64 81]) ∨
    Rt l ∧ 0 ≤ n ∧ n ≤ 4096 ∧ ∃ v, e = .returned (.tuple #[v, .int .i64 0]) ∧ OwnK w.heap.size w' v (ords l n.toNat))

set_option maxHeartbeats 1600000 in
theorem Order_any (w : World) (A : Option Addr) (c : Nat) (l : List Va) (hl : l.length ≤ maxLen) (ol : ∀ x ∈ l, x.Ok) (M : LstM w A l Va.cells 2) (n : Int) :
    Calls Try.prog 6 #[.slice A l.length c, .int .i64 n] w (Ord w l n) := by
  have HT := Lib.hid (Total_any w A c l hl ol M)
  have HM := Lib.hid M
  have HO := Lib.hid ol
  clear M ol
  generalize hln : l.length = len at *
  have HL := Lib.hid hln
  clear hln hl
  go_enter Try.func6, Try.ntmps6
  go_wp2_with fail
  refine HT.out.mono ?_
  rintro e w1 ⟨k1, ⟨hr, rfl⟩ | ⟨hr, rfl⟩⟩
  · have HR := Lib.hid hr
    clear hr
    by_cases h1 : n < 0
    · go_wp2_with fail
      go_ret2
      exact ⟨k1, .inr (.inl ⟨HR.out, .inl h1, rfl⟩)⟩
    by_cases h2 : 4096 < n
    · go_wp2_with fail
      go_ret2
      exact ⟨k1, .inr (.inl ⟨HR.out, .inr h2, rfl⟩)⟩
    obtain ⟨m, rfl⟩ : ∃ m : Nat, n = (m : Int) := ⟨n.toNat, by omega⟩
    have hF := first_any w1 A len c (sumP l) (m : Int)
    have hs1 : w.heap.size ≤ w1.heap.size := k1.size
    go_wp2_with (go_at_call 11; refine hF.mono ?_; rintro e w2 ⟨rfl, hw2⟩; have HW2 : Hid (w2 = Bx w1 A len c (sumP l) m) := Lib.hid hw2; clear hw2)
    clear hF
    obtain rfl := HW2.out
    clear HW2
    have k2 : Chg Non w1 (Bx w1 A len c (sumP l) m) := Bx.chg _ _ _ _ _ _
    have hsz := Bx.size w1 A len c (sumP l) m
    have hCa := Bx.caught (c := c) HR.out.1 (HM.out.chg k1) m (Fr := fun j => (Bx w1 A len c (sumP l) m).heap.size ≤ j) (fun j hj _ h => by rw [hsz] at h; omega) (by rw [hsz]; omega) (by rw [hsz]; omega) (by rw [hsz]; omega) (fun j hj => by rw [hsz]; exact hj)
    rw [HL.out] at hCa
    have HK := Lib.hid (collect_any (Bx w1 A len c (sumP l) m) _ _ _ A c l HR.out HO.out m (by omega) hCa)
    generalize Bx w1 A len c (sumP l) m = w2 at *
    clear hCa
    go_wp2_with fail
    refine HK.out.mono ?_
    rintro e w3 ⟨k3, v, rfl, hv⟩
    have HV := Lib.hid hv
    clear hv
    go_wp2_with fail
    go_ret2
    refine ⟨(k1.trans k2 (fun _ f => f.elim)).trans k3 (fun _ f => f.elim), .inr (.inr ⟨HR.out, by omega, by omega, v, rfl, ?_⟩)⟩
    rw [Int.toNat_natCast]
    refine ⟨HV.out.1, ?_⟩
    rcases HV.out.2 with h0 | ⟨g, cap, cur, rfl, hb, r⟩
    · exact .inl h0
    · exact .inr ⟨g, cap, cur, rfl, by omega, r⟩
  · go_wp2_with fail
    go_ret2
    exact ⟨k1, .inl ⟨hr, rfl⟩⟩

/-- What Proposer leaves. -/
def Pro (w : World) (l : List Va) (t : Int) (e : Ending) (w' : World) : Prop :=
  Chg Non w w' ∧ (¬ Rt l ∧ e = .returned (.tuple #[.int .u64 0, .int .i64 71]) ∨
    Rt l ∧ (t < 0 ∨ 4096 ≤ t) ∧ e = .returned (.tuple #[.int .u64 0, .int .i64 81]) ∨
    Rt l ∧ 0 ≤ t ∧ t < 4096 ∧ e = .returned (.tuple #[.int .u64 (keyAt l (who l (sumP l) t.toNat) : Int), .int .i64 0]))
def lastK (ks : List Nat) : Nat := (ks.getLast?).getD 0
theorem lastK_snoc (ks : List Nat) (k : Nat) : lastK (ks ++ [k]) = k := by simp [lastK]

end Go.Proofs.Ytmmacimneaehiaa
