/- Mint, Burn, Move. -/
import Derived.Test.YtahlfncijbkcoaaDoorChecked
import Derived.WalkKit
import Derived.WalkLawsBesides
import Derived.Lib.Hide
import Derived.Deep.MidRow
import Derived.Test.YtahlfncijbkcoaaDoorKf
namespace Go.Proofs.YtahlfncijbkcoaaDoor
open Go.RowKit
set_option linter.unusedVariables false
set_option linter.unusedSimpArgs false
set_option maxRecDepth 20000

/-- What an act leaves. -/
def ActP (w : World) (g b1 b2 n : Nat) (r : Int × Bst) (e : Ending) (w' : World) : Prop :=
  e = .returned (.int .i64 r.1) ∧ Chg (Bb b1 b2) w w' ∧ Hid (BkP w' g b1 b2 (n + 2) r.2.F r.2.S)
/-- The error of names, told of a new row of accounts. -/
theorem wrong_new (w : World) (ns : List ByteArray) (hl : ns.length ≤ 10) (hm : ∀ s ∈ ns, s.size ≤ maxLen) (d : ByteArray) (hd : d.size ≤ maxLen) (n : Nat) (hn : n < 18446744073709551616) (c : Nat) :
    Calls Tryd.prog 31 #[.int .u64 (n : Int), .string d, .slice (some ⟨w.heap.size, 0, none⟩) ns.length c] (w.alloc (.cells (ns.flatMap fun s => [Value.string s]).toArray 9)) fun e w' => e = .returned (.int .i64 (errN (ns.all accOk && denOk d) n)) ∧ Chg Non w w' := by
  have M : LstM (w.alloc (.cells (ns.flatMap fun s => [Value.string s]).toArray 9)) (some ⟨w.heap.size, 0, none⟩) ns (fun s => [Value.string s]) 1 := lstM_new (fun _ => rfl) (Hb.new w _ _)
  refine (wrong_any _ _ c ns hl hm M d hd n hn).mono ?_
  rintro e w' ⟨he, k⟩
  exact ⟨he, ((Chg.refl _ _).alloc _).trans k (fun _ f => f.elim)⟩
/-- The error of one name, and of two. -/
theorem wrong_one (w : World) (s d : ByteArray) (hs : s.size ≤ maxLen) (hd : d.size ≤ maxLen) (n : Nat) (hn : n < 18446744073709551616) (c : Nat) :
    Calls Tryd.prog 31 #[.int .u64 (n : Int), .string d, .slice (some ⟨w.heap.size, 0, none⟩) 1 c] (w.alloc (.cells #[.string s] 9)) fun e w' => e = .returned (.int .i64 (errN (accOk s && denOk d) n)) ∧ Chg Non w w' := by
  have h := wrong_new w [s] (by simp) (by simpa using hs) d hd n hn c
  simpa using h
theorem wrong_two (w : World) (s t d : ByteArray) (hs : s.size ≤ maxLen) (ht : t.size ≤ maxLen) (hd : d.size ≤ maxLen) (n : Nat) (hn : n < 18446744073709551616) (c : Nat) :
    Calls Tryd.prog 31 #[.int .u64 (n : Int), .string d, .slice (some ⟨w.heap.size, 0, none⟩) 2 c] (w.alloc (.cells #[.string s, .string t] 9)) fun e w' => e = .returned (.int .i64 (errN ((accOk s && accOk t) && denOk d) n)) ∧ Chg Non w w' := by
  have h := wrong_new w [s, t] (by simp) (by simpa using ⟨hs, ht⟩) d hd n hn c
  simpa using h
theorem ActP.same {w w' : World} {g b1 b2 n : Nat} {st : Bst} {v : Int} (h : BkP w g b1 b2 n st.F st.S) (k : Chg Non w w') : ActP w g b1 b2 n (v, st) (.returned (.int .i64 v)) w' :=
  ⟨rfl, k.mono (fun _ f => f.elim), Lib.hid ((h.non k).mono (by omega))⟩
set_option maxHeartbeats 1600000 in
theorem Mint_any (w : World) (g b1 b2 n : Nat) (st : Bst) (h : BkP w g b1 b2 n st.F st.S) (hi : Inv st.F st.S) (hn : n < 100000) (s d : ByteArray) (hs : s.size ≤ maxLen) (hd : d.size ≤ maxLen) (c : Nat) (hc : c < 18446744073709551616) :
    Calls Tryd.prog 17 #[.pointer (some ⟨g, 0, none⟩), .string s, .string d, .int .u64 (c : Int)] w (ActP w g b1 b2 n (mintR st s d c)) := by
  have HW := Lib.hid (wrong_one w s d hs hd c hc 1)
  have HH := Lib.hid h
  have HI := Lib.hid hi
  have HSD : Hid (s.size ≤ maxLen ∧ d.size ≤ maxLen ∧ n < 100000) := Lib.hid ⟨hs, hd, hn⟩
  have HR : Hid (mintR st s d c = if errN (accOk s && denOk d) c = 0 then (if 18446744073709551615 - st.S d < c then (182, st) else (0, ⟨kupd st.F (s, d) (st.F (s, d) + c), kupd st.S d (st.S d + c)⟩)) else (errN (accOk s && denOk d) c, st)) := Lib.hid rfl
  generalize mintR st s d c = r at *
  generalize errN (accOk s && denOk d) c = v at *
  clear h hi hs hd hn
  go_enter Tryd.func17, Tryd.ntmps17
  go_wp2_with fail
  refine HW.out.mono ?_
  rintro e w1 ⟨rfl, k1⟩
  have HK1 := Lib.hid k1
  have HH1 := Lib.hid (HH.out.non k1)
  have p2 := HH1.out.c2
  clear k1
  by_cases hv : v = 0
  · have HR2 := Lib.hid (HR.out.trans (if_pos hv))
    clear HR
    subst hv
    generalize hsd : st.S d = sd at *
    have HSD2 := Lib.hid hsd
    have hlim : sd < 18446744073709551616 := by rw [← hsd]; exact HI.out.lim d
    clear hsd
    by_cases hlt : 18446744073709551615 - sd < c
    · have hlt2 : 18446744073709551615 - (sd : Int) < (c : Int) := by omega
      have HR3 := Lib.hid (HR2.out.trans (if_pos hlt))
      clear HR2 hlt
      go_wp2_with (first | (with_reducible refine wpList_lookS rfl _ _ rfl rfl HH1.out.su d HSD.out.2.1 rfl HSD2.out ?_))
      go_ret
      rw [HR3.out]
      exact ActP.same HH.out HK1.out
    · have hlt2 : ¬ 18446744073709551615 - (sd : Int) < (c : Int) := by omega
      have HR3 := Lib.hid (HR2.out.trans (if_neg hlt))
      clear HR2
      have hsum : sd + c < 18446744073709551616 := by omega
      have HP : Hid (Calls Tryd.prog 32 #[.map (some b2), .string d, .int .u64 ((sd : Int) + (c : Int))] w1 (PutS w1 b2 (n + 1) (kupd st.S d (sd + c)))) := Lib.hid (by
        have := putS_any w1 b2 n st.S HH1.out.su (by have := HSD.out.2.2; omega) d HSD.out.2.1 (sd + c) hsum
        rw [Int.natCast_add] at this
        exact this)
      clear hlt
      go_wp2_with (first | (with_reducible refine wpList_lookS rfl _ _ rfl rfl HH1.out.su d HSD.out.2.1 rfl HSD2.out ?_))
      refine HP.out.mono ?_
      rintro e w2 ⟨rfl, k2, h2⟩
      have HH2 := Lib.hid (HH1.out.su_chg k2 h2.out (by omega))
      have HK2 : Hid (Chg (Bb b1 b2) w w2) := Lib.hid ((HK1.out.mono (fun _ f => f.elim)).trans k2 (fun j e => .inl (.inr e)))
      clear k2 h2 p2
      go_wp2_with fail
      refine (give_any w2 g b1 b2 (n + 1) st.F (kupd st.S d (sd + c)) HH2.out (by have := HSD.out.2.2; omega) s d HSD.out.1 HSD.out.2.1 c (by have h1 := HI.out.le (s, d); have h2 := HSD2.out; dsimp only at h1; omega)).mono ?_
      rintro e w3 ⟨rfl, k3, h3⟩
      have HQ : Hid (ActP w g b1 b2 n r (.returned (.int .i64 0)) w3) := Lib.hid (by
        rw [HR3.out]
        exact ⟨rfl, HK2.out.trans k3 (fun j e => .inl e), h3⟩)
      clear k3 h3
      go_wp2_with fail
      go_ret
      exact HQ.out
  · have HR2 := Lib.hid (HR.out.trans (if_neg hv))
    have hv2 : (v == 0) = false := by simpa using hv
    clear HR hv
    go_wp2_with fail
    go_ret
    rw [HR2.out]
    exact ActP.same HH.out HK1.out
end Go.Proofs.YtahlfncijbkcoaaDoor
