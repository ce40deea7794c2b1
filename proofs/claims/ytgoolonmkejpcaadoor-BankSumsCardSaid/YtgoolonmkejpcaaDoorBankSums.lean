/- Of the program at this commit: the law BankSums answers true for any script (supplies change by just what is made or taken away, no account has more, what is refused changes nothing; its first 60 acts); no condition but that the library's tables hold what the program's text lays in them (tied). -/
import Derived.Test.YtgoolonmkejpcaaDoorRows
import Derived.Test.YtgoolonmkejpcaaDoorCards
import Derived.Test.YtgoolonmkejpcaaDoorTie
import Derived.WalkKit
import Derived.ProofKit
import Derived.SevenTiedAt
import Derived.Stop.Joined
import Derived.Test.YtgoolonmkejpcaaDoorLf
import Derived.Test.YtgoolonmkejpcaaDoorKj
import Derived.Test.YtgoolonmkejpcaaDoorKx
namespace Go.Proofs.YtgoolonmkejpcaaDoor.bankSums
open Go.ChangeShapes Go.WideShapes Go.ChangeAt Go.RowKit
set_option linter.unusedVariables false

theorem doR_same {st : Bst} {x : Ac} (h : (doR st x).1 ≠ 0) : (doR st x).2 = st := by
  unfold doR mintR burnR moveR at *
  grind
theorem doR_mint {st : Bst} (hi : Inv st.F st.S) {x : Ac} (h : (doR st x).1 = 0) (h1 : x.kind = 1) : (doR st x).2.S x.den = st.S x.den + x.n ∧ st.S x.den + x.n < 18446744073709551616 := by
  have hl := hi.lim x.den
  unfold doR at *
  rw [if_pos h1] at *
  unfold mintR at *
  split at h
  · split at h
    · cases h
    · rename_i h2 h3
      rw [if_pos h2, if_neg h3]
      refine ⟨by simp [kupd], by omega⟩
  · rename_i h2
    exact absurd h h2
theorem doR_burn {st : Bst} (hi : Inv st.F st.S) {x : Ac} (h : (doR st x).1 = 0) (h1 : x.kind = 2) : (doR st x).2.S x.den = st.S x.den - x.n ∧ x.n ≤ st.S x.den := by
  have hl := hi.le (x.frm, x.den)
  dsimp only at hl
  unfold doR at *
  have h0 : ¬ x.kind = 1 := by omega
  rw [if_neg h0, if_pos h1] at *
  unfold burnR at *
  split at h
  · split at h
    · cases h
    · rename_i h2 h3
      rw [if_pos h2, if_neg h3]
      refine ⟨by simp [kupd], by omega⟩
  · rename_i h2
    exact absurd h h2
theorem doR_else {st : Bst} {x : Ac} (h1 : ¬ x.kind = 1) (h2 : ¬ x.kind = 2) : (doR st x).2.S x.den = st.S x.den := by
  unfold doR
  rw [if_neg h1, if_neg h2]
  unfold moveR
  grind
set_option maxHeartbeats 6400000 in
set_option maxRecDepth 20000 in
theorem walk (W : World) (v0 : Value) (h0 : Okv Tryd.prog W 22 v0) (hT : Tab W) :
    Calls Tryd.prog 4 #[v0] W fun e W' => e = .returned (.bool true) ∧ Below W.heap.size W W' := by
  obtain ⟨A, c, l, rfl, hl, M, ol⟩ := acts_arg h0
  have HM := Lib.hid M
  have OL := Lib.hid ol
  have HT := Lib.hid hT
  unfold maxLen at hl
  clear M ol hT h0
  generalize hn : l.length = m at *
  have HL := Lib.hid hn
  clear hn
  go_enter Tryd.func4, Tryd.ntmps4
  go_wp2_with fail
  refine (New_any W).mono ?_
  rintro e w1 ⟨k1, g, b1, b2, rfl, hu, h1⟩
  have HU : Hid (∀ j, Bb b1 b2 j → W.heap.size ≤ j) := Lib.hid fun j e => by rcases e with rfl | rfl; exact hu.2.1; exact hu.2.2
  have HK1 := Lib.hid k1
  clear hu k1
  go_wp2_with fail
  refine (alive_any w1).mono ?_
  rintro e w2 ⟨rfl, k2⟩
  have HK2 := Lib.hid (HK1.out.trans k2 (fun _ f => f.elim))
  have HB2 := Lib.hid (h1.out.non k2)
  clear k2 h1
  go_wp2_with fail
  go_loopw [4, 5, 6, 7, 8, 9, 10, 11] (fun i _ _ _ _ _ _ _ wr => ∃ (k : Nat) (st : Bst), k ≤ m ∧ k ≤ 60 ∧ i = .int .i64 (k : Int) ∧ Hid (BkP wr g b1 b2 (2 * k) st.F st.S) ∧ Hid (Inv st.F st.S) ∧ Hid (Chg Non W wr)) (fun i _ _ _ _ _ _ _ _ => m - (intOf i).toNat)
  case atStart => exact ⟨0, Bst.none, by omega, by omega, rfl, HB2, Lib.hid Inv.none, HK2⟩
  case round =>
    obtain ⟨k, st, hk, hk60, rfl, hB, hI, hC⟩ := hrel
    by_cases hlt : k < m
    · by_cases h60 : k < 60
      · have hkl : k < l.length := by rw [HL.out]; exact hlt
        have hx := List.getElem?_eq_getElem hkl
        obtain ⟨a, ao, rfl, hal, r1⟩ := (HM.out.chg hC.out) k _ hx
        have ox := OL.out l[k] (List.getElem_mem hkl)
        generalize l[k] = x at *
        have hki : (k : Int) < (m : Int) := by omega
        have hki60 : (k : Int) < 60 := by omega
        have OX := Lib.hid ox
        have k3 : Chg Non wr (wr.alloc (.cells x.cells.toArray 32)) := (Chg.refl _ _).alloc _
        have hb := Hb.new wr 32 x.cells.toArray
        have HF : Hid (∀ w', Chg (Bb b1 b2) (wr.alloc (.cells x.cells.toArray 32)) w' → w'.cell? ⟨wr.heap.size, 0, none⟩ = some (.int .i64 x.kind) ∧ w'.cell? ⟨wr.heap.size, 1, none⟩ = some (.string x.frm) ∧ w'.cell? ⟨wr.heap.size, 2, none⟩ = some (.string x.to) ∧ w'.cell? ⟨wr.heap.size, 3, none⟩ = some (.string x.den) ∧ w'.cell? ⟨wr.heap.size, 4, none⟩ = some (.int .u64 (x.n : Int)) ∧ w'.rangeAt wr.heap.size 0 x.cells) := Lib.hid fun w' kk => by
          have hne : ¬ Bb b1 b2 wr.heap.size := fun e => by
            have := hB.out.lts
            rcases e with e | e <;> omega
          have q := hb.chg kk hne
          exact ⟨by rw [q.cell]; rfl, by rw [q.cell]; rfl, by rw [q.cell]; rfl, by rw [q.cell]; rfl, by rw [q.cell]; rfl, q.range0⟩
        have HB3 := Lib.hid (hB.out.non k3)
        have HC3 := Lib.hid (hC.out.trans k3 (fun _ f => f.elim))
        have HDO := Lib.hid (fun w' (h : BkP w' g b1 b2 (2 * k) st.F st.S) => do_any w' g b1 b2 (2 * k) st h hI.out (by omega) x ox)
        have HI2 := Lib.hid (doR_inv hI.out x)
        have HW1 : Hid ((doR st x).1 ≠ 0 → (doR st x).2 = st) := Lib.hid doR_same
        have HW2 : Hid ((doR st x).1 = 0 → x.kind = 1 → (doR st x).2.S x.den = st.S x.den + x.n ∧ st.S x.den + x.n < 18446744073709551616) := Lib.hid (doR_mint hI.out)
        have HW3 : Hid ((doR st x).1 = 0 → x.kind = 2 → (doR st x).2.S x.den = st.S x.den - x.n ∧ x.n ≤ st.S x.den) := Lib.hid (doR_burn hI.out)
        have HW4 : Hid (¬ x.kind = 1 → ¬ x.kind = 2 → (doR st x).2.S x.den = st.S x.den) := Lib.hid doR_else
        have HLM : Hid (st.S x.den < 18446744073709551616) := Lib.hid (hI.out.lim _)
        have HN : Hid (k < m ∧ k < 60) := Lib.hid ⟨hlt, h60⟩
        have hrow : (Tryd.prog.info? 32).map (·.size) = some x.cells.length := by kernel_rfl
        have HRR := Lib.hid r1
        clear hx hkl ox k3 hb hal
        generalize hr : doR st x = r at *
        have HRD := Lib.hid hr
        clear hr
        obtain ⟨kind, s, t, d, n⟩ := x
        dsimp only at HF HW2 HW3 HW4 HLM
        have HK4 : Hid (Chg (Bb b1 b2) (wr.alloc (.cells (Ac.cells ⟨kind, s, t, d, n⟩).toArray 32)) (wr.alloc (.cells (Ac.cells ⟨kind, s, t, d, n⟩).toArray 32))) := Lib.hid (Chg.refl _ _)
        unfold Ac.cells at *
        obtain ⟨c0, r2⟩ := rangeAt_cons r1
        obtain ⟨c1, r2⟩ := rangeAt_cons r2
        obtain ⟨c2, r2⟩ := rangeAt_cons r2
        obtain ⟨c3, r2⟩ := rangeAt_cons r2
        obtain ⟨c4, r2⟩ := rangeAt_cons r2
        clear r1 r2
        obtain ⟨p0, p1, p2, p3, p4, pr⟩ := HF.out _ HK4.out
        generalize hwa : wr.alloc (.cells [Value.int .i64 kind, .string s, .string t, .string d, .int .u64 (n : Int)].toArray 32) = wa at *
        go_wp2_with fail
        generalize wr.heap.size = ha at *
        clear hwa
        clear c0 c1 c2 c3 c4
        refine (Supply_any wa g b1 b2 (2 * k) st.F st.S HB3.out d OX.out.den).mono ?_
        rintro e w3 ⟨rfl, k3⟩
        have HB4 := Lib.hid (HB3.out.non k3)
        have HC4 := Lib.hid (HC3.out.trans k3 (fun _ f => f.elim))
        have HK5 := Lib.hid (HK4.out.trans k3 (fun _ f => f.elim))
        clear k3 p0 p1 p2 p3 p4 pr HB3 HC3 HK4
        go_wp2_with fail
        refine (Entries_any w3 g b1 b2 (2 * k) st.F st.S HB4.out (by have := HN.out.2; omega) hI.out.fine (HT.out.chg HC4.out (fun f => f))).mono ?_
        rintro e w4 ⟨k4, A4, n4, es, rfl, hL4, hE4, hl4⟩
        have HB5 := Lib.hid (HB4.out.non k4)
        have HC5 := Lib.hid (HC4.out.trans k4 (fun _ f => f.elim))
        have HK6 := Lib.hid (HK5.out.trans k4 (fun _ f => f.elim))
        obtain ⟨p0, p1, p2, p3, p4, pr⟩ := HF.out _ HK6.out
        clear k4 HB4 HC4 HK5
        go_wp2_with fail
        refine (HDO.out w4 HB5.out).mono ?_
        rintro e w5 ⟨rfl, k5, hB6⟩
        have HC6 : Hid (Chg Non W w5) := Lib.hid (HC5.out.trans k5 (fun j e => .inr (HU.out j e)))
        have HK7 : Hid (Chg (Bb b1 b2) wa w5) := Lib.hid (HK6.out.trans k5 (fun j e => .inl e))
        have hL5 : Hid (LstM w5 A4 es En.cells 2) := Lib.hid (by
          intro i y hy
          obtain ⟨eb, eo, e1, e2, e3⟩ := hL4.out i y hy
          refine ⟨eb, eo, e1, Nat.lt_of_lt_of_le e2 k5.size, k5.range' e3 (fun e => ?_)⟩
          cases hes : (En.cells y)[0]? with
          | none => simp [En.cells] at hes
          | some u =>
            have hc := e3 0 u hes
            rcases e with e | e
            · obtain ⟨D, ⟨ms, ck, hm, _⟩, _⟩ := HB5.out.am
              rw [e] at hc
              unfold World.cell? at hc
              simp [hm] at hc
            · obtain ⟨D, ⟨ms, ck, hm, _⟩, _⟩ := HB5.out.su
              rw [e] at hc
              unfold World.cell? at hc
              simp [hm] at hc)
        obtain ⟨p0, p1, p2, p3, p4, pr⟩ := HF.out _ HK7.out
        clear k5 HB5 HC5 HK6 hL4
        go_wp2_with fail
        refine (Supply_any w5 g b1 b2 (2 * k + 2) r.2.F r.2.S hB6.out d OX.out.den).mono ?_
        rintro e w6 ⟨rfl, k6⟩
        have HB7 := Lib.hid (hB6.out.non k6)
        have HC7 := Lib.hid (HC6.out.trans k6 (fun _ f => f.elim))
        have HK8 := Lib.hid (HK7.out.trans k6 (fun _ f => f.elim))
        have hL6 := Lib.hid (hL5.out.chg k6)
        obtain ⟨p0, p1, p2, p3, p4, pr⟩ := HF.out _ HK8.out
        clear k6 hB6 HC6 HK7 hL5
        have HBT := Lib.hid (HI2.out.le (t, d))
        have HBF := Lib.hid (HI2.out.le (s, d))
        have HOT := OX.out.to
        have HOF := OX.out.frm
        dsimp only at HBT HBF HOT HOF
        have HSZ := Lib.hid (And.intro HOT (And.intro HOF OX.out.den))
        clear HOT HOF
        generalize hnw : r.2.S d = nw at *
        generalize hbt : r.2.F (t, d) = bt at *
        generalize hbf : r.2.F (s, d) = bf at *
        generalize hwas : st.S d = sd at *
        have HT1 := Lib.hid hbt
        have HT2 := Lib.hid hbf
        have HT3 := Lib.hid hnw
        have HT4 := Lib.hid hwas
        have hle1 : (bt : Int) ≤ (nw : Int) := by have := HBT.out; omega
        have hle2 : (bf : Int) ≤ (nw : Int) := by have := HBF.out; omega
        clear hnw hbt hbf hwas HBT HBF
        generalize hr1 : r.1 = r1 at *
        have HR1 := Lib.hid hr1
        clear hr1
        by_cases hz : r1 = 0
        · by_cases hk1 : kind = 1
          · obtain ⟨e1, e2⟩ := HW2.out hz hk1
            have f0 : (r1 == 0) = true := by simpa using hz
            have f1 : (kind == 1) = true := by simpa using hk1
            have f2 : (kind == 2) = false := by rw [hk1]; rfl
            subst e1
            clear hz hk1
            have HQT : Hid (∀ w', BkP w' g b1 b2 (2 * k + 2) r.2.F r.2.S → Calls Tryd.prog 17 #[.pointer (some ⟨g, 0, none⟩), .string t, .string d] w' (Zero w' (.int .u64 (bt : Int)))) := Lib.hid fun w' h => by have := Balance_any w' g b1 b2 (2 * k + 2) r.2.F r.2.S h t d HSZ.out.1 HSZ.out.2.2; rw [HT1.out] at this; exact this
            have HQF : Hid (∀ w', BkP w' g b1 b2 (2 * k + 2) r.2.F r.2.S → Calls Tryd.prog 17 #[.pointer (some ⟨g, 0, none⟩), .string s, .string d] w' (Zero w' (.int .u64 (bf : Int)))) := Lib.hid fun w' h => by have := Balance_any w' g b1 b2 (2 * k + 2) r.2.F r.2.S h s d HSZ.out.2.1 HSZ.out.2.2; rw [HT2.out] at this; exact this
            go_wp2_with fail
            refine (HQT.out w6 HB7.out).mono ?_
            rintro e w7 ⟨rfl, k7⟩
            have HB8 := Lib.hid (HB7.out.non k7)
            have HC8 := Lib.hid (HC7.out.trans k7 (fun _ f => f.elim))
            have HK9 := Lib.hid (HK8.out.trans k7 (fun _ f => f.elim))
            have hL7 := Lib.hid (hL6.out.chg k7)
            obtain ⟨p0, p1, p2, p3, p4, pr⟩ := HF.out _ HK9.out
            clear k7 HB7 HC7 HK8 hL6
            go_wp2_with fail
            refine (HQF.out w7 HB8.out).mono ?_
            rintro e w8 ⟨rfl, k8⟩
            have HB9 := Lib.hid (HB8.out.non k8)
            have HC9 := Lib.hid (HC8.out.trans k8 (fun _ f => f.elim))
            have hL8 := Lib.hid (hL7.out.chg k8)
            clear k8 HB8 HC8 HK9 hL7
            go_wp2_with fail
            go_roundw
            case rel => exact ⟨k + 1, r.2, by have := HN.out.1; omega, by have := HN.out.2; omega, by go_num, Lib.hid (HB9.out.mono (by omega)), HI2, HC9⟩
            case measure => have := HN.out.1; simp [intOf]; omega
          · by_cases hk2 : kind = 2
            · obtain ⟨e1, e2⟩ := HW3.out hz hk2
              have f0 : (r1 == 0) = true := by simpa using hz
              have f1 : (kind == 1) = false := by simpa using hk1
              have f2 : (kind == 2) = true := by simpa using hk2
              have hlm : sd < 18446744073709551616 := HLM.out
              have f3 : nw + n ≤ sd := by omega
              have f4 : sd ≤ nw + n := by omega
              clear hz hk1 hk2 e1
              have HQT : Hid (∀ w', BkP w' g b1 b2 (2 * k + 2) r.2.F r.2.S → Calls Tryd.prog 17 #[.pointer (some ⟨g, 0, none⟩), .string t, .string d] w' (Zero w' (.int .u64 (bt : Int)))) := Lib.hid fun w' h => by have := Balance_any w' g b1 b2 (2 * k + 2) r.2.F r.2.S h t d HSZ.out.1 HSZ.out.2.2; rw [HT1.out] at this; exact this
              have HQF : Hid (∀ w', BkP w' g b1 b2 (2 * k + 2) r.2.F r.2.S → Calls Tryd.prog 17 #[.pointer (some ⟨g, 0, none⟩), .string s, .string d] w' (Zero w' (.int .u64 (bf : Int)))) := Lib.hid fun w' h => by have := Balance_any w' g b1 b2 (2 * k + 2) r.2.F r.2.S h s d HSZ.out.2.1 HSZ.out.2.2; rw [HT2.out] at this; exact this
              go_wp2_with (exfalso; omega)
              refine (HQT.out w6 HB7.out).mono ?_
              rintro e w7 ⟨rfl, k7⟩
              have HB8 := Lib.hid (HB7.out.non k7)
              have HC8 := Lib.hid (HC7.out.trans k7 (fun _ f => f.elim))
              have HK9 := Lib.hid (HK8.out.trans k7 (fun _ f => f.elim))
              have hL7 := Lib.hid (hL6.out.chg k7)
              obtain ⟨p0, p1, p2, p3, p4, pr⟩ := HF.out _ HK9.out
              clear k7 HB7 HC7 HK8 hL6
              go_wp2_with fail
              refine (HQF.out w7 HB8.out).mono ?_
              rintro e w8 ⟨rfl, k8⟩
              have HB9 := Lib.hid (HB8.out.non k8)
              have HC9 := Lib.hid (HC8.out.trans k8 (fun _ f => f.elim))
              have hL8 := Lib.hid (hL7.out.chg k8)
              clear k8 HB8 HC8 HK9 hL7
              go_wp2_with fail
              go_roundw
              case rel => exact ⟨k + 1, r.2, by have := HN.out.1; omega, by have := HN.out.2; omega, by go_num, Lib.hid (HB9.out.mono (by omega)), HI2, HC9⟩
              case measure => have := HN.out.1; simp [intOf]; omega
            · have e1 := HW4.out hk1 hk2
              have f0 : (r1 == 0) = true := by simpa using hz
              have f1 : (kind == 1) = false := by simpa using hk1
              have f2 : (kind == 2) = false := by simpa using hk2
              subst e1
              clear hz hk1 hk2
              have HQT : Hid (∀ w', BkP w' g b1 b2 (2 * k + 2) r.2.F r.2.S → Calls Tryd.prog 17 #[.pointer (some ⟨g, 0, none⟩), .string t, .string d] w' (Zero w' (.int .u64 (bt : Int)))) := Lib.hid fun w' h => by have := Balance_any w' g b1 b2 (2 * k + 2) r.2.F r.2.S h t d HSZ.out.1 HSZ.out.2.2; rw [HT1.out] at this; exact this
              have HQF : Hid (∀ w', BkP w' g b1 b2 (2 * k + 2) r.2.F r.2.S → Calls Tryd.prog 17 #[.pointer (some ⟨g, 0, none⟩), .string s, .string d] w' (Zero w' (.int .u64 (bf : Int)))) := Lib.hid fun w' h => by have := Balance_any w' g b1 b2 (2 * k + 2) r.2.F r.2.S h s d HSZ.out.2.1 HSZ.out.2.2; rw [HT2.out] at this; exact this
              go_wp2_with fail
              refine (HQT.out w6 HB7.out).mono ?_
              rintro e w7 ⟨rfl, k7⟩
              have HB8 := Lib.hid (HB7.out.non k7)
              have HC8 := Lib.hid (HC7.out.trans k7 (fun _ f => f.elim))
              have HK9 := Lib.hid (HK8.out.trans k7 (fun _ f => f.elim))
              have hL7 := Lib.hid (hL6.out.chg k7)
              obtain ⟨p0, p1, p2, p3, p4, pr⟩ := HF.out _ HK9.out
              clear k7 HB7 HC7 HK8 hL6
              go_wp2_with fail
              refine (HQF.out w7 HB8.out).mono ?_
              rintro e w8 ⟨rfl, k8⟩
              have HB9 := Lib.hid (HB8.out.non k8)
              have HC9 := Lib.hid (HC8.out.trans k8 (fun _ f => f.elim))
              have hL8 := Lib.hid (hL7.out.chg k8)
              clear k8 HB8 HC8 HK9 hL7
              go_wp2_with fail
              go_roundw
              case rel => exact ⟨k + 1, r.2, by have := HN.out.1; omega, by have := HN.out.2; omega, by go_num, Lib.hid (HB9.out.mono (by omega)), HI2, HC9⟩
              case measure => have := HN.out.1; simp [intOf]; omega
        · have e0 := HW1.out hz
          have e1 : nw = sd := by rw [← HT3.out, ← HT4.out, e0]
          have f0 : (r1 == 0) = false := by simpa using hz
          have HSA : Hid (r.2.F = st.F) := Lib.hid (by rw [e0])
          subst e1
          clear hz e0
          have HQT : Hid (∀ w', BkP w' g b1 b2 (2 * k + 2) r.2.F r.2.S → Calls Tryd.prog 17 #[.pointer (some ⟨g, 0, none⟩), .string t, .string d] w' (Zero w' (.int .u64 (bt : Int)))) := Lib.hid fun w' h => by have := Balance_any w' g b1 b2 (2 * k + 2) r.2.F r.2.S h t d HSZ.out.1 HSZ.out.2.2; rw [HT1.out] at this; exact this
          have HQF : Hid (∀ w', BkP w' g b1 b2 (2 * k + 2) r.2.F r.2.S → Calls Tryd.prog 17 #[.pointer (some ⟨g, 0, none⟩), .string s, .string d] w' (Zero w' (.int .u64 (bf : Int)))) := Lib.hid fun w' h => by have := Balance_any w' g b1 b2 (2 * k + 2) r.2.F r.2.S h s d HSZ.out.2.1 HSZ.out.2.2; rw [HT2.out] at this; exact this
          go_wp2_with fail
          refine (HQT.out w6 HB7.out).mono ?_
          rintro e w7 ⟨rfl, k7⟩
          have HB8 := Lib.hid (HB7.out.non k7)
          have HC8 := Lib.hid (HC7.out.trans k7 (fun _ f => f.elim))
          have HK9 := Lib.hid (HK8.out.trans k7 (fun _ f => f.elim))
          have hL7 := Lib.hid (hL6.out.chg k7)
          obtain ⟨p0, p1, p2, p3, p4, pr⟩ := HF.out _ HK9.out
          clear k7 HB7 HC7 HK8 hL6
          go_wp2_with fail
          refine (HQF.out w7 HB8.out).mono ?_
          rintro e w8 ⟨rfl, k8⟩
          have HB9 := Lib.hid (HB8.out.non k8)
          have HC9 := Lib.hid (HC8.out.trans k8 (fun _ f => f.elim))
          have hL8 := Lib.hid (hL7.out.chg k8)
          clear k8 HB8 HC8 HK9 hL7
          go_wp2_with fail
          refine (Entries_any w8 g b1 b2 (2 * k + 2) r.2.F r.2.S HB9.out (by have := HN.out.2; omega) HI2.out.fine (HT.out.chg HC9.out (fun f => f))).mono ?_
          rintro e w9 ⟨k9, A9, n9, fs, rfl, hL9, hE9, hl9⟩
          have HB10 := Lib.hid (HB9.out.non k9)
          have HC10 := Lib.hid (HC9.out.trans k9 (fun _ f => f.elim))
          have hL10 := Lib.hid (hL8.out.chg k9)
          have hfe : fs = es := EntsOf.one HI2.out.fine hE9.out (by rw [HSA.out]; exact hE4.out)
          subst hfe
          clear k9 HB9 HC9 hL8
          go_wp2_with fail
          refine (same_yes w9 A9 A4 n9 n4 fs (by have := HN.out.2; omega) hL9.out hL10.out).mono ?_
          rintro e w10 ⟨rfl, k10⟩
          have HB11 := Lib.hid (HB10.out.non k10)
          have HC11 := Lib.hid (HC10.out.trans k10 (fun _ f => f.elim))
          clear k10 HB10 HC10 hL9 hL10
          go_wp2_with fail
          go_roundw
          case rel => exact ⟨k + 1, r.2, by have := HN.out.1; omega, by have := HN.out.2; omega, by go_num, Lib.hid (HB11.out.mono (by omega)), HI2, HC11⟩
          case measure => have := HN.out.1; simp [intOf]; omega
      · obtain rfl : k = 60 := by omega
        go_wp2_with fail
        go_ret
        exact ⟨rfl, hC.out.below (Nat.le_refl _) (fun _ f => f.elim)⟩
    · obtain rfl : k = m := by omega
      go_wp2_with fail
      go_ret
      exact ⟨rfl, hC.out.below (Nat.le_refl _) (fun _ f => f.elim)⟩

/-! ### The row's frame -/
theorem own : ownKnob Tryd.prog.godebug = none := by kernel_rfl
theorem walkA (W : World) (args : Array Value) (hsz : args.size = Tryd.f4.params.size) (hok : ∀ (j : Nat) (t : TypeId) (v : Value), Tryd.f4.params[j]? = some t → args[j]? = some v → Okv Tryd.prog W t v) (hL : laidMetH Tryd.prog laidL W) :
    Calls Tryd.prog 4 args W fun e W' => e = .returned (.bool true) ∧ Below W.heap.size W W' := by
  rw [Tryd.params4] at hsz hok
  obtain ⟨v0, rfl⟩ : ∃ v0 : Value, args = #[v0] := by
    obtain ⟨l⟩ := args
    match l, hsz with
    | [v0], _ => exact ⟨v0, rfl⟩
  exact walk W v0 (hok 0 22 v0 rfl rfl) (tab_of_laid hL)
set_option maxRecDepth 100000 in
theorem lifted (os : Os) (started : os.Started) (H : Type) (enc : TypeId × Value → H) :
    ReturnsInHanded {} Tryd.checked os 4 .any (fun w args => (Rows.bankSumsSpec.pre enc Tryd.prog Tryd.f4 Rows.bankSumsRow.domain false w args ∧ laidMetH Tryd.prog laidL w) ∧ sizedMet enc Tryd.prog Tryd.f4 (OpenSpec.ofChange Rows.bankSumsSpec) false w args) (Rows.bankSumsSpec.post enc Tryd.prog Tryd.f4 false true false false) :=
  lifted_of_walk_laid (C := Tryd.checked) (s := Rows.bankSumsSpec) (conds := Rows.bankSumsRow.domain) (apart := false) (fresh := true) (T := 4) (laid := laidL) own started (by kernel_rfl) Tryd.func4
    (ChangeSpec.witness_at (enc := enc) (C := Tryd.checked) (os := os) (X := fun w _ => laidMetH Tryd.prog laidL w) false (laidWorld os) #[.slice none 0 0] 8 rfl (by kernel_rfl) (by kernel_rfl) (by kernel_rfl) (by kernel_rfl) (by kernel_rfl) (laidWorld_met os _))
    rfl (fun ds hd => by
      rw [Tryd.params4] at hd
      match ds, hd with
      | [d0], _ => exact ⟨rfl, rfl, rfl⟩)
    (by kernel_rfl) Tryd.underlying4 (by kernel_rfl) (by rw [Tryd.params4]; intro t ht; simp only [List.mem_cons, List.not_mem_nil, or_false] at ht; subst ht; exact ⟨by kernel_rfl, of_decide_eq_true (by kernel_rfl)⟩) walkA

theorem holds : Rows.bankSumsRow.holds Tryd.pinned (OpenSpec.ofChange Rows.bankSumsSpec) :=
  OpenClaim.holds_of_wide 4 Tryd.f4 rfl rfl rfl rfl rfl rfl rfl ⟨rfl, rfl, rfl, rfl, rfl⟩ rfl rfl rfl rfl rfl (by kernel_rfl) Tryd.func4 (by kernel_rfl)
    (of_decide_eq_true (by kernel_rfl)) (by unfold Func.isWrapper; first | (rw [if_pos (by decide +kernel)]; kernel_rfl) | (rw [if_neg (by decide +kernel)]; exact ⟨rfl, rfl⟩))
    (fun os started H enc _ => lifted os started H enc)
theorem card : Rows.BankSumsCardSaid :=
  Claim7.holds_tied_plain_at .later [] [.data, .data, .data] true Rows.bankSumsCard.stood.harness true
    holds (fun _ h => by cases h) (by kernel_rfl) (fun _ h => by cases h) bankSums_row_tie rfl ⟨rfl, rfl⟩ (by kernel_rfl) rfl
    (fun f fn hf hfn => by
      obtain rfl : f = 4 := (Option.some.inj ((show Tryd.prog.funcNamed "nuncio/nunciolaw18.BankSums" = some 4 by kernel_rfl).symm.trans hf)).symm
      obtain rfl : fn = Tryd.f4 := (Option.some.inj (Tryd.func4.symm.trans hfn)).symm
      exact ⟨by kernel_rfl, fun j t ht => by
        rw [Tryd.params4] at ht
        have hm : t ∈ [22] := List.mem_of_getElem? (i := j) (by simpa using ht)
        simp only [List.mem_cons, List.not_mem_nil, or_false] at hm
        subst hm
        exact (show Tryd.prog.wantsStandIn 22 = false by kernel_rfl)⟩)
    (by kernel_rfl)
end Go.Proofs.YtgoolonmkejpcaaDoor.bankSums
namespace Go.Proofs.YtgoolonmkejpcaaDoor
/-- The statement. -/
theorem bankSums_holds : Rows.BankSumsCardSaid := bankSums.card
end Go.Proofs.YtgoolonmkejpcaaDoor
