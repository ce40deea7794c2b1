/- The document's Mint, Burn, Move; an act told to it. -/
import Derived.Test.YtahlfncijbkcoaaDoorChecked
import Derived.WalkKit
import Derived.WalkLawsBesides
import Derived.Lib.Hide
import Derived.Deep.MidRow
import Derived.Test.YtahlfncijbkcoaaDoorOb
namespace Go.Proofs.YtahlfncijbkcoaaDoor
open Go.RowKit
set_option linter.unusedVariables false
set_option linter.unusedSimpArgs false
set_option maxRecDepth 20000

/-- The document's bank in block G has the amounts F: at most n entries. -/
def DocB (w : World) (G n : Nat) (F : Key → Nat) : Prop := ∃ l, RbP w G l ∧ Lsg F l ∧ l.length ≤ n
theorem DocB.non {w w' : World} {G n : Nat} {F : Key → Nat} (h : DocB w G n F) (k : Chg Non w w') : DocB w' G n F := by
  obtain ⟨l, h1, h2, h3⟩ := h
  exact ⟨l, h1.non k, h2, h3⟩
theorem DocB.mono {w : World} {G n m : Nat} {F : Key → Nat} (h : DocB w G n F) (k : n ≤ m) : DocB w G m F := by
  obtain ⟨l, h1, h2, h3⟩ := h
  exact ⟨l, h1, h2, by omega⟩
theorem DocB.lt {w : World} {G n : Nat} {F : Key → Nat} (h : DocB w G n F) : G < w.heap.size := by
  obtain ⟨l, h1, h2, h3⟩ := h
  exact h1.lt
/-- What an act leaves of the document's bank. -/
def DocP (w : World) (G n : Nat) (r : Int × Bst) (e : Ending) (w' : World) : Prop :=
  e = .returned (.int .i64 r.1) ∧ Chg (· = G) w w' ∧ Hid (DocB w' G (n + 2) r.2.F)
theorem DocP.same {w w' : World} {G n : Nat} {st : Bst} {v : Int} (h : DocB w G n st.F) (k : Chg Non w w') : DocP w G n (v, st) (.returned (.int .i64 v)) w' :=
  ⟨rfl, k.mono (fun _ f => f.elim), Lib.hid ((h.non k).mono (by omega))⟩
theorem dBal (w : World) (G n : Nat) (F : Key → Nat) (h : DocB w G n F) (hn : n ≤ 900) (s d : ByteArray) :
    Calls Tryd.prog 14 #[.pointer (some ⟨G, 0, none⟩), .string s, .string d] w (Zero w (.int .u64 (F (s, d) : Int))) := by
  obtain ⟨l, h1, h2, h3⟩ := h
  have := rBalance_any w G l h1 (by omega) s d
  rwa [h2.look (s, d)] at this
theorem dSup (w : World) (G n : Nat) (F : Key → Nat) (S : ByteArray → Nat) (h : DocB w G n F) (hi : Inv F S) (hn : n ≤ 900) (d : ByteArray) :
    Calls Tryd.prog 16 #[.pointer (some ⟨G, 0, none⟩), .string d] w (Zero w (.int .u64 (S d : Int))) := by
  obtain ⟨l, h1, h2, h3⟩ := h
  obtain ⟨m, g1, g2⟩ := hi.lst
  have e : ksup Prod.snd l d = S d := by rw [g2 d]; exact h2.sup_eq Prod.snd g1 d
  have := rSupply_any w G l h1 (by omega) d (by rw [e]; exact hi.lim d)
  rwa [e] at this
/-- What set leaves. -/
def DSetP (w : World) (G n : Nat) (F : Key → Nat) (e : Ending) (w' : World) : Prop := e = .returned (.tuple #[]) ∧ Chg (· = G) w w' ∧ Hid (DocB w' G n F)
theorem dSet (w : World) (G n : Nat) (F : Key → Nat) (h : DocB w G n F) (hn : n ≤ 900) (s d : ByteArray) (c : Nat) (hc : c < 18446744073709551616) :
    Calls Tryd.prog 37 #[.pointer (some ⟨G, 0, none⟩), .string s, .string d, .int .u64 (c : Int)] w (DSetP w G (n + 1) (kupd F (s, d) c)) := by
  obtain ⟨l, h1, h2, h3⟩ := h
  refine (set_any w G l h1 (by omega) s d c hc).mono ?_
  rintro e w' ⟨he, k, hl⟩
  refine ⟨he, k, Lib.hid ⟨_, hl.out, h2.put (s, d) c, ?_⟩⟩
  unfold kput
  rw [List.length_append]
  have := List.length_filter_le (fun x : Key × Nat => decide (x.1 ≠ (s, d))) l
  split <;> simp only [List.length_cons, List.length_nil] <;> omega
set_option maxHeartbeats 1600000 in
theorem rMint_any (w : World) (G n : Nat) (st : Bst) (h : DocB w G n st.F) (hi : Inv st.F st.S) (hn : n ≤ 800) (s d : ByteArray) (hs : s.size ≤ maxLen) (hd : d.size ≤ maxLen) (c : Nat) (hc : c < 18446744073709551616) :
    Calls Tryd.prog 22 #[.pointer (some ⟨G, 0, none⟩), .string s, .string d, .int .u64 (c : Int)] w (DocP w G n (mintR st s d c)) := by
  have HW := Lib.hid (may_any w s s d hs hs hd c hc)
  have HH := Lib.hid h
  have HI := Lib.hid hi
  have HN : Hid (n ≤ 800) := Lib.hid hn
  have HR : Hid (mintR st s d c = if errN (accOk s && denOk d) c = 0 then (if 18446744073709551615 - st.S d < c then (182, st) else (0, ⟨kupd st.F (s, d) (st.F (s, d) + c), kupd st.S d (st.S d + c)⟩)) else (errN (accOk s && denOk d) c, st)) := Lib.hid rfl
  rw [Bool.and_self] at HW
  generalize mintR st s d c = r at *
  generalize errN (accOk s && denOk d) c = v at *
  clear h hi hs hd hn
  go_enter Tryd.func22, Tryd.ntmps22
  go_wp2_with fail
  refine HW.out.mono ?_
  rintro e w1 ⟨rfl, k1⟩
  have HK1 := Lib.hid k1
  have HH1 := Lib.hid (HH.out.non k1)
  clear k1
  by_cases hv : v = 0
  · have HR2 := Lib.hid (HR.out.trans (if_pos hv))
    clear HR
    subst hv
    have HSUP := Lib.hid (fun w2 (k : Chg Non w1 w2) => dSup w2 G n st.F st.S (HH1.out.non k) HI.out (by have := HN.out; omega) d)
    have HBAL := Lib.hid (fun w2 (k : Chg Non w1 w2) => dBal w2 G n st.F (HH1.out.non k) (by have := HN.out; omega) s d)
    have HSET := Lib.hid (fun w2 (k : Chg Non w1 w2) m hm => dSet w2 G n st.F (HH1.out.non k) (by have := HN.out; omega) s d m hm)
    have hle := HI.out.le (s, d)
    dsimp only at hle
    have hlim : st.S d < 18446744073709551616 := HI.out.lim d
    generalize st.F (s, d) = f at *
    generalize st.S d = sd at *
    go_wp2_with fail
    refine (HSUP.out w1 (Chg.refl _ _)).mono ?_
    rintro e w2 ⟨rfl, k2⟩
    have HK2 := Lib.hid k2
    have HK2' := Lib.hid (HK1.out.trans k2 (fun _ f => f.elim))
    clear k2
    by_cases hlt : 18446744073709551615 - sd < c
    · have hlt2 : 18446744073709551615 - (sd : Int) < (c : Int) := by omega
      have HR3 := Lib.hid (HR2.out.trans (if_pos hlt))
      clear HR2 hlt hle
      go_wp2_with fail
      go_ret
      rw [HR3.out]
      exact DocP.same HH.out HK2'.out
    · have hlt2 : ¬ 18446744073709551615 - (sd : Int) < (c : Int) := by omega
      have HR3 := Lib.hid (HR2.out.trans (if_neg hlt))
      have hsum : f + c < 18446744073709551616 := by omega
      clear HR2 hlt
      go_wp2_with fail
      refine (HBAL.out w2 HK2.out).mono ?_
      rintro e w3 ⟨rfl, k3⟩
      have HK3 := Lib.hid (HK2.out.trans k3 (fun _ f => f.elim))
      have HP : Hid (Calls Tryd.prog 37 #[.pointer (some ⟨G, 0, none⟩), .string s, .string d, .int .u64 ((f : Int) + (c : Int))] w3 (DSetP w3 G (n + 1) (kupd st.F (s, d) (f + c)))) := Lib.hid (by
        have := HSET.out w3 HK3.out (f + c) hsum
        rw [Int.natCast_add] at this
        exact this)
      clear k3 hle
      go_wp2_with fail
      refine HP.out.mono ?_
      rintro e w4 ⟨rfl, k4, h4⟩
      have HQ : Hid (DocP w G n r (.returned (.int .i64 0)) w4) := Lib.hid (by
        rw [HR3.out]
        exact ⟨rfl, ((HK1.out.trans HK3.out (fun _ f => f.elim)).mono (fun _ f => f.elim)).trans k4 (fun j e => .inl e), Lib.hid (h4.out.mono (by omega))⟩)
      clear k4 h4
      go_wp2_with fail
      go_ret
      exact HQ.out
  · have HR2 := Lib.hid (HR.out.trans (if_neg hv))
    have hv2 : (v == 0) = false := by simpa using hv
    clear HR hv
    go_wp2_with fail
    go_ret
    rw [HR2.out]
    exact DocP.same HH.out HK1.out
set_option maxHeartbeats 1600000 in
theorem rBurn_any (w : World) (G n : Nat) (st : Bst) (h : DocB w G n st.F) (hi : Inv st.F st.S) (hn : n ≤ 800) (s d : ByteArray) (hs : s.size ≤ maxLen) (hd : d.size ≤ maxLen) (c : Nat) (hc : c < 18446744073709551616) :
    Calls Tryd.prog 23 #[.pointer (some ⟨G, 0, none⟩), .string s, .string d, .int .u64 (c : Int)] w (DocP w G n (burnR st s d c)) := by
  have HW := Lib.hid (may_any w s s d hs hs hd c hc)
  have HH := Lib.hid h
  have HI := Lib.hid hi
  have HN : Hid (n ≤ 800) := Lib.hid hn
  have HR : Hid (burnR st s d c = if errN (accOk s && denOk d) c = 0 then (if st.F (s, d) < c then (181, st) else (0, ⟨kupd st.F (s, d) (st.F (s, d) - c), kupd st.S d (st.S d - c)⟩)) else (errN (accOk s && denOk d) c, st)) := Lib.hid rfl
  rw [Bool.and_self] at HW
  generalize burnR st s d c = r at *
  generalize errN (accOk s && denOk d) c = v at *
  clear h hi hs hd hn
  go_enter Tryd.func23, Tryd.ntmps23
  go_wp2_with fail
  refine HW.out.mono ?_
  rintro e w1 ⟨rfl, k1⟩
  have HK1 := Lib.hid k1
  have HH1 := Lib.hid (HH.out.non k1)
  clear k1
  by_cases hv : v = 0
  · have HR2 := Lib.hid (HR.out.trans (if_pos hv))
    clear HR
    subst hv
    have HBAL := Lib.hid (fun w2 (k : Chg Non w1 w2) => dBal w2 G n st.F (HH1.out.non k) (by have := HN.out; omega) s d)
    have HSET := Lib.hid (fun w2 (k : Chg Non w1 w2) m hm => dSet w2 G n st.F (HH1.out.non k) (by have := HN.out; omega) s d m hm)
    have hlim : st.F (s, d) < 18446744073709551616 := HI.out.lt (s, d)
    generalize st.F (s, d) = f at *
    go_wp2_with fail
    refine (HBAL.out w1 (Chg.refl _ _)).mono ?_
    rintro e w2 ⟨rfl, k2⟩
    have HK2 := Lib.hid k2
    have HK2' := Lib.hid (HK1.out.trans k2 (fun _ f => f.elim))
    clear k2
    by_cases hlt : f < c
    · have hlt2 : (f : Int) < (c : Int) := by omega
      have HR3 := Lib.hid (HR2.out.trans (if_pos hlt))
      clear HR2 hlt
      go_wp2_with fail
      go_ret
      rw [HR3.out]
      exact DocP.same HH.out HK2'.out
    · have hlt2 : ¬ (f : Int) < (c : Int) := by omega
      have HR3 := Lib.hid (HR2.out.trans (if_neg hlt))
      have hcf : c ≤ f := by omega
      clear HR2 hlt
      go_wp2_with fail
      refine (HBAL.out w2 HK2.out).mono ?_
      rintro e w3 ⟨rfl, k3⟩
      have HK3 := Lib.hid (HK2.out.trans k3 (fun _ f => f.elim))
      have HP : Hid (Calls Tryd.prog 37 #[.pointer (some ⟨G, 0, none⟩), .string s, .string d, .int .u64 ((f : Int) - (c : Int))] w3 (DSetP w3 G (n + 1) (kupd st.F (s, d) (f - c)))) := Lib.hid (by
        have := HSET.out w3 HK3.out (f - c) (by omega)
        rw [Int.ofNat_sub hcf] at this
        exact this)
      clear k3
      go_wp2_with fail
      refine HP.out.mono ?_
      rintro e w4 ⟨rfl, k4, h4⟩
      have HQ : Hid (DocP w G n r (.returned (.int .i64 0)) w4) := Lib.hid (by
        rw [HR3.out]
        exact ⟨rfl, ((HK1.out.trans HK3.out (fun _ f => f.elim)).mono (fun _ f => f.elim)).trans k4 (fun j e => .inl e), Lib.hid (h4.out.mono (by omega))⟩)
      clear k4 h4
      go_wp2_with fail
      go_ret
      exact HQ.out
  · have HR2 := Lib.hid (HR.out.trans (if_neg hv))
    have hv2 : (v == 0) = false := by simpa using hv
    clear HR hv
    go_wp2_with fail
    go_ret
    rw [HR2.out]
    exact DocP.same HH.out HK1.out
set_option maxHeartbeats 3200000 in
theorem rMove_any (w : World) (G n : Nat) (st : Bst) (h : DocB w G n st.F) (hi : Inv st.F st.S) (hn : n ≤ 800) (s t d : ByteArray) (hs : s.size ≤ maxLen) (ht : t.size ≤ maxLen) (hd : d.size ≤ maxLen) (c : Nat) (hc : c < 18446744073709551616) :
    Calls Tryd.prog 24 #[.pointer (some ⟨G, 0, none⟩), .string s, .string t, .string d, .int .u64 (c : Int)] w (DocP w G n (moveR st s t d c)) := by
  have HW := Lib.hid (may_any w s t d hs ht hd c hc)
  have HH := Lib.hid h
  have HI := Lib.hid hi
  have HN : Hid (n ≤ 800) := Lib.hid hn
  have HR : Hid (moveR st s t d c = if errN ((accOk s && accOk t) && denOk d) c = 0 then (if st.F (s, d) < c then (181, st) else (0, ⟨kmov st.F (s, d) (t, d) c, st.S⟩)) else (errN ((accOk s && accOk t) && denOk d) c, st)) := Lib.hid rfl
  have HIM := Lib.hid (moveR_inv hi s t d c)
  generalize moveR st s t d c = r at *
  generalize errN ((accOk s && accOk t) && denOk d) c = v at *
  clear h hi hs hd hn ht
  go_enter Tryd.func24, Tryd.ntmps24
  go_wp2_with fail
  refine HW.out.mono ?_
  rintro e w1 ⟨rfl, k1⟩
  have HK1 := Lib.hid k1
  have HH1 := Lib.hid (HH.out.non k1)
  clear k1
  by_cases hv : v = 0
  · have HR2 := Lib.hid (HR.out.trans (if_pos hv))
    clear HR
    subst hv
    have HBAL := Lib.hid (fun w2 (k : Chg Non w1 w2) => dBal w2 G n st.F (HH1.out.non k) (by have := HN.out; omega) s d)
    have HSET := Lib.hid (fun w2 (k : Chg Non w1 w2) m hm => dSet w2 G n st.F (HH1.out.non k) (by have := HN.out; omega) s d m hm)
    have hlim : st.F (s, d) < 18446744073709551616 := HI.out.lt (s, d)
    have HF : Hid (∀ f, st.F (s, d) = f → kmov st.F (s, d) (t, d) c = kupd (kupd st.F (s, d) (f - c)) (t, d) (kupd st.F (s, d) (f - c) (t, d) + c)) := Lib.hid fun f hf => by subst hf; rfl
    generalize hfe : st.F (s, d) = f at *
    have HFE := Lib.hid (HF.out f rfl)
    clear HF hfe
    go_wp2_with fail
    refine (HBAL.out w1 (Chg.refl _ _)).mono ?_
    rintro e w2 ⟨rfl, k2⟩
    have HK2 := Lib.hid k2
    have HK2' := Lib.hid (HK1.out.trans k2 (fun _ f => f.elim))
    clear k2
    by_cases hlt : f < c
    · have hlt2 : (f : Int) < (c : Int) := by omega
      have HR3 := Lib.hid (HR2.out.trans (if_pos hlt))
      clear HR2 hlt
      go_wp2_with fail
      go_ret
      rw [HR3.out]
      exact DocP.same HH.out HK2'.out
    · have hlt2 : ¬ (f : Int) < (c : Int) := by omega
      have HR3 := Lib.hid (HR2.out.trans (if_neg hlt))
      have hcf : c ≤ f := by omega
      clear HR2 hlt
      go_wp2_with fail
      refine (HBAL.out w2 HK2.out).mono ?_
      rintro e w3 ⟨rfl, k3⟩
      have HK3 := Lib.hid (HK2.out.trans k3 (fun _ f => f.elim))
      have HP : Hid (Calls Tryd.prog 37 #[.pointer (some ⟨G, 0, none⟩), .string s, .string d, .int .u64 ((f : Int) - (c : Int))] w3 (DSetP w3 G (n + 1) (kupd st.F (s, d) (f - c)))) := Lib.hid (by
        have := HSET.out w3 HK3.out (f - c) (by omega)
        rw [Int.ofNat_sub hcf] at this
        exact this)
      have hsum : kupd st.F (s, d) (f - c) (t, d) + c < 18446744073709551616 := by
        have := HIM.out.lt (t, d)
        rw [HR3.out] at this
        dsimp only at this
        rw [HFE.out] at this
        have e : ∀ (G : Key → Nat) (x : Key) (m : Nat), kupd G x m x = m := fun G x m => by simp [kupd]
        rw [e] at this
        exact this
      clear k3
      go_wp2_with fail
      refine HP.out.mono ?_
      rintro e w4 ⟨rfl, k4, h4⟩
      have HKA : Hid (Chg (· = G) w w4) := Lib.hid (((HK1.out.trans HK3.out (fun _ f => f.elim)).mono (fun _ f => f.elim)).trans k4 (fun j e => .inl e))
      have H4 := Lib.hid h4.out
      clear k4 h4 HBAL HSET HP
      have HBAL := Lib.hid (dBal w4 G (n + 1) _ H4.out (by have := HN.out; omega) t d)
      have HSET := Lib.hid (fun w5 (k : Chg Non w4 w5) m hm => dSet w5 G (n + 1) _ (H4.out.non k) (by have := HN.out; omega) t d m hm)
      generalize kupd st.F (s, d) (f - c) (t, d) = g at *
      go_wp2_with fail
      refine HBAL.out.mono ?_
      rintro e w5 ⟨rfl, k5⟩
      have HP : Hid (Calls Tryd.prog 37 #[.pointer (some ⟨G, 0, none⟩), .string t, .string d, .int .u64 ((g : Int) + (c : Int))] w5 (DSetP w5 G (n + 2) (kmov st.F (s, d) (t, d) c))) := Lib.hid (by
        have := HSET.out w5 k5 (g + c) hsum
        rw [Int.natCast_add] at this
        rw [HFE.out]
        exact this)
      have HK5 : Hid (Chg (· = G) w w5) := Lib.hid (HKA.out.trans k5 (fun _ f => f.elim))
      clear k5
      go_wp2_with fail
      refine HP.out.mono ?_
      rintro e w6 ⟨rfl, k6, h6⟩
      have HQ : Hid (DocP w G n r (.returned (.int .i64 0)) w6) := Lib.hid (by
        rw [HR3.out]
        exact ⟨rfl, HK5.out.trans k6 (fun j e => .inl e), h6⟩)
      clear k6 h6
      go_wp2_with fail
      go_ret
      exact HQ.out
  · have HR2 := Lib.hid (HR.out.trans (if_neg hv))
    have hv2 : (v == 0) = false := by simpa using hv
    clear HR hv
    go_wp2_with fail
    go_ret
    rw [HR2.out]
    exact DocP.same HH.out HK1.out
theorem DocP.after {w w0 w' : World} {G n : Nat} {r : Int × Bst} {e : Ending} (k : Chg Non w w0) (h : DocP w0 G n r e w') : DocP w G n r e w' :=
  ⟨h.1, (k.mono (fun _ f => f.elim)).trans h.2.1 (fun j e => .inl e), h.2.2⟩
set_option maxHeartbeats 1600000 in
theorem told_any (w : World) (G n : Nat) (st : Bst) (h : DocB w G n st.F) (hi : Inv st.F st.S) (hn : n ≤ 800) (x : Ac) (ox : x.Ok) :
    Calls Tryd.prog 9 #[.agg x.cells.toArray, .pointer (some ⟨G, 0, none⟩)] w (DocP w G n (doR st x)) := by
  have k0 : Chg Non w (w.alloc (.cells x.cells.toArray 32)) := (Chg.refl _ _).alloc _
  have h0 := h.non k0
  have hb := Hb.new w 32 x.cells.toArray
  obtain ⟨kind, s, t, d, c⟩ := x
  obtain ⟨ok0, ok1, os, ot, od, oc⟩ := ox
  dsimp only at os ot od oc ok0 ok1
  have p0 : (w.alloc (.cells (Ac.cells ⟨kind, s, t, d, c⟩).toArray 32)).cell? ⟨w.heap.size, 0, none⟩ = some (.int .i64 kind) := by rw [hb.cell]; rfl
  have p1 : (w.alloc (.cells (Ac.cells ⟨kind, s, t, d, c⟩).toArray 32)).cell? ⟨w.heap.size, 1, none⟩ = some (.string s) := by rw [hb.cell]; rfl
  have p2 : (w.alloc (.cells (Ac.cells ⟨kind, s, t, d, c⟩).toArray 32)).cell? ⟨w.heap.size, 2, none⟩ = some (.string t) := by rw [hb.cell]; rfl
  have p3 : (w.alloc (.cells (Ac.cells ⟨kind, s, t, d, c⟩).toArray 32)).cell? ⟨w.heap.size, 3, none⟩ = some (.string d) := by rw [hb.cell]; rfl
  have p4 : (w.alloc (.cells (Ac.cells ⟨kind, s, t, d, c⟩).toArray 32)).cell? ⟨w.heap.size, 4, none⟩ = some (.int .u64 (c : Int)) := by rw [hb.cell]; rfl
  have H1 := Lib.hid (rMint_any _ G n st h0 hi hn t d ot od c oc)
  have H2 := Lib.hid (rBurn_any _ G n st h0 hi hn s d os od c oc)
  have H3 := Lib.hid (rMove_any _ G n st h0 hi hn s t d os ot od c oc)
  have HK := Lib.hid k0
  have HH := Lib.hid h0
  have HR : Hid (doR st ⟨kind, s, t, d, c⟩ = if kind = 1 then mintR st t d c else if kind = 2 then burnR st s d c else if kind = 3 then moveR st s t d c else (0, st)) := Lib.hid rfl
  generalize doR st ⟨kind, s, t, d, c⟩ = r at *
  clear h hi hn os ot od oc hb h0 k0
  unfold Ac.cells at *
  generalize hw1 : w.alloc (.cells [Value.int .i64 kind, .string s, .string t, .string d, .int .u64 (c : Int)].toArray 32) = w1 at *
  go_enter Tryd.func9, Tryd.ntmps9
  by_cases h1 : kind = 1
  · have HR1 := Lib.hid (HR.out.trans (if_pos h1))
    have e1 : (kind == 1) = true := by simpa using h1
    clear HR h1
    go_wp2_with fail
    refine H1.out.mono ?_
    intro e w' hq
    obtain ⟨rfl, k1, h1⟩ := hq
    have HQ : Hid (DocP w G n r (.returned (.int .i64 (mintR st t d c).1)) w') := Lib.hid (by rw [HR1.out]; exact DocP.after HK.out ⟨rfl, k1, h1⟩)
    clear k1 h1
    go_wp2_with fail
    go_ret
    exact HQ.out
  by_cases h2 : kind = 2
  · have HR1 := Lib.hid ((HR.out.trans (if_neg h1)).trans (if_pos h2))
    have e1 : (kind == 1) = false := by simpa using h1
    have e2 : (kind == 2) = true := by simpa using h2
    clear HR h1 h2
    go_wp2_with fail
    refine H2.out.mono ?_
    intro e w' hq
    obtain ⟨rfl, k1, h1⟩ := hq
    have HQ : Hid (DocP w G n r (.returned (.int .i64 (burnR st s d c).1)) w') := Lib.hid (by rw [HR1.out]; exact DocP.after HK.out ⟨rfl, k1, h1⟩)
    clear k1 h1
    go_wp2_with fail
    go_ret
    exact HQ.out
  by_cases h3 : kind = 3
  · have HR1 := Lib.hid (((HR.out.trans (if_neg h1)).trans (if_neg h2)).trans (if_pos h3))
    have e1 : (kind == 1) = false := by simpa using h1
    have e2 : (kind == 2) = false := by simpa using h2
    have e3 : (kind == 3) = true := by simpa using h3
    clear HR h1 h2 h3
    go_wp2_with fail
    refine H3.out.mono ?_
    intro e w' hq
    obtain ⟨rfl, k1, h1⟩ := hq
    have HQ : Hid (DocP w G n r (.returned (.int .i64 (moveR st s t d c).1)) w') := Lib.hid (by rw [HR1.out]; exact DocP.after HK.out ⟨rfl, k1, h1⟩)
    clear k1 h1
    go_wp2_with fail
    go_ret
    exact HQ.out
  · have HR1 := Lib.hid (((HR.out.trans (if_neg h1)).trans (if_neg h2)).trans (if_neg h3))
    have e1 : (kind == 1) = false := by simpa using h1
    have e2 : (kind == 2) = false := by simpa using h2
    have e3 : (kind == 3) = false := by simpa using h3
    have HQ : Hid (DocP w G n r (.returned (.int .i64 0)) w1) := Lib.hid (by rw [HR1.out]; exact DocP.after HK.out ⟨rfl, Chg.refl _ _, Lib.hid (HH.out.mono (by omega))⟩)
    clear HR h1 h2 h3
    go_wp2_with fail
    go_ret
    exact HQ.out
end Go.Proofs.YtahlfncijbkcoaaDoor
