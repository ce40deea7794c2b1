import Derived.Test.YteglpgakikigiaaChecked
import Derived.WalkKit
import Derived.WalkLawsBesides
import Derived.Lib.Hide
import Derived.Deep.RegionHeld3
import Derived.Deep.CutRange
import Derived.Deep.MidRow
import Derived.Test.YteglpgakikigiaaMFormLists5
import Derived.Test.YteglpgakikigiaaMFormLists9
import Derived.Test.YteglpgakikigiaaMFormLists10
/- The document's answers for forms: readCommit. -/
namespace Go.Proofs.Yteglpgakikigiaa
open Go.RowKit
set_option linter.unusedVariables false
set_option linter.unusedSimpArgs false
set_option maxRecDepth 20000

theorem se_parts : ∃ i z, Try.prog.info? 75 = some i ∧ i.zero = some z ∧ z.cells.size = 3 ∧ i.size = 3 ∧ i.bytes = 24 := by
  have h : (Try.prog.info? 75).map (fun i => (i.zero.map (·.cells.size), i.size, i.bytes)) = some (some 3, 3, 24) := by kernel_rfl
  cases hi : Try.prog.info? 75 with
  | none => rw [hi] at h; cases h
  | some i =>
    rw [hi] at h
    simp only [Option.map_some, Option.some.injEq, Prod.mk.injEq] at h
    obtain ⟨h1, h2, h3⟩ := h
    cases hz : i.zero with
    | none => rw [hz] at h1; cases h1
    | some z =>
      rw [hz] at h1
      simp only [Option.map_some, Option.some.injEq] at h1
      exact ⟨i, z, rfl, hz, h1, h2, h3⟩
theorem se_rowU : (Try.prog.info? 75).map (·.size) = some 3 := by kernel_rfl
theorem cm_rowU : (Try.prog.info? 32).map (·.size) = some 35 := by kernel_rfl
def cmz : List Value := Cm.cells ⟨0, 0, noH, []⟩ (.slice none 0 0)
theorem cmz_len : cmz.length = 35 := rfl
theorem cm_alloc0 (w : World) : (Instr.alloc 32 true (.tuple #[])).run Try.prog w = .ok (.pointer (some ⟨w.heap.size, 0, none⟩)) (w.alloc (.cells cmz.toArray 32)) := by kernel_rfl
def sez : List Value := [.int .u64 0, .int .u64 0, .int .u64 0]
theorem se_alloc0 (w : World) : (Instr.alloc 75 true (.tuple #[])).run Try.prog w = .ok (.pointer (some ⟨w.heap.size, 0, none⟩)) (w.alloc (.cells sez.toArray 75)) := by kernel_rfl
theorem built_Cm (n : Int) : Try.prog.built 32 [(0, .int .i64 n)] = some (Cm.cells ⟨n, 0, noH, []⟩ (.slice none 0 0)).toArray := by kernel_rfl
theorem built_Se (n : Int) : Try.prog.built 75 [(0, .int .u64 n)] = some #[.int .u64 n, .int .u64 0, .int .u64 0] := by kernel_rfl
theorem cm_one (h r : Int) (b : List UInt8) (s : List Se) (v : Value) (hv : v.oneCell' = true) : ∀ u ∈ Cm.cells ⟨h, r, b, s⟩ v, u.oneCell' = true := by
  intro u hu
  unfold Cm.cells at hu
  rcases List.mem_append.1 hu with hu | hu
  · simp at hu; rcases hu with rfl | rfl <;> rfl
  · rcases List.mem_append.1 hu with hu | hu
    · exact bv_one _ _ hu
    · rw [List.mem_singleton.1 hu]; exact hv
/-- What the reading of a commit leaves. -/
def Gotc (w : World) (g : Nat) (F : Nat → Prop) (x : Cm) (st : St) (e : Ending) (w' : World) : Prop :=
  ∃ v, e = .returned (.agg (x.cells v).toArray) ∧ OwnL 75 3 Se.cells w' v x.seals ∧ (∀ j, vbl v j → w.heap.size ≤ j) ∧ RdF w' g F st ∧ Chg (Eqg g) w w'
section
variable {W w w' : World} {g : Nat} {F : Nat → Prop} {tb : Nat} {t : TypeId} {L : List Value} {rb : Nat} {Z : List Value} {st st' : St}
theorem Rfs.far {S : Nat → Prop} (R : Rfs W g F tb t L rb Z st w) (k : Chg S w w') (hg : ¬ S g) (ht : ¬ S tb) (hr : ¬ S rb) (hF : ∀ j, F j → ¬ S j) (hn : ∀ j, S j → W.heap.size ≤ j) : Rfs W g F tb t L rb Z st w' :=
  ⟨R.rdr.chg k hg hF, R.row.chg k ht, R.res.chg k hr, R.chg.trans k (fun j hj => .inr (hn j hj)), R.tg, R.rg, R.ne, R.nt, R.nr, fun j hj => Nat.lt_of_lt_of_le (R.fsw j hj) k.size⟩
end
set_option maxHeartbeats 6400000 in
theorem readCommit_any (w : World) (g : Nat) (F : Nat → Prop) (st : St) (h : RdF w g F st) (hFs : ∀ j, F j → j < w.heap.size) :
    Calls Try.prog 23 #[.pointer (some ⟨g, 0, none⟩)] w (Gotc w g F (rCommit st).1 (rCommit st).2) := by
  have hz := cm_alloc0
  have hC := (Chg.refl Non w).alloc (.cells cmz.toArray 32)
  have hb := Hb.new w 32 cmz.toArray
  have hs1 : (w.alloc (.cells cmz.toArray 32)).heap.size = w.heap.size + 1 := by simp
  have HN := refRNumber (w.alloc (.cells cmz.toArray 32)) g F st (h.chg hC (fun f => f) (fun _ _ f => f)) (fun j hj => by have := hFs j hj; omega)
  have hgl := h.lt
  have hzl := cmz_len
  have hrow := cm_rowU
  have hsr := se_rowU
  have hs0 : rBeg 4 st = if vN st = 4 then nW st else none := rfl
  have hR : Hid (rCommit st = (⟨vN (rBeg 4 st), vN (nW (rBeg 4 st)), vH (nW (nW (rBeg 4 st))), (rK rSe (nC 64 (nH (nW (nW (rBeg 4 st))))) (vC 64 (nH (nW (nW (rBeg 4 st))))).toNat).1⟩, (rK rSe (nC 64 (nH (nW (nW (rBeg 4 st))))) (vC 64 (nH (nW (nW (rBeg 4 st))))).toNat).2)) := Lib.hid rfl
  generalize rCommit st = rr at *
  generalize rBeg 4 st = s1 at *
  generalize nW st = s0 at *
  generalize vN st = m at *
  generalize cmz = z at *
  obtain ⟨iv, zv, j1, j2, j3, j4, j5⟩ := se_parts
  have IV := Lib.hid (And.intro j1 (And.intro j2 (And.intro j3 (And.intro j4 j5))))
  have HH := Lib.hid HN
  have HC := Lib.hid hC
  have HFS := Lib.hid hFs
  have HZ := Lib.hid hz
  have HSZ := Lib.hid se_alloc0
  have hz0 := hz w
  clear HN hC h hFs hz j1 j2 j3 j4 j5
  by_cases hk : m = 4
  · rw [if_pos hk] at hs0
    subst hs0
    subst hk
    go_enter Try.func23, Try.ntmps23
    go_wp2_with (with_reducible refine wpList_alloc_row rfl _ rfl z hz0 ?_)
    refine HH.out.mono ?_
    rintro e w1 ⟨rfl, hR1, hK⟩
    have hb1 := hb.chg hK (fun e => by unfold Eqg at e; omega)
    have hc1 : Chg (Eqg g) w w1 := (HC.out.mono (S' := Eqg g) (fun _ f => f.elim)).trans hK (fun j hj => .inl hj)
    obtain ⟨A9, m9, c9, hblk⟩ := hR1.blk
    have q1 : w1.cell? ⟨g, 1, none⟩ = some (.bool s1.isNone) := hblk.cell 1
    have q2 : w1.frozen? ⟨g, 1, none⟩ = false := hblk.frozen 1
    clear HH hz0 hK hb hblk
    go_wp2_with fail
    have hR2 := hR1.same
    have kk := (Chg.refl (Eqg g) w1).setCell (p := ⟨g, 1, none⟩) (.inl rfl) (.bool s1.isNone)
    have hb2 := hb1.chg kk (fun e => by unfold Eqg at e; omega)
    have hc2 := hc1.trans kk (fun j hj => .inl hj)
    clear hb1 hc1 kk hR1 q1 q2
    generalize w1.setCell ⟨g, 1, none⟩ (.bool s1.isNone) = w2 at *
    refine (refRNumber w2 g F (s1) hR2 (fun j hj => Nat.lt_of_lt_of_le (HFS.out j hj) hc2.size)).mono ?_
    rintro e w3 ⟨rfl, hR3, hK3⟩
    have hb3 := hb2.chg hK3 (fun e => by unfold Eqg at e; omega)
    have hc3 := hc2.trans hK3 (fun j hj => .inl hj)
    have hl0 : ((⟨vN (s1), 0, noH, []⟩ : Cm).cells (.slice none 0 0)).length = 35 := rfl
    have hz3 := HZ.out w3
    obtain ⟨K4, hN4, hth4⟩ := storedU w3 32 z ((⟨vN (s1), 0, noH, []⟩ : Cm).cells (.slice none 0 0)) (hzl.trans hl0.symm)
    rw [hl0] at hth4
    have hbu := built_Cm (vN (s1))
    have hone : ∀ v ∈ ((⟨vN (s1), 0, noH, []⟩ : Cm).cells (.slice none 0 0)), v.oneCell' = true := cm_one _ _ _ _ _ rfl
    have hLs : ((⟨vN (s1), 0, noH, []⟩ : Cm).cells (.slice none 0 0)).toArray.size = 35 := by rw [List.size_toArray]; exact hl0
    have hw3 := hc3.size
    have S : Rfs w g F w3.heap.size 32 ((⟨vN (s1), 0, noH, []⟩ : Cm).cells (.slice none 0 0)) w.heap.size z (nW (s1)) _ := ⟨hR3.chg K4 (fun f => f) (fun _ _ f => f), hN4, hb3.chg K4 (fun f => f), (hc3.mono (S' := fun j => j = g ∨ j = w3.heap.size ∨ j = w.heap.size) (fun j hj => .inl (.inl hj))).trans K4 (fun j hj => hj.elim), by omega, by omega, (by have := hb3.lt; omega), fun hf => by have := HFS.out _ hf; omega, fun hf => by have := HFS.out _ hf; omega, fun j hj => by have := HFS.out j hj; have := K4.size; omega⟩
    clear hb2 hc2 hR2 hb3 hc3 hR3 hK3 K4 hN4 hl0
    generalize hcs : ((⟨vN (s1), 0, noH, []⟩ : Cm).cells (.slice none 0 0)) = L0 at *
    generalize hw4 : (w3.alloc (.cells z.toArray 32)).setCells w3.heap.size 0 L0 = w4 at *
    have HCS := Lib.hid hcs
    have HW4 := Lib.hid hw4
    clear hcs hw4
    go_wp2_with (first | (with_reducible refine wpList_build_row rfl 32 _ rfl (v := Value.int .i64 (vN (s1))) rfl hbu ?_) | (with_reducible refine wpList_alloc_row rfl _ rfl z hz3 ?_) | (with_reducible refine wpList_store_mid rfl 32 _ _ rfl w3.heap.size 0 L0.toArray rfl rfl (by rw [hLs]; exact hth4) (by rw [hLs, hrow]) (one_mem hone) ?_; rw [List.toList_toArray, HW4.out]))
    have S := S.eq HCS.out.symm
    clear hbu hz3 hth4 hone hLs HCS HW4
    have htw : w.heap.size ≤ w3.heap.size := hw3
    clear hw3
    generalize w3.heap.size = tb at *
    refine (refRNumber _ g F _ S.rdr S.fsw).mono ?_
    rintro e w5 ⟨rfl, hR5, hK⟩
    have S := (S.read hR5 hK).eq (L' := [Value.int .i64 (vN (s1))] ++ (Value.int .i64 0 :: (bv noH ++ [.slice none 0 0]))) rfl
    obtain ⟨cc, ff⟩ := S.cell (o := 1) rfl
    have S := (S.set (o := 1) rfl (Value.int .i64 (vN (nW (s1))))).eq (L' := (⟨vN (s1), vN (nW (s1)), noH, []⟩ : Cm).cells (.slice none 0 0)) rfl
    go_wp2_with fail
    clear cc ff hR5 hK
    refine (refRHash _ g F _ S.rdr S.fsw).mono ?_
    rintro e w6 ⟨rfl, hR6, hK⟩
    have S := (S.read hR6 hK).eq (L' := [Value.int .i64 (vN (s1)), Value.int .i64 (vN (nW (s1)))] ++ (bv noH ++ [.slice none 0 0])) rfl
    have hvl := vH_length (nW (nW (s1)))
    have ht := S.there (o := 2) rfl
    rw [bv_length, noH_length] at ht
    have S := (S.sets (o := 2) rfl (bv (vH (nW (nW (s1))))) (by rw [bv_length, bv_length, hvl, noH_length])).eq (L' := (⟨vN (s1), vN (nW (s1)), vH (nW (nW (s1))), []⟩ : Cm).cells (.slice none 0 0)) rfl
    go_wp2_with (with_reducible refine wpList_store_mid rfl _ _ _ rfl tb 2 (bv (vH (nW (nW (s1))))).toArray rfl rfl (by rw [List.size_toArray, bv_length, hvl]; exact ht) (by rw [List.size_toArray, bv_length, hvl]; exact hash_row) (all_oneCell_toArray (bv_one _)) ?_; rw [List.toList_toArray])
    clear hR6 hK ht
    refine (refRCount _ g F _ 64 S.rdr S.fsw).mono ?_
    rintro e w7 ⟨rfl, hR7, hK⟩
    have S := S.read hR7 hK
    have hvr := vC_range 64 (nH (nW (nW (s1)))) (by omega)
    have hrr := hR.out
    generalize nC 64 (nH (nW (nW (s1)))) = s2 at *
    generalize vC 64 (nH (nW (nW (s1)))) = nv at *
    generalize vH (nW (nW (s1))) = hh at *
    generalize vN (nW (s1)) = ro at *
    generalize vN (s1) = he at *
    obtain ⟨N, rfl⟩ : ∃ N : Nat, nv = (N : Int) := ⟨nv.toNat, by omega⟩
    rw [Int.toNat_natCast] at hrr
    have HRR := Lib.hid hrr
    have HS := Lib.hid S
    have HVL := Lib.hid hvl
    have hN2 : N ≤ 64 := by omega
    clear hvr hrr hR hR7 hK S hvl
    go_wp2_with fail
    go_loopw [5, 6] (fun i x wr => ∃ (q : Nat) (vs : Value), q ≤ N ∧ i = .int .i64 (q : Int) ∧ Hid (Rfs w g F tb 32 (Cm.cells ⟨he, ro, hh, []⟩ vs) w.heap.size z (rK rSe s2 q).2 wr) ∧ Hid (OwnL 75 3 Se.cells wr vs (rK rSe s2 q).1) ∧ Hid (∀ j, vbl vs j → w.heap.size ≤ j)) (fun i _ _ => N - (intOf i).toNat)
    case atStart => exact ⟨0, .slice none 0 0, by omega, rfl, HS, Lib.hid (OwnL.nil _), Lib.hid (fun j hj => by cases hj)⟩
    case round =>
      obtain ⟨q, vs, hq, rfl, HS, HO, HV⟩ := hrel
      by_cases hlt : q < N
      · have hqi : (q : Int) < (N : Int) := by omega
        have HNX : Hid (rK rSe s2 (q + 1) = ((rK rSe s2 q).1 ++ [(⟨vW (rK rSe s2 q).2, vW (nW (rK rSe s2 q).2), vW (nW (nW (rK rSe s2 q).2))⟩ : Se)], nW (nW (nW (rK rSe s2 q).2)))) := Lib.hid rfl
        have hll : Hid ((rK rSe s2 q).1.length ≤ 64) := Lib.hid (by rw [rK_len]; omega)
        generalize (rK rSe s2 q).2 = sq at *
        generalize (rK rSe s2 q).1 = lq at *
        have S := HS.out
        have O := HO.out
        have HVG : Hid (∀ j, vbl vs j → j ≠ g) := Lib.hid (fun j hj e => by have := HV.out j hj; omega)
        clear HS HO
        go_wp2_with fail
        refine (refRWord wr g F sq S.rdr S.fsw).mono ?_
        rintro e w8 ⟨rfl, hR8, hK⟩
        replace S := S.read hR8 hK
        replace O := O.chg hK (fun j hj e => HVG.out j hj e)
        have l1 := S.rdr.lt
        have l2 := S.row.lt
        have l3 := S.res.lt
        have l4 := S.fsw
        have l5 := O.lt
        have l6 : w.heap.size ≤ w8.heap.size := by omega
        have hl8 : ([.int .u64 (vW sq : Int), .int .u64 0, .int .u64 0] : List Value).length = 3 := rfl
        have hz8 := HSZ.out w8
        obtain ⟨K9, X, hth9⟩ := storedU w8 75 sez [.int .u64 (vW sq : Int), .int .u64 0, .int .u64 0] rfl
        rw [hl8] at hth9
        have hbu := built_Se (vW sq : Int)
        have hone : ∀ v ∈ ([.int .u64 (vW sq : Int), .int .u64 0, .int .u64 0] : List Value), v.oneCell' = true := by intro v hv; simp at hv; rcases hv with rfl | rfl | rfl <;> rfl
        replace S := S.non K9
        replace O := O.chg K9 (fun _ _ f => f)
        clear hK hR8
        generalize hcs : ([.int .u64 (vW sq : Int), .int .u64 0, .int .u64 0] : List Value) = L0 at *
        have hLs : L0.toArray.size = 3 := by rw [List.size_toArray]; exact hl8
        generalize hw9 : (w8.alloc (.cells sez.toArray 75)).setCells w8.heap.size 0 L0 = w9 at *
        have HCS := Lib.hid hcs
        have HW9 := Lib.hid hw9
        clear hcs hw9 K9
        go_wp2_with (first | (with_reducible refine wpList_build_row rfl 75 _ rfl (v := Value.int .u64 (vW sq : Int)) rfl hbu ?_) | (with_reducible refine wpList_alloc_row rfl _ rfl sez hz8 ?_) | (with_reducible refine wpList_store_mid rfl 75 _ _ rfl w8.heap.size 0 L0.toArray rfl rfl (by rw [hLs]; exact hth9) (by rw [hLs, hsr]) (one_mem hone) ?_; rw [List.toList_toArray, HW9.out]))
        rw [← HCS.out] at X
        clear hbu hz8 hth9 hone hLs HCS HW9 hl8
        generalize w8.heap.size = xb at *
        have hxg : xb ≠ g := by omega
        have hxt : xb ≠ tb := by omega
        have hxr : xb ≠ w.heap.size := by omega
        have HFX : Hid (∀ j, F j → j ≠ xb) := Lib.hid (fun j hj e => by have := l4 j hj; omega)
        have HVX : Hid (∀ j, vbl vs j → j ≠ xb) := Lib.hid (fun j hj e => by have := l5 j hj; omega)
        clear l1 l2 l3 l4 l5
        refine (refRWord w9 g F _ S.rdr S.fsw).mono ?_
        rintro e w10 ⟨rfl, hR10, hK⟩
        replace S := S.read hR10 hK
        replace O := O.chg hK (fun j hj e => HVG.out j hj e)
        replace X := X.chg hK hxg
        have cc : w10.cell? ⟨xb, 1, none⟩ = some (.int .u64 0) := X.cell 1
        have ff : w10.frozen? ⟨xb, 1, none⟩ = false := X.frozen 1
        have k9 := (Chg.refl (fun j => j = xb) w10).setCell (p := ⟨xb, 1, none⟩) (.inl rfl) (.int .u64 (vW (nW sq) : Int))
        replace S := S.far k9 (fun e => hxg e.symm) (fun e => hxt e.symm) (fun e => hxr e.symm) (fun j hj e => HFX.out j hj e) (fun j hj => by omega)
        replace O := O.chg k9 (fun j hj e => HVX.out j hj e)
        replace X : Hb _ xb 75 #[.int .u64 (vW sq : Int), .int .u64 (vW (nW sq) : Int), .int .u64 0] := X.set 1 (.int .u64 (vW (nW sq) : Int))
        clear hK hR10 k9
        go_wp2_with fail
        clear cc ff
        refine (refRWord _ g F _ S.rdr S.fsw).mono ?_
        rintro e w11 ⟨rfl, hR11, hK⟩
        replace S := S.read hR11 hK
        replace O := O.chg hK (fun j hj e => HVG.out j hj e)
        replace X := X.chg hK hxg
        have cc : w11.cell? ⟨xb, 2, none⟩ = some (.int .u64 0) := X.cell 2
        have ff : w11.frozen? ⟨xb, 2, none⟩ = false := X.frozen 2
        have k9 := (Chg.refl (fun j => j = xb) w11).setCell (p := ⟨xb, 2, none⟩) (.inl rfl) (.int .u64 (vW (nW (nW sq)) : Int))
        replace S := S.far k9 (fun e => hxg e.symm) (fun e => hxt e.symm) (fun e => hxr e.symm) (fun j hj e => HFX.out j hj e) (fun j hj => by omega)
        replace O := O.chg k9 (fun j hj e => HVX.out j hj e)
        replace X : Hb _ xb 75 #[.int .u64 (vW sq : Int), .int .u64 (vW (nW sq) : Int), .int .u64 (vW (nW (nW sq)) : Int)] := X.set 2 (.int .u64 (vW (nW (nW sq)) : Int))
        clear hK hR11 k9
        have HCE : Hid (∀ v, Cm.cells ⟨he, ro, hh, []⟩ v = ([Value.int .i64 he, .int .i64 ro] ++ bv hh) ++ v :: []) := Lib.hid (fun v => by simp [Cm.cells])
        have HO34 : Hid (34 = ([Value.int .i64 he, .int .i64 ro] ++ bv hh).length) := Lib.hid (by simp [bv_length, HVL.out])
        have cS := ((S.eq (HCE.out vs)).cell HO34.out).1
        have hnb := Hb.new (w11.setCell ⟨xb, 2, none⟩ (.int .u64 (vW (nW (nW sq)) : Int))) 75 [Value.int .u64 (vW sq : Int), .int .u64 (vW (nW sq) : Int), .int .u64 (vW (nW (nW sq)) : Int)].toArray
        have rx : (w11.setCell ⟨xb, 2, none⟩ (.int .u64 (vW (nW (nW sq)) : Int))).rangeAt xb 0 [.int .u64 (vW sq : Int), .int .u64 (vW (nW sq) : Int), .int .u64 (vW (nW (nW sq)) : Int)] := (show Hb _ xb 75 [Value.int .u64 (vW sq : Int), .int .u64 (vW (nW sq) : Int), .int .u64 (vW (nW (nW sq)) : Int)].toArray from X).range0
        have hli : (Try.prog.info? 75).map (·.size) = some ([.int .u64 (vW sq : Int), .int .u64 (vW (nW sq) : Int), .int .u64 (vW (nW (nW sq)) : Int)] : List Value).length := hsr
        have kn := (Chg.refl Non (w11.setCell ⟨xb, 2, none⟩ (.int .u64 (vW (nW (nW sq)) : Int)))).alloc (.cells [Value.int .u64 (vW sq : Int), .int .u64 (vW (nW sq) : Int), .int .u64 (vW (nW (nW sq)) : Int)].toArray 75)
        have on := O.chg kn (fun _ _ f => f)
        have Sn := S.non kn
        have h1n : ∀ u ∈ Se.cells ⟨vW sq, vW (nW sq), vW (nW (nW sq))⟩, u.oneCell' = true := by intro v hv; simp [Se.cells] at hv; rcases hv with rfl | rfl | rfl <;> rfl
        have hce0 : Se.cells ⟨vW sq, vW (nW sq), vW (nW (nW sq))⟩ = [Value.int .u64 (vW sq : Int), .int .u64 (vW (nW sq) : Int), .int .u64 (vW (nW (nW sq)) : Int)] := rfl
        generalize hcs : ([.int .u64 (vW sq : Int), .int .u64 (vW (nW sq) : Int), .int .u64 (vW (nW (nW sq)) : Int)] : List Value) = L9 at *
        have hl9 : L9.length = 3 := by rw [← hcs]; rfl
        have hln0 : lq.length ≤ 1000 := by have := hll.out; omega
        have HLN0 := Lib.hid hln0
        clear hcs S O X hln0
        go_wp2_with (first
          | (with_reducible refine wpList_load_mid rfl 75 _ rfl xb 0 rfl L9 _ rx Try.underlying75 rfl hli ?_)
          | (with_reducible refine wpList_build1 _ rfl _ rfl Try.underlying30 IV.out.1 IV.out.2.1 IV.out.2.2.2.1 (by omega) (by omega) L9 rfl hl9 ?_)
          | (at_builtin; refine wpList_app1 (v := vs) _ rfl _ _ rfl Try.underlying30 IV.out.1 IV.out.2.1 IV.out.2.2.2.1 IV.out.2.2.2.2 IV.out.2.2.1 (by omega) (by omega) rfl on (⟨vW sq, vW (nW sq), vW (nW (nW sq))⟩ : Se) rfl h1n rfl (by rw [hce0]; exact hnb) HLN0.out ?_; intro v9 w13 o9 g9 b9; obtain ⟨A7, c7, hv9, _, _, _⟩ := o9.slice (fun x hx => rfl) (by omega); rw [List.length_append, List.length_singleton] at hv9; subst hv9; have k13 := (Chg.refl (fun j => vbl vs j) _).grown g9 (fun k hk => .inl hk); have S13 := Sn.far k13 (fun e => HVG.out _ e rfl) (on.ne Sn.row (by decide)) (on.ne Sn.res (by decide)) (fun j hj e => by have := HV.out j e; have := HFS.out j hj; omega) (fun j hj => HV.out j hj); obtain ⟨cz, fz⟩ := (S13.eq (HCE.out vs)).cell HO34.out))
        have S14 := ((S13.eq (HCE.out vs)).set HO34.out (.slice A7 (lq.length + 1) c7)).eq (HCE.out _).symm
        have ks := (Chg.refl (fun j => j = tb) w13).setCell (p := ⟨tb, 34, none⟩) (.inl rfl) (.slice A7 (lq.length + 1) c7)
        have O14 := o9.chg ks (fun j hj e => by subst e; exact o9.ne S13.row (by decide) hj)
        have V14 : ∀ j, vbl (.slice A7 (lq.length + 1) c7) j → w.heap.size ≤ j := fun j hj => by
          rcases b9 with b9 | b9
          · exact HV.out j (by unfold vbl at hj ⊢; rw [← b9]; exact hj)
          · unfold vbl at hj; rw [b9] at hj; injection hj with hj; have := kn.size; have := Sn.chg.size; omega
        have HS14 := Lib.hid S14
        have HO14 := Lib.hid O14
        have HV14 := Lib.hid V14
        clear S14 ks O14 V14 S13 cz fz k13 o9 g9 b9 Sn on kn hnb rx cS cc ff h1n hce0
        go_roundw
        case rel => exact ⟨q + 1, _, by omega, by go_num, Lib.hid (by rw [HNX.out]; exact HS14.out), Lib.hid (by rw [HNX.out]; exact HO14.out), HV14⟩
        case measure => simp [intOf]; omega
      · obtain rfl : q = N := by omega
        have S := HS.out
        have O := HO.out
        have ov : vs.oneCell' = true := by
          obtain ⟨A7, c7, hv9, _, _, _⟩ := O.slice (fun x hx => rfl) (by omega)
          rw [hv9]; rfl
        have hl9 : (Cm.cells ⟨he, ro, hh, []⟩ vs).length = 35 := by simp [Cm.cells, bv_length, HVL.out]
        have hone9 : ∀ v ∈ Cm.cells ⟨he, ro, hh, []⟩ vs, v.oneCell' = true := cm_one _ _ _ _ _ ov
        have HCL : Hid (∀ l, Cm.cells ⟨he, ro, hh, l⟩ vs = Cm.cells ⟨he, ro, hh, []⟩ vs) := Lib.hid (fun l => rfl)
        generalize Cm.cells ⟨he, ro, hh, []⟩ vs = LL at *
        have hLi : (Try.prog.info? 32).map (·.size) = some LL.length := by rw [hl9]; exact hrow
        have hLs : LL.toArray.size = 35 := by rw [List.size_toArray]; exact hl9
        have rr9 := S.row.range0
        have ht0 := S.res.there0
        rw [hzl] at ht0
        obtain ⟨D1, D2, D3⟩ := S.done (hzl.trans hl9.symm)
        have ks := Chg.setCells (S := fun j => j = w.heap.size) rfl LL _ 0 (Chg.refl _ wr)
        have O15 := O.chg ks (fun j hj e => by subst e; exact O.ne S.res (by decide) hj)
        have htb := S.row.lt
        have HD1 := Lib.hid D1
        have HD2 := Lib.hid D2
        have HO15 := Lib.hid O15
        clear S O HS HO ks D1 D2 O15
        go_wp2_with (first | (with_reducible refine wpList_load_mid rfl 32 _ rfl tb 0 rfl LL _ rr9 Try.underlying32 rfl hLi ?_) | (with_reducible refine wpList_store_mid rfl 32 _ _ rfl w.heap.size 0 LL.toArray rfl rfl (by rw [hLs]; exact ht0) (by rw [hLs, hrow]) (one_mem hone9) ?_))
        refine bodyPost_ret (results_cell_row rfl _ _ w.heap.size 32 _ (0, 0) _ rfl D3 Try.underlying32 rfl (by rw [hLi, List.size_toArray])) rfl ⟨vs, by rw [HRR.out]; exact congrArg (fun L => Ending.returned (.agg (List.toArray L))) (HCL.out _).symm, by rw [HRR.out]; exact HO15.out, HV.out, by rw [HRR.out]; exact HD1.out, (Chg.refl (Eqg g) w).trans HD2.out (fun j hj => by rcases hj with h | h | h; exact .inl h; exact .inr (by omega); exact .inr (by omega))⟩
  · rw [if_neg hk] at hs0
    subst hs0
    go_enter Try.func23, Try.ntmps23
    go_wp2_with (with_reducible refine wpList_alloc_row rfl _ rfl z hz0 ?_)
    refine HH.out.mono ?_
    rintro e w1 ⟨rfl, hR1, hK⟩
    have hb1 := hb.chg hK (fun e => by unfold Eqg at e; omega)
    have hc1 : Chg (Eqg g) w w1 := (HC.out.mono (S' := Eqg g) (fun _ f => f.elim)).trans hK (fun j hj => .inl hj)
    obtain ⟨A9, m9, c9, hblk⟩ := hR1.blk
    have q1 : w1.cell? ⟨g, 1, none⟩ = some (.bool s0.isNone) := hblk.cell 1
    have q2 : w1.frozen? ⟨g, 1, none⟩ = false := hblk.frozen 1
    clear HH hz0 hK hb hblk
    go_wp2_with fail
    have hR2 := hR1.brk
    have kk := (Chg.refl (Eqg g) w1).setCell (p := ⟨g, 1, none⟩) (.inl rfl) (.bool true)
    have hb2 := hb1.chg kk (fun e => by unfold Eqg at e; omega)
    have hc2 := hc1.trans kk (fun j hj => .inl hj)
    clear hb1 hc1 kk hR1 q1 q2
    generalize w1.setCell ⟨g, 1, none⟩ (.bool true) = w2 at *
    refine (refRNumber w2 g F (none) hR2 (fun j hj => Nat.lt_of_lt_of_le (HFS.out j hj) hc2.size)).mono ?_
    rintro e w3 ⟨rfl, hR3, hK3⟩
    have hb3 := hb2.chg hK3 (fun e => by unfold Eqg at e; omega)
    have hc3 := hc2.trans hK3 (fun j hj => .inl hj)
    have hl0 : ((⟨vN (none), 0, noH, []⟩ : Cm).cells (.slice none 0 0)).length = 35 := rfl
    have hz3 := HZ.out w3
    obtain ⟨K4, hN4, hth4⟩ := storedU w3 32 z ((⟨vN (none), 0, noH, []⟩ : Cm).cells (.slice none 0 0)) (hzl.trans hl0.symm)
    rw [hl0] at hth4
    have hbu := built_Cm (vN (none))
    have hone : ∀ v ∈ ((⟨vN (none), 0, noH, []⟩ : Cm).cells (.slice none 0 0)), v.oneCell' = true := cm_one _ _ _ _ _ rfl
    have hLs : ((⟨vN (none), 0, noH, []⟩ : Cm).cells (.slice none 0 0)).toArray.size = 35 := by rw [List.size_toArray]; exact hl0
    have hw3 := hc3.size
    have S : Rfs w g F w3.heap.size 32 ((⟨vN (none), 0, noH, []⟩ : Cm).cells (.slice none 0 0)) w.heap.size z (nW (none)) _ := ⟨hR3.chg K4 (fun f => f) (fun _ _ f => f), hN4, hb3.chg K4 (fun f => f), (hc3.mono (S' := fun j => j = g ∨ j = w3.heap.size ∨ j = w.heap.size) (fun j hj => .inl (.inl hj))).trans K4 (fun j hj => hj.elim), by omega, by omega, (by have := hb3.lt; omega), fun hf => by have := HFS.out _ hf; omega, fun hf => by have := HFS.out _ hf; omega, fun j hj => by have := HFS.out j hj; have := K4.size; omega⟩
    clear hb2 hc2 hR2 hb3 hc3 hR3 hK3 K4 hN4 hl0
    generalize hcs : ((⟨vN (none), 0, noH, []⟩ : Cm).cells (.slice none 0 0)) = L0 at *
    generalize hw4 : (w3.alloc (.cells z.toArray 32)).setCells w3.heap.size 0 L0 = w4 at *
    have HCS := Lib.hid hcs
    have HW4 := Lib.hid hw4
    clear hcs hw4
    go_wp2_with (first | (with_reducible refine wpList_build_row rfl 32 _ rfl (v := Value.int .i64 (vN (none))) rfl hbu ?_) | (with_reducible refine wpList_alloc_row rfl _ rfl z hz3 ?_) | (with_reducible refine wpList_store_mid rfl 32 _ _ rfl w3.heap.size 0 L0.toArray rfl rfl (by rw [hLs]; exact hth4) (by rw [hLs, hrow]) (one_mem hone) ?_; rw [List.toList_toArray, HW4.out]))
    have S := S.eq HCS.out.symm
    clear hbu hz3 hth4 hone hLs HCS HW4
    have htw : w.heap.size ≤ w3.heap.size := hw3
    clear hw3
    generalize w3.heap.size = tb at *
    refine (refRNumber _ g F _ S.rdr S.fsw).mono ?_
    rintro e w5 ⟨rfl, hR5, hK⟩
    have S := (S.read hR5 hK).eq (L' := [Value.int .i64 (vN (none))] ++ (Value.int .i64 0 :: (bv noH ++ [.slice none 0 0]))) rfl
    obtain ⟨cc, ff⟩ := S.cell (o := 1) rfl
    have S := (S.set (o := 1) rfl (Value.int .i64 (vN (nW (none))))).eq (L' := (⟨vN (none), vN (nW (none)), noH, []⟩ : Cm).cells (.slice none 0 0)) rfl
    go_wp2_with fail
    clear cc ff hR5 hK
    refine (refRHash _ g F _ S.rdr S.fsw).mono ?_
    rintro e w6 ⟨rfl, hR6, hK⟩
    have S := (S.read hR6 hK).eq (L' := [Value.int .i64 (vN (none)), Value.int .i64 (vN (nW (none)))] ++ (bv noH ++ [.slice none 0 0])) rfl
    have hvl := vH_length (nW (nW (none)))
    have ht := S.there (o := 2) rfl
    rw [bv_length, noH_length] at ht
    have S := (S.sets (o := 2) rfl (bv (vH (nW (nW (none))))) (by rw [bv_length, bv_length, hvl, noH_length])).eq (L' := (⟨vN (none), vN (nW (none)), vH (nW (nW (none))), []⟩ : Cm).cells (.slice none 0 0)) rfl
    go_wp2_with (with_reducible refine wpList_store_mid rfl _ _ _ rfl tb 2 (bv (vH (nW (nW (none))))).toArray rfl rfl (by rw [List.size_toArray, bv_length, hvl]; exact ht) (by rw [List.size_toArray, bv_length, hvl]; exact hash_row) (all_oneCell_toArray (bv_one _)) ?_; rw [List.toList_toArray])
    clear hR6 hK ht
    refine (refRCount _ g F _ 64 S.rdr S.fsw).mono ?_
    rintro e w7 ⟨rfl, hR7, hK⟩
    have S := S.read hR7 hK
    have hvr := vC_range 64 (nH (nW (nW (none)))) (by omega)
    have hrr := hR.out
    generalize nC 64 (nH (nW (nW (none)))) = s2 at *
    generalize vC 64 (nH (nW (nW (none)))) = nv at *
    generalize vH (nW (nW (none))) = hh at *
    generalize vN (nW (none)) = ro at *
    generalize vN (none) = he at *
    obtain ⟨N, rfl⟩ : ∃ N : Nat, nv = (N : Int) := ⟨nv.toNat, by omega⟩
    rw [Int.toNat_natCast] at hrr
    have HRR := Lib.hid hrr
    have HS := Lib.hid S
    have HVL := Lib.hid hvl
    have hN2 : N ≤ 64 := by omega
    clear hvr hrr hR hR7 hK S hvl
    go_wp2_with fail
    go_loopw [5, 6] (fun i x wr => ∃ (q : Nat) (vs : Value), q ≤ N ∧ i = .int .i64 (q : Int) ∧ Hid (Rfs w g F tb 32 (Cm.cells ⟨he, ro, hh, []⟩ vs) w.heap.size z (rK rSe s2 q).2 wr) ∧ Hid (OwnL 75 3 Se.cells wr vs (rK rSe s2 q).1) ∧ Hid (∀ j, vbl vs j → w.heap.size ≤ j)) (fun i _ _ => N - (intOf i).toNat)
    case atStart => exact ⟨0, .slice none 0 0, by omega, rfl, HS, Lib.hid (OwnL.nil _), Lib.hid (fun j hj => by cases hj)⟩
    case round =>
      obtain ⟨q, vs, hq, rfl, HS, HO, HV⟩ := hrel
      by_cases hlt : q < N
      · have hqi : (q : Int) < (N : Int) := by omega
        have HNX : Hid (rK rSe s2 (q + 1) = ((rK rSe s2 q).1 ++ [(⟨vW (rK rSe s2 q).2, vW (nW (rK rSe s2 q).2), vW (nW (nW (rK rSe s2 q).2))⟩ : Se)], nW (nW (nW (rK rSe s2 q).2)))) := Lib.hid rfl
        have hll : Hid ((rK rSe s2 q).1.length ≤ 64) := Lib.hid (by rw [rK_len]; omega)
        generalize (rK rSe s2 q).2 = sq at *
        generalize (rK rSe s2 q).1 = lq at *
        have S := HS.out
        have O := HO.out
        have HVG : Hid (∀ j, vbl vs j → j ≠ g) := Lib.hid (fun j hj e => by have := HV.out j hj; omega)
        clear HS HO
        go_wp2_with fail
        refine (refRWord wr g F sq S.rdr S.fsw).mono ?_
        rintro e w8 ⟨rfl, hR8, hK⟩
        replace S := S.read hR8 hK
        replace O := O.chg hK (fun j hj e => HVG.out j hj e)
        have l1 := S.rdr.lt
        have l2 := S.row.lt
        have l3 := S.res.lt
        have l4 := S.fsw
        have l5 := O.lt
        have l6 : w.heap.size ≤ w8.heap.size := by omega
        have hl8 : ([.int .u64 (vW sq : Int), .int .u64 0, .int .u64 0] : List Value).length = 3 := rfl
        have hz8 := HSZ.out w8
        obtain ⟨K9, X, hth9⟩ := storedU w8 75 sez [.int .u64 (vW sq : Int), .int .u64 0, .int .u64 0] rfl
        rw [hl8] at hth9
        have hbu := built_Se (vW sq : Int)
        have hone : ∀ v ∈ ([.int .u64 (vW sq : Int), .int .u64 0, .int .u64 0] : List Value), v.oneCell' = true := by intro v hv; simp at hv; rcases hv with rfl | rfl | rfl <;> rfl
        replace S := S.non K9
        replace O := O.chg K9 (fun _ _ f => f)
        clear hK hR8
        generalize hcs : ([.int .u64 (vW sq : Int), .int .u64 0, .int .u64 0] : List Value) = L0 at *
        have hLs : L0.toArray.size = 3 := by rw [List.size_toArray]; exact hl8
        generalize hw9 : (w8.alloc (.cells sez.toArray 75)).setCells w8.heap.size 0 L0 = w9 at *
        have HCS := Lib.hid hcs
        have HW9 := Lib.hid hw9
        clear hcs hw9 K9
        go_wp2_with (first | (with_reducible refine wpList_build_row rfl 75 _ rfl (v := Value.int .u64 (vW sq : Int)) rfl hbu ?_) | (with_reducible refine wpList_alloc_row rfl _ rfl sez hz8 ?_) | (with_reducible refine wpList_store_mid rfl 75 _ _ rfl w8.heap.size 0 L0.toArray rfl rfl (by rw [hLs]; exact hth9) (by rw [hLs, hsr]) (one_mem hone) ?_; rw [List.toList_toArray, HW9.out]))
        rw [← HCS.out] at X
        clear hbu hz8 hth9 hone hLs HCS HW9 hl8
        generalize w8.heap.size = xb at *
        have hxg : xb ≠ g := by omega
        have hxt : xb ≠ tb := by omega
        have hxr : xb ≠ w.heap.size := by omega
        have HFX : Hid (∀ j, F j → j ≠ xb) := Lib.hid (fun j hj e => by have := l4 j hj; omega)
        have HVX : Hid (∀ j, vbl vs j → j ≠ xb) := Lib.hid (fun j hj e => by have := l5 j hj; omega)
        clear l1 l2 l3 l4 l5
        refine (refRWord w9 g F _ S.rdr S.fsw).mono ?_
        rintro e w10 ⟨rfl, hR10, hK⟩
        replace S := S.read hR10 hK
        replace O := O.chg hK (fun j hj e => HVG.out j hj e)
        replace X := X.chg hK hxg
        have cc : w10.cell? ⟨xb, 1, none⟩ = some (.int .u64 0) := X.cell 1
        have ff : w10.frozen? ⟨xb, 1, none⟩ = false := X.frozen 1
        have k9 := (Chg.refl (fun j => j = xb) w10).setCell (p := ⟨xb, 1, none⟩) (.inl rfl) (.int .u64 (vW (nW sq) : Int))
        replace S := S.far k9 (fun e => hxg e.symm) (fun e => hxt e.symm) (fun e => hxr e.symm) (fun j hj e => HFX.out j hj e) (fun j hj => by omega)
        replace O := O.chg k9 (fun j hj e => HVX.out j hj e)
        replace X : Hb _ xb 75 #[.int .u64 (vW sq : Int), .int .u64 (vW (nW sq) : Int), .int .u64 0] := X.set 1 (.int .u64 (vW (nW sq) : Int))
        clear hK hR10 k9
        go_wp2_with fail
        clear cc ff
        refine (refRWord _ g F _ S.rdr S.fsw).mono ?_
        rintro e w11 ⟨rfl, hR11, hK⟩
        replace S := S.read hR11 hK
        replace O := O.chg hK (fun j hj e => HVG.out j hj e)
        replace X := X.chg hK hxg
        have cc : w11.cell? ⟨xb, 2, none⟩ = some (.int .u64 0) := X.cell 2
        have ff : w11.frozen? ⟨xb, 2, none⟩ = false := X.frozen 2
        have k9 := (Chg.refl (fun j => j = xb) w11).setCell (p := ⟨xb, 2, none⟩) (.inl rfl) (.int .u64 (vW (nW (nW sq)) : Int))
        replace S := S.far k9 (fun e => hxg e.symm) (fun e => hxt e.symm) (fun e => hxr e.symm) (fun j hj e => HFX.out j hj e) (fun j hj => by omega)
        replace O := O.chg k9 (fun j hj e => HVX.out j hj e)
        replace X : Hb _ xb 75 #[.int .u64 (vW sq : Int), .int .u64 (vW (nW sq) : Int), .int .u64 (vW (nW (nW sq)) : Int)] := X.set 2 (.int .u64 (vW (nW (nW sq)) : Int))
        clear hK hR11 k9
        have HCE : Hid (∀ v, Cm.cells ⟨he, ro, hh, []⟩ v = ([Value.int .i64 he, .int .i64 ro] ++ bv hh) ++ v :: []) := Lib.hid (fun v => by simp [Cm.cells])
        have HO34 : Hid (34 = ([Value.int .i64 he, .int .i64 ro] ++ bv hh).length) := Lib.hid (by simp [bv_length, HVL.out])
        have cS := ((S.eq (HCE.out vs)).cell HO34.out).1
        have hnb := Hb.new (w11.setCell ⟨xb, 2, none⟩ (.int .u64 (vW (nW (nW sq)) : Int))) 75 [Value.int .u64 (vW sq : Int), .int .u64 (vW (nW sq) : Int), .int .u64 (vW (nW (nW sq)) : Int)].toArray
        have rx : (w11.setCell ⟨xb, 2, none⟩ (.int .u64 (vW (nW (nW sq)) : Int))).rangeAt xb 0 [.int .u64 (vW sq : Int), .int .u64 (vW (nW sq) : Int), .int .u64 (vW (nW (nW sq)) : Int)] := (show Hb _ xb 75 [Value.int .u64 (vW sq : Int), .int .u64 (vW (nW sq) : Int), .int .u64 (vW (nW (nW sq)) : Int)].toArray from X).range0
        have hli : (Try.prog.info? 75).map (·.size) = some ([.int .u64 (vW sq : Int), .int .u64 (vW (nW sq) : Int), .int .u64 (vW (nW (nW sq)) : Int)] : List Value).length := hsr
        have kn := (Chg.refl Non (w11.setCell ⟨xb, 2, none⟩ (.int .u64 (vW (nW (nW sq)) : Int)))).alloc (.cells [Value.int .u64 (vW sq : Int), .int .u64 (vW (nW sq) : Int), .int .u64 (vW (nW (nW sq)) : Int)].toArray 75)
        have on := O.chg kn (fun _ _ f => f)
        have Sn := S.non kn
        have h1n : ∀ u ∈ Se.cells ⟨vW sq, vW (nW sq), vW (nW (nW sq))⟩, u.oneCell' = true := by intro v hv; simp [Se.cells] at hv; rcases hv with rfl | rfl | rfl <;> rfl
        have hce0 : Se.cells ⟨vW sq, vW (nW sq), vW (nW (nW sq))⟩ = [Value.int .u64 (vW sq : Int), .int .u64 (vW (nW sq) : Int), .int .u64 (vW (nW (nW sq)) : Int)] := rfl
        generalize hcs : ([.int .u64 (vW sq : Int), .int .u64 (vW (nW sq) : Int), .int .u64 (vW (nW (nW sq)) : Int)] : List Value) = L9 at *
        have hl9 : L9.length = 3 := by rw [← hcs]; rfl
        have hln0 : lq.length ≤ 1000 := by have := hll.out; omega
        have HLN0 := Lib.hid hln0
        clear hcs S O X hln0
        go_wp2_with (first
          | (with_reducible refine wpList_load_mid rfl 75 _ rfl xb 0 rfl L9 _ rx Try.underlying75 rfl hli ?_)
          | (with_reducible refine wpList_build1 _ rfl _ rfl Try.underlying30 IV.out.1 IV.out.2.1 IV.out.2.2.2.1 (by omega) (by omega) L9 rfl hl9 ?_)
          | (at_builtin; refine wpList_app1 (v := vs) _ rfl _ _ rfl Try.underlying30 IV.out.1 IV.out.2.1 IV.out.2.2.2.1 IV.out.2.2.2.2 IV.out.2.2.1 (by omega) (by omega) rfl on (⟨vW sq, vW (nW sq), vW (nW (nW sq))⟩ : Se) rfl h1n rfl (by rw [hce0]; exact hnb) HLN0.out ?_; intro v9 w13 o9 g9 b9; obtain ⟨A7, c7, hv9, _, _, _⟩ := o9.slice (fun x hx => rfl) (by omega); rw [List.length_append, List.length_singleton] at hv9; subst hv9; have k13 := (Chg.refl (fun j => vbl vs j) _).grown g9 (fun k hk => .inl hk); have S13 := Sn.far k13 (fun e => HVG.out _ e rfl) (on.ne Sn.row (by decide)) (on.ne Sn.res (by decide)) (fun j hj e => by have := HV.out j e; have := HFS.out j hj; omega) (fun j hj => HV.out j hj); obtain ⟨cz, fz⟩ := (S13.eq (HCE.out vs)).cell HO34.out))
        have S14 := ((S13.eq (HCE.out vs)).set HO34.out (.slice A7 (lq.length + 1) c7)).eq (HCE.out _).symm
        have ks := (Chg.refl (fun j => j = tb) w13).setCell (p := ⟨tb, 34, none⟩) (.inl rfl) (.slice A7 (lq.length + 1) c7)
        have O14 := o9.chg ks (fun j hj e => by subst e; exact o9.ne S13.row (by decide) hj)
        have V14 : ∀ j, vbl (.slice A7 (lq.length + 1) c7) j → w.heap.size ≤ j := fun j hj => by
          rcases b9 with b9 | b9
          · exact HV.out j (by unfold vbl at hj ⊢; rw [← b9]; exact hj)
          · unfold vbl at hj; rw [b9] at hj; injection hj with hj; have := kn.size; have := Sn.chg.size; omega
        have HS14 := Lib.hid S14
        have HO14 := Lib.hid O14
        have HV14 := Lib.hid V14
        clear S14 ks O14 V14 S13 cz fz k13 o9 g9 b9 Sn on kn hnb rx cS cc ff h1n hce0
        go_roundw
        case rel => exact ⟨q + 1, _, by omega, by go_num, Lib.hid (by rw [HNX.out]; exact HS14.out), Lib.hid (by rw [HNX.out]; exact HO14.out), HV14⟩
        case measure => simp [intOf]; omega
      · obtain rfl : q = N := by omega
        have S := HS.out
        have O := HO.out
        have ov : vs.oneCell' = true := by
          obtain ⟨A7, c7, hv9, _, _, _⟩ := O.slice (fun x hx => rfl) (by omega)
          rw [hv9]; rfl
        have hl9 : (Cm.cells ⟨he, ro, hh, []⟩ vs).length = 35 := by simp [Cm.cells, bv_length, HVL.out]
        have hone9 : ∀ v ∈ Cm.cells ⟨he, ro, hh, []⟩ vs, v.oneCell' = true := cm_one _ _ _ _ _ ov
        have HCL : Hid (∀ l, Cm.cells ⟨he, ro, hh, l⟩ vs = Cm.cells ⟨he, ro, hh, []⟩ vs) := Lib.hid (fun l => rfl)
        generalize Cm.cells ⟨he, ro, hh, []⟩ vs = LL at *
        have hLi : (Try.prog.info? 32).map (·.size) = some LL.length := by rw [hl9]; exact hrow
        have hLs : LL.toArray.size = 35 := by rw [List.size_toArray]; exact hl9
        have rr9 := S.row.range0
        have ht0 := S.res.there0
        rw [hzl] at ht0
        obtain ⟨D1, D2, D3⟩ := S.done (hzl.trans hl9.symm)
        have ks := Chg.setCells (S := fun j => j = w.heap.size) rfl LL _ 0 (Chg.refl _ wr)
        have O15 := O.chg ks (fun j hj e => by subst e; exact O.ne S.res (by decide) hj)
        have htb := S.row.lt
        have HD1 := Lib.hid D1
        have HD2 := Lib.hid D2
        have HO15 := Lib.hid O15
        clear S O HS HO ks D1 D2 O15
        go_wp2_with (first | (with_reducible refine wpList_load_mid rfl 32 _ rfl tb 0 rfl LL _ rr9 Try.underlying32 rfl hLi ?_) | (with_reducible refine wpList_store_mid rfl 32 _ _ rfl w.heap.size 0 LL.toArray rfl rfl (by rw [hLs]; exact ht0) (by rw [hLs, hrow]) (one_mem hone9) ?_))
        refine bodyPost_ret (results_cell_row rfl _ _ w.heap.size 32 _ (0, 0) _ rfl D3 Try.underlying32 rfl (by rw [hLi, List.size_toArray])) rfl ⟨vs, by rw [HRR.out]; exact congrArg (fun L => Ending.returned (.agg (List.toArray L))) (HCL.out _).symm, by rw [HRR.out]; exact HO15.out, HV.out, by rw [HRR.out]; exact HD1.out, (Chg.refl (Eqg g) w).trans HD2.out (fun j hj => by rcases hj with h | h | h; exact .inl h; exact .inr (by omega); exact .inr (by omega))⟩
end Go.Proofs.Yteglpgakikigiaa

/- The document's answers for forms: the bytes of a commit. -/
namespace Go.Proofs.Yteglpgakikigiaa
open Go.RowKit
set_option linter.unusedVariables false
set_option linter.unusedSimpArgs false
set_option maxRecDepth 20000

theorem se_enc_len (x : Se) : x.enc.length = 24 := by unfold Se.enc; simp [be_length]
theorem ses_enc_len : ∀ l : List Se, (l.flatMap Se.enc).length = l.length * 24
  | [] => rfl
  | x :: l => by rw [List.flatMap_cons, List.length_append, ses_enc_len l, se_enc_len, List.length_cons]; omega
theorem at_Cm {w : World} {b : Nat} {t : TypeId} {x : Cm} {s : Value} (h : Hb w b t (x.cells s).toArray) (lb : x.block.length = 32) : w.cell? ⟨b, 0, none⟩ = some (.int .i64 x.height) ∧ w.cell? ⟨b, 1, none⟩ = some (.int .i64 x.round) ∧ w.rangeAt b 2 (bv x.block) ∧ w.cell? ⟨b, 34, none⟩ = some s := by
  have r := h.range0
  unfold Cm.cells at r
  simp only [List.cons_append, List.nil_append] at r
  obtain ⟨f0, r⟩ := rangeAt_cons r
  obtain ⟨f1, r⟩ := rangeAt_cons r
  obtain ⟨f2, r⟩ := rangeAt_app r
  rw [bv_length, lb] at r
  exact ⟨f0, f1, f2, (rangeAt_cons r).1⟩
set_option maxHeartbeats 6400000 in
theorem refCommit_any (w : World) (x : Cm) (ox : x.Ok) (A : Option Addr) (c : Nat) (hl : x.seals.length ≤ 64) (M : LstM w A x.seals Se.cells 3) :
    Calls Try.prog 24 #[.agg (x.cells (.slice A x.seals.length c)).toArray] w fun e w' => Chg Non w w' ∧ ∃ v, e = .returned (.tuple #[v, .bool x.right]) ∧ Own 5 w' v x.enc := by
  have hl64 : inR 0 64 (x.seals.length : Int) = true := inR_iff.2 ⟨by omega, by omega⟩
  have HR : Hid (x.right = (inR 1 1099511627776 x.height && inR 0 1048576 x.round)) := Lib.hid (by unfold Cm.right; rw [hl64, Bool.and_true])
  have HE : Hid (x.enc = num 4 ++ (num x.height ++ (num x.round ++ (x.block ++ (num x.seals.length ++ x.seals.flatMap Se.enc))))) := Lib.hid rfl
  have H1 : Hid (∀ w', Calls Try.prog 51 #[.int .i64 x.round] w' (Newb w' (num x.round))) := Lib.hid fun w' => refNumber_any w' x.round
  have H2 : Hid (∀ w', Calls Try.prog 52 #[.agg (bv x.block).toArray] w' (Newb w' x.block)) := Lib.hid fun w' => refHash_any w' x.block ox.block
  have hlb := Lib.hid ox.block
  have hi2 : (Try.prog.info? 29).map (·.size) = some (bv x.block).length := by rw [bv_length, ox.block]; exact hash_row
  have I0 : Hid (∀ w', Calls Try.prog 50 #[.int .i64 x.height, .int .i64 1, .int .i64 1099511627776] w' fun e w'' => e = .returned (.bool (inR 1 1099511627776 x.height)) ∧ w'' = w') := Lib.hid fun w' => in_any w' _ _ _
  have I1 : Hid (∀ w', Calls Try.prog 50 #[.int .i64 x.round, .int .i64 0, .int .i64 1048576] w' fun e w'' => e = .returned (.bool (inR 0 1048576 x.round)) ∧ w'' = w') := Lib.hid fun w' => in_any w' _ _ _
  have HM := Lib.hid M
  have HOL := Lib.hid ox.seals
  have b0 := Hb.new w 32 (x.cells (.slice A x.seals.length c)).toArray
  have k0 : Chg Non w (w.alloc (.cells (x.cells (.slice A x.seals.length c)).toArray 32)) := (Chg.refl _ _).alloc _
  have AT : ∀ w1, Hid (w1 = w.alloc (.cells (x.cells (.slice A x.seals.length c)).toArray 32)) → ∀ w', Chg Non w1 w' → w'.cell? ⟨w.heap.size, 0, none⟩ = some (.int .i64 x.height) ∧ w'.cell? ⟨w.heap.size, 1, none⟩ = some (.int .i64 x.round) ∧ w'.rangeAt w.heap.size 2 (bv x.block) ∧ w'.cell? ⟨w.heap.size, 34, none⟩ = some (.slice A x.seals.length c) := fun w1 e w' k => at_Cm (b0.chg (by rw [← e.out]; exact k) (fun f => f)) ox.block
  have HAT := Lib.hid AT
  clear AT b0 hl64 M
  generalize hcs : x.cells (.slice A x.seals.length c) = cs at *
  generalize x.right = ok at *
  generalize x.enc = enc at *
  generalize x.height = y0 at *
  generalize x.round = y1 at *
  generalize x.block = y2 at *
  generalize x.seals = l at *
  generalize hn : l.length = n at *
  have HN := Lib.hid hn
  clear hcs ox hn
  generalize inR 1 1099511627776 y0 = p0 at *
  generalize inR 0 1048576 y1 = p1 at *
  have hn64 : (n : Int) ≤ 64 := by omega
  go_enter Try.func24, Try.ntmps24
  go_upto_region 1 with (with_reducible refine wpList_box_row rfl _ _ rfl (cs := cs.toArray) rfl ?_; intro w1 hw1; have HAU := Lib.hid (HAT.out w1 hw1))
  have hk01 : Chg Non w w1 := by rw [hw1.out]; exact k0
  obtain ⟨a0, a1, a2, a3⟩ := HAU.out w1 (Chg.refl _ _)
  clear hw1 k0 HAT
  go_cut [4] from 7 to 20 (fun s4 wx => s4 = .bool (p0 && p1) ∧ wx = w1)
  case first =>
    go_wp2_with fail
    refine (I0.out _).mono ?_
    rintro e wi ⟨rfl, hwi⟩
    obtain rfl : w1 = wi := hwi.symm
    cases p0
    · go_wp2_with fail
      go_meet
      exact ⟨by simp, rfl⟩
    · go_wp2_with fail
      refine (I1.out _).mono ?_
      rintro e wi ⟨rfl, hwi⟩
      obtain rfl : w1 = wi := hwi.symm
      cases p1
      · go_wp2_with fail
        go_meet
        exact ⟨by simp, rfl⟩
      · go_wp2_with fail
        go_meet
        exact ⟨by simp, rfl⟩
  case rest =>
  obtain ⟨rfl, hww⟩ := hcut
  obtain rfl : w1 = wc := hww.symm
  generalize hrr : (p0 && p1) = rr at *
  clear I0 I1 hrr
  have HA0 := Lib.hid a0
  go_upto_region 2 with fail
  go_cut [5] from 21 to 25 (fun s5 wx => Bts w1 wx s5 (num 4 ++ num y0))
  case first =>
    go_region_held3 (fun w' => w'.cell? ⟨w.heap.size, 0, none⟩ = some (.int .i64 y0)) (first | exact a0 | exact S8 | exact S7 | exact S6 | assumption)
      (first
        | (go_at_call_of 51 (Value.int IntKind.i64 4); refine (refNumber_any _ 4).mono ?_; rintro e w6 ⟨v6, rfl, o6, n6, j6⟩; have K6 : Chg Non w1 w6 := (by first | exact ((Chg.refl Non w1).drew).trans j6 (fun _ f => f.elim) | exact K7.trans j6 (fun _ f => f.elim)); have B6 : Bts w1 w6 v6 (num 4) := ⟨o6, fun k hk => Nat.le_trans (by first | exact Nat.le_refl _ | exact K7.size) (n6 k hk), K6⟩; have S6 := K6.cell a0 (fun f => f))
        | (go_at_call_of 51 (Value.int IntKind.i64 y0); refine (refNumber_any _ y0).mono ?_; rintro e w7 ⟨v7, rfl, o7, n7, j7⟩; obtain ⟨A7, c7, rfl, R7⟩ := o7.rd; have K7 : Chg Non w1 w7 := (by first | exact ((Chg.refl Non w1).drew).trans j7 (fun _ f => f.elim) | exact K6.trans j7 (fun _ f => f.elim)); have S7 := K7.cell a0 (fun f => f))
        | (refine step_app _ (by rfl) _ _ (by rfl) (l := num 4) (l2 := num y0) (by rfl) (by first | exact (B6.later j7).own | exact B6.own) (A := A7) (c := c7) (by rfl) (by rfl) (by first | exact R7 | exact R7.later j6) (by simp [num_length]) ?_; intro v8 w8 o8 g8 b8; have B8 : Bts w1 w8 v8 (num 4 ++ num y0) := (by first | exact (B6.later j7).app o8 g8 b8 | exact B6.app o8 g8 b8); have S8 := B8.chg.cell a0 (fun f => f))
        | fail)
    all_goals
      go_wp2_with fail
      go_meet
      exact B8
  case rest =>
  have B := hcut
  have q := HAU.out _ B.chg
  clear hcut a0 a1 a2 a3
  have d := q.2.1
  go_wp2_with fail
  refine (H1.out _).mono ?_
  rintro e wa ⟨va, rfl, oa, na, ja⟩
  obtain ⟨Aa, ca, rfl, Ra⟩ := oa.rd
  have Ba := B.later ja
  clear d q B oa na ja
  go_wp2_with (first | (at_builtin; refine wpList_app byt _ rfl _ _ rfl rfl Ba.own (A := Aa) (c := ca) rfl rfl Ra (by simp only [List.length_append, num_length]; omega) ?_; intro v9 w9 o9 g9 b9; have B := Ba.app o9 g9 b9; have q := HAU.out _ B.chg; have d := q.2.2.1) | (with_reducible refine wpList_load_mid rfl 29 _ rfl w.heap.size 2 rfl (bv y2) _ d Try.underlying29 rfl hi2 ?_))
  clear Ra Ba o9 g9 b9
  refine (H2.out _).mono ?_
  rintro e wa ⟨va, rfl, oa, na, ja⟩
  obtain ⟨Aa, ca, rfl, Ra⟩ := oa.rd
  have Ba := B.later ja
  clear d q B oa na ja
  go_wp2_with (at_builtin; refine wpList_app byt _ rfl _ _ rfl rfl Ba.own (A := Aa) (c := ca) rfl rfl Ra (by simp only [List.length_append, num_length, hlb.out]; omega) ?_; intro v9 w9 o9 g9 b9; have B := Ba.app o9 g9 b9; have q := HAU.out _ B.chg; have d := q.2.2.2)
  clear Ra Ba o9 g9 b9
  refine (refNumber_any _ (n : Int)).mono ?_
  rintro e wa ⟨va, rfl, oa, na, ja⟩
  obtain ⟨Aa, ca, rfl, Ra⟩ := oa.rd
  have Ba := B.later ja
  clear d q B oa na ja
  go_wp2_with (at_builtin; refine wpList_app byt _ rfl _ _ rfl rfl Ba.own (A := Aa) (c := ca) rfl rfl Ra (by simp only [List.length_append, num_length, hlb.out]; omega) ?_; intro v9 w9 o9 g9 b9)
  have HB0 := Lib.hid (Ba.app o9 g9 b9)
  clear Ra Ba o9 g9 b9
  obtain ⟨pb, hpb⟩ : ∃ pb, pb = (((num 4 ++ num y0) ++ num y1) ++ y2) ++ num (n : Int) := ⟨_, rfl⟩
  rw [← hpb] at HB0
  have HPB := Lib.hid hpb
  have HPL : Hid (pb.length ≤ 64) := Lib.hid (by rw [hpb]; simp only [List.length_append, num_length, hlb.out]; omega)
  clear hpb
  go_loopw [5, 6] (fun b i wr => ∃ q : Nat, q ≤ n ∧ i = .int .i64 (q : Int) ∧ Hid (Bts w1 wr b (pb ++ (l.take q).flatMap Se.enc))) (fun _ i _ => n - (intOf i).toNat)
  case atStart => exact ⟨0, by omega, rfl, Lib.hid (by simpa using HB0.out)⟩
  case round =>
    obtain ⟨q, hq, rfl, HB⟩ := hrel
    clear HB0
    have cS := (HAU.out wr HB.out.chg).2.2.2
    by_cases hlt : q < n
    · have hq1 : q < l.length := by rw [HN.out]; exact hlt
      have hx := List.getElem?_eq_getElem hq1
      have oy := HOL.out _ (List.getElem_mem hq1)
      obtain ⟨a, ao, rfl, _, r1⟩ := (HM.out.chg hk01) q _ hx
      have HNX : Hid ((l.take (q + 1)).flatMap Se.enc = (l.take q).flatMap Se.enc ++ (be 8 (l[q]).key ++ (be 8 (l[q]).r ++ be 8 (l[q]).s))) := Lib.hid (by rw [List.take_succ_eq_append_getElem hq1, List.flatMap_append]; simp [Se.enc])
      have HTL : Hid (((l.take q).flatMap Se.enc).length ≤ 1536) := Lib.hid (by rw [ses_enc_len, List.length_take]; omega)
      generalize l[q] = z at *
      have HEL : Hid (∀ w', Chg Non w1 w' → w'.cell? ⟨a, ao + q * 3, none⟩ = some (.int .u64 (z.key : Int)) ∧ w'.cell? ⟨a, ao + q * 3 + 1, none⟩ = some (.int .u64 (z.r : Int)) ∧ w'.cell? ⟨a, ao + q * 3 + 2, none⟩ = some (.int .u64 (z.s : Int)) ∧ w'.cell? ⟨w.heap.size, 34, none⟩ = some (.slice (some ⟨a, ao, none⟩) n c)) := Lib.hid fun w' k => by
        obtain ⟨e0, e1⟩ := rangeAt_cons (k.range' r1 (fun f => f))
        obtain ⟨e1, e2⟩ := rangeAt_cons e1
        exact ⟨e0, e1, (rangeAt_cons e2).1, (HAU.out w' k).2.2.2⟩
      generalize (l.take q).flatMap Se.enc = tl at *
      have hqi : (q : Int) < (n : Int) := by omega
      have hq64 : (q : Int) ≤ 64 := by omega
      have d0 := (HEL.out wr HB.out.chg).1
      have hk1 := oy.key
      have hk2 := oy.r
      have hk3 := oy.s
      clear hx hq1 r1 oy
      go_wp2_with fail
      refine (refWord_any _ z.key hk1).mono ?_
      rintro e wa ⟨va, rfl, oa, na, ja⟩
      obtain ⟨Aa, ca, rfl, Ra⟩ := oa.rd
      have Ba := HB.out.later ja
      clear d0 cS oa na ja
      go_wp2_with (at_builtin; refine wpList_app (v := u5) byt _ rfl _ _ rfl rfl Ba.own (A := Aa) (c := ca) rfl rfl Ra (by have := HTL.out; have := HPL.out; simp only [List.length_append, be_length]; omega) ?_; intro v6 w6 o6 g6 b6; have B6 := Ba.app o6 g6 b6; have d1 := (HEL.out w6 B6.chg).2.1; have cS := (HEL.out w6 B6.chg).2.2.2)
      clear Ra Ba o6 g6 b6
      refine (refWord_any _ z.r hk2).mono ?_
      rintro e wa ⟨va, rfl, oa, na, ja⟩
      obtain ⟨Aa, ca, rfl, Ra⟩ := oa.rd
      have Ba := B6.later ja
      clear d1 cS oa na ja B6
      go_wp2_with (at_builtin; refine wpList_app (v := v6) byt _ rfl _ _ rfl rfl Ba.own (A := Aa) (c := ca) rfl rfl Ra (by have := HTL.out; have := HPL.out; simp only [List.length_append, be_length]; omega) ?_; intro v7 w7 o7 g7 b7; have B7 := Ba.app o7 g7 b7; have d2 := (HEL.out w7 B7.chg).2.2.1; have cS := (HEL.out w7 B7.chg).2.2.2)
      clear Ra Ba o7 g7 b7
      refine (refWord_any _ z.s hk3).mono ?_
      rintro e wa ⟨va, rfl, oa, na, ja⟩
      obtain ⟨Aa, ca, rfl, Ra⟩ := oa.rd
      have Ba := B7.later ja
      clear d2 cS oa na ja B7
      go_wp2_with (at_builtin; refine wpList_app (v := v7) byt _ rfl _ _ rfl rfl Ba.own (A := Aa) (c := ca) rfl rfl Ra (by have := HTL.out; have := HPL.out; simp only [List.length_append, be_length]; omega) ?_; intro v8 w8 o8 g8 b8)
      have HB8 := Lib.hid (Ba.app o8 g8 b8)
      clear Ra Ba o8 g8 b8
      go_roundw
      case rel => exact ⟨q + 1, by omega, by go_num, Lib.hid (by rw [HNX.out]; simpa only [List.append_assoc] using HB8.out)⟩
      case measure => simp [intOf]; omega
    · obtain rfl : q = n := by omega
      have hq64 : (q : Int) ≤ 64 := by omega
      have hB := HB.out
      rw [show l.take q = l from by rw [← HN.out, List.take_length]] at hB
      have HBB := Lib.hid hB
      clear hB HB
      go_wp2_with fail
      go_ret2
      exact ⟨hk01.trans HBB.out.chg (fun _ f => f.elim), u5, by first | (rw [HR.out]; done) | (rw [HR.out]; rfl) | (rw [HR.out]; simp), by rw [HE.out]; have := HBB.out.own; rw [HPB.out] at this; simpa only [List.append_assoc] using this⟩
end Go.Proofs.Yteglpgakikigiaa
