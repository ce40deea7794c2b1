import Derived.Test.YtgonbmcfeehfaaaChecked
import Derived.WalkKit
import Derived.WalkLawsBesides
import Derived.Lib.Hide
import Derived.Deep.RegionLaw
import Derived.Test.YtgonbmcfeehfaaaMFormReads8
import Derived.Test.YtgonbmcfeehfaaaMFormReads15
/- The document's answers for forms: ReadProof. -/
namespace Go.Proofs.Ytgonbmcfeehfaaa
open Go.RowKit
set_option linter.unusedVariables false
set_option linter.unusedSimpArgs false
set_option maxRecDepth 20000

theorem built_Pf (n : Int) : Try.prog.built 45 [(0, .int .i64 n)] = some #[.int .i64 n, .slice none 0 0] := by kernel_rfl
theorem built_Pt (n : Int) : Try.prog.built 77 [(0, .int .i64 n)] = some #[.int .i64 n, .string ⟨#[]⟩, .string ⟨#[]⟩, .slice none 0 0] := by kernel_rfl
theorem zero_Pf : Try.prog.built 45 [] = some pfz.toArray := by kernel_rfl
/-- What the document's reading of a proof leaves. -/
def RefP (w : World) (z : List Value) (r : Option Pf) (e : Ending) (w' : World) : Prop :=
  Chg Non w w' ∧ match r with
    | some x => ∃ (A : Option Addr) (c : Nat) (ms : List Pm), ms.map Pm.part = x.parts ∧ e = .returned (.tuple #[.agg #[.int .i64 x.size, .slice A ms.length c], .int .i64 0]) ∧ LstM w' A ms Pm.cells 4 ∧ ∀ m ∈ ms, m.In w'
    | none => e = .returned (.tuple #[.agg z.toArray, .int .i64 61])
/-- Parts that were read, as an argument. -/
theorem own_parts {w : World} {vp : Value} {ms : List Pm} {ps : List Pa} (ho : OwnL 77 4 Pm.cells w vp ms) (hp : ∀ m ∈ ms, OwnL 26 32 bv w m.pathV m.part.path) (he : ms.map Pm.part = ps) (hok : ∀ x ∈ ps, x.Ok ∧ x.path.length ≤ 16) :
    ∃ A c, vp = .slice A ms.length c ∧ LstM w A ms Pm.cells 4 ∧ ∀ m ∈ ms, m.In w := by
  obtain ⟨A, c, e, _, _, h⟩ := ho.slice (fun x _ => rfl) (by omega)
  refine ⟨A, c, e, h, fun m hm => ?_⟩
  obtain ⟨o1, o2⟩ := hok m.part (by rw [← he]; exact List.mem_map_of_mem hm)
  obtain ⟨A', c', e', _, _, h'⟩ := (hp m hm).slice (fun x hx => by rw [bv_length]; exact o1.path x hx) (by omega)
  unfold Pm.pathV at e'
  injection e' with e1 e2 e3
  exact ⟨o1, by unfold maxLen; omega, by rw [e1]; exact h'⟩
set_option maxHeartbeats 6400000 in
theorem ReadProof_any (w : World) (A : Option Addr) (c : Nat) (bs : List UInt8) (hr : Rd w A bs) (hc : bs.length ≤ c) (hcm : c ≤ maxLen) (hA : bs ≠ [] → ∀ j, abl A j → j < w.heap.size) :
    Calls Try.prog 12 #[.slice A bs.length c] w (RefP w pfz (whole (dProof (some bs)))) := by
  rw [rProof_is]
  obtain ⟨hR2, hb2, hk2, hs2⟩ := rdF_new w 45 pfz A c bs hr hc hcm hA
  generalize hst : (some bs : St) = st at *
  have HN := refRNumber _ (w.heap.size + 1) (fun j => j < w.heap.size) st hR2 (fun j hj => by rw [hs2]; omega)
  have hz := dProof.alloc0
  have hzl := dProof.zlen
  have hrow := dProof.row
  have hzz := zero_Pf
  have hzone := pfz_one
  have hqz := part_alloc0
  have hqr := part_row
  have HX : Hid (∀ w' A c (ms : List Pm), LstM w' A ms Pm.cells 4 → (∀ m ∈ ms, m.In w') → ms.map Pm.part = (rProof st).1.parts → Calls Try.prog 33 #[.agg #[.int .i64 (vN (rBeg 7 st)), .slice A ms.length c]] w' fun e w'' => Chg Non w' w'' ∧ ∃ v, e = .returned (.tuple #[v, .bool (rProof st).1.right])) := Lib.hid fun w' A c ms h1 h2 h3 => by
    have hl : ms.length ≤ 2 := by
      have : (ms.map Pm.part).length = (rProof st).1.parts.length := by rw [h3]
      rw [List.length_map] at this
      have h4 : (rProof st).1.parts.length = (vC 2 (nW (rBeg 7 st))).toNat := rPs_len _ _
      have := vC_range 2 (nW (rBeg 7 st)) (by omega)
      omega
    have e : (⟨vN (rBeg 7 st), ms.map Pm.part⟩ : Pf) = (rProof st).1 := by rw [h3]; rfl
    have := refProof_any w' A c (vN (rBeg 7 st)) ms (vN_64 _) (by unfold maxLen; omega) h1 h2
    rw [e] at this
    exact this.mono fun e w'' ⟨h1, v, h2, _⟩ => ⟨h1, v, h2⟩
  have HPS : Hid ((rProof st).1.parts = (rPs (nC 2 (nW (rBeg 7 st))) (vC 2 (nW (rBeg 7 st))).toNat).1) := Lib.hid rfl
  have HOK : Hid (∀ x ∈ (rProof st).1.parts, x.Ok ∧ x.path.length ≤ 16) := Lib.hid (rPs_ok _ _)
  have HSZ : Hid ((rProof st).1.size = vN (rBeg 7 st)) := Lib.hid rfl
  have H9 : Hid ((rProof st).2 = (rPs (nC 2 (nW (rBeg 7 st))) (vC 2 (nW (rBeg 7 st))).toNat).2) := Lib.hid rfl
  have hs0 : rBeg 7 st = if vN st = 7 then nW st else none := rfl
  clear hst
  generalize (rProof st).1.right = ok at *
  generalize (rProof st).1 = xx at *
  generalize (rProof st).2 = s9 at *
  generalize rBeg 7 st = s1 at *
  generalize nW st = s0 at *
  generalize vN st = m at *
  generalize bs.length = n at *
  generalize hrr : (if s9 = some [] ∧ ok = true then some xx else none) = rr
  have HRR := Lib.hid hrr
  clear hrr
  have HZ := Lib.hid hz
  have HQZ := Lib.hid hqz
  have hz0 := hz w
  have HVV := Lib.hid HN
  obtain ⟨ih, zh, i1, i2, i3, i4, i5⟩ := hash_parts
  obtain ⟨ip, zp, j1, j2, j3, j4, j5⟩ := part_parts
  have IH := Lib.hid (And.intro i1 (And.intro i2 (And.intro i3 (And.intro i4 i5))))
  have IP := Lib.hid (And.intro j1 (And.intro j2 (And.intro j3 (And.intro j4 j5))))
  clear HN hz hqz hr hc hA hR2 i1 i2 i3 i4 i5 j1 j2 j3 j4 j5
  by_cases hk : m = 7
  · rw [if_pos hk] at hs0
    subst hs0
    subst hk
    go_enter Try.func12, Try.ntmps12
    generalize hpz : pfz = z at *
    clear hpz
    go_wp2_with (with_reducible refine wpList_alloc_row rfl _ rfl z hz0 ?_)
    generalize (w.alloc (.cells z.toArray 45)).alloc (.cells #[.slice A n c, .bool false] 56) = w2 at *
    refine HVV.out.mono ?_
    rintro e w1 ⟨rfl, hR, hK⟩
    have hb1 := hb2.chg hK (fun e => by unfold Eqg at e; omega)
    have hk1 := hk2.trans hK (fun j hj => .inr (by unfold Eqg at hj; omega))
    obtain ⟨A9, m9, c9, hblk⟩ := hR.blk
    have q1 : w1.cell? ⟨w.heap.size + 1, 1, none⟩ = some (.bool s1.isNone) := hblk.cell 1
    have q2 : w1.frozen? ⟨w.heap.size + 1, 1, none⟩ = false := hblk.frozen 1
    have hw1 := hK.size
    rw [hs2] at hw1
    clear HVV hz0 hK hblk hb2 hk2
    go_wp2_with fail
    have hR2 := hR.same
    have kk := (Chg.refl (Eqg (w.heap.size + 1)) w1).setCell (p := ⟨w.heap.size + 1, 1, none⟩) (.inl rfl) (.bool s1.isNone)
    have hb3 := hb1.chg kk (fun e => by unfold Eqg at e; omega)
    have hk3 := hk1.trans kk (fun j hj => .inr (by unfold Eqg at hj; omega))
    have hw3 := kk.size
    clear hb1 hk1 kk hR q1 q2
    generalize w1.setCell ⟨w.heap.size + 1, 1, none⟩ (.bool s1.isNone) = w3 at *
    refine (refRNumber w3 _ _ s1 hR2 (fun j hj => by omega)).mono ?_
    rintro e w4 ⟨rfl, hR4, hK4⟩
    have hb4 := hb3.chg hK4 (fun e => by unfold Eqg at e; omega)
    have hk4 := hk3.trans hK4 (fun j hj => .inr (by unfold Eqg at hj; omega))
    have hw4 := hK4.size
    have hz4 := HZ.out w4
    obtain ⟨K5, hN5, hth5⟩ := storedU w4 45 z [.int .i64 (vN (s1)), .slice none 0 0] hzl
    have hbu := built_Pf (vN (s1))
    have hone5 : ∀ v ∈ ([.int .i64 (vN (s1)), .slice none 0 0] : List Value), v.oneCell' = true := by intro v hv; simp at hv; rcases hv with rfl | rfl <;> rfl
    have hR5 := hR4.chg K5 (fun f => f) (fun _ _ f => f)
    have hb5 := hb4.chg K5 (fun f => f)
    have hk5 := hk4.trans K5 (fun _ f => f.elim)
    have hw5 := K5.size
    clear hb3 hk3 hR2 hb4 hk4 hR4 hK4 K5
    have hl5 : ([.int .i64 (vN (s1)), .slice none 0 0] : List Value).length = 2 := rfl
    rw [hl5] at hth5
    generalize hcs : ([.int .i64 (vN (s1)), .slice none 0 0] : List Value) = L0 at *
    have hLs0 : L0.toArray.size = 2 := by rw [List.size_toArray]; exact hl5
    have HCS := Lib.hid hcs
    clear hcs
    generalize hw5' : (w4.alloc (.cells z.toArray 45)).setCells w4.heap.size 0 L0 = w5 at *
    have HW5 := Lib.hid hw5'
    clear hw5'
    have hlt5 := hN5.lt
    go_wp2_with (first | (with_reducible refine wpList_build_row rfl 45 _ rfl (v := Value.int .i64 (vN (s1))) rfl hbu ?_) | (with_reducible refine wpList_alloc_row rfl _ rfl z hz4 ?_) | (with_reducible refine wpList_store_mid rfl 45 _ _ rfl w4.heap.size 0 L0.toArray rfl rfl (by rw [hLs0]; exact hth5) (by rw [hLs0, hrow]) (one_mem hone5) ?_; rw [List.toList_toArray, HW5.out]))
    rw [← HCS.out] at hN5
    clear hbu hz4 hth5 hone5 HW5 hl5 hLs0 HCS
    have hpb : w.heap.size + 1 < w4.heap.size := by omega
    generalize w4.heap.size = pb at *
    refine (refRCount w5 _ _ (nW (s1)) 2 hR5 (fun j hj => by omega)).mono ?_
    rintro e w6 ⟨rfl, hR6, hK6⟩
    have hb6 := hb5.chg hK6 (fun e => by unfold Eqg at e; omega)
    have hN6 := hN5.chg hK6 (fun e => by unfold Eqg at e; omega)
    have hk6 := hk5.trans hK6 (fun j hj => .inr (by unfold Eqg at hj; omega))
    have hw6 := hK6.size
    have P0 : PR w (w.heap.size + 1) w.heap.size pb (fun j => j < w.heap.size) z (vN (s1)) w6.heap.size (nC 2 (nW (s1))) (.slice none 0 0) [] w6 := ⟨hR6, hb6, hN6, OwnL.nil _, fun j hj => (by cases hj), fun m hm => (by cases hm), hk6, by omega, by omega, by omega, by omega, by omega, by omega, Nat.le_refl _, fun j hj => hj⟩
    have hvr := vC_range 2 (nW (s1)) (by omega)
    have hps := HPS.out
    have h9 := H9.out
    generalize nC 2 (nW (s1)) = s2 at *
    generalize vN (s1) = sz at *
    generalize vC 2 (nW (s1)) = nv at *
    obtain ⟨N, rfl⟩ : ∃ N : Nat, nv = (N : Int) := ⟨nv.toNat, by omega⟩
    rw [Int.toNat_natCast] at hps h9
    have HPS2 := Lib.hid hps
    have H92 := Lib.hid h9
    have hN2 : N ≤ 2 := by omega
    clear hvr hps h9 HPS H9 hR5 hb5 hN5 hk5 hK6 hR6 hb6 hN6 hk6 hlt5 hw1 hw3 hw4 hw5 hw6
    go_wp2_with fail
    go_loopw [7, 8, 9, 10] (fun i x k j wr => ∃ (q : Nat) (vp : Value) (ms : List Pm), q ≤ N ∧ i = .int .i64 (q : Int) ∧ Hid (PR w (w.heap.size + 1) w.heap.size pb (fun j => j < w.heap.size) z sz wr.heap.size (rPs s2 q).2 vp ms wr) ∧ Hid (ms.map Pm.part = (rPs s2 q).1)) (fun i _ _ _ _ => N - (intOf i).toNat)
    case atStart => exact ⟨0, _, [], by omega, rfl, Lib.hid P0, Lib.hid rfl⟩
    case round =>
      obtain ⟨q, vp, ms, hq, rfl, HP, HMS⟩ := hrel
      clear P0
      by_cases hlt : q < N
      · have hqi : (q : Int) < (N : Int) := by omega
        have HNX : Hid (rPs s2 (q + 1) = ((rPs s2 q).1 ++ [(rPa (rPs s2 q).2).1], (rPa (rPs s2 q).2).2)) := Lib.hid rfl
        have hml : ms.length ≤ 2 := by
          have := congrArg List.length HMS.out
          rw [List.length_map, rPs_len] at this
          omega
        have HML := Lib.hid hml
        have P := HP.out
        clear HP hml
        generalize (rPs s2 q).2 = sq at *
        generalize (rPs s2 q).1 = ps at *
        obtain ⟨B, hB⟩ : ∃ B, B = wr.heap.size := ⟨_, rfl⟩
        rw [← hB] at P
        have HB : Hid (B ≤ wr.heap.size) := Lib.hid (by omega)
        clear hB
        go_wp2_with fail
        refine (refRNumber wr _ _ sq P.rdr P.fsw).mono ?_
        rintro e w7 ⟨rfl, hR, hK⟩
        replace P := P.read hK hR
        have hB7 : B ≤ w7.heap.size := P.lt
        obtain ⟨K8, hN8, hth8⟩ := storedU w7 77 partZ [.int .i64 (vN sq), .string ⟨#[]⟩, .string ⟨#[]⟩, .slice none 0 0] rfl
        have hq7 := HQZ.out w7
        have hbu := built_Pt (vN sq)
        have hone8 : ∀ v ∈ ([.int .i64 (vN sq), .string ⟨#[]⟩, .string ⟨#[]⟩, .slice none 0 0] : List Value), v.oneCell' = true := by intro v hv; simp at hv; rcases hv with rfl | rfl | rfl | rfl <;> rfl
        replace P := P.non K8
        have X : Hb _ w7.heap.size 77 #[.int .i64 (vN sq), .string ⟨#[]⟩, .string ⟨#[]⟩, .slice none 0 0] := hN8
        clear hK hR hN8
        have hl8 : ([.int .i64 (vN sq), .string ⟨#[]⟩, .string ⟨#[]⟩, .slice none 0 0] : List Value).length = 4 := rfl
        rw [hl8] at hth8
        generalize hcs : ([.int .i64 (vN sq), .string ⟨#[]⟩, .string ⟨#[]⟩, .slice none 0 0] : List Value) = L0 at *
        have hLs0 : L0.toArray.size = 4 := by rw [List.size_toArray]; exact hl8
        have HCS := Lib.hid hcs
        clear hcs
        generalize hw8' : (w7.alloc (.cells partZ.toArray 77)).setCells w7.heap.size 0 L0 = w8 at *
        have HW8 := Lib.hid hw8'
        clear hw8' K8
        go_wp2_with (first | (with_reducible refine wpList_build_row rfl 77 _ rfl (v := Value.int .i64 (vN sq)) rfl hbu ?_) | (with_reducible refine wpList_alloc_row rfl _ rfl partZ hq7 ?_) | (with_reducible refine wpList_store_mid rfl 77 _ _ rfl w7.heap.size 0 L0.toArray rfl rfl (by rw [hLs0]; exact hth8) (by rw [hLs0, hqr]) (one_mem hone8) ?_; rw [List.toList_toArray, HW8.out]))
        rw [← HCS.out] at X
        clear hbu hq7 hth8 hone8 HW8 hl8 hLs0 HCS
        generalize w7.heap.size = xb at *
        have hxg : xb ≠ w.heap.size + 1 := by have := P.wg; omega
        refine (refRText w8 _ _ _ P.rdr P.fsw).mono ?_
        rintro e w9 ⟨rfl, hR, hK⟩
        replace P := P.read hK hR
        replace X := X.chg hK hxg
        have cc : w9.cell? ⟨xb, 1, none⟩ = some (.string ⟨#[]⟩) := X.cell 1
        have ff : w9.frozen? ⟨xb, 1, none⟩ = false := X.frozen 1
        have k9 := (Chg.refl (fun j => j = xb) w9).setCell (p := ⟨xb, 1, none⟩) (.inl rfl) (.string ⟨(vT (nW sq)).toArray⟩)
        replace P := P.far k9 (fun j hj => by omega)
        replace X : Hb _ xb 77 #[.int .i64 (vN sq), .string ⟨(vT (nW sq)).toArray⟩, .string ⟨#[]⟩, .slice none 0 0] := X.set 1 (.string ⟨(vT (nW sq)).toArray⟩)
        clear hK hR k9
        go_wp2_with fail
        clear cc ff
        refine (refRText _ _ _ _ P.rdr P.fsw).mono ?_
        rintro e w10 ⟨rfl, hR, hK⟩
        replace P := P.read hK hR
        replace X := X.chg hK hxg
        have cc : w10.cell? ⟨xb, 2, none⟩ = some (.string ⟨#[]⟩) := X.cell 2
        have ff : w10.frozen? ⟨xb, 2, none⟩ = false := X.frozen 2
        have k9 := (Chg.refl (fun j => j = xb) w10).setCell (p := ⟨xb, 2, none⟩) (.inl rfl) (.string ⟨(vT (nT (nW sq))).toArray⟩)
        replace P := P.far k9 (fun j hj => by omega)
        replace X : Hb _ xb 77 #[.int .i64 (vN sq), .string ⟨(vT (nW sq)).toArray⟩, .string ⟨(vT (nT (nW sq))).toArray⟩, .slice none 0 0] := X.set 2 (.string ⟨(vT (nT (nW sq))).toArray⟩)
        clear hK hR k9
        go_wp2_with fail
        clear cc ff
        refine (refRCount _ _ _ _ 16 P.rdr P.fsw).mono ?_
        rintro e w11 ⟨rfl, hR, hK⟩
        replace P := P.read hK hR
        replace X := X.chg hK hxg
        have HPA : Hid (rPa sq = (⟨vN sq, ⟨(vT (nW sq)).toArray⟩, ⟨(vT (nT (nW sq))).toArray⟩, (rHs (nC 16 (nT (nT (nW sq)))) (vC 16 (nT (nT (nW sq)))).toNat).1⟩, (rHs (nC 16 (nT (nT (nW sq)))) (vC 16 (nT (nT (nW sq)))).toNat).2)) := Lib.hid rfl
        have hvr := vC_range 16 (nT (nT (nW sq))) (by omega)
        clear hK hR
        generalize nC 16 (nT (nT (nW sq))) = s6 at *
        generalize vN sq = ix at *
        generalize (⟨(vT (nW sq)).toArray⟩ : ByteArray) = ky at *
        generalize (⟨(vT (nT (nW sq))).toArray⟩ : ByteArray) = vu at *
        generalize vC 16 (nT (nT (nW sq))) = kv at *
        obtain ⟨kk, rfl⟩ : ∃ kk : Nat, kv = (kk : Int) := ⟨kv.toNat, by omega⟩
        have hkk : kk ≤ 16 := by omega
        have hpa := HPA.out
        rw [Int.toNat_natCast] at hpa
        have HPA2 := Lib.hid hpa
        have HP0 := Lib.hid P
        have HX0 := Lib.hid X
        clear hvr HPA hpa P X
        go_wp2_with fail
        go_loopw [10] (fun j wi => ∃ (r : Nat) (vq : Value), r ≤ kk ∧ j = .int .i64 (r : Int) ∧ Hid (PR w (w.heap.size + 1) w.heap.size pb (fun j => j < w.heap.size) z sz B (rHs s6 r).2 vp ms wi) ∧ Hid (Hb wi xb 77 #[.int .i64 ix, .string ky, .string vu, vq]) ∧ Hid (OwnL 26 32 bv wi vq (rHs s6 r).1) ∧ Hid (∀ j, vbl vq j → B ≤ j)) (fun j _ => kk - (intOf j).toNat)
        case atStart => exact ⟨0, .slice none 0 0, by omega, rfl, HP0, HX0, Lib.hid (OwnL.nil _), Lib.hid (fun j hj => by cases hj)⟩
        case round =>
          obtain ⟨r, vq, hr, rfl, HP, HX1, HO, HV⟩ := hrel
          clear HP0 HX0
          by_cases hlr : r < kk
          · have hri : (r : Int) < (kk : Int) := by omega
            have HNR : Hid (rHs s6 (r + 1) = ((rHs s6 r).1 ++ [vH (rHs s6 r).2], nH (rHs s6 r).2)) := Lib.hid rfl
            have hll : Hid ((rHs s6 r).1.length ≤ 16) := Lib.hid (by rw [rHs_len]; omega)
            have HL32 : Hid (∀ x ∈ (rHs s6 r).1, x.length = 32) := Lib.hid (rHs_32 s6 r)
            generalize (rHs s6 r).2 = sr at *
            generalize (rHs s6 r).1 = lr at *
            have PD := HP.out.non ((Chg.refl Non wr).drew)
            have HH := refRHash wr.drew _ _ sr PD.rdr PD.fsw
            have hvl := vH_length sr
            have HHH := Lib.hid HH
            have HVL := Lib.hid hvl
            have HPD := Lib.hid PD
            have HXD := Lib.hid (HX1.out.chg ((Chg.refl Non wr).drew) (fun f => f))
            have HOD := Lib.hid (HO.out.chg ((Chg.refl Non wr).drew) (fun _ _ f => f))
            have HVG : Hid (∀ j, vbl vq j → ¬ Eqg (w.heap.size + 1) j) := Lib.hid (fun j hj e => by have := HV.out j hj; have := HP.out.wg; unfold Eqg at e; omega)
            have c3 : wr.drew.cell? ⟨xb, 3, none⟩ = some vq := HXD.out.cell 3
            have hbl : (bv (vH sr)).length = 32 := by rw [bv_length]; exact hvl
            have hfold : List.foldl (fun (cs : Array Value) (x : Value × Nat) => cs.setIfInBounds x.snd x.fst) #[Value.int .u8 0, Value.int .u8 0, Value.int .u8 0, Value.int .u8 0, Value.int .u8 0, Value.int .u8 0, Value.int .u8 0, Value.int .u8 0, Value.int .u8 0, Value.int .u8 0, Value.int .u8 0, Value.int .u8 0, Value.int .u8 0, Value.int .u8 0, Value.int .u8 0, Value.int .u8 0, Value.int .u8 0, Value.int .u8 0, Value.int .u8 0, Value.int .u8 0, Value.int .u8 0, Value.int .u8 0, Value.int .u8 0, Value.int .u8 0, Value.int .u8 0, Value.int .u8 0, Value.int .u8 0, Value.int .u8 0, Value.int .u8 0, Value.int .u8 0, Value.int .u8 0, Value.int .u8 0] (bv (vH sr)).zipIdx = (bv (vH sr)).toArray := by
              have := fill_whole (bv (vH sr)) (List.replicate 32 (Value.int .u8 0)).toArray (by simp [hbl])
              simpa using this
            clear HH hvl PD
            go_wp2_with fail
            go_region_law
              (first
                | (refine step_call _ (by rfl) 32 _ _ (by rfl) (by rfl) ent_hash HHH.out ?_; rintro e wx ⟨rfl, hR, hK⟩; have PX := HPD.out.read hK hR; have XX := HXD.out.chg hK hxg; have OX := HOD.out.chg hK HVG.out; have cx : wx.cell? ⟨xb, 3, none⟩ = some vq := XX.cell 3; have ka := (Chg.refl Non wx).alloc (.cells (bv (vH sr)).toArray 26); have PY := PX.non ka; have XY := XX.chg ka (fun f => f); have OY := OX.chg ka (fun _ _ f => f); have hnb := Hb.new wx 26 (bv (vH sr)).toArray; have cy : (wx.alloc (.cells (bv (vH sr)).toArray 26)).cell? ⟨xb, 3, none⟩ = some vq := XY.cell 3; refine ⟨_, rfl, ?_⟩)
                | (refine step_app1 _ (by rfl) _ _ (by rfl) Try.underlying75 IH.out.1 IH.out.2.1 IH.out.2.2.2.1 IH.out.2.2.2.2 IH.out.2.2.1 (by omega) (by omega) (by rfl) OY (vH sr) (by rw [bv_length]; exact HVL.out) (bv_one _) (by rfl) hnb (by have := hll.out; omega) ?_; intro v9 w9 o9 g9 b9; obtain ⟨A8, c8, hv9, _, _, _⟩ := o9.slice (fun x hx => by rw [bv_length]; rcases List.mem_append.1 hx with hx | hx; exact HL32.out x hx; rw [List.mem_singleton.1 hx]; exact HVL.out) (by omega); rw [List.length_append, List.length_singleton] at hv9; subst hv9; have k9 := (Chg.refl (fun j => vbl vq j) _).grown g9 (fun k hk => .inl hk); have XZ := XY.chg k9 (OY.ne XY (by decide)); have cz : w9.cell? ⟨xb, 3, none⟩ = some vq := XZ.cell 3; have fz : w9.frozen? ⟨xb, 3, none⟩ = false := XZ.frozen 3)
                | fail)
            all_goals
              have PZ := PY.far k9 (fun j hj => HV.out j hj)
              have ks := (Chg.refl (fun j => j = xb) w9).setCell (p := ⟨xb, 3, none⟩) (.inl rfl) (.slice A8 (lr.length + 1) c8)
              have PF := PZ.far ks (fun j hj => by omega)
              have XF : Hb _ xb 77 #[.int .i64 ix, .string ky, .string vu, .slice A8 (lr.length + 1) c8] := XZ.set 3 _
              have OF := o9.chg ks (fun j hj e => by subst e; exact o9.ne XZ (by decide) hj)
              have VF : ∀ j, vbl (.slice A8 (lr.length + 1) c8) j → B ≤ j := fun j hj => by
                rcases b9 with b9 | b9
                · exact HV.out j (by unfold vbl at hj ⊢; rw [← b9]; exact hj)
                · unfold vbl at hj; rw [b9] at hj; injection hj with hj; have := PY.lt; omega
              have HPF := Lib.hid PF
              have HXF := Lib.hid XF
              have HOF := Lib.hid OF
              have HVF := Lib.hid VF
              clear PZ ks PF XF OF VF PX XX OX ka PY XY OY hnb cy cx k9 XZ cz fz o9 g9 b9 hK hR HHH HPD HXD HOD hbl hfold c3
              go_wp2_with fail
              go_roundw
              case rel => exact ⟨r + 1, _, by omega, by go_num, Lib.hid (by rw [HNR.out]; exact HPF.out), HXF, Lib.hid (by rw [HNR.out]; exact HOF.out), HVF⟩
              case measure => simp [intOf]; omega
          · obtain rfl : r = kk := by omega
            have hl16 : Hid ((rHs s6 r).1.length ≤ 16) := Lib.hid (by rw [rHs_len]; omega)
            have HL32 : Hid (∀ x ∈ (rHs s6 r).1, x.length = 32) := Lib.hid (rHs_32 s6 r)
            generalize (rHs s6 r).2 = sr at *
            generalize (rHs s6 r).1 = lr at *
            have P := HP.out
            have O := HO.out
            obtain ⟨A8, c8, rfl, _, _, _⟩ := O.slice (fun x hx => by rw [bv_length]; exact HL32.out x hx) (by omega)
            have X := HX1.out
            have rx : wr.rangeAt xb 0 [.int .i64 ix, .string ky, .string vu, .slice A8 lr.length c8] := (show Hb wr xb 77 [Value.int .i64 ix, .string ky, .string vu, .slice A8 lr.length c8].toArray from X).range0
            have cb : wr.cell? ⟨pb, 1, none⟩ = some vp := P.box.cell 1
            have hli : (Try.prog.info? 77).map (·.size) = some ([.int .i64 ix, .string ky, .string vu, .slice A8 lr.length c8] : List Value).length := hqr
            have kn := (Chg.refl Non wr).alloc (.cells [Value.int .i64 ix, .string ky, .string vu, .slice A8 lr.length c8].toArray 77)
            have hnb := Hb.new wr 77 [Value.int .i64 ix, .string ky, .string vu, .slice A8 lr.length c8].toArray
            have on := P.own.chg kn (fun _ _ f => f)
            have bn := P.box.chg kn (fun f => f)
            have h1n : ∀ u ∈ Pm.cells ⟨⟨ix, ky, vu, lr⟩, A8, c8⟩, u.oneCell' = true := by intro v hv; simp [Pm.cells] at hv; rcases hv with rfl | rfl | rfl | rfl <;> rfl
            have HPP := Lib.hid P
            have HOO := Lib.hid O
            clear P O X
            generalize hcs : ([.int .i64 ix, .string ky, .string vu, .slice A8 lr.length c8] : List Value) = L9 at *
            have hl9 : L9.length = 4 := by rw [← hcs]; rfl
            have hce : Pm.cells ⟨⟨ix, ky, vu, lr⟩, A8, c8⟩ = L9 := hcs
            have HCS := Lib.hid hcs
            clear hcs
            have hl7 : ms.length ≤ 1000 := by have := HML.out; omega
            have HL7 := Lib.hid hl7
            clear hl7
            go_wp2_with (first
              | (with_reducible refine wpList_load_mid rfl 77 _ rfl xb 0 rfl L9 _ rx Try.underlying77 rfl hli ?_)
              | (with_reducible refine wpList_build1 _ rfl _ rfl Try.underlying43 IP.out.1 IP.out.2.1 IP.out.2.2.2.1 (by omega) (by omega) L9 rfl hl9 ?_)
              | (at_builtin; refine wpList_app1 _ rfl _ _ rfl Try.underlying43 IP.out.1 IP.out.2.1 IP.out.2.2.2.1 IP.out.2.2.2.2 IP.out.2.2.1 (by omega) (by omega) rfl on (⟨⟨ix, ky, vu, lr⟩, A8, c8⟩ : Pm) (by rw [hce]; exact hl9) h1n rfl (by rw [hce]; exact hnb) HL7.out ?_; intro v9 w9 o9 g9 b9; obtain ⟨A7, c7, hv9, _, _, _⟩ := o9.slice (fun x hx => rfl) (by omega); rw [List.length_append, List.length_singleton] at hv9; subst hv9; have k9 := (Chg.refl (fun j => vbl vp j) _).grown g9 (fun k hk => .inl hk); have bz := bn.chg k9 (on.ne bn (by decide)); have cz : w9.cell? ⟨pb, 1, none⟩ = some vp := bz.cell 1; have fz : w9.frozen? ⟨pb, 1, none⟩ = false := bz.frozen 1))
            have PN := HPP.out.push (x := ⟨⟨ix, ky, vu, lr⟩, A8, c8⟩) kn o9 g9 b9 HOO.out (fun j hj => by have := HV.out j hj; have := HPP.out.wg; omega)
            have HPN := Lib.hid PN
            have hmn : Hid ((ms ++ [(⟨⟨ix, ky, vu, lr⟩, A8, c8⟩ : Pm)]).map Pm.part = (rPs s2 (q + 1)).1) := Lib.hid (by rw [HNX.out, HPA2.out, List.map_append, HMS.out]; rfl)
            have hst : Hid (sr = (rPs s2 (q + 1)).2) := Lib.hid (by rw [HNX.out, HPA2.out])
            rw [hst.out] at HPN
            clear PN kn o9 g9 b9 cz fz bz k9 on bn hnb rx cb h1n hce HCS
            go_roundw
            case rel => exact ⟨q + 1, _, _, by omega, by go_num, HPN, hmn⟩
            case measure => simp [intOf]; omega
      · obtain rfl : q = N := by omega
        have P := HP.out
        have PQ := HPS2.out
        have EQ := HMS.out.trans PQ.symm
        have hs9 := H92.out
        rw [← hs9] at P
        obtain ⟨A8, c8, hvp, M, IN⟩ := own_parts P.own (fun m hm => (P.paths m hm).1) EQ HOK.out
        subst hvp
        have HXX := Lib.hid (HX.out wr A8 c8 ms M IN EQ)
        have hL2 : ([.int .i64 sz, .slice A8 ms.length c8] : List Value).length = 2 := rfl
        have hLone : ∀ v ∈ ([.int .i64 sz, .slice A8 ms.length c8] : List Value), v.oneCell' = true := by intro v hv; simp at hv; rcases hv with rfl | rfl <;> rfl
        have r4 : wr.rangeAt pb 0 [.int .i64 sz, .slice A8 ms.length c8] := (show Hb wr pb 45 [Value.int .i64 sz, .slice A8 ms.length c8].toArray from P.box).range0
        have HPP := Lib.hid P
        have HEQ := Lib.hid EQ
        clear P EQ M IN PQ hs9 HP HX
        generalize hcs : ([.int .i64 sz, .slice A8 ms.length c8] : List Value) = L at *
        have HCS := Lib.hid hcs
        clear hcs
        have hLs : L.toArray.size = 2 := by rw [List.size_toArray]; exact hL2
        have hLi : (Try.prog.info? 45).map (·.size) = some L.length := by rw [hL2]; exact hrow
        have hzs : z.toArray.size = 2 := by rw [List.size_toArray]; exact hzl
        go_wp2_with (with_reducible refine wpList_load_mid rfl 45 _ rfl pb 0 rfl L _ r4 Try.underlying45 rfl hLi ?_)
        refine HXX.out.mono ?_
        rintro e w15 ⟨k5, v, rfl⟩
        have P5 := HPP.out.non k5
        have hb5 := P5.res
        have HE := ends_any w15 _ _ s9 ok P5.rdr
        have ht5 := hb5.there0
        rw [hzl] at ht5
        have HP5 := Lib.hid P5
        have r5 := (show w15.rangeAt pb 0 L from k5.range' r4 (fun f => f))
        clear HXX k5 r4 P5 HPP
        by_cases hok : s9 = some [] ∧ ok = true
        · rw [if_pos hok] at HE
          obtain rfl : rr = some xx := HRR.out.symm.trans (if_pos hok)
          clear hok HRR
          have b9 := hb5.sets0 (L' := L) (hzl.trans hL2.symm)
          go_wp2_with fail
          refine HE.mono ?_
          rintro e w16 ⟨rfl, rfl⟩
          clear HE
          go_wp2_with (first | (with_reducible refine wpList_load_mid rfl 45 _ rfl pb 0 rfl L _ r5 Try.underlying45 rfl hLi ?_) | (with_reducible refine wpList_store_mid rfl 45 _ _ rfl w.heap.size 0 L.toArray rfl rfl (by rw [hLs]; exact ht5) (by rw [hLs, hrow]) (one_mem hLone) ?_))
          refine bodyPost_ret ((results_cell_tmp rfl _ _ _).trans ?_) rfl (R := RefP w z (some xx)) (v := .tuple #[.agg L.toArray, .int .i64 0]) ?_
          · simp only [asAddr, Sem.run_pure, Result.andThen_ok]
            have hl := load_row b9 Try.underlying45 rfl hLi
            simp [hl]
          · have P5 := HP5.out
            have ks := Chg.setCells (S := fun j => j = w.heap.size) rfl L _ 0 (Chg.refl _ w16)
            obtain ⟨A7, c7, e7, M7, I7⟩ := own_parts (P5.own.chg ks (fun j hj e => by subst e; exact P5.own.ne P5.res (by decide) hj)) (fun m hm => (P5.paths m hm).1.chg ks (fun j hj e => by subst e; exact (P5.paths m hm).1.ne P5.res (by decide) hj)) HEQ.out HOK.out
            injection e7 with e1 e2 e3
            subst e1
            exact ⟨P5.chg.trans ks (fun j hj => .inr (by omega)), A8, c8, ms, HEQ.out, by rw [HSZ.out, ← HCS.out], M7, I7⟩
        · rw [if_neg hok] at HE
          obtain rfl : rr = none := HRR.out.symm.trans (if_neg hok)
          clear hok HRR
          have b9 := hb5.sets0 (L' := z) rfl
          have hzi : (Try.prog.info? 45).map (·.size) = some z.length := by rw [hzl]; exact hrow
          go_wp2_with fail
          refine HE.mono ?_
          rintro e w16 ⟨rfl, rfl⟩
          clear HE
          go_wp2_with (first | (with_reducible refine wpList_build_zero rfl 45 rfl hzz ?_) | (with_reducible refine wpList_store_mid rfl 45 _ _ rfl w.heap.size 0 z.toArray rfl rfl (by rw [hzs]; exact ht5) (by rw [hzs, hrow]) (one_mem hzone) ?_))
          refine bodyPost_ret ((results_cell_tmp rfl _ _ _).trans ?_) rfl (R := RefP w z none) (v := .tuple #[.agg z.toArray, .int .i64 61]) ?_
          · simp only [asAddr, Sem.run_pure, Result.andThen_ok]
            have hl := load_row b9 Try.underlying45 rfl hzi
            simp [hl]
          · exact ⟨HP5.out.chg.trans (Chg.setCells (S := fun j => j = w.heap.size) rfl z _ 0 (Chg.refl _ _)) (fun j hj => .inr (by omega)), rfl⟩
  · rw [if_neg hk] at hs0
    subst hs0
    go_enter Try.func12, Try.ntmps12
    generalize hpz : pfz = z at *
    clear hpz
    go_wp2_with (with_reducible refine wpList_alloc_row rfl _ rfl z hz0 ?_)
    generalize (w.alloc (.cells z.toArray 45)).alloc (.cells #[.slice A n c, .bool false] 56) = w2 at *
    refine HVV.out.mono ?_
    rintro e w1 ⟨rfl, hR, hK⟩
    have hb1 := hb2.chg hK (fun e => by unfold Eqg at e; omega)
    have hk1 := hk2.trans hK (fun j hj => .inr (by unfold Eqg at hj; omega))
    obtain ⟨A9, m9, c9, hblk⟩ := hR.blk
    have q1 : w1.cell? ⟨w.heap.size + 1, 1, none⟩ = some (.bool s0.isNone) := hblk.cell 1
    have q2 : w1.frozen? ⟨w.heap.size + 1, 1, none⟩ = false := hblk.frozen 1
    have hw1 := hK.size
    rw [hs2] at hw1
    clear HVV hz0 hK hblk hb2 hk2
    go_wp2_with fail
    have hR2 := hR.brk
    have kk := (Chg.refl (Eqg (w.heap.size + 1)) w1).setCell (p := ⟨w.heap.size + 1, 1, none⟩) (.inl rfl) (.bool true)
    have hb3 := hb1.chg kk (fun e => by unfold Eqg at e; omega)
    have hk3 := hk1.trans kk (fun j hj => .inr (by unfold Eqg at hj; omega))
    have hw3 := kk.size
    clear hb1 hk1 kk hR q1 q2
    generalize w1.setCell ⟨w.heap.size + 1, 1, none⟩ (.bool true) = w3 at *
    refine (refRNumber w3 _ _ none hR2 (fun j hj => by omega)).mono ?_
    rintro e w4 ⟨rfl, hR4, hK4⟩
    have hb4 := hb3.chg hK4 (fun e => by unfold Eqg at e; omega)
    have hk4 := hk3.trans hK4 (fun j hj => .inr (by unfold Eqg at hj; omega))
    have hw4 := hK4.size
    have hz4 := HZ.out w4
    obtain ⟨K5, hN5, hth5⟩ := storedU w4 45 z [.int .i64 (vN (none)), .slice none 0 0] hzl
    have hbu := built_Pf (vN (none))
    have hone5 : ∀ v ∈ ([.int .i64 (vN (none)), .slice none 0 0] : List Value), v.oneCell' = true := by intro v hv; simp at hv; rcases hv with rfl | rfl <;> rfl
    have hR5 := hR4.chg K5 (fun f => f) (fun _ _ f => f)
    have hb5 := hb4.chg K5 (fun f => f)
    have hk5 := hk4.trans K5 (fun _ f => f.elim)
    have hw5 := K5.size
    clear hb3 hk3 hR2 hb4 hk4 hR4 hK4 K5
    have hl5 : ([.int .i64 (vN (none)), .slice none 0 0] : List Value).length = 2 := rfl
    rw [hl5] at hth5
    generalize hcs : ([.int .i64 (vN (none)), .slice none 0 0] : List Value) = L0 at *
    have hLs0 : L0.toArray.size = 2 := by rw [List.size_toArray]; exact hl5
    have HCS := Lib.hid hcs
    clear hcs
    generalize hw5' : (w4.alloc (.cells z.toArray 45)).setCells w4.heap.size 0 L0 = w5 at *
    have HW5 := Lib.hid hw5'
    clear hw5'
    have hlt5 := hN5.lt
    go_wp2_with (first | (with_reducible refine wpList_build_row rfl 45 _ rfl (v := Value.int .i64 (vN (none))) rfl hbu ?_) | (with_reducible refine wpList_alloc_row rfl _ rfl z hz4 ?_) | (with_reducible refine wpList_store_mid rfl 45 _ _ rfl w4.heap.size 0 L0.toArray rfl rfl (by rw [hLs0]; exact hth5) (by rw [hLs0, hrow]) (one_mem hone5) ?_; rw [List.toList_toArray, HW5.out]))
    rw [← HCS.out] at hN5
    clear hbu hz4 hth5 hone5 HW5 hl5 hLs0 HCS
    have hpb : w.heap.size + 1 < w4.heap.size := by omega
    generalize w4.heap.size = pb at *
    refine (refRCount w5 _ _ (nW (none)) 2 hR5 (fun j hj => by omega)).mono ?_
    rintro e w6 ⟨rfl, hR6, hK6⟩
    have hb6 := hb5.chg hK6 (fun e => by unfold Eqg at e; omega)
    have hN6 := hN5.chg hK6 (fun e => by unfold Eqg at e; omega)
    have hk6 := hk5.trans hK6 (fun j hj => .inr (by unfold Eqg at hj; omega))
    have hw6 := hK6.size
    have P0 : PR w (w.heap.size + 1) w.heap.size pb (fun j => j < w.heap.size) z (vN (none)) w6.heap.size (nC 2 (nW (none))) (.slice none 0 0) [] w6 := ⟨hR6, hb6, hN6, OwnL.nil _, fun j hj => (by cases hj), fun m hm => (by cases hm), hk6, by omega, by omega, by omega, by omega, by omega, by omega, Nat.le_refl _, fun j hj => hj⟩
    have hvr := vC_range 2 (nW (none)) (by omega)
    have hps := HPS.out
    have h9 := H9.out
    generalize nC 2 (nW (none)) = s2 at *
    generalize vN (none) = sz at *
    generalize vC 2 (nW (none)) = nv at *
    obtain ⟨N, rfl⟩ : ∃ N : Nat, nv = (N : Int) := ⟨nv.toNat, by omega⟩
    rw [Int.toNat_natCast] at hps h9
    have HPS2 := Lib.hid hps
    have H92 := Lib.hid h9
    have hN2 : N ≤ 2 := by omega
    clear hvr hps h9 HPS H9 hR5 hb5 hN5 hk5 hK6 hR6 hb6 hN6 hk6 hlt5 hw1 hw3 hw4 hw5 hw6
    go_wp2_with fail
    go_loopw [7, 8, 9, 10] (fun i x k j wr => ∃ (q : Nat) (vp : Value) (ms : List Pm), q ≤ N ∧ i = .int .i64 (q : Int) ∧ Hid (PR w (w.heap.size + 1) w.heap.size pb (fun j => j < w.heap.size) z sz wr.heap.size (rPs s2 q).2 vp ms wr) ∧ Hid (ms.map Pm.part = (rPs s2 q).1)) (fun i _ _ _ _ => N - (intOf i).toNat)
    case atStart => exact ⟨0, _, [], by omega, rfl, Lib.hid P0, Lib.hid rfl⟩
    case round =>
      obtain ⟨q, vp, ms, hq, rfl, HP, HMS⟩ := hrel
      clear P0
      by_cases hlt : q < N
      · have hqi : (q : Int) < (N : Int) := by omega
        have HNX : Hid (rPs s2 (q + 1) = ((rPs s2 q).1 ++ [(rPa (rPs s2 q).2).1], (rPa (rPs s2 q).2).2)) := Lib.hid rfl
        have hml : ms.length ≤ 2 := by
          have := congrArg List.length HMS.out
          rw [List.length_map, rPs_len] at this
          omega
        have HML := Lib.hid hml
        have P := HP.out
        clear HP hml
        generalize (rPs s2 q).2 = sq at *
        generalize (rPs s2 q).1 = ps at *
        obtain ⟨B, hB⟩ : ∃ B, B = wr.heap.size := ⟨_, rfl⟩
        rw [← hB] at P
        have HB : Hid (B ≤ wr.heap.size) := Lib.hid (by omega)
        clear hB
        go_wp2_with fail
        refine (refRNumber wr _ _ sq P.rdr P.fsw).mono ?_
        rintro e w7 ⟨rfl, hR, hK⟩
        replace P := P.read hK hR
        have hB7 : B ≤ w7.heap.size := P.lt
        obtain ⟨K8, hN8, hth8⟩ := storedU w7 77 partZ [.int .i64 (vN sq), .string ⟨#[]⟩, .string ⟨#[]⟩, .slice none 0 0] rfl
        have hq7 := HQZ.out w7
        have hbu := built_Pt (vN sq)
        have hone8 : ∀ v ∈ ([.int .i64 (vN sq), .string ⟨#[]⟩, .string ⟨#[]⟩, .slice none 0 0] : List Value), v.oneCell' = true := by intro v hv; simp at hv; rcases hv with rfl | rfl | rfl | rfl <;> rfl
        replace P := P.non K8
        have X : Hb _ w7.heap.size 77 #[.int .i64 (vN sq), .string ⟨#[]⟩, .string ⟨#[]⟩, .slice none 0 0] := hN8
        clear hK hR hN8
        have hl8 : ([.int .i64 (vN sq), .string ⟨#[]⟩, .string ⟨#[]⟩, .slice none 0 0] : List Value).length = 4 := rfl
        rw [hl8] at hth8
        generalize hcs : ([.int .i64 (vN sq), .string ⟨#[]⟩, .string ⟨#[]⟩, .slice none 0 0] : List Value) = L0 at *
        have hLs0 : L0.toArray.size = 4 := by rw [List.size_toArray]; exact hl8
        have HCS := Lib.hid hcs
        clear hcs
        generalize hw8' : (w7.alloc (.cells partZ.toArray 77)).setCells w7.heap.size 0 L0 = w8 at *
        have HW8 := Lib.hid hw8'
        clear hw8' K8
        go_wp2_with (first | (with_reducible refine wpList_build_row rfl 77 _ rfl (v := Value.int .i64 (vN sq)) rfl hbu ?_) | (with_reducible refine wpList_alloc_row rfl _ rfl partZ hq7 ?_) | (with_reducible refine wpList_store_mid rfl 77 _ _ rfl w7.heap.size 0 L0.toArray rfl rfl (by rw [hLs0]; exact hth8) (by rw [hLs0, hqr]) (one_mem hone8) ?_; rw [List.toList_toArray, HW8.out]))
        rw [← HCS.out] at X
        clear hbu hq7 hth8 hone8 HW8 hl8 hLs0 HCS
        generalize w7.heap.size = xb at *
        have hxg : xb ≠ w.heap.size + 1 := by have := P.wg; omega
        refine (refRText w8 _ _ _ P.rdr P.fsw).mono ?_
        rintro e w9 ⟨rfl, hR, hK⟩
        replace P := P.read hK hR
        replace X := X.chg hK hxg
        have cc : w9.cell? ⟨xb, 1, none⟩ = some (.string ⟨#[]⟩) := X.cell 1
        have ff : w9.frozen? ⟨xb, 1, none⟩ = false := X.frozen 1
        have k9 := (Chg.refl (fun j => j = xb) w9).setCell (p := ⟨xb, 1, none⟩) (.inl rfl) (.string ⟨(vT (nW sq)).toArray⟩)
        replace P := P.far k9 (fun j hj => by omega)
        replace X : Hb _ xb 77 #[.int .i64 (vN sq), .string ⟨(vT (nW sq)).toArray⟩, .string ⟨#[]⟩, .slice none 0 0] := X.set 1 (.string ⟨(vT (nW sq)).toArray⟩)
        clear hK hR k9
        go_wp2_with fail
        clear cc ff
        refine (refRText _ _ _ _ P.rdr P.fsw).mono ?_
        rintro e w10 ⟨rfl, hR, hK⟩
        replace P := P.read hK hR
        replace X := X.chg hK hxg
        have cc : w10.cell? ⟨xb, 2, none⟩ = some (.string ⟨#[]⟩) := X.cell 2
        have ff : w10.frozen? ⟨xb, 2, none⟩ = false := X.frozen 2
        have k9 := (Chg.refl (fun j => j = xb) w10).setCell (p := ⟨xb, 2, none⟩) (.inl rfl) (.string ⟨(vT (nT (nW sq))).toArray⟩)
        replace P := P.far k9 (fun j hj => by omega)
        replace X : Hb _ xb 77 #[.int .i64 (vN sq), .string ⟨(vT (nW sq)).toArray⟩, .string ⟨(vT (nT (nW sq))).toArray⟩, .slice none 0 0] := X.set 2 (.string ⟨(vT (nT (nW sq))).toArray⟩)
        clear hK hR k9
        go_wp2_with fail
        clear cc ff
        refine (refRCount _ _ _ _ 16 P.rdr P.fsw).mono ?_
        rintro e w11 ⟨rfl, hR, hK⟩
        replace P := P.read hK hR
        replace X := X.chg hK hxg
        have HPA : Hid (rPa sq = (⟨vN sq, ⟨(vT (nW sq)).toArray⟩, ⟨(vT (nT (nW sq))).toArray⟩, (rHs (nC 16 (nT (nT (nW sq)))) (vC 16 (nT (nT (nW sq)))).toNat).1⟩, (rHs (nC 16 (nT (nT (nW sq)))) (vC 16 (nT (nT (nW sq)))).toNat).2)) := Lib.hid rfl
        have hvr := vC_range 16 (nT (nT (nW sq))) (by omega)
        clear hK hR
        generalize nC 16 (nT (nT (nW sq))) = s6 at *
        generalize vN sq = ix at *
        generalize (⟨(vT (nW sq)).toArray⟩ : ByteArray) = ky at *
        generalize (⟨(vT (nT (nW sq))).toArray⟩ : ByteArray) = vu at *
        generalize vC 16 (nT (nT (nW sq))) = kv at *
        obtain ⟨kk, rfl⟩ : ∃ kk : Nat, kv = (kk : Int) := ⟨kv.toNat, by omega⟩
        have hkk : kk ≤ 16 := by omega
        have hpa := HPA.out
        rw [Int.toNat_natCast] at hpa
        have HPA2 := Lib.hid hpa
        have HP0 := Lib.hid P
        have HX0 := Lib.hid X
        clear hvr HPA hpa P X
        go_wp2_with fail
        go_loopw [10] (fun j wi => ∃ (r : Nat) (vq : Value), r ≤ kk ∧ j = .int .i64 (r : Int) ∧ Hid (PR w (w.heap.size + 1) w.heap.size pb (fun j => j < w.heap.size) z sz B (rHs s6 r).2 vp ms wi) ∧ Hid (Hb wi xb 77 #[.int .i64 ix, .string ky, .string vu, vq]) ∧ Hid (OwnL 26 32 bv wi vq (rHs s6 r).1) ∧ Hid (∀ j, vbl vq j → B ≤ j)) (fun j _ => kk - (intOf j).toNat)
        case atStart => exact ⟨0, .slice none 0 0, by omega, rfl, HP0, HX0, Lib.hid (OwnL.nil _), Lib.hid (fun j hj => by cases hj)⟩
        case round =>
          obtain ⟨r, vq, hr, rfl, HP, HX1, HO, HV⟩ := hrel
          clear HP0 HX0
          by_cases hlr : r < kk
          · have hri : (r : Int) < (kk : Int) := by omega
            have HNR : Hid (rHs s6 (r + 1) = ((rHs s6 r).1 ++ [vH (rHs s6 r).2], nH (rHs s6 r).2)) := Lib.hid rfl
            have hll : Hid ((rHs s6 r).1.length ≤ 16) := Lib.hid (by rw [rHs_len]; omega)
            have HL32 : Hid (∀ x ∈ (rHs s6 r).1, x.length = 32) := Lib.hid (rHs_32 s6 r)
            generalize (rHs s6 r).2 = sr at *
            generalize (rHs s6 r).1 = lr at *
            have PD := HP.out.non ((Chg.refl Non wr).drew)
            have HH := refRHash wr.drew _ _ sr PD.rdr PD.fsw
            have hvl := vH_length sr
            have HHH := Lib.hid HH
            have HVL := Lib.hid hvl
            have HPD := Lib.hid PD
            have HXD := Lib.hid (HX1.out.chg ((Chg.refl Non wr).drew) (fun f => f))
            have HOD := Lib.hid (HO.out.chg ((Chg.refl Non wr).drew) (fun _ _ f => f))
            have HVG : Hid (∀ j, vbl vq j → ¬ Eqg (w.heap.size + 1) j) := Lib.hid (fun j hj e => by have := HV.out j hj; have := HP.out.wg; unfold Eqg at e; omega)
            have c3 : wr.drew.cell? ⟨xb, 3, none⟩ = some vq := HXD.out.cell 3
            have hbl : (bv (vH sr)).length = 32 := by rw [bv_length]; exact hvl
            have hfold : List.foldl (fun (cs : Array Value) (x : Value × Nat) => cs.setIfInBounds x.snd x.fst) #[Value.int .u8 0, Value.int .u8 0, Value.int .u8 0, Value.int .u8 0, Value.int .u8 0, Value.int .u8 0, Value.int .u8 0, Value.int .u8 0, Value.int .u8 0, Value.int .u8 0, Value.int .u8 0, Value.int .u8 0, Value.int .u8 0, Value.int .u8 0, Value.int .u8 0, Value.int .u8 0, Value.int .u8 0, Value.int .u8 0, Value.int .u8 0, Value.int .u8 0, Value.int .u8 0, Value.int .u8 0, Value.int .u8 0, Value.int .u8 0, Value.int .u8 0, Value.int .u8 0, Value.int .u8 0, Value.int .u8 0, Value.int .u8 0, Value.int .u8 0, Value.int .u8 0, Value.int .u8 0] (bv (vH sr)).zipIdx = (bv (vH sr)).toArray := by
              have := fill_whole (bv (vH sr)) (List.replicate 32 (Value.int .u8 0)).toArray (by simp [hbl])
              simpa using this
            clear HH hvl PD
            go_wp2_with fail
            go_region_law
              (first
                | (refine step_call _ (by rfl) 32 _ _ (by rfl) (by rfl) ent_hash HHH.out ?_; rintro e wx ⟨rfl, hR, hK⟩; have PX := HPD.out.read hK hR; have XX := HXD.out.chg hK hxg; have OX := HOD.out.chg hK HVG.out; have cx : wx.cell? ⟨xb, 3, none⟩ = some vq := XX.cell 3; have ka := (Chg.refl Non wx).alloc (.cells (bv (vH sr)).toArray 26); have PY := PX.non ka; have XY := XX.chg ka (fun f => f); have OY := OX.chg ka (fun _ _ f => f); have hnb := Hb.new wx 26 (bv (vH sr)).toArray; have cy : (wx.alloc (.cells (bv (vH sr)).toArray 26)).cell? ⟨xb, 3, none⟩ = some vq := XY.cell 3; refine ⟨_, rfl, ?_⟩)
                | (refine step_app1 _ (by rfl) _ _ (by rfl) Try.underlying75 IH.out.1 IH.out.2.1 IH.out.2.2.2.1 IH.out.2.2.2.2 IH.out.2.2.1 (by omega) (by omega) (by rfl) OY (vH sr) (by rw [bv_length]; exact HVL.out) (bv_one _) (by rfl) hnb (by have := hll.out; omega) ?_; intro v9 w9 o9 g9 b9; obtain ⟨A8, c8, hv9, _, _, _⟩ := o9.slice (fun x hx => by rw [bv_length]; rcases List.mem_append.1 hx with hx | hx; exact HL32.out x hx; rw [List.mem_singleton.1 hx]; exact HVL.out) (by omega); rw [List.length_append, List.length_singleton] at hv9; subst hv9; have k9 := (Chg.refl (fun j => vbl vq j) _).grown g9 (fun k hk => .inl hk); have XZ := XY.chg k9 (OY.ne XY (by decide)); have cz : w9.cell? ⟨xb, 3, none⟩ = some vq := XZ.cell 3; have fz : w9.frozen? ⟨xb, 3, none⟩ = false := XZ.frozen 3)
                | fail)
            all_goals
              have PZ := PY.far k9 (fun j hj => HV.out j hj)
              have ks := (Chg.refl (fun j => j = xb) w9).setCell (p := ⟨xb, 3, none⟩) (.inl rfl) (.slice A8 (lr.length + 1) c8)
              have PF := PZ.far ks (fun j hj => by omega)
              have XF : Hb _ xb 77 #[.int .i64 ix, .string ky, .string vu, .slice A8 (lr.length + 1) c8] := XZ.set 3 _
              have OF := o9.chg ks (fun j hj e => by subst e; exact o9.ne XZ (by decide) hj)
              have VF : ∀ j, vbl (.slice A8 (lr.length + 1) c8) j → B ≤ j := fun j hj => by
                rcases b9 with b9 | b9
                · exact HV.out j (by unfold vbl at hj ⊢; rw [← b9]; exact hj)
                · unfold vbl at hj; rw [b9] at hj; injection hj with hj; have := PY.lt; omega
              have HPF := Lib.hid PF
              have HXF := Lib.hid XF
              have HOF := Lib.hid OF
              have HVF := Lib.hid VF
              clear PZ ks PF XF OF VF PX XX OX ka PY XY OY hnb cy cx k9 XZ cz fz o9 g9 b9 hK hR HHH HPD HXD HOD hbl hfold c3
              go_wp2_with fail
              go_roundw
              case rel => exact ⟨r + 1, _, by omega, by go_num, Lib.hid (by rw [HNR.out]; exact HPF.out), HXF, Lib.hid (by rw [HNR.out]; exact HOF.out), HVF⟩
              case measure => simp [intOf]; omega
          · obtain rfl : r = kk := by omega
            have hl16 : Hid ((rHs s6 r).1.length ≤ 16) := Lib.hid (by rw [rHs_len]; omega)
            have HL32 : Hid (∀ x ∈ (rHs s6 r).1, x.length = 32) := Lib.hid (rHs_32 s6 r)
            generalize (rHs s6 r).2 = sr at *
            generalize (rHs s6 r).1 = lr at *
            have P := HP.out
            have O := HO.out
            obtain ⟨A8, c8, rfl, _, _, _⟩ := O.slice (fun x hx => by rw [bv_length]; exact HL32.out x hx) (by omega)
            have X := HX1.out
            have rx : wr.rangeAt xb 0 [.int .i64 ix, .string ky, .string vu, .slice A8 lr.length c8] := (show Hb wr xb 77 [Value.int .i64 ix, .string ky, .string vu, .slice A8 lr.length c8].toArray from X).range0
            have cb : wr.cell? ⟨pb, 1, none⟩ = some vp := P.box.cell 1
            have hli : (Try.prog.info? 77).map (·.size) = some ([.int .i64 ix, .string ky, .string vu, .slice A8 lr.length c8] : List Value).length := hqr
            have kn := (Chg.refl Non wr).alloc (.cells [Value.int .i64 ix, .string ky, .string vu, .slice A8 lr.length c8].toArray 77)
            have hnb := Hb.new wr 77 [Value.int .i64 ix, .string ky, .string vu, .slice A8 lr.length c8].toArray
            have on := P.own.chg kn (fun _ _ f => f)
            have bn := P.box.chg kn (fun f => f)
            have h1n : ∀ u ∈ Pm.cells ⟨⟨ix, ky, vu, lr⟩, A8, c8⟩, u.oneCell' = true := by intro v hv; simp [Pm.cells] at hv; rcases hv with rfl | rfl | rfl | rfl <;> rfl
            have HPP := Lib.hid P
            have HOO := Lib.hid O
            clear P O X
            generalize hcs : ([.int .i64 ix, .string ky, .string vu, .slice A8 lr.length c8] : List Value) = L9 at *
            have hl9 : L9.length = 4 := by rw [← hcs]; rfl
            have hce : Pm.cells ⟨⟨ix, ky, vu, lr⟩, A8, c8⟩ = L9 := hcs
            have HCS := Lib.hid hcs
            clear hcs
            have hl7 : ms.length ≤ 1000 := by have := HML.out; omega
            have HL7 := Lib.hid hl7
            clear hl7
            go_wp2_with (first
              | (with_reducible refine wpList_load_mid rfl 77 _ rfl xb 0 rfl L9 _ rx Try.underlying77 rfl hli ?_)
              | (with_reducible refine wpList_build1 _ rfl _ rfl Try.underlying43 IP.out.1 IP.out.2.1 IP.out.2.2.2.1 (by omega) (by omega) L9 rfl hl9 ?_)
              | (at_builtin; refine wpList_app1 _ rfl _ _ rfl Try.underlying43 IP.out.1 IP.out.2.1 IP.out.2.2.2.1 IP.out.2.2.2.2 IP.out.2.2.1 (by omega) (by omega) rfl on (⟨⟨ix, ky, vu, lr⟩, A8, c8⟩ : Pm) (by rw [hce]; exact hl9) h1n rfl (by rw [hce]; exact hnb) HL7.out ?_; intro v9 w9 o9 g9 b9; obtain ⟨A7, c7, hv9, _, _, _⟩ := o9.slice (fun x hx => rfl) (by omega); rw [List.length_append, List.length_singleton] at hv9; subst hv9; have k9 := (Chg.refl (fun j => vbl vp j) _).grown g9 (fun k hk => .inl hk); have bz := bn.chg k9 (on.ne bn (by decide)); have cz : w9.cell? ⟨pb, 1, none⟩ = some vp := bz.cell 1; have fz : w9.frozen? ⟨pb, 1, none⟩ = false := bz.frozen 1))
            have PN := HPP.out.push (x := ⟨⟨ix, ky, vu, lr⟩, A8, c8⟩) kn o9 g9 b9 HOO.out (fun j hj => by have := HV.out j hj; have := HPP.out.wg; omega)
            have HPN := Lib.hid PN
            have hmn : Hid ((ms ++ [(⟨⟨ix, ky, vu, lr⟩, A8, c8⟩ : Pm)]).map Pm.part = (rPs s2 (q + 1)).1) := Lib.hid (by rw [HNX.out, HPA2.out, List.map_append, HMS.out]; rfl)
            have hst : Hid (sr = (rPs s2 (q + 1)).2) := Lib.hid (by rw [HNX.out, HPA2.out])
            rw [hst.out] at HPN
            clear PN kn o9 g9 b9 cz fz bz k9 on bn hnb rx cb h1n hce HCS
            go_roundw
            case rel => exact ⟨q + 1, _, _, by omega, by go_num, HPN, hmn⟩
            case measure => simp [intOf]; omega
      · obtain rfl : q = N := by omega
        have P := HP.out
        have PQ := HPS2.out
        have EQ := HMS.out.trans PQ.symm
        have hs9 := H92.out
        rw [← hs9] at P
        obtain ⟨A8, c8, hvp, M, IN⟩ := own_parts P.own (fun m hm => (P.paths m hm).1) EQ HOK.out
        subst hvp
        have HXX := Lib.hid (HX.out wr A8 c8 ms M IN EQ)
        have hL2 : ([.int .i64 sz, .slice A8 ms.length c8] : List Value).length = 2 := rfl
        have hLone : ∀ v ∈ ([.int .i64 sz, .slice A8 ms.length c8] : List Value), v.oneCell' = true := by intro v hv; simp at hv; rcases hv with rfl | rfl <;> rfl
        have r4 : wr.rangeAt pb 0 [.int .i64 sz, .slice A8 ms.length c8] := (show Hb wr pb 45 [Value.int .i64 sz, .slice A8 ms.length c8].toArray from P.box).range0
        have HPP := Lib.hid P
        have HEQ := Lib.hid EQ
        clear P EQ M IN PQ hs9 HP HX
        generalize hcs : ([.int .i64 sz, .slice A8 ms.length c8] : List Value) = L at *
        have HCS := Lib.hid hcs
        clear hcs
        have hLs : L.toArray.size = 2 := by rw [List.size_toArray]; exact hL2
        have hLi : (Try.prog.info? 45).map (·.size) = some L.length := by rw [hL2]; exact hrow
        have hzs : z.toArray.size = 2 := by rw [List.size_toArray]; exact hzl
        go_wp2_with (with_reducible refine wpList_load_mid rfl 45 _ rfl pb 0 rfl L _ r4 Try.underlying45 rfl hLi ?_)
        refine HXX.out.mono ?_
        rintro e w15 ⟨k5, v, rfl⟩
        have P5 := HPP.out.non k5
        have hb5 := P5.res
        have HE := ends_any w15 _ _ s9 ok P5.rdr
        have ht5 := hb5.there0
        rw [hzl] at ht5
        have HP5 := Lib.hid P5
        have r5 := (show w15.rangeAt pb 0 L from k5.range' r4 (fun f => f))
        clear HXX k5 r4 P5 HPP
        by_cases hok : s9 = some [] ∧ ok = true
        · rw [if_pos hok] at HE
          obtain rfl : rr = some xx := HRR.out.symm.trans (if_pos hok)
          clear hok HRR
          have b9 := hb5.sets0 (L' := L) (hzl.trans hL2.symm)
          go_wp2_with fail
          refine HE.mono ?_
          rintro e w16 ⟨rfl, rfl⟩
          clear HE
          go_wp2_with (first | (with_reducible refine wpList_load_mid rfl 45 _ rfl pb 0 rfl L _ r5 Try.underlying45 rfl hLi ?_) | (with_reducible refine wpList_store_mid rfl 45 _ _ rfl w.heap.size 0 L.toArray rfl rfl (by rw [hLs]; exact ht5) (by rw [hLs, hrow]) (one_mem hLone) ?_))
          refine bodyPost_ret ((results_cell_tmp rfl _ _ _).trans ?_) rfl (R := RefP w z (some xx)) (v := .tuple #[.agg L.toArray, .int .i64 0]) ?_
          · simp only [asAddr, Sem.run_pure, Result.andThen_ok]
            have hl := load_row b9 Try.underlying45 rfl hLi
            simp [hl]
          · have P5 := HP5.out
            have ks := Chg.setCells (S := fun j => j = w.heap.size) rfl L _ 0 (Chg.refl _ w16)
            obtain ⟨A7, c7, e7, M7, I7⟩ := own_parts (P5.own.chg ks (fun j hj e => by subst e; exact P5.own.ne P5.res (by decide) hj)) (fun m hm => (P5.paths m hm).1.chg ks (fun j hj e => by subst e; exact (P5.paths m hm).1.ne P5.res (by decide) hj)) HEQ.out HOK.out
            injection e7 with e1 e2 e3
            subst e1
            exact ⟨P5.chg.trans ks (fun j hj => .inr (by omega)), A8, c8, ms, HEQ.out, by rw [HSZ.out, ← HCS.out], M7, I7⟩
        · rw [if_neg hok] at HE
          obtain rfl : rr = none := HRR.out.symm.trans (if_neg hok)
          clear hok HRR
          have b9 := hb5.sets0 (L' := z) rfl
          have hzi : (Try.prog.info? 45).map (·.size) = some z.length := by rw [hzl]; exact hrow
          go_wp2_with fail
          refine HE.mono ?_
          rintro e w16 ⟨rfl, rfl⟩
          clear HE
          go_wp2_with (first | (with_reducible refine wpList_build_zero rfl 45 rfl hzz ?_) | (with_reducible refine wpList_store_mid rfl 45 _ _ rfl w.heap.size 0 z.toArray rfl rfl (by rw [hzs]; exact ht5) (by rw [hzs, hrow]) (one_mem hzone) ?_))
          refine bodyPost_ret ((results_cell_tmp rfl _ _ _).trans ?_) rfl (R := RefP w z none) (v := .tuple #[.agg z.toArray, .int .i64 61]) ?_
          · simp only [asAddr, Sem.run_pure, Result.andThen_ok]
            have hl := load_row b9 Try.underlying45 rfl hzi
            simp [hl]
          · exact ⟨HP5.out.chg.trans (Chg.setCells (S := fun j => j = w.heap.size) rfl z _ 0 (Chg.refl _ _)) (fun j hj => .inr (by omega)), rfl⟩
end Go.Proofs.Ytgonbmcfeehfaaa
