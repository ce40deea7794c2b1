/- Of the program at this commit: the law FormLists answers true for all bytes (they are the validators, the commit and the light block that the document says, or none; they stay); no condition. -/
import Derived.Test.YteglpgakikigiaaRows
import Derived.WalkKit
import Derived.ProofKit
import Derived.Test.YteglpgakikigiaaMFormLists16
import Derived.Test.YteglpgakikigiaaMFormLists3
namespace Go.Proofs.Yteglpgakikigiaa.formLists
open Go.ChangeShapes Go.WideShapes Go.ChangeAt Go.RowKit
set_option linter.unusedVariables false

set_option maxRecDepth 100000 in
set_option maxHeartbeats 6400000 in
theorem walk (W : World) (v0 : Value) (h0 : Okv Try.prog W 22 v0) :
    Calls Try.prog 3 #[v0] W fun e W' => e = .returned (.bool true) ∧ Below W.heap.size W W' := by
  obtain ⟨A, c, bs, rfl, hc, hcm, hr, hA0⟩ := bytes_arg h0
  have hA : bs ≠ [] → ∀ j, abl A j → j < W.heap.size := fun hl j hj => hA0 j hl hj
  clear h0 hA0
  by_cases big : 20000 < bs.length
  · have big' : (20000 : Int) < (bs.length : Int) := by omega
    unfold maxLen at hcm
    have hl63 : (bs.length : Int) ≤ 9223372036854775807 := by omega
    go_enter Try.func3, Try.ntmps3
    go_wp2_with fail
    refine (alive_any _).mono ?_
    rintro e w1 ⟨rfl, hc1⟩
    go_wp2
    go_ret
    exact ⟨rfl, hc1.below (Nat.le_refl _) (fun _ f => f.elim)⟩
  have hb : ¬ (20000 : Int) < (bs.length : Int) := by omega
  have hbs : bs.length ≤ 20000 := by omega
  have hcm' := hcm
  unfold maxLen at hcm'
  obtain ⟨lS, nS, kS, S1, S2, S3⟩ := set_pack bs hbs
  obtain ⟨lC, fC, kC, hlC, hoC, C1, C2, C3⟩ := commit_pack bs hbs
  obtain ⟨l1, l2, l3, fT, kT, hlT, hoT, T1, T2, T3⟩ := light_pack bs hbs
  have HP := Lib.hid (And.intro S1 (And.intro S2 (And.intro S3 (And.intro C1 (And.intro C2 (And.intro C3 (And.intro T1 (And.intro T2 T3))))))))
  have HLC := Lib.hid hlC
  have HOC := Lib.hid hoC
  have HLT := Lib.hid hlT
  have HOT := Lib.hid hoT
  have hrowC : (Try.prog.info? 32).map (·.size) = some 35 := cm_rowU
  have hrowT : (Try.prog.info? 38).map (·.size) = some 200 := dLight.row
  clear S1 S2 S3 C1 C2 C3 T1 T2 T3 hlC hoC hlT hoT
  go_enter Try.func3, Try.ntmps3
  go_wp2_with (first
    | (at_builtin; refine wpList_app byt _ rfl _ _ rfl (v := .slice (some ⟨W.heap.size, 0, none⟩) 0 0) rfl (own_zero W) rfl rfl (hr.chg ((Chg.refl Non W).alloc _) (fun _ _ f => f)) (by simp; omega) ?_; intro v5 w5 ho5 hgr5 hloc5)
    | (at_builtin; refine wpList_app byt _ rfl _ _ rfl (v := v5) rfl (ho5.chg ((Chg.refl Non w5).alloc _) (fun _ _ f => f)) rfl (l2 := [77]) rfl (rd_byte w5 77) (by simp; omega) ?_; intro v6 w6 ho6 hgr6 hloc6; rw [List.nil_append] at ho6; obtain ⟨A6, c6, rfl, hc6, hm6, hr6, hab6, hlt6⟩ := ho6.slice; rw [List.length_append, List.length_singleton] at hc6))
  have G0 : Grow W (W.alloc (.cells #[] 5)) (.slice (some ⟨W.heap.size, 0, none⟩) 0 0) [] := ⟨own_zero W, fun k hk => by have hk' : some W.heap.size = some k := hk; injection hk' with e; omega, (Chg.refl Non W).alloc _⟩
  have G6 := (G0.more (Chg.refl _ _) ho5 hgr5 hloc5).more ((Chg.refl Non w5).alloc _) ho6 hgr6 hloc6
  have hC := G6.chg
  clear G0 G6 ho5 hgr5 hloc5 ho6 hgr6 hloc6
  obtain ⟨ad6, rfl, _⟩ := hr6.blk_lt (by simp)
  replace hr := hr.chg hC (fun _ _ f => f)
  replace hA : bs ≠ [] → ∀ j, abl A j → j < w6.heap.size := fun hl j hj => Nat.lt_of_lt_of_le (hA hl j hj) hC.size
  clear hab6 hlt6
  have own : ∀ {w : World}, Rd w (some ad6) (bs ++ [77]) → Rd w (some ad6) bs := fun {w} h => by have := h.take bs.length; rwa [List.take_left] at this
  have OWN := Lib.hid (fun (w : World) => @own w)
  clear own
  refine (HP.out.1 w6 _ _ (OWN.out _ hr6)).mono ?_
  rintro e x1 ⟨kd, AS1, cS1, rfl, MS1⟩
  replace hC := hC.trans kd (fun _ f => f.elim)
  replace hr := hr.chg kd (fun _ _ f => f)
  replace hr6 := hr6.chg kd (fun _ _ f => f)
  replace hA := fun hl j hj => Nat.lt_of_lt_of_le (hA hl j hj) kd.size
  clear kd
  go_wp2_with fail
  refine (HP.out.2.1 x1 _ _ hr hc hcm hA).mono ?_
  rintro e x2 ⟨kd, AS2, cS2, rfl, MS2⟩
  replace hC := hC.trans kd (fun _ f => f.elim)
  replace hr := hr.chg kd (fun _ _ f => f)
  replace hr6 := hr6.chg kd (fun _ _ f => f)
  replace hA := fun hl j hj => Nat.lt_of_lt_of_le (hA hl j hj) kd.size
  replace MS1 := MS1.chg kd
  clear kd
  go_wp2_with fail
  refine (HP.out.2.2.2.1 x2 _ _ (OWN.out _ hr6)).mono ?_
  rintro e x3 ⟨kd, AC1, cC1, rfl, MC1⟩
  replace hC := hC.trans kd (fun _ f => f.elim)
  replace hr := hr.chg kd (fun _ _ f => f)
  replace hr6 := hr6.chg kd (fun _ _ f => f)
  replace hA := fun hl j hj => Nat.lt_of_lt_of_le (hA hl j hj) kd.size
  replace MS1 := MS1.chg kd
  replace MS2 := MS2.chg kd
  clear kd
  have hln : (fC AC1 cC1).length = 35 := HLC.out _ _
  have hon : ∀ v ∈ fC AC1 cC1, v.oneCell' = true := HOC.out _ _
  generalize hLg : fC AC1 cC1 = LC1 at *
  have HLGC1 := Lib.hid hLg
  clear hLg
  have hlnC1 := hln
  have hls : LC1.toArray.size = 35 := by rw [List.size_toArray]; exact hln
  have hz := cm_alloc0 x3
  obtain ⟨K, BC1, hth⟩ := storedU x3 32 (cmz) LC1 (cmz_len.trans hln.symm)
  rw [hln] at hth
  generalize hwz : ((x3.alloc (.cells (cmz).toArray 32)).setCells x3.heap.size 0 LC1) = x4 at *
  replace hC := hC.trans K (fun _ f => f.elim)
  replace hr := hr.chg K (fun _ _ f => f)
  replace hr6 := hr6.chg K (fun _ _ f => f)
  replace hA := fun hl j hj => Nat.lt_of_lt_of_le (hA hl j hj) K.size
  replace MS1 := MS1.chg K
  replace MS2 := MS2.chg K
  replace MC1 := MC1.chg K
  have hwz' := Lib.hid hwz
  clear hwz
  generalize cmz = zz at *
  go_wp2_with (first | (with_reducible refine wpList_alloc_row rfl _ rfl zz hz ?_) | (with_reducible refine wpList_store_mid rfl 32 _ _ rfl x3.heap.size 0 LC1.toArray rfl rfl (by rw [hls]; exact hth) (by rw [hls, hrowC]) (one_mem hon) ?_; rw [List.toList_toArray, hwz'.out]))
  clear hth hwz' K hz hls hon hln
  generalize hbC1 : x3.heap.size = bC1 at *
  clear hbC1
  refine (HP.out.2.2.2.2.1 x4 _ _ hr hc hcm hA).mono ?_
  rintro e x5 ⟨kd, AC2, cC2, rfl, MC2⟩
  replace hC := hC.trans kd (fun _ f => f.elim)
  replace hr := hr.chg kd (fun _ _ f => f)
  replace hr6 := hr6.chg kd (fun _ _ f => f)
  replace hA := fun hl j hj => Nat.lt_of_lt_of_le (hA hl j hj) kd.size
  replace MS1 := MS1.chg kd
  replace MS2 := MS2.chg kd
  replace MC1 := MC1.chg kd
  replace BC1 := BC1.chg kd (fun f => f)
  clear kd
  have hln : (fC AC2 cC2).length = 35 := HLC.out _ _
  have hon : ∀ v ∈ fC AC2 cC2, v.oneCell' = true := HOC.out _ _
  generalize hLg : fC AC2 cC2 = LC2 at *
  have HLGC2 := Lib.hid hLg
  clear hLg
  have hlnC2 := hln
  have hls : LC2.toArray.size = 35 := by rw [List.size_toArray]; exact hln
  have hz := cm_alloc0 x5
  obtain ⟨K, BC2, hth⟩ := storedU x5 32 (cmz) LC2 (cmz_len.trans hln.symm)
  rw [hln] at hth
  generalize hwz : ((x5.alloc (.cells (cmz).toArray 32)).setCells x5.heap.size 0 LC2) = x6 at *
  replace hC := hC.trans K (fun _ f => f.elim)
  replace hr := hr.chg K (fun _ _ f => f)
  replace hr6 := hr6.chg K (fun _ _ f => f)
  replace hA := fun hl j hj => Nat.lt_of_lt_of_le (hA hl j hj) K.size
  replace MS1 := MS1.chg K
  replace MS2 := MS2.chg K
  replace MC1 := MC1.chg K
  replace BC1 := BC1.chg K (fun f => f)
  replace MC2 := MC2.chg K
  have hwz' := Lib.hid hwz
  clear hwz
  generalize cmz = zz at *
  go_wp2_with (first | (with_reducible refine wpList_alloc_row rfl _ rfl zz hz ?_) | (with_reducible refine wpList_store_mid rfl 32 _ _ rfl x5.heap.size 0 LC2.toArray rfl rfl (by rw [hls]; exact hth) (by rw [hls, hrowC]) (one_mem hon) ?_; rw [List.toList_toArray, hwz'.out]))
  clear hth hwz' K hz hls hon hln
  generalize hbC2 : x5.heap.size = bC2 at *
  clear hbC2
  refine (HP.out.2.2.2.2.2.2.1 x6 _ _ (OWN.out _ hr6)).mono ?_
  rintro e x7 ⟨kd, AT1, AU1, AV1, cT1, cU1, cV1, rfl, MT1, MU1, MV1⟩
  replace hC := hC.trans kd (fun _ f => f.elim)
  replace hr := hr.chg kd (fun _ _ f => f)
  replace hr6 := hr6.chg kd (fun _ _ f => f)
  replace hA := fun hl j hj => Nat.lt_of_lt_of_le (hA hl j hj) kd.size
  replace MS1 := MS1.chg kd
  replace MS2 := MS2.chg kd
  replace MC1 := MC1.chg kd
  replace BC1 := BC1.chg kd (fun f => f)
  replace MC2 := MC2.chg kd
  replace BC2 := BC2.chg kd (fun f => f)
  clear kd
  have hln : (fT AT1 AU1 AV1 cT1 cU1 cV1).length = 200 := HLT.out _ _ _ _ _ _
  have hon : ∀ v ∈ fT AT1 AU1 AV1 cT1 cU1 cV1, v.oneCell' = true := HOT.out _ _ _ _ _ _
  generalize hLg : fT AT1 AU1 AV1 cT1 cU1 cV1 = LT1 at *
  have HLGT1 := Lib.hid hLg
  clear hLg
  have hlnT1 := hln
  have hls : LT1.toArray.size = 200 := by rw [List.size_toArray]; exact hln
  have hz := dLight.alloc0 x7
  obtain ⟨K, BT1, hth⟩ := storedU x7 38 (ltz) LT1 (dLight.zlen.trans hln.symm)
  rw [hln] at hth
  generalize hwz : ((x7.alloc (.cells (ltz).toArray 38)).setCells x7.heap.size 0 LT1) = x8 at *
  replace hC := hC.trans K (fun _ f => f.elim)
  replace hr := hr.chg K (fun _ _ f => f)
  replace hr6 := hr6.chg K (fun _ _ f => f)
  replace hA := fun hl j hj => Nat.lt_of_lt_of_le (hA hl j hj) K.size
  replace MS1 := MS1.chg K
  replace MS2 := MS2.chg K
  replace MC1 := MC1.chg K
  replace BC1 := BC1.chg K (fun f => f)
  replace MC2 := MC2.chg K
  replace BC2 := BC2.chg K (fun f => f)
  replace MT1 := MT1.chg K
  replace MU1 := MU1.chg K
  replace MV1 := MV1.chg K
  have hwz' := Lib.hid hwz
  clear hwz
  generalize ltz = zz at *
  go_wp2_with (first | (with_reducible refine wpList_alloc_row rfl _ rfl zz hz ?_) | (with_reducible refine wpList_store_mid rfl 38 _ _ rfl x7.heap.size 0 LT1.toArray rfl rfl (by rw [hls]; exact hth) (by rw [hls, hrowT]) (one_mem hon) ?_; rw [List.toList_toArray, hwz'.out]))
  clear hth hwz' K hz hls hon hln
  generalize hbT1 : x7.heap.size = bT1 at *
  clear hbT1
  refine (HP.out.2.2.2.2.2.2.2.1 x8 _ _ hr hc hcm hA).mono ?_
  rintro e x9 ⟨kd, AT2, AU2, AV2, cT2, cU2, cV2, rfl, MT2, MU2, MV2⟩
  replace hC := hC.trans kd (fun _ f => f.elim)
  replace hr := hr.chg kd (fun _ _ f => f)
  replace hr6 := hr6.chg kd (fun _ _ f => f)
  replace hA := fun hl j hj => Nat.lt_of_lt_of_le (hA hl j hj) kd.size
  replace MS1 := MS1.chg kd
  replace MS2 := MS2.chg kd
  replace MC1 := MC1.chg kd
  replace BC1 := BC1.chg kd (fun f => f)
  replace MC2 := MC2.chg kd
  replace BC2 := BC2.chg kd (fun f => f)
  replace MT1 := MT1.chg kd
  replace MU1 := MU1.chg kd
  replace MV1 := MV1.chg kd
  replace BT1 := BT1.chg kd (fun f => f)
  clear kd
  have hln : (fT AT2 AU2 AV2 cT2 cU2 cV2).length = 200 := HLT.out _ _ _ _ _ _
  have hon : ∀ v ∈ fT AT2 AU2 AV2 cT2 cU2 cV2, v.oneCell' = true := HOT.out _ _ _ _ _ _
  generalize hLg : fT AT2 AU2 AV2 cT2 cU2 cV2 = LT2 at *
  have HLGT2 := Lib.hid hLg
  clear hLg
  have hlnT2 := hln
  have hls : LT2.toArray.size = 200 := by rw [List.size_toArray]; exact hln
  have hz := dLight.alloc0 x9
  obtain ⟨K, BT2, hth⟩ := storedU x9 38 (ltz) LT2 (dLight.zlen.trans hln.symm)
  rw [hln] at hth
  generalize hwz : ((x9.alloc (.cells (ltz).toArray 38)).setCells x9.heap.size 0 LT2) = x10 at *
  replace hC := hC.trans K (fun _ f => f.elim)
  replace hr := hr.chg K (fun _ _ f => f)
  replace hr6 := hr6.chg K (fun _ _ f => f)
  replace hA := fun hl j hj => Nat.lt_of_lt_of_le (hA hl j hj) K.size
  replace MS1 := MS1.chg K
  replace MS2 := MS2.chg K
  replace MC1 := MC1.chg K
  replace BC1 := BC1.chg K (fun f => f)
  replace MC2 := MC2.chg K
  replace BC2 := BC2.chg K (fun f => f)
  replace MT1 := MT1.chg K
  replace MU1 := MU1.chg K
  replace MV1 := MV1.chg K
  replace BT1 := BT1.chg K (fun f => f)
  replace MT2 := MT2.chg K
  replace MU2 := MU2.chg K
  replace MV2 := MV2.chg K
  have hwz' := Lib.hid hwz
  clear hwz
  generalize ltz = zz at *
  go_wp2_with (first | (with_reducible refine wpList_alloc_row rfl _ rfl zz hz ?_) | (with_reducible refine wpList_store_mid rfl 38 _ _ rfl x9.heap.size 0 LT2.toArray rfl rfl (by rw [hls]; exact hth) (by rw [hls, hrowT]) (one_mem hon) ?_; rw [List.toList_toArray, hwz'.out]))
  clear hth hwz' K hz hls hon hln
  generalize hbT2 : x9.heap.size = bT2 at *
  clear hbT2
  refine (HP.out.2.2.1 x10 _ _ _ _ MS1 MS2).mono ?_
  rintro e x11 ⟨rfl, kd⟩
  replace hC := hC.trans kd (fun _ f => f.elim)
  replace hr := hr.chg kd (fun _ _ f => f)
  replace hr6 := hr6.chg kd (fun _ _ f => f)
  replace hA := fun hl j hj => Nat.lt_of_lt_of_le (hA hl j hj) kd.size
  replace MS1 := MS1.chg kd
  replace MS2 := MS2.chg kd
  replace MC1 := MC1.chg kd
  replace BC1 := BC1.chg kd (fun f => f)
  replace MC2 := MC2.chg kd
  replace BC2 := BC2.chg kd (fun f => f)
  replace MT1 := MT1.chg kd
  replace MU1 := MU1.chg kd
  replace MV1 := MV1.chg kd
  replace BT1 := BT1.chg kd (fun f => f)
  replace MT2 := MT2.chg kd
  replace MU2 := MU2.chg kd
  replace MV2 := MV2.chg kd
  replace BT2 := BT2.chg kd (fun f => f)
  clear kd
  have ra := BC1.range0
  have rb := BC2.range0
  have hia : (Try.prog.info? 32).map (·.size) = some LC1.length := by rw [hlnC1]; exact hrowC
  have hib : (Try.prog.info? 32).map (·.size) = some LC2.length := by rw [hlnC2]; exact hrowC
  go_wp2_with (first | (with_reducible refine wpList_load_mid rfl 32 _ rfl bC1 0 rfl LC1 _ ra Try.underlying32 rfl hia ?_) | (with_reducible refine wpList_load_mid rfl 32 _ rfl bC2 0 rfl LC2 _ rb Try.underlying32 rfl hib ?_))
  clear ra rb hia hib
  have HS := HP.out.2.2.2.2.2.1 x11 _ _ cC1 cC2 MC1 MC2
  rw [HLGC1.out, HLGC2.out] at HS
  refine (HS).mono ?_
  rintro e x12 ⟨rfl, kd⟩
  replace hC := hC.trans kd (fun _ f => f.elim)
  replace hr := hr.chg kd (fun _ _ f => f)
  replace hr6 := hr6.chg kd (fun _ _ f => f)
  replace hA := fun hl j hj => Nat.lt_of_lt_of_le (hA hl j hj) kd.size
  replace MS1 := MS1.chg kd
  replace MS2 := MS2.chg kd
  replace MC1 := MC1.chg kd
  replace BC1 := BC1.chg kd (fun f => f)
  replace MC2 := MC2.chg kd
  replace BC2 := BC2.chg kd (fun f => f)
  replace MT1 := MT1.chg kd
  replace MU1 := MU1.chg kd
  replace MV1 := MV1.chg kd
  replace BT1 := BT1.chg kd (fun f => f)
  replace MT2 := MT2.chg kd
  replace MU2 := MU2.chg kd
  replace MV2 := MV2.chg kd
  replace BT2 := BT2.chg kd (fun f => f)
  clear kd
  clear HS
  have ra := BT1.range0
  have rb := BT2.range0
  have hia : (Try.prog.info? 38).map (·.size) = some LT1.length := by rw [hlnT1]; exact hrowT
  have hib : (Try.prog.info? 38).map (·.size) = some LT2.length := by rw [hlnT2]; exact hrowT
  go_wp2_with (first | (with_reducible refine wpList_load_mid rfl 38 _ rfl bT1 0 rfl LT1 _ ra Try.underlying38 rfl hia ?_) | (with_reducible refine wpList_load_mid rfl 38 _ rfl bT2 0 rfl LT2 _ rb Try.underlying38 rfl hib ?_))
  clear ra rb hia hib
  have HS := HP.out.2.2.2.2.2.2.2.2 x12 _ _ _ _ _ _ cT1 cU1 cV1 cT2 cU2 cV2 MT1 MU1 MV1 MT2 MU2 MV2
  rw [HLGT1.out, HLGT2.out] at HS
  refine (HS).mono ?_
  rintro e x13 ⟨rfl, kd⟩
  replace hC := hC.trans kd (fun _ f => f.elim)
  replace hr := hr.chg kd (fun _ _ f => f)
  replace hr6 := hr6.chg kd (fun _ _ f => f)
  replace hA := fun hl j hj => Nat.lt_of_lt_of_le (hA hl j hj) kd.size
  replace MS1 := MS1.chg kd
  replace MS2 := MS2.chg kd
  replace MC1 := MC1.chg kd
  replace BC1 := BC1.chg kd (fun f => f)
  replace MC2 := MC2.chg kd
  replace BC2 := BC2.chg kd (fun f => f)
  replace MT1 := MT1.chg kd
  replace MU1 := MU1.chg kd
  replace MV1 := MV1.chg kd
  replace BT1 := BT1.chg kd (fun f => f)
  replace MT2 := MT2.chg kd
  replace MU2 := MU2.chg kd
  replace MV2 := MV2.chg kd
  replace BT2 := BT2.chg kd (fun f => f)
  clear kd
  clear HS
  go_wp2_with fail
  refine (same_any _ (some ad6) A _ _ c6 c bs bs rfl rfl (OWN.out _ hr6) hr).mono ?_
  rintro e y0 ⟨rfl, rfl⟩
  go_wp2_with fail
  refine (alive_any _).mono ?_
  rintro e we ⟨rfl, ke⟩
  replace hr6 := hr6.chg ke (fun _ _ f => f)
  replace hC := hC.trans ke (fun _ f => f.elim)
  have hcell : we.cell? (ad6.add bs.length) = some (.int .u8 77) := by have := hr6.at_ (j := bs.length) (by simp); simpa using this
  have bel := hC.below (Nat.le_refl _) (fun _ f => f.elim)
  clear HP HLC HOC HLT HOT OWN hr6 hC hr hA ke MS1 MS2 MC1 BC1 MC2 BC2 MT1 MU1 MV1 BT1 MT2 MU2 MV2 BT2
  go_wp2
  go_ret
  exact ⟨rfl, bel⟩

/-! ### The row's frame -/
theorem own : ownKnob Try.prog.godebug = none := by kernel_rfl
theorem walkA (W : World) (args : Array Value) (hsz : args.size = Try.f3.params.size) (hok : ∀ (j : Nat) (t : TypeId) (v : Value), Try.f3.params[j]? = some t → args[j]? = some v → Okv Try.prog W t v) :
    Calls Try.prog 3 args W fun e W' => e = .returned (.bool true) ∧ Below W.heap.size W W' := by
  rw [Try.params3] at hsz hok
  obtain ⟨v0, rfl⟩ : ∃ v0 : Value, args = #[v0] := by
    obtain ⟨l⟩ := args
    match l, hsz with
    | [v0], _ => exact ⟨v0, rfl⟩
  exact walk W v0 (hok 0 22 v0 rfl rfl)
set_option maxRecDepth 100000 in
theorem lifted (os : Os) (started : os.Started) (H : Type) (enc : TypeId × Value → H) :
    ReturnsInHanded {} Try.checked os 3 .any (Rows.formListsSpec.pre6 enc Try.prog Try.f3 Rows.formListsRow.domain false) (Rows.formListsSpec.post enc Try.prog Try.f3 false true false false) :=
  lifted_of_walk (C := Try.checked) (s := Rows.formListsSpec) (conds := Rows.formListsRow.domain) (apart := false) (fresh := true) (T := 4) own started (by kernel_rfl) Try.func3
    (ChangeSpec.witness6 (enc := enc) (C := Try.checked) false ⟨#[], #[.slice none 0 0], []⟩ 8 (by kernel_rfl) (by kernel_rfl) (by kernel_rfl) (by kernel_rfl))
    rfl (fun ds hd => by
      rw [Try.params3] at hd
      match ds, hd with
      | [d0], _ => exact ⟨rfl, rfl, rfl⟩)
    (by kernel_rfl) Try.underlying4 (by kernel_rfl) (by rw [Try.params3]; intro t ht; simp only [List.mem_cons, List.not_mem_nil, or_false] at ht; subst ht; exact ⟨by kernel_rfl, of_decide_eq_true (by kernel_rfl)⟩) walkA

theorem holds : Rows.formListsRow.holds Try.pinned (OpenSpec.ofChange Rows.formListsSpec) :=
  OpenClaim.holds_of_wide 3 Try.f3 rfl rfl rfl rfl rfl rfl rfl ⟨rfl, rfl, rfl, rfl, rfl⟩ rfl rfl rfl rfl rfl (by kernel_rfl) Try.func3 (by kernel_rfl)
    (of_decide_eq_true (by kernel_rfl)) (by unfold Func.isWrapper; first | (rw [if_pos (by decide +kernel)]; kernel_rfl) | (rw [if_neg (by decide +kernel)]; exact ⟨rfl, rfl⟩))
    (fun os started H enc _ => lifted os started H enc)
end Go.Proofs.Yteglpgakikigiaa.formLists
namespace Go.Proofs.Yteglpgakikigiaa
/-- The statement. -/
theorem formLists_holds : Rows.FormListsSaid := formLists.holds
end Go.Proofs.Yteglpgakikigiaa
