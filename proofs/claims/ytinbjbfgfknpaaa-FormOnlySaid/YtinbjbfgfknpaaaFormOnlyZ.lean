/- Of the program at this commit: the law FormOnly answers true for all bytes and every byte more (what is decoded is what is encoded, is of one kind, and with a byte more or less it is nothing); no condition. -/
import Derived.Test.YtinbjbfgfknpaaaRows
import Derived.WalkKit
import Derived.ProofKit
import Derived.Test.YtinbjbfgfknpaaaMFormOnly14
import Derived.Test.YtinbjbfgfknpaaaMFormOnly3
import Derived.Test.YtinbjbfgfknpaaaMFormOnly13
namespace Go.Proofs.Ytinbjbfgfknpaaa.formOnly
open Go.ChangeShapes Go.WideShapes Go.ChangeAt Go.RowKit
set_option linter.unusedVariables false

theorem right_lens {x : Lt} (h : x.right = true) : x.commit.seals.length ≤ maxLen ∧ x.set.length ≤ maxLen ∧ x.next.length ≤ maxLen := by
  unfold Lt.right Cm.right at h
  unfold setRight at h
  simp only [Bool.and_eq_true] at h
  obtain ⟨_, ⟨_, _, h1⟩, h2, h3⟩ := h
  have h1 := (inR_iff.1 h1).2
  have h2 := (inR_iff.1 h2).2
  have h3 := (inR_iff.1 h3).2
  unfold maxLen
  omega
theorem proof_lens {x : Pf} (h : x.right = true) : x.parts.length ≤ maxLen ∧ ∀ y ∈ x.parts, y.path.length ≤ 4096 := by
  unfold Pf.right at h
  simp only [Bool.and_eq_true, List.all_eq_true] at h
  obtain ⟨_, h1, h2⟩ := h
  refine ⟨by have := (inR_iff.1 h1).2; unfold maxLen; omega, fun y hy => ?_⟩
  have h3 := h2 y hy
  unfold Pa.right at h3
  simp only [Bool.and_eq_true] at h3
  have := (inR_iff.1 h3.2.2.2).2
  omega
set_option maxRecDepth 100000 in
set_option maxHeartbeats 3200000 in
theorem walk_none (W : World) (A : Option Addr) (c : Nat) (bs : List UInt8) (m : UInt8) (hr : Rd W A bs) (hb : bs.length ≤ 20000) (hc : bs.length ≤ c) (hcm : c ≤ maxLen)  (hV : whole (dVote (some bs)) = none) (hH : whole (dHeader (some bs)) = none) (hL : whole (dLight (some bs)) = none) (hP : whole (dPacket (some bs)) = none) (hQ : whole (dProof (some bs)) = none) :
    Calls Try.prog 3 #[.slice A bs.length c, .int .u8 (m.toNat : Int)] W fun e W' => e = .returned (.bool true) ∧ Below W.heap.size W W' := by
  unfold maxLen at hcm
  have hbi : ¬ (20000 : Int) < (bs.length : Int) := by omega
  have hrb := hr
  have hC : Chg Non W W := Chg.refl Non W
  go_enter Try.func3, Try.ntmps3
  go_wp2_with (first
    | (at_builtin; refine wpList_app byt _ rfl _ _ rfl (v := .slice (some ⟨W.heap.size, 0, none⟩) 0 0) rfl (own_zero W) rfl rfl (hrb.chg ((Chg.refl Non W).alloc _) (fun _ _ f => f)) (by simp; omega) ?_; intro v5 w5 ho5 hgr5 hloc5)
    | (at_builtin; refine wpList_app byt _ rfl _ _ rfl (v := v5) rfl (ho5.chg ((Chg.refl Non w5).alloc _) (fun _ _ f => f)) rfl (l2 := [m]) rfl (rd_byte w5 m) (by simp; omega) ?_; intro v6 w6 ho6 hgr6 hloc6; rw [List.nil_append] at ho6; obtain ⟨B, cl, rfl, hc6, hm6, hg, hab6, hlt6⟩ := ho6.slice; obtain ⟨ln, hln⟩ : ∃ ln, ln = (bs ++ [m]).length := ⟨_, rfl⟩; rw [← hln]; have HLN := Lib.hid hln; clear hln))
  have G0 : Grow W (W.alloc (.cells #[] 5)) (.slice (some ⟨W.heap.size, 0, none⟩) 0 0) [] := ⟨own_zero W, fun k hk => by have hk' : some W.heap.size = some k := hk; injection hk' with e; omega, (Chg.refl Non W).alloc _⟩
  have G6 := (G0.more (Chg.refl _ _) ho5 hgr5 hloc5).more ((Chg.refl Non w5).alloc _) (by rw [List.nil_append]; exact ho6) hgr6 hloc6
  have hC6 := G6.chg
  clear G0 G6 ho5 hgr5 hloc5 ho6 hgr6 hloc6 hab6 hlt6 hc6 hm6 hrb
  replace hr := hr.chg hC6 (fun _ _ f => f)
  replace hC := hC.trans hC6 (fun _ f => f.elim)
  clear hC6
  have H := DecodeVote_any w6 A bs.length c bs rfl hr (by omega)
  rw [hV] at H
  refine H.mono ?_
  rintro e w1 ⟨kd, he⟩
  clear H
  obtain rfl : e = .returned (.tuple #[.agg (Vt.zero.cells).toArray, .int .i64 61]) := he
  replace hC := hC.trans kd (fun _ f => f.elim)
  replace hr := hr.chg kd (fun _ _ f => f)
  replace hg := hg.chg kd (fun _ _ f => f)
  clear kd
  have hz := dVote.alloc0 w1
  obtain ⟨K, hN, hth⟩ := stored w1 31 (Vt.zero.cells) (Vt.zero.cells) (dVote.zlen.trans (dVote.zlen).symm)
  have hone : ∀ v ∈ (Vt.zero.cells), v.oneCell' = true := Vt.zero.one
  have hLs : (Vt.zero.cells).toArray.size = 39 := by rw [List.size_toArray]; exact dVote.zlen
  have hrow : (Try.prog.info? 31).map (·.size) = some 39 := dVote.row
  have hLi : (Try.prog.info? 31).map (·.size) = some (Vt.zero.cells).length := by rw [(dVote.zlen : (Vt.zero.cells).length = 39)]; exact hrow
  rw [(dVote.zlen : (Vt.zero.cells).length = 39)] at hth
  generalize hwz : ((w1.alloc (.cells (Vt.zero.cells).toArray 31)).setCells w1.heap.size 0 (Vt.zero.cells)) = w2 at *
  replace hC := hC.trans K (fun _ f => f.elim)
  replace hr := hr.chg K (fun _ _ f => f)
  replace hg := hg.chg K (fun _ _ f => f)
  have hwz' := Lib.hid hwz
  have rN := hN.range0
  clear hwz
  generalize (Vt.zero.cells) = zz at *
  go_wp2_with (first | (with_reducible refine wpList_alloc_row rfl _ rfl zz hz ?_) | (with_reducible refine wpList_store_mid rfl 31 _ _ rfl w1.heap.size 0 (zz).toArray rfl rfl (by rw [hLs]; exact hth) (by rw [hLs, hrow]) (one_mem hone) ?_; rw [List.toList_toArray, hwz'.out]))
  clear rN hN hth hwz' K hz hone hLs hLi hrow
  have H := DecodeHeader_any w2 A bs.length c bs rfl hr (by omega)
  rw [hH] at H
  refine H.mono ?_
  rintro e w3 ⟨kd, he⟩
  clear H
  obtain rfl : e = .returned (.tuple #[.agg (Hd.zero.cells).toArray, .int .i64 61]) := he
  replace hC := hC.trans kd (fun _ f => f.elim)
  replace hr := hr.chg kd (fun _ _ f => f)
  replace hg := hg.chg kd (fun _ _ f => f)
  clear kd
  have hz := dHeader.alloc0 w3
  obtain ⟨K, hN, hth⟩ := stored w3 39 (Hd.zero.cells) (Hd.zero.cells) (dHeader.zlen.trans (dHeader.zlen).symm)
  have hone : ∀ v ∈ (Hd.zero.cells), v.oneCell' = true := Hd.zero.one
  have hLs : (Hd.zero.cells).toArray.size = 163 := by rw [List.size_toArray]; exact dHeader.zlen
  have hrow : (Try.prog.info? 39).map (·.size) = some 163 := dHeader.row
  have hLi : (Try.prog.info? 39).map (·.size) = some (Hd.zero.cells).length := by rw [(dHeader.zlen : (Hd.zero.cells).length = 163)]; exact hrow
  rw [(dHeader.zlen : (Hd.zero.cells).length = 163)] at hth
  generalize hwz : ((w3.alloc (.cells (Hd.zero.cells).toArray 39)).setCells w3.heap.size 0 (Hd.zero.cells)) = w4 at *
  replace hC := hC.trans K (fun _ f => f.elim)
  replace hr := hr.chg K (fun _ _ f => f)
  replace hg := hg.chg K (fun _ _ f => f)
  have hwz' := Lib.hid hwz
  have rN := hN.range0
  clear hwz
  generalize (Hd.zero.cells) = zz at *
  go_wp2_with (first | (with_reducible refine wpList_alloc_row rfl _ rfl zz hz ?_) | (with_reducible refine wpList_store_mid rfl 39 _ _ rfl w3.heap.size 0 (zz).toArray rfl rfl (by rw [hLs]; exact hth) (by rw [hLs, hrow]) (one_mem hone) ?_; rw [List.toList_toArray, hwz'.out]))
  clear rN hN hth hwz' K hz hone hLs hLi hrow
  have H := DecodeLight_any w4 A bs.length c bs rfl hr (by omega)
  rw [hL] at H
  refine H.mono ?_
  rintro e w5 ⟨kd, he⟩
  clear H
  obtain rfl : e = .returned (.tuple #[.agg (ltz).toArray, .int .i64 61]) := he
  replace hC := hC.trans kd (fun _ f => f.elim)
  replace hr := hr.chg kd (fun _ _ f => f)
  replace hg := hg.chg kd (fun _ _ f => f)
  clear kd
  have hz := dLight.alloc0 w5
  obtain ⟨K, hN, hth⟩ := stored w5 48 (ltz) (ltz) (dLight.zlen.trans (dLight.zlen).symm)
  have hone : ∀ v ∈ (ltz), v.oneCell' = true := ltz_one
  have hLs : (ltz).toArray.size = 200 := by rw [List.size_toArray]; exact dLight.zlen
  have hrow : (Try.prog.info? 48).map (·.size) = some 200 := dLight.row
  have hLi : (Try.prog.info? 48).map (·.size) = some (ltz).length := by rw [(dLight.zlen : (ltz).length = 200)]; exact hrow
  rw [(dLight.zlen : (ltz).length = 200)] at hth
  generalize hwz : ((w5.alloc (.cells (ltz).toArray 48)).setCells w5.heap.size 0 (ltz)) = w6 at *
  replace hC := hC.trans K (fun _ f => f.elim)
  replace hr := hr.chg K (fun _ _ f => f)
  replace hg := hg.chg K (fun _ _ f => f)
  have hwz' := Lib.hid hwz
  have rN := hN.range0
  clear hwz
  generalize (ltz) = zz at *
  go_wp2_with (first | (with_reducible refine wpList_alloc_row rfl _ rfl zz hz ?_) | (with_reducible refine wpList_store_mid rfl 48 _ _ rfl w5.heap.size 0 (zz).toArray rfl rfl (by rw [hLs]; exact hth) (by rw [hLs, hrow]) (one_mem hone) ?_; rw [List.toList_toArray, hwz'.out]))
  clear rN hN hth hwz' K hz hone hLs hLi hrow
  have H := DecodePacket_any w6 A bs.length c bs rfl hr (by omega)
  rw [hP] at H
  refine H.mono ?_
  rintro e w7 ⟨kd, he⟩
  clear H
  obtain rfl : e = .returned (.tuple #[.agg (Pk.zero.cells).toArray, .int .i64 61]) := he
  replace hC := hC.trans kd (fun _ f => f.elim)
  replace hr := hr.chg kd (fun _ _ f => f)
  replace hg := hg.chg kd (fun _ _ f => f)
  clear kd
  have hz := dPacket.alloc0 w7
  obtain ⟨K, hN, hth⟩ := stored w7 53 (Pk.zero.cells) (Pk.zero.cells) (dPacket.zlen.trans (dPacket.zlen).symm)
  have hone : ∀ v ∈ (Pk.zero.cells), v.oneCell' = true := Pk.zero.one
  have hLs : (Pk.zero.cells).toArray.size = 4 := by rw [List.size_toArray]; exact dPacket.zlen
  have hrow : (Try.prog.info? 53).map (·.size) = some 4 := dPacket.row
  have hLi : (Try.prog.info? 53).map (·.size) = some (Pk.zero.cells).length := by rw [(dPacket.zlen : (Pk.zero.cells).length = 4)]; exact hrow
  rw [(dPacket.zlen : (Pk.zero.cells).length = 4)] at hth
  generalize hwz : ((w7.alloc (.cells (Pk.zero.cells).toArray 53)).setCells w7.heap.size 0 (Pk.zero.cells)) = w8 at *
  replace hC := hC.trans K (fun _ f => f.elim)
  replace hr := hr.chg K (fun _ _ f => f)
  replace hg := hg.chg K (fun _ _ f => f)
  have hwz' := Lib.hid hwz
  have rN := hN.range0
  clear hwz
  generalize (Pk.zero.cells) = zz at *
  go_wp2_with (first | (with_reducible refine wpList_alloc_row rfl _ rfl zz hz ?_) | (with_reducible refine wpList_store_mid rfl 53 _ _ rfl w7.heap.size 0 (zz).toArray rfl rfl (by rw [hLs]; exact hth) (by rw [hLs, hrow]) (one_mem hone) ?_; rw [List.toList_toArray, hwz'.out]))
  clear rN hN hth hwz' K hz hone hLs hLi hrow
  have H := DecodeProof_any w8 A bs.length c bs rfl hr (by omega)
  rw [hQ] at H
  refine H.mono ?_
  rintro e w9 ⟨kd, he⟩
  clear H
  obtain rfl : e = .returned (.tuple #[.agg (pfz).toArray, .int .i64 61]) := he
  replace hC := hC.trans kd (fun _ f => f.elim)
  replace hr := hr.chg kd (fun _ _ f => f)
  replace hg := hg.chg kd (fun _ _ f => f)
  clear kd
  have hz := dProof.alloc0 w9
  obtain ⟨K, hN, hth⟩ := stored w9 59 (pfz) (pfz) (dProof.zlen.trans (dProof.zlen).symm)
  have hone : ∀ v ∈ (pfz), v.oneCell' = true := pfz_one
  have hLs : (pfz).toArray.size = 2 := by rw [List.size_toArray]; exact dProof.zlen
  have hrow : (Try.prog.info? 59).map (·.size) = some 2 := dProof.row
  have hLi : (Try.prog.info? 59).map (·.size) = some (pfz).length := by rw [(dProof.zlen : (pfz).length = 2)]; exact hrow
  rw [(dProof.zlen : (pfz).length = 2)] at hth
  generalize hwz : ((w9.alloc (.cells (pfz).toArray 59)).setCells w9.heap.size 0 (pfz)) = w10 at *
  replace hC := hC.trans K (fun _ f => f.elim)
  replace hr := hr.chg K (fun _ _ f => f)
  replace hg := hg.chg K (fun _ _ f => f)
  have hwz' := Lib.hid hwz
  have rN := hN.range0
  clear hwz
  generalize (pfz) = zz at *
  go_wp2_with (first | (with_reducible refine wpList_alloc_row rfl _ rfl zz hz ?_) | (with_reducible refine wpList_store_mid rfl 59 _ _ rfl w9.heap.size 0 (zz).toArray rfl rfl (by rw [hLs]; exact hth) (by rw [hLs, hrow]) (one_mem hone) ?_; rw [List.toList_toArray, hwz'.out]))
  clear rN hN hth hwz' K hz hone hLs hLi hrow
  refine (alive_any _).mono ?_
  rintro e we ⟨rfl, ke⟩
  go_wp2
  go_ret
  exact ⟨rfl, (hC.trans ke (fun _ f => f.elim)).below (Nat.le_refl _) (fun _ f => f.elim)⟩

set_option maxRecDepth 100000 in
set_option maxHeartbeats 3200000 in
theorem walk_vote (W : World) (A : Option Addr) (c : Nat) (bs : List UInt8) (m : UInt8) (hr : Rd W A bs) (hb : bs.length ≤ 20000) (hc : bs.length ≤ c) (hcm : c ≤ maxLen) (x : Vt) (hV : whole (dVote (some bs)) = some x) (ox : x.Ok) (hri : x.right = true) (hen : x.enc = bs) (hmo : ∀ m, whole (dVote (some (bs ++ [m]))) = none) (hH : whole (dHeader (some bs)) = none) (hL : whole (dLight (some bs)) = none) (hP : whole (dPacket (some bs)) = none) (hQ : whole (dProof (some bs)) = none) :
    Calls Try.prog 3 #[.slice A bs.length c, .int .u8 (m.toNat : Int)] W fun e W' => e = .returned (.bool true) ∧ Below W.heap.size W W' := by
  unfold maxLen at hcm
  have hbi : ¬ (20000 : Int) < (bs.length : Int) := by omega
  have hrb := hr
  have hC : Chg Non W W := Chg.refl Non W
  go_enter Try.func3, Try.ntmps3
  go_wp2_with (first
    | (at_builtin; refine wpList_app byt _ rfl _ _ rfl (v := .slice (some ⟨W.heap.size, 0, none⟩) 0 0) rfl (own_zero W) rfl rfl (hrb.chg ((Chg.refl Non W).alloc _) (fun _ _ f => f)) (by simp; omega) ?_; intro v5 w5 ho5 hgr5 hloc5)
    | (at_builtin; refine wpList_app byt _ rfl _ _ rfl (v := v5) rfl (ho5.chg ((Chg.refl Non w5).alloc _) (fun _ _ f => f)) rfl (l2 := [m]) rfl (rd_byte w5 m) (by simp; omega) ?_; intro v6 w6 ho6 hgr6 hloc6; rw [List.nil_append] at ho6; obtain ⟨B, cl, rfl, hc6, hm6, hg, hab6, hlt6⟩ := ho6.slice; obtain ⟨ln, hln⟩ : ∃ ln, ln = (bs ++ [m]).length := ⟨_, rfl⟩; rw [← hln]; have HLN := Lib.hid hln; clear hln))
  have G0 : Grow W (W.alloc (.cells #[] 5)) (.slice (some ⟨W.heap.size, 0, none⟩) 0 0) [] := ⟨own_zero W, fun k hk => by have hk' : some W.heap.size = some k := hk; injection hk' with e; omega, (Chg.refl Non W).alloc _⟩
  have G6 := (G0.more (Chg.refl _ _) ho5 hgr5 hloc5).more ((Chg.refl Non w5).alloc _) (by rw [List.nil_append]; exact ho6) hgr6 hloc6
  have hC6 := G6.chg
  clear G0 G6 ho5 hgr5 hloc5 ho6 hgr6 hloc6 hab6 hlt6 hc6 hm6 hrb
  replace hr := hr.chg hC6 (fun _ _ f => f)
  replace hC := hC.trans hC6 (fun _ f => f.elim)
  clear hC6
  have H := DecodeVote_any w6 A bs.length c bs rfl hr (by omega)
  rw [hV] at H
  refine H.mono ?_
  rintro e w1 ⟨kd, he⟩
  clear H
  obtain rfl : e = .returned (.tuple #[.agg x.cells.toArray, .int .i64 0]) := he
  replace hC := hC.trans kd (fun _ f => f.elim)
  replace hr := hr.chg kd (fun _ _ f => f)
  replace hg := hg.chg kd (fun _ _ f => f)
  clear kd
  have hxl : x.cells.length = 39 := x.cells_len ox
  have hxo : ∀ v ∈ x.cells, v.oneCell' = true := x.one
  generalize hcl : x.cells = L at *
  have HCL := Lib.hid hcl
  clear hcl
  have hz := dVote.alloc0 w1
  obtain ⟨K, hN, hth⟩ := stored w1 31 (Vt.zero.cells) (L) (dVote.zlen.trans (hxl).symm)
  have hone : ∀ v ∈ (L), v.oneCell' = true := hxo
  have hLs : (L).toArray.size = 39 := by rw [List.size_toArray]; exact hxl
  have hrow : (Try.prog.info? 31).map (·.size) = some 39 := dVote.row
  have hLi : (Try.prog.info? 31).map (·.size) = some (L).length := by rw [(hxl : (L).length = 39)]; exact hrow
  rw [(hxl : (L).length = 39)] at hth
  generalize hwz : ((w1.alloc (.cells (Vt.zero.cells).toArray 31)).setCells w1.heap.size 0 (L)) = w2 at *
  replace hC := hC.trans K (fun _ f => f.elim)
  replace hr := hr.chg K (fun _ _ f => f)
  replace hg := hg.chg K (fun _ _ f => f)
  have hwz' := Lib.hid hwz
  have rN := hN.range0
  clear hwz
  generalize (Vt.zero.cells) = zz at *
  go_wp2_with (first | (with_reducible refine wpList_alloc_row rfl _ rfl zz hz ?_) | (with_reducible refine wpList_store_mid rfl 31 _ _ rfl w1.heap.size 0 (L).toArray rfl rfl (by rw [hLs]; exact hth) (by rw [hLs, hrow]) (one_mem hone) ?_; rw [List.toList_toArray, hwz'.out]) | (with_reducible refine wpList_load_mid rfl 31 _ rfl w1.heap.size 0 rfl (L) _ rN Try.underlying31 rfl hLi ?_))
  clear rN hN hth hwz' K hz hone hLs hLi hrow
  have HE := EncodeVote_any w2 x ox
  rw [HCL.out, hri, hen] at HE
  refine HE.mono ?_
  rintro e w3 ⟨ke, v, rfl, ho, _⟩
  clear HE
  replace hC := hC.trans ke (fun _ f => f.elim)
  replace hr := hr.chg ke (fun _ _ f => f)
  replace hg := hg.chg ke (fun _ _ f => f)
  clear ke
  obtain ⟨Ae, ce, rfl, _, _, hre, _, _⟩ := ho.slice
  clear ho
  go_wp2_with fail
  have H := DecodeVote_any w3 B ln cl (bs ++ [m]) HLN.out hg (by simp; omega)
  rw [hmo m] at H
  refine H.mono ?_
  rintro e w4 ⟨kd, he⟩
  clear H
  obtain rfl : e = .returned (.tuple #[.agg (Vt.zero.cells).toArray, .int .i64 61]) := he
  replace hC := hC.trans kd (fun _ f => f.elim)
  replace hr := hr.chg kd (fun _ _ f => f)
  replace hg := hg.chg kd (fun _ _ f => f)
  replace hre := hre.chg kd (fun _ _ f => f)
  clear kd
  have hz := dVote.alloc0 w4
  obtain ⟨K, hN, hth⟩ := stored w4 31 (Vt.zero.cells) (Vt.zero.cells) (dVote.zlen.trans (dVote.zlen).symm)
  have hone : ∀ v ∈ (Vt.zero.cells), v.oneCell' = true := Vt.zero.one
  have hLs : (Vt.zero.cells).toArray.size = 39 := by rw [List.size_toArray]; exact dVote.zlen
  have hrow : (Try.prog.info? 31).map (·.size) = some 39 := dVote.row
  have hLi : (Try.prog.info? 31).map (·.size) = some (Vt.zero.cells).length := by rw [(dVote.zlen : (Vt.zero.cells).length = 39)]; exact hrow
  rw [(dVote.zlen : (Vt.zero.cells).length = 39)] at hth
  generalize hwz : ((w4.alloc (.cells (Vt.zero.cells).toArray 31)).setCells w4.heap.size 0 (Vt.zero.cells)) = w5 at *
  replace hC := hC.trans K (fun _ f => f.elim)
  replace hr := hr.chg K (fun _ _ f => f)
  replace hg := hg.chg K (fun _ _ f => f)
  replace hre := hre.chg K (fun _ _ f => f)
  have hwz' := Lib.hid hwz
  have rN := hN.range0
  clear hwz
  generalize (Vt.zero.cells) = zz at *
  go_wp2_with (first | (with_reducible refine wpList_alloc_row rfl _ rfl zz hz ?_) | (with_reducible refine wpList_store_mid rfl 31 _ _ rfl w4.heap.size 0 (zz).toArray rfl rfl (by rw [hLs]; exact hth) (by rw [hLs, hrow]) (one_mem hone) ?_; rw [List.toList_toArray, hwz'.out]))
  clear rN hN hth hwz' K hz hone hLs hLi hrow
  refine (same_any _ Ae A _ _ ce c bs bs rfl rfl hre hr).mono ?_
  rintro e ws ⟨rfl, rfl⟩
  rw [decide_eq_true (rfl : bs = bs)]
  clear hre
  go_wp2_with fail
  have H := DecodeHeader_any ws A bs.length c bs rfl hr (by omega)
  rw [hH] at H
  refine H.mono ?_
  rintro e w6 ⟨kd, he⟩
  clear H
  obtain rfl : e = .returned (.tuple #[.agg (Hd.zero.cells).toArray, .int .i64 61]) := he
  replace hC := hC.trans kd (fun _ f => f.elim)
  replace hr := hr.chg kd (fun _ _ f => f)
  replace hg := hg.chg kd (fun _ _ f => f)
  clear kd
  have hz := dHeader.alloc0 w6
  obtain ⟨K, hN, hth⟩ := stored w6 39 (Hd.zero.cells) (Hd.zero.cells) (dHeader.zlen.trans (dHeader.zlen).symm)
  have hone : ∀ v ∈ (Hd.zero.cells), v.oneCell' = true := Hd.zero.one
  have hLs : (Hd.zero.cells).toArray.size = 163 := by rw [List.size_toArray]; exact dHeader.zlen
  have hrow : (Try.prog.info? 39).map (·.size) = some 163 := dHeader.row
  have hLi : (Try.prog.info? 39).map (·.size) = some (Hd.zero.cells).length := by rw [(dHeader.zlen : (Hd.zero.cells).length = 163)]; exact hrow
  rw [(dHeader.zlen : (Hd.zero.cells).length = 163)] at hth
  generalize hwz : ((w6.alloc (.cells (Hd.zero.cells).toArray 39)).setCells w6.heap.size 0 (Hd.zero.cells)) = w7 at *
  replace hC := hC.trans K (fun _ f => f.elim)
  replace hr := hr.chg K (fun _ _ f => f)
  replace hg := hg.chg K (fun _ _ f => f)
  have hwz' := Lib.hid hwz
  have rN := hN.range0
  clear hwz
  generalize (Hd.zero.cells) = zz at *
  go_wp2_with (first | (with_reducible refine wpList_alloc_row rfl _ rfl zz hz ?_) | (with_reducible refine wpList_store_mid rfl 39 _ _ rfl w6.heap.size 0 (zz).toArray rfl rfl (by rw [hLs]; exact hth) (by rw [hLs, hrow]) (one_mem hone) ?_; rw [List.toList_toArray, hwz'.out]))
  clear rN hN hth hwz' K hz hone hLs hLi hrow
  have H := DecodeLight_any w7 A bs.length c bs rfl hr (by omega)
  rw [hL] at H
  refine H.mono ?_
  rintro e w8 ⟨kd, he⟩
  clear H
  obtain rfl : e = .returned (.tuple #[.agg (ltz).toArray, .int .i64 61]) := he
  replace hC := hC.trans kd (fun _ f => f.elim)
  replace hr := hr.chg kd (fun _ _ f => f)
  replace hg := hg.chg kd (fun _ _ f => f)
  clear kd
  have hz := dLight.alloc0 w8
  obtain ⟨K, hN, hth⟩ := stored w8 48 (ltz) (ltz) (dLight.zlen.trans (dLight.zlen).symm)
  have hone : ∀ v ∈ (ltz), v.oneCell' = true := ltz_one
  have hLs : (ltz).toArray.size = 200 := by rw [List.size_toArray]; exact dLight.zlen
  have hrow : (Try.prog.info? 48).map (·.size) = some 200 := dLight.row
  have hLi : (Try.prog.info? 48).map (·.size) = some (ltz).length := by rw [(dLight.zlen : (ltz).length = 200)]; exact hrow
  rw [(dLight.zlen : (ltz).length = 200)] at hth
  generalize hwz : ((w8.alloc (.cells (ltz).toArray 48)).setCells w8.heap.size 0 (ltz)) = w9 at *
  replace hC := hC.trans K (fun _ f => f.elim)
  replace hr := hr.chg K (fun _ _ f => f)
  replace hg := hg.chg K (fun _ _ f => f)
  have hwz' := Lib.hid hwz
  have rN := hN.range0
  clear hwz
  generalize (ltz) = zz at *
  go_wp2_with (first | (with_reducible refine wpList_alloc_row rfl _ rfl zz hz ?_) | (with_reducible refine wpList_store_mid rfl 48 _ _ rfl w8.heap.size 0 (zz).toArray rfl rfl (by rw [hLs]; exact hth) (by rw [hLs, hrow]) (one_mem hone) ?_; rw [List.toList_toArray, hwz'.out]))
  clear rN hN hth hwz' K hz hone hLs hLi hrow
  have H := DecodePacket_any w9 A bs.length c bs rfl hr (by omega)
  rw [hP] at H
  refine H.mono ?_
  rintro e w10 ⟨kd, he⟩
  clear H
  obtain rfl : e = .returned (.tuple #[.agg (Pk.zero.cells).toArray, .int .i64 61]) := he
  replace hC := hC.trans kd (fun _ f => f.elim)
  replace hr := hr.chg kd (fun _ _ f => f)
  replace hg := hg.chg kd (fun _ _ f => f)
  clear kd
  have hz := dPacket.alloc0 w10
  obtain ⟨K, hN, hth⟩ := stored w10 53 (Pk.zero.cells) (Pk.zero.cells) (dPacket.zlen.trans (dPacket.zlen).symm)
  have hone : ∀ v ∈ (Pk.zero.cells), v.oneCell' = true := Pk.zero.one
  have hLs : (Pk.zero.cells).toArray.size = 4 := by rw [List.size_toArray]; exact dPacket.zlen
  have hrow : (Try.prog.info? 53).map (·.size) = some 4 := dPacket.row
  have hLi : (Try.prog.info? 53).map (·.size) = some (Pk.zero.cells).length := by rw [(dPacket.zlen : (Pk.zero.cells).length = 4)]; exact hrow
  rw [(dPacket.zlen : (Pk.zero.cells).length = 4)] at hth
  generalize hwz : ((w10.alloc (.cells (Pk.zero.cells).toArray 53)).setCells w10.heap.size 0 (Pk.zero.cells)) = w11 at *
  replace hC := hC.trans K (fun _ f => f.elim)
  replace hr := hr.chg K (fun _ _ f => f)
  replace hg := hg.chg K (fun _ _ f => f)
  have hwz' := Lib.hid hwz
  have rN := hN.range0
  clear hwz
  generalize (Pk.zero.cells) = zz at *
  go_wp2_with (first | (with_reducible refine wpList_alloc_row rfl _ rfl zz hz ?_) | (with_reducible refine wpList_store_mid rfl 53 _ _ rfl w10.heap.size 0 (zz).toArray rfl rfl (by rw [hLs]; exact hth) (by rw [hLs, hrow]) (one_mem hone) ?_; rw [List.toList_toArray, hwz'.out]))
  clear rN hN hth hwz' K hz hone hLs hLi hrow
  have H := DecodeProof_any w11 A bs.length c bs rfl hr (by omega)
  rw [hQ] at H
  refine H.mono ?_
  rintro e w12 ⟨kd, he⟩
  clear H
  obtain rfl : e = .returned (.tuple #[.agg (pfz).toArray, .int .i64 61]) := he
  replace hC := hC.trans kd (fun _ f => f.elim)
  replace hr := hr.chg kd (fun _ _ f => f)
  replace hg := hg.chg kd (fun _ _ f => f)
  clear kd
  have hz := dProof.alloc0 w12
  obtain ⟨K, hN, hth⟩ := stored w12 59 (pfz) (pfz) (dProof.zlen.trans (dProof.zlen).symm)
  have hone : ∀ v ∈ (pfz), v.oneCell' = true := pfz_one
  have hLs : (pfz).toArray.size = 2 := by rw [List.size_toArray]; exact dProof.zlen
  have hrow : (Try.prog.info? 59).map (·.size) = some 2 := dProof.row
  have hLi : (Try.prog.info? 59).map (·.size) = some (pfz).length := by rw [(dProof.zlen : (pfz).length = 2)]; exact hrow
  rw [(dProof.zlen : (pfz).length = 2)] at hth
  generalize hwz : ((w12.alloc (.cells (pfz).toArray 59)).setCells w12.heap.size 0 (pfz)) = w13 at *
  replace hC := hC.trans K (fun _ f => f.elim)
  replace hr := hr.chg K (fun _ _ f => f)
  replace hg := hg.chg K (fun _ _ f => f)
  have hwz' := Lib.hid hwz
  have rN := hN.range0
  clear hwz
  generalize (pfz) = zz at *
  go_wp2_with (first | (with_reducible refine wpList_alloc_row rfl _ rfl zz hz ?_) | (with_reducible refine wpList_store_mid rfl 59 _ _ rfl w12.heap.size 0 (zz).toArray rfl rfl (by rw [hLs]; exact hth) (by rw [hLs, hrow]) (one_mem hone) ?_; rw [List.toList_toArray, hwz'.out]))
  clear rN hN hth hwz' K hz hone hLs hLi hrow
  refine (alive_any _).mono ?_
  rintro e we ⟨rfl, ke⟩
  go_wp2
  go_ret
  exact ⟨rfl, (hC.trans ke (fun _ f => f.elim)).below (Nat.le_refl _) (fun _ f => f.elim)⟩

set_option maxRecDepth 100000 in
set_option maxHeartbeats 3200000 in
theorem walk_header (W : World) (A : Option Addr) (c : Nat) (bs : List UInt8) (m : UInt8) (hr : Rd W A bs) (hb : bs.length ≤ 20000) (hc : bs.length ≤ c) (hcm : c ≤ maxLen) (x : Hd) (hH : whole (dHeader (some bs)) = some x) (ox : x.Ok) (hri : x.right = true) (hen : x.enc = bs) (hV : whole (dVote (some bs)) = none) (hL : whole (dLight (some bs)) = none) (hP : whole (dPacket (some bs)) = none) (hQ : whole (dProof (some bs)) = none) :
    Calls Try.prog 3 #[.slice A bs.length c, .int .u8 (m.toNat : Int)] W fun e W' => e = .returned (.bool true) ∧ Below W.heap.size W W' := by
  unfold maxLen at hcm
  have hbi : ¬ (20000 : Int) < (bs.length : Int) := by omega
  have hrb := hr
  have hC : Chg Non W W := Chg.refl Non W
  go_enter Try.func3, Try.ntmps3
  go_wp2_with (first
    | (at_builtin; refine wpList_app byt _ rfl _ _ rfl (v := .slice (some ⟨W.heap.size, 0, none⟩) 0 0) rfl (own_zero W) rfl rfl (hrb.chg ((Chg.refl Non W).alloc _) (fun _ _ f => f)) (by simp; omega) ?_; intro v5 w5 ho5 hgr5 hloc5)
    | (at_builtin; refine wpList_app byt _ rfl _ _ rfl (v := v5) rfl (ho5.chg ((Chg.refl Non w5).alloc _) (fun _ _ f => f)) rfl (l2 := [m]) rfl (rd_byte w5 m) (by simp; omega) ?_; intro v6 w6 ho6 hgr6 hloc6; rw [List.nil_append] at ho6; obtain ⟨B, cl, rfl, hc6, hm6, hg, hab6, hlt6⟩ := ho6.slice; obtain ⟨ln, hln⟩ : ∃ ln, ln = (bs ++ [m]).length := ⟨_, rfl⟩; rw [← hln]; have HLN := Lib.hid hln; clear hln))
  have G0 : Grow W (W.alloc (.cells #[] 5)) (.slice (some ⟨W.heap.size, 0, none⟩) 0 0) [] := ⟨own_zero W, fun k hk => by have hk' : some W.heap.size = some k := hk; injection hk' with e; omega, (Chg.refl Non W).alloc _⟩
  have G6 := (G0.more (Chg.refl _ _) ho5 hgr5 hloc5).more ((Chg.refl Non w5).alloc _) (by rw [List.nil_append]; exact ho6) hgr6 hloc6
  have hC6 := G6.chg
  clear G0 G6 ho5 hgr5 hloc5 ho6 hgr6 hloc6 hab6 hlt6 hc6 hm6 hrb
  replace hr := hr.chg hC6 (fun _ _ f => f)
  replace hC := hC.trans hC6 (fun _ f => f.elim)
  clear hC6
  have H := DecodeVote_any w6 A bs.length c bs rfl hr (by omega)
  rw [hV] at H
  refine H.mono ?_
  rintro e w1 ⟨kd, he⟩
  clear H
  obtain rfl : e = .returned (.tuple #[.agg (Vt.zero.cells).toArray, .int .i64 61]) := he
  replace hC := hC.trans kd (fun _ f => f.elim)
  replace hr := hr.chg kd (fun _ _ f => f)
  replace hg := hg.chg kd (fun _ _ f => f)
  clear kd
  have hz := dVote.alloc0 w1
  obtain ⟨K, hN, hth⟩ := stored w1 31 (Vt.zero.cells) (Vt.zero.cells) (dVote.zlen.trans (dVote.zlen).symm)
  have hone : ∀ v ∈ (Vt.zero.cells), v.oneCell' = true := Vt.zero.one
  have hLs : (Vt.zero.cells).toArray.size = 39 := by rw [List.size_toArray]; exact dVote.zlen
  have hrow : (Try.prog.info? 31).map (·.size) = some 39 := dVote.row
  have hLi : (Try.prog.info? 31).map (·.size) = some (Vt.zero.cells).length := by rw [(dVote.zlen : (Vt.zero.cells).length = 39)]; exact hrow
  rw [(dVote.zlen : (Vt.zero.cells).length = 39)] at hth
  generalize hwz : ((w1.alloc (.cells (Vt.zero.cells).toArray 31)).setCells w1.heap.size 0 (Vt.zero.cells)) = w2 at *
  replace hC := hC.trans K (fun _ f => f.elim)
  replace hr := hr.chg K (fun _ _ f => f)
  replace hg := hg.chg K (fun _ _ f => f)
  have hwz' := Lib.hid hwz
  have rN := hN.range0
  clear hwz
  generalize (Vt.zero.cells) = zz at *
  go_wp2_with (first | (with_reducible refine wpList_alloc_row rfl _ rfl zz hz ?_) | (with_reducible refine wpList_store_mid rfl 31 _ _ rfl w1.heap.size 0 (zz).toArray rfl rfl (by rw [hLs]; exact hth) (by rw [hLs, hrow]) (one_mem hone) ?_; rw [List.toList_toArray, hwz'.out]))
  clear rN hN hth hwz' K hz hone hLs hLi hrow
  have H := DecodeHeader_any w2 A bs.length c bs rfl hr (by omega)
  rw [hH] at H
  refine H.mono ?_
  rintro e w3 ⟨kd, he⟩
  clear H
  obtain rfl : e = .returned (.tuple #[.agg x.cells.toArray, .int .i64 0]) := he
  replace hC := hC.trans kd (fun _ f => f.elim)
  replace hr := hr.chg kd (fun _ _ f => f)
  replace hg := hg.chg kd (fun _ _ f => f)
  clear kd
  have hxl : x.cells.length = 163 := x.cells_len ox
  have hxo : ∀ v ∈ x.cells, v.oneCell' = true := x.one
  generalize hcl : x.cells = L at *
  have HCL := Lib.hid hcl
  clear hcl
  have hz := dHeader.alloc0 w3
  obtain ⟨K, hN, hth⟩ := stored w3 39 (Hd.zero.cells) (L) (dHeader.zlen.trans (hxl).symm)
  have hone : ∀ v ∈ (L), v.oneCell' = true := hxo
  have hLs : (L).toArray.size = 163 := by rw [List.size_toArray]; exact hxl
  have hrow : (Try.prog.info? 39).map (·.size) = some 163 := dHeader.row
  have hLi : (Try.prog.info? 39).map (·.size) = some (L).length := by rw [(hxl : (L).length = 163)]; exact hrow
  rw [(hxl : (L).length = 163)] at hth
  generalize hwz : ((w3.alloc (.cells (Hd.zero.cells).toArray 39)).setCells w3.heap.size 0 (L)) = w4 at *
  replace hC := hC.trans K (fun _ f => f.elim)
  replace hr := hr.chg K (fun _ _ f => f)
  replace hg := hg.chg K (fun _ _ f => f)
  have hwz' := Lib.hid hwz
  have rN := hN.range0
  clear hwz
  generalize (Hd.zero.cells) = zz at *
  go_wp2_with (first | (with_reducible refine wpList_alloc_row rfl _ rfl zz hz ?_) | (with_reducible refine wpList_store_mid rfl 39 _ _ rfl w3.heap.size 0 (L).toArray rfl rfl (by rw [hLs]; exact hth) (by rw [hLs, hrow]) (one_mem hone) ?_; rw [List.toList_toArray, hwz'.out]) | (with_reducible refine wpList_load_mid rfl 39 _ rfl w3.heap.size 0 rfl (L) _ rN Try.underlying39 rfl hLi ?_))
  clear rN hN hth hwz' K hz hone hLs hLi hrow
  have HE := EncodeHeader_any w4 x ox
  rw [HCL.out, hri, hen] at HE
  refine HE.mono ?_
  rintro e w5 ⟨ke, v, rfl, ho, _⟩
  clear HE
  replace hC := hC.trans ke (fun _ f => f.elim)
  replace hr := hr.chg ke (fun _ _ f => f)
  replace hg := hg.chg ke (fun _ _ f => f)
  clear ke
  obtain ⟨Ae, ce, rfl, _, _, hre, _, _⟩ := ho.slice
  clear ho
  go_wp2_with fail
  refine (same_any _ Ae A _ _ ce c bs bs rfl rfl hre hr).mono ?_
  rintro e ws ⟨rfl, rfl⟩
  rw [decide_eq_true (rfl : bs = bs)]
  clear hre
  go_wp2_with fail
  have H := DecodeLight_any ws A bs.length c bs rfl hr (by omega)
  rw [hL] at H
  refine H.mono ?_
  rintro e w6 ⟨kd, he⟩
  clear H
  obtain rfl : e = .returned (.tuple #[.agg (ltz).toArray, .int .i64 61]) := he
  replace hC := hC.trans kd (fun _ f => f.elim)
  replace hr := hr.chg kd (fun _ _ f => f)
  replace hg := hg.chg kd (fun _ _ f => f)
  clear kd
  have hz := dLight.alloc0 w6
  obtain ⟨K, hN, hth⟩ := stored w6 48 (ltz) (ltz) (dLight.zlen.trans (dLight.zlen).symm)
  have hone : ∀ v ∈ (ltz), v.oneCell' = true := ltz_one
  have hLs : (ltz).toArray.size = 200 := by rw [List.size_toArray]; exact dLight.zlen
  have hrow : (Try.prog.info? 48).map (·.size) = some 200 := dLight.row
  have hLi : (Try.prog.info? 48).map (·.size) = some (ltz).length := by rw [(dLight.zlen : (ltz).length = 200)]; exact hrow
  rw [(dLight.zlen : (ltz).length = 200)] at hth
  generalize hwz : ((w6.alloc (.cells (ltz).toArray 48)).setCells w6.heap.size 0 (ltz)) = w7 at *
  replace hC := hC.trans K (fun _ f => f.elim)
  replace hr := hr.chg K (fun _ _ f => f)
  replace hg := hg.chg K (fun _ _ f => f)
  have hwz' := Lib.hid hwz
  have rN := hN.range0
  clear hwz
  generalize (ltz) = zz at *
  go_wp2_with (first | (with_reducible refine wpList_alloc_row rfl _ rfl zz hz ?_) | (with_reducible refine wpList_store_mid rfl 48 _ _ rfl w6.heap.size 0 (zz).toArray rfl rfl (by rw [hLs]; exact hth) (by rw [hLs, hrow]) (one_mem hone) ?_; rw [List.toList_toArray, hwz'.out]))
  clear rN hN hth hwz' K hz hone hLs hLi hrow
  have H := DecodePacket_any w7 A bs.length c bs rfl hr (by omega)
  rw [hP] at H
  refine H.mono ?_
  rintro e w8 ⟨kd, he⟩
  clear H
  obtain rfl : e = .returned (.tuple #[.agg (Pk.zero.cells).toArray, .int .i64 61]) := he
  replace hC := hC.trans kd (fun _ f => f.elim)
  replace hr := hr.chg kd (fun _ _ f => f)
  replace hg := hg.chg kd (fun _ _ f => f)
  clear kd
  have hz := dPacket.alloc0 w8
  obtain ⟨K, hN, hth⟩ := stored w8 53 (Pk.zero.cells) (Pk.zero.cells) (dPacket.zlen.trans (dPacket.zlen).symm)
  have hone : ∀ v ∈ (Pk.zero.cells), v.oneCell' = true := Pk.zero.one
  have hLs : (Pk.zero.cells).toArray.size = 4 := by rw [List.size_toArray]; exact dPacket.zlen
  have hrow : (Try.prog.info? 53).map (·.size) = some 4 := dPacket.row
  have hLi : (Try.prog.info? 53).map (·.size) = some (Pk.zero.cells).length := by rw [(dPacket.zlen : (Pk.zero.cells).length = 4)]; exact hrow
  rw [(dPacket.zlen : (Pk.zero.cells).length = 4)] at hth
  generalize hwz : ((w8.alloc (.cells (Pk.zero.cells).toArray 53)).setCells w8.heap.size 0 (Pk.zero.cells)) = w9 at *
  replace hC := hC.trans K (fun _ f => f.elim)
  replace hr := hr.chg K (fun _ _ f => f)
  replace hg := hg.chg K (fun _ _ f => f)
  have hwz' := Lib.hid hwz
  have rN := hN.range0
  clear hwz
  generalize (Pk.zero.cells) = zz at *
  go_wp2_with (first | (with_reducible refine wpList_alloc_row rfl _ rfl zz hz ?_) | (with_reducible refine wpList_store_mid rfl 53 _ _ rfl w8.heap.size 0 (zz).toArray rfl rfl (by rw [hLs]; exact hth) (by rw [hLs, hrow]) (one_mem hone) ?_; rw [List.toList_toArray, hwz'.out]))
  clear rN hN hth hwz' K hz hone hLs hLi hrow
  have H := DecodeProof_any w9 A bs.length c bs rfl hr (by omega)
  rw [hQ] at H
  refine H.mono ?_
  rintro e w10 ⟨kd, he⟩
  clear H
  obtain rfl : e = .returned (.tuple #[.agg (pfz).toArray, .int .i64 61]) := he
  replace hC := hC.trans kd (fun _ f => f.elim)
  replace hr := hr.chg kd (fun _ _ f => f)
  replace hg := hg.chg kd (fun _ _ f => f)
  clear kd
  have hz := dProof.alloc0 w10
  obtain ⟨K, hN, hth⟩ := stored w10 59 (pfz) (pfz) (dProof.zlen.trans (dProof.zlen).symm)
  have hone : ∀ v ∈ (pfz), v.oneCell' = true := pfz_one
  have hLs : (pfz).toArray.size = 2 := by rw [List.size_toArray]; exact dProof.zlen
  have hrow : (Try.prog.info? 59).map (·.size) = some 2 := dProof.row
  have hLi : (Try.prog.info? 59).map (·.size) = some (pfz).length := by rw [(dProof.zlen : (pfz).length = 2)]; exact hrow
  rw [(dProof.zlen : (pfz).length = 2)] at hth
  generalize hwz : ((w10.alloc (.cells (pfz).toArray 59)).setCells w10.heap.size 0 (pfz)) = w11 at *
  replace hC := hC.trans K (fun _ f => f.elim)
  replace hr := hr.chg K (fun _ _ f => f)
  replace hg := hg.chg K (fun _ _ f => f)
  have hwz' := Lib.hid hwz
  have rN := hN.range0
  clear hwz
  generalize (pfz) = zz at *
  go_wp2_with (first | (with_reducible refine wpList_alloc_row rfl _ rfl zz hz ?_) | (with_reducible refine wpList_store_mid rfl 59 _ _ rfl w10.heap.size 0 (zz).toArray rfl rfl (by rw [hLs]; exact hth) (by rw [hLs, hrow]) (one_mem hone) ?_; rw [List.toList_toArray, hwz'.out]))
  clear rN hN hth hwz' K hz hone hLs hLi hrow
  refine (alive_any _).mono ?_
  rintro e we ⟨rfl, ke⟩
  go_wp2
  go_ret
  exact ⟨rfl, (hC.trans ke (fun _ f => f.elim)).below (Nat.le_refl _) (fun _ f => f.elim)⟩

set_option maxRecDepth 100000 in
set_option maxHeartbeats 3200000 in
theorem walk_light (W : World) (A : Option Addr) (c : Nat) (bs : List UInt8) (m : UInt8) (hr : Rd W A bs) (hb : bs.length ≤ 20000) (hc : bs.length ≤ c) (hcm : c ≤ maxLen) (x : Lt) (hL : whole (dLight (some bs)) = some x) (ox : x.Ok) (hri : x.right = true) (hen : x.enc = bs) (hmo : ∀ m, whole (dLight (some (bs ++ [m]))) = none) (h1 : 1 ≤ bs.length) (hcu : whole (dLight (some (bs.take (bs.length - 1)))) = none) (hl1 : x.commit.seals.length ≤ maxLen) (hl2 : x.set.length ≤ maxLen) (hl3 : x.next.length ≤ maxLen) (hV : whole (dVote (some bs)) = none) (hH : whole (dHeader (some bs)) = none) (hP : whole (dPacket (some bs)) = none) (hQ : whole (dProof (some bs)) = none) :
    Calls Try.prog 3 #[.slice A bs.length c, .int .u8 (m.toNat : Int)] W fun e W' => e = .returned (.bool true) ∧ Below W.heap.size W W' := by
  unfold maxLen at hcm
  have hbi : ¬ (20000 : Int) < (bs.length : Int) := by omega
  have hrb := hr
  have hC : Chg Non W W := Chg.refl Non W
  go_enter Try.func3, Try.ntmps3
  go_wp2_with (first
    | (at_builtin; refine wpList_app byt _ rfl _ _ rfl (v := .slice (some ⟨W.heap.size, 0, none⟩) 0 0) rfl (own_zero W) rfl rfl (hrb.chg ((Chg.refl Non W).alloc _) (fun _ _ f => f)) (by simp; omega) ?_; intro v5 w5 ho5 hgr5 hloc5)
    | (at_builtin; refine wpList_app byt _ rfl _ _ rfl (v := v5) rfl (ho5.chg ((Chg.refl Non w5).alloc _) (fun _ _ f => f)) rfl (l2 := [m]) rfl (rd_byte w5 m) (by simp; omega) ?_; intro v6 w6 ho6 hgr6 hloc6; rw [List.nil_append] at ho6; obtain ⟨B, cl, rfl, hc6, hm6, hg, hab6, hlt6⟩ := ho6.slice; obtain ⟨ln, hln⟩ : ∃ ln, ln = (bs ++ [m]).length := ⟨_, rfl⟩; rw [← hln]; have HLN := Lib.hid hln; clear hln))
  have G0 : Grow W (W.alloc (.cells #[] 5)) (.slice (some ⟨W.heap.size, 0, none⟩) 0 0) [] := ⟨own_zero W, fun k hk => by have hk' : some W.heap.size = some k := hk; injection hk' with e; omega, (Chg.refl Non W).alloc _⟩
  have G6 := (G0.more (Chg.refl _ _) ho5 hgr5 hloc5).more ((Chg.refl Non w5).alloc _) (by rw [List.nil_append]; exact ho6) hgr6 hloc6
  have hC6 := G6.chg
  clear G0 G6 ho5 hgr5 hloc5 ho6 hgr6 hloc6 hab6 hlt6 hc6 hm6 hrb
  replace hr := hr.chg hC6 (fun _ _ f => f)
  replace hC := hC.trans hC6 (fun _ f => f.elim)
  clear hC6
  have H := DecodeVote_any w6 A bs.length c bs rfl hr (by omega)
  rw [hV] at H
  refine H.mono ?_
  rintro e w1 ⟨kd, he⟩
  clear H
  obtain rfl : e = .returned (.tuple #[.agg (Vt.zero.cells).toArray, .int .i64 61]) := he
  replace hC := hC.trans kd (fun _ f => f.elim)
  replace hr := hr.chg kd (fun _ _ f => f)
  replace hg := hg.chg kd (fun _ _ f => f)
  clear kd
  have hz := dVote.alloc0 w1
  obtain ⟨K, hN, hth⟩ := stored w1 31 (Vt.zero.cells) (Vt.zero.cells) (dVote.zlen.trans (dVote.zlen).symm)
  have hone : ∀ v ∈ (Vt.zero.cells), v.oneCell' = true := Vt.zero.one
  have hLs : (Vt.zero.cells).toArray.size = 39 := by rw [List.size_toArray]; exact dVote.zlen
  have hrow : (Try.prog.info? 31).map (·.size) = some 39 := dVote.row
  have hLi : (Try.prog.info? 31).map (·.size) = some (Vt.zero.cells).length := by rw [(dVote.zlen : (Vt.zero.cells).length = 39)]; exact hrow
  rw [(dVote.zlen : (Vt.zero.cells).length = 39)] at hth
  generalize hwz : ((w1.alloc (.cells (Vt.zero.cells).toArray 31)).setCells w1.heap.size 0 (Vt.zero.cells)) = w2 at *
  replace hC := hC.trans K (fun _ f => f.elim)
  replace hr := hr.chg K (fun _ _ f => f)
  replace hg := hg.chg K (fun _ _ f => f)
  have hwz' := Lib.hid hwz
  have rN := hN.range0
  clear hwz
  generalize (Vt.zero.cells) = zz at *
  go_wp2_with (first | (with_reducible refine wpList_alloc_row rfl _ rfl zz hz ?_) | (with_reducible refine wpList_store_mid rfl 31 _ _ rfl w1.heap.size 0 (zz).toArray rfl rfl (by rw [hLs]; exact hth) (by rw [hLs, hrow]) (one_mem hone) ?_; rw [List.toList_toArray, hwz'.out]))
  clear rN hN hth hwz' K hz hone hLs hLi hrow
  have H := DecodeHeader_any w2 A bs.length c bs rfl hr (by omega)
  rw [hH] at H
  refine H.mono ?_
  rintro e w3 ⟨kd, he⟩
  clear H
  obtain rfl : e = .returned (.tuple #[.agg (Hd.zero.cells).toArray, .int .i64 61]) := he
  replace hC := hC.trans kd (fun _ f => f.elim)
  replace hr := hr.chg kd (fun _ _ f => f)
  replace hg := hg.chg kd (fun _ _ f => f)
  clear kd
  have hz := dHeader.alloc0 w3
  obtain ⟨K, hN, hth⟩ := stored w3 39 (Hd.zero.cells) (Hd.zero.cells) (dHeader.zlen.trans (dHeader.zlen).symm)
  have hone : ∀ v ∈ (Hd.zero.cells), v.oneCell' = true := Hd.zero.one
  have hLs : (Hd.zero.cells).toArray.size = 163 := by rw [List.size_toArray]; exact dHeader.zlen
  have hrow : (Try.prog.info? 39).map (·.size) = some 163 := dHeader.row
  have hLi : (Try.prog.info? 39).map (·.size) = some (Hd.zero.cells).length := by rw [(dHeader.zlen : (Hd.zero.cells).length = 163)]; exact hrow
  rw [(dHeader.zlen : (Hd.zero.cells).length = 163)] at hth
  generalize hwz : ((w3.alloc (.cells (Hd.zero.cells).toArray 39)).setCells w3.heap.size 0 (Hd.zero.cells)) = w4 at *
  replace hC := hC.trans K (fun _ f => f.elim)
  replace hr := hr.chg K (fun _ _ f => f)
  replace hg := hg.chg K (fun _ _ f => f)
  have hwz' := Lib.hid hwz
  have rN := hN.range0
  clear hwz
  generalize (Hd.zero.cells) = zz at *
  go_wp2_with (first | (with_reducible refine wpList_alloc_row rfl _ rfl zz hz ?_) | (with_reducible refine wpList_store_mid rfl 39 _ _ rfl w3.heap.size 0 (zz).toArray rfl rfl (by rw [hLs]; exact hth) (by rw [hLs, hrow]) (one_mem hone) ?_; rw [List.toList_toArray, hwz'.out]))
  clear rN hN hth hwz' K hz hone hLs hLi hrow
  have H := DecodeLight_any w4 A bs.length c bs rfl hr (by omega)
  rw [hL] at H
  refine H.mono ?_
  rintro e w5 ⟨kd, m1, m2, m3, g1, g2, g3, he, B1, B2, B3⟩
  clear H
  obtain rfl := he
  replace hC := hC.trans kd (fun _ f => f.elim)
  replace hr := hr.chg kd (fun _ _ f => f)
  replace hg := hg.chg kd (fun _ _ f => f)
  clear kd
  have hxl : (x.cells (sl m1 x.commit.seals.length) (sl m2 x.set.length) (sl m3 x.next.length)).length = 200 := Lt.cells_len x ox _ _ _
  have hxo : ∀ v ∈ (x.cells (sl m1 x.commit.seals.length) (sl m2 x.set.length) (sl m3 x.next.length)), v.oneCell' = true := x.one m1 m2 m3
  generalize hcl : (x.cells (sl m1 x.commit.seals.length) (sl m2 x.set.length) (sl m3 x.next.length)) = L at *
  have HCL := Lib.hid hcl
  clear hcl
  have hz := dLight.alloc0 w5
  obtain ⟨K, hN, hth⟩ := stored w5 48 (ltz) (L) (dLight.zlen.trans (hxl).symm)
  have hone : ∀ v ∈ (L), v.oneCell' = true := hxo
  have hLs : (L).toArray.size = 200 := by rw [List.size_toArray]; exact hxl
  have hrow : (Try.prog.info? 48).map (·.size) = some 200 := dLight.row
  have hLi : (Try.prog.info? 48).map (·.size) = some (L).length := by rw [(hxl : (L).length = 200)]; exact hrow
  rw [(hxl : (L).length = 200)] at hth
  generalize hwz : ((w5.alloc (.cells (ltz).toArray 48)).setCells w5.heap.size 0 (L)) = w6 at *
  replace hC := hC.trans K (fun _ f => f.elim)
  replace hr := hr.chg K (fun _ _ f => f)
  replace hg := hg.chg K (fun _ _ f => f)
  replace B1 := B1.chg K (fun f => f)
  replace B2 := B2.chg K (fun f => f)
  replace B3 := B3.chg K (fun f => f)
  have hwz' := Lib.hid hwz
  have rN := hN.range0
  clear hwz
  generalize (ltz) = zz at *
  go_wp2_with (first | (with_reducible refine wpList_alloc_row rfl _ rfl zz hz ?_) | (with_reducible refine wpList_store_mid rfl 48 _ _ rfl w5.heap.size 0 (L).toArray rfl rfl (by rw [hLs]; exact hth) (by rw [hLs, hrow]) (one_mem hone) ?_; rw [List.toList_toArray, hwz'.out]) | (with_reducible refine wpList_load_mid rfl 48 _ rfl w5.heap.size 0 rfl (L) _ rN Try.underlying48 rfl hLi ?_))
  clear rN hN hth hwz' K hz hone hLs hLi hrow
  have HE := EncodeLight_any w6 (some ⟨m1, 0, none⟩) (some ⟨m2, 0, none⟩) (some ⟨m3, 0, none⟩) x.commit.seals.length x.set.length x.next.length x ox hl1 hl2 hl3 (lstM_new (fun _ => rfl) B1) (lstM_new (fun _ => rfl) B2) (lstM_new (fun _ => rfl) B3)
  have hcl : x.cells (.slice (some ⟨m1, 0, none⟩) x.commit.seals.length x.commit.seals.length) (.slice (some ⟨m2, 0, none⟩) x.set.length x.set.length) (.slice (some ⟨m3, 0, none⟩) x.next.length x.next.length) = L := HCL.out
  rw [hcl, hri, hen] at HE
  clear B1 B2 B3 hcl
  refine HE.mono ?_
  rintro e w7 ⟨ke, v, rfl, ho, _⟩
  clear HE
  replace hC := hC.trans ke (fun _ f => f.elim)
  replace hr := hr.chg ke (fun _ _ f => f)
  replace hg := hg.chg ke (fun _ _ f => f)
  clear ke
  obtain ⟨Ae, ce, rfl, _, _, hre, _, _⟩ := ho.slice
  clear ho
  go_wp2_with fail
  have H := DecodeLight_any w7 B ln cl (bs ++ [m]) HLN.out hg (by simp; omega)
  rw [hmo m] at H
  refine H.mono ?_
  rintro e w8 ⟨kd, he⟩
  clear H
  obtain rfl : e = .returned (.tuple #[.agg (ltz).toArray, .int .i64 61]) := he
  replace hC := hC.trans kd (fun _ f => f.elim)
  replace hr := hr.chg kd (fun _ _ f => f)
  replace hg := hg.chg kd (fun _ _ f => f)
  replace hre := hre.chg kd (fun _ _ f => f)
  clear kd
  have hz := dLight.alloc0 w8
  obtain ⟨K, hN, hth⟩ := stored w8 48 (ltz) (ltz) (dLight.zlen.trans (dLight.zlen).symm)
  have hone : ∀ v ∈ (ltz), v.oneCell' = true := ltz_one
  have hLs : (ltz).toArray.size = 200 := by rw [List.size_toArray]; exact dLight.zlen
  have hrow : (Try.prog.info? 48).map (·.size) = some 200 := dLight.row
  have hLi : (Try.prog.info? 48).map (·.size) = some (ltz).length := by rw [(dLight.zlen : (ltz).length = 200)]; exact hrow
  rw [(dLight.zlen : (ltz).length = 200)] at hth
  generalize hwz : ((w8.alloc (.cells (ltz).toArray 48)).setCells w8.heap.size 0 (ltz)) = w9 at *
  replace hC := hC.trans K (fun _ f => f.elim)
  replace hr := hr.chg K (fun _ _ f => f)
  replace hg := hg.chg K (fun _ _ f => f)
  replace hre := hre.chg K (fun _ _ f => f)
  have hwz' := Lib.hid hwz
  have rN := hN.range0
  clear hwz
  generalize (ltz) = zz at *
  go_wp2_with (first | (with_reducible refine wpList_alloc_row rfl _ rfl zz hz ?_) | (with_reducible refine wpList_store_mid rfl 48 _ _ rfl w8.heap.size 0 (zz).toArray rfl rfl (by rw [hLs]; exact hth) (by rw [hLs, hrow]) (one_mem hone) ?_; rw [List.toList_toArray, hwz'.out]))
  clear rN hN hth hwz' K hz hone hLs hLi hrow
  have H := DecodeLight_any w9 A (bs.length - 1) c (bs.take (bs.length - 1)) (by rw [List.length_take]; omega) (hr.take _) (by rw [List.length_take]; omega)
  rw [hcu] at H
  refine H.mono ?_
  rintro e w10 ⟨kd, he⟩
  clear H
  obtain rfl : e = .returned (.tuple #[.agg (ltz).toArray, .int .i64 61]) := he
  replace hC := hC.trans kd (fun _ f => f.elim)
  replace hr := hr.chg kd (fun _ _ f => f)
  replace hg := hg.chg kd (fun _ _ f => f)
  replace hre := hre.chg kd (fun _ _ f => f)
  clear kd
  have hz := dLight.alloc0 w10
  obtain ⟨K, hN, hth⟩ := stored w10 48 (ltz) (ltz) (dLight.zlen.trans (dLight.zlen).symm)
  have hone : ∀ v ∈ (ltz), v.oneCell' = true := ltz_one
  have hLs : (ltz).toArray.size = 200 := by rw [List.size_toArray]; exact dLight.zlen
  have hrow : (Try.prog.info? 48).map (·.size) = some 200 := dLight.row
  have hLi : (Try.prog.info? 48).map (·.size) = some (ltz).length := by rw [(dLight.zlen : (ltz).length = 200)]; exact hrow
  rw [(dLight.zlen : (ltz).length = 200)] at hth
  generalize hwz : ((w10.alloc (.cells (ltz).toArray 48)).setCells w10.heap.size 0 (ltz)) = w11 at *
  replace hC := hC.trans K (fun _ f => f.elim)
  replace hr := hr.chg K (fun _ _ f => f)
  replace hg := hg.chg K (fun _ _ f => f)
  replace hre := hre.chg K (fun _ _ f => f)
  have hwz' := Lib.hid hwz
  have rN := hN.range0
  clear hwz
  generalize (ltz) = zz at *
  go_wp2_with (first | (with_reducible refine wpList_alloc_row rfl _ rfl zz hz ?_) | (with_reducible refine wpList_store_mid rfl 48 _ _ rfl w10.heap.size 0 (zz).toArray rfl rfl (by rw [hLs]; exact hth) (by rw [hLs, hrow]) (one_mem hone) ?_; rw [List.toList_toArray, hwz'.out]))
  clear rN hN hth hwz' K hz hone hLs hLi hrow
  refine (same_any _ Ae A _ _ ce c bs bs rfl rfl hre hr).mono ?_
  rintro e ws ⟨rfl, rfl⟩
  rw [decide_eq_true (rfl : bs = bs)]
  clear hre
  go_wp2_with fail
  have H := DecodePacket_any ws A bs.length c bs rfl hr (by omega)
  rw [hP] at H
  refine H.mono ?_
  rintro e w12 ⟨kd, he⟩
  clear H
  obtain rfl : e = .returned (.tuple #[.agg (Pk.zero.cells).toArray, .int .i64 61]) := he
  replace hC := hC.trans kd (fun _ f => f.elim)
  replace hr := hr.chg kd (fun _ _ f => f)
  replace hg := hg.chg kd (fun _ _ f => f)
  clear kd
  have hz := dPacket.alloc0 w12
  obtain ⟨K, hN, hth⟩ := stored w12 53 (Pk.zero.cells) (Pk.zero.cells) (dPacket.zlen.trans (dPacket.zlen).symm)
  have hone : ∀ v ∈ (Pk.zero.cells), v.oneCell' = true := Pk.zero.one
  have hLs : (Pk.zero.cells).toArray.size = 4 := by rw [List.size_toArray]; exact dPacket.zlen
  have hrow : (Try.prog.info? 53).map (·.size) = some 4 := dPacket.row
  have hLi : (Try.prog.info? 53).map (·.size) = some (Pk.zero.cells).length := by rw [(dPacket.zlen : (Pk.zero.cells).length = 4)]; exact hrow
  rw [(dPacket.zlen : (Pk.zero.cells).length = 4)] at hth
  generalize hwz : ((w12.alloc (.cells (Pk.zero.cells).toArray 53)).setCells w12.heap.size 0 (Pk.zero.cells)) = w13 at *
  replace hC := hC.trans K (fun _ f => f.elim)
  replace hr := hr.chg K (fun _ _ f => f)
  replace hg := hg.chg K (fun _ _ f => f)
  have hwz' := Lib.hid hwz
  have rN := hN.range0
  clear hwz
  generalize (Pk.zero.cells) = zz at *
  go_wp2_with (first | (with_reducible refine wpList_alloc_row rfl _ rfl zz hz ?_) | (with_reducible refine wpList_store_mid rfl 53 _ _ rfl w12.heap.size 0 (zz).toArray rfl rfl (by rw [hLs]; exact hth) (by rw [hLs, hrow]) (one_mem hone) ?_; rw [List.toList_toArray, hwz'.out]))
  clear rN hN hth hwz' K hz hone hLs hLi hrow
  have H := DecodeProof_any w13 A bs.length c bs rfl hr (by omega)
  rw [hQ] at H
  refine H.mono ?_
  rintro e w14 ⟨kd, he⟩
  clear H
  obtain rfl : e = .returned (.tuple #[.agg (pfz).toArray, .int .i64 61]) := he
  replace hC := hC.trans kd (fun _ f => f.elim)
  replace hr := hr.chg kd (fun _ _ f => f)
  replace hg := hg.chg kd (fun _ _ f => f)
  clear kd
  have hz := dProof.alloc0 w14
  obtain ⟨K, hN, hth⟩ := stored w14 59 (pfz) (pfz) (dProof.zlen.trans (dProof.zlen).symm)
  have hone : ∀ v ∈ (pfz), v.oneCell' = true := pfz_one
  have hLs : (pfz).toArray.size = 2 := by rw [List.size_toArray]; exact dProof.zlen
  have hrow : (Try.prog.info? 59).map (·.size) = some 2 := dProof.row
  have hLi : (Try.prog.info? 59).map (·.size) = some (pfz).length := by rw [(dProof.zlen : (pfz).length = 2)]; exact hrow
  rw [(dProof.zlen : (pfz).length = 2)] at hth
  generalize hwz : ((w14.alloc (.cells (pfz).toArray 59)).setCells w14.heap.size 0 (pfz)) = w15 at *
  replace hC := hC.trans K (fun _ f => f.elim)
  replace hr := hr.chg K (fun _ _ f => f)
  replace hg := hg.chg K (fun _ _ f => f)
  have hwz' := Lib.hid hwz
  have rN := hN.range0
  clear hwz
  generalize (pfz) = zz at *
  go_wp2_with (first | (with_reducible refine wpList_alloc_row rfl _ rfl zz hz ?_) | (with_reducible refine wpList_store_mid rfl 59 _ _ rfl w14.heap.size 0 (zz).toArray rfl rfl (by rw [hLs]; exact hth) (by rw [hLs, hrow]) (one_mem hone) ?_; rw [List.toList_toArray, hwz'.out]))
  clear rN hN hth hwz' K hz hone hLs hLi hrow
  refine (alive_any _).mono ?_
  rintro e we ⟨rfl, ke⟩
  go_wp2
  go_ret
  exact ⟨rfl, (hC.trans ke (fun _ f => f.elim)).below (Nat.le_refl _) (fun _ f => f.elim)⟩

set_option maxRecDepth 100000 in
set_option maxHeartbeats 3200000 in
theorem walk_packet (W : World) (A : Option Addr) (c : Nat) (bs : List UInt8) (m : UInt8) (hr : Rd W A bs) (hb : bs.length ≤ 20000) (hc : bs.length ≤ c) (hcm : c ≤ maxLen) (x : Pk) (hP : whole (dPacket (some bs)) = some x) (ox : x.Ok) (hri : x.right = true) (hen : x.enc = bs) (hmo : ∀ m, whole (dPacket (some (bs ++ [m]))) = none) (hV : whole (dVote (some bs)) = none) (hH : whole (dHeader (some bs)) = none) (hL : whole (dLight (some bs)) = none) (hQ : whole (dProof (some bs)) = none) :
    Calls Try.prog 3 #[.slice A bs.length c, .int .u8 (m.toNat : Int)] W fun e W' => e = .returned (.bool true) ∧ Below W.heap.size W W' := by
  unfold maxLen at hcm
  have hbi : ¬ (20000 : Int) < (bs.length : Int) := by omega
  have hrb := hr
  have hC : Chg Non W W := Chg.refl Non W
  go_enter Try.func3, Try.ntmps3
  go_wp2_with (first
    | (at_builtin; refine wpList_app byt _ rfl _ _ rfl (v := .slice (some ⟨W.heap.size, 0, none⟩) 0 0) rfl (own_zero W) rfl rfl (hrb.chg ((Chg.refl Non W).alloc _) (fun _ _ f => f)) (by simp; omega) ?_; intro v5 w5 ho5 hgr5 hloc5)
    | (at_builtin; refine wpList_app byt _ rfl _ _ rfl (v := v5) rfl (ho5.chg ((Chg.refl Non w5).alloc _) (fun _ _ f => f)) rfl (l2 := [m]) rfl (rd_byte w5 m) (by simp; omega) ?_; intro v6 w6 ho6 hgr6 hloc6; rw [List.nil_append] at ho6; obtain ⟨B, cl, rfl, hc6, hm6, hg, hab6, hlt6⟩ := ho6.slice; obtain ⟨ln, hln⟩ : ∃ ln, ln = (bs ++ [m]).length := ⟨_, rfl⟩; rw [← hln]; have HLN := Lib.hid hln; clear hln))
  have G0 : Grow W (W.alloc (.cells #[] 5)) (.slice (some ⟨W.heap.size, 0, none⟩) 0 0) [] := ⟨own_zero W, fun k hk => by have hk' : some W.heap.size = some k := hk; injection hk' with e; omega, (Chg.refl Non W).alloc _⟩
  have G6 := (G0.more (Chg.refl _ _) ho5 hgr5 hloc5).more ((Chg.refl Non w5).alloc _) (by rw [List.nil_append]; exact ho6) hgr6 hloc6
  have hC6 := G6.chg
  clear G0 G6 ho5 hgr5 hloc5 ho6 hgr6 hloc6 hab6 hlt6 hc6 hm6 hrb
  replace hr := hr.chg hC6 (fun _ _ f => f)
  replace hC := hC.trans hC6 (fun _ f => f.elim)
  clear hC6
  have H := DecodeVote_any w6 A bs.length c bs rfl hr (by omega)
  rw [hV] at H
  refine H.mono ?_
  rintro e w1 ⟨kd, he⟩
  clear H
  obtain rfl : e = .returned (.tuple #[.agg (Vt.zero.cells).toArray, .int .i64 61]) := he
  replace hC := hC.trans kd (fun _ f => f.elim)
  replace hr := hr.chg kd (fun _ _ f => f)
  replace hg := hg.chg kd (fun _ _ f => f)
  clear kd
  have hz := dVote.alloc0 w1
  obtain ⟨K, hN, hth⟩ := stored w1 31 (Vt.zero.cells) (Vt.zero.cells) (dVote.zlen.trans (dVote.zlen).symm)
  have hone : ∀ v ∈ (Vt.zero.cells), v.oneCell' = true := Vt.zero.one
  have hLs : (Vt.zero.cells).toArray.size = 39 := by rw [List.size_toArray]; exact dVote.zlen
  have hrow : (Try.prog.info? 31).map (·.size) = some 39 := dVote.row
  have hLi : (Try.prog.info? 31).map (·.size) = some (Vt.zero.cells).length := by rw [(dVote.zlen : (Vt.zero.cells).length = 39)]; exact hrow
  rw [(dVote.zlen : (Vt.zero.cells).length = 39)] at hth
  generalize hwz : ((w1.alloc (.cells (Vt.zero.cells).toArray 31)).setCells w1.heap.size 0 (Vt.zero.cells)) = w2 at *
  replace hC := hC.trans K (fun _ f => f.elim)
  replace hr := hr.chg K (fun _ _ f => f)
  replace hg := hg.chg K (fun _ _ f => f)
  have hwz' := Lib.hid hwz
  have rN := hN.range0
  clear hwz
  generalize (Vt.zero.cells) = zz at *
  go_wp2_with (first | (with_reducible refine wpList_alloc_row rfl _ rfl zz hz ?_) | (with_reducible refine wpList_store_mid rfl 31 _ _ rfl w1.heap.size 0 (zz).toArray rfl rfl (by rw [hLs]; exact hth) (by rw [hLs, hrow]) (one_mem hone) ?_; rw [List.toList_toArray, hwz'.out]))
  clear rN hN hth hwz' K hz hone hLs hLi hrow
  have H := DecodeHeader_any w2 A bs.length c bs rfl hr (by omega)
  rw [hH] at H
  refine H.mono ?_
  rintro e w3 ⟨kd, he⟩
  clear H
  obtain rfl : e = .returned (.tuple #[.agg (Hd.zero.cells).toArray, .int .i64 61]) := he
  replace hC := hC.trans kd (fun _ f => f.elim)
  replace hr := hr.chg kd (fun _ _ f => f)
  replace hg := hg.chg kd (fun _ _ f => f)
  clear kd
  have hz := dHeader.alloc0 w3
  obtain ⟨K, hN, hth⟩ := stored w3 39 (Hd.zero.cells) (Hd.zero.cells) (dHeader.zlen.trans (dHeader.zlen).symm)
  have hone : ∀ v ∈ (Hd.zero.cells), v.oneCell' = true := Hd.zero.one
  have hLs : (Hd.zero.cells).toArray.size = 163 := by rw [List.size_toArray]; exact dHeader.zlen
  have hrow : (Try.prog.info? 39).map (·.size) = some 163 := dHeader.row
  have hLi : (Try.prog.info? 39).map (·.size) = some (Hd.zero.cells).length := by rw [(dHeader.zlen : (Hd.zero.cells).length = 163)]; exact hrow
  rw [(dHeader.zlen : (Hd.zero.cells).length = 163)] at hth
  generalize hwz : ((w3.alloc (.cells (Hd.zero.cells).toArray 39)).setCells w3.heap.size 0 (Hd.zero.cells)) = w4 at *
  replace hC := hC.trans K (fun _ f => f.elim)
  replace hr := hr.chg K (fun _ _ f => f)
  replace hg := hg.chg K (fun _ _ f => f)
  have hwz' := Lib.hid hwz
  have rN := hN.range0
  clear hwz
  generalize (Hd.zero.cells) = zz at *
  go_wp2_with (first | (with_reducible refine wpList_alloc_row rfl _ rfl zz hz ?_) | (with_reducible refine wpList_store_mid rfl 39 _ _ rfl w3.heap.size 0 (zz).toArray rfl rfl (by rw [hLs]; exact hth) (by rw [hLs, hrow]) (one_mem hone) ?_; rw [List.toList_toArray, hwz'.out]))
  clear rN hN hth hwz' K hz hone hLs hLi hrow
  have H := DecodeLight_any w4 A bs.length c bs rfl hr (by omega)
  rw [hL] at H
  refine H.mono ?_
  rintro e w5 ⟨kd, he⟩
  clear H
  obtain rfl : e = .returned (.tuple #[.agg (ltz).toArray, .int .i64 61]) := he
  replace hC := hC.trans kd (fun _ f => f.elim)
  replace hr := hr.chg kd (fun _ _ f => f)
  replace hg := hg.chg kd (fun _ _ f => f)
  clear kd
  have hz := dLight.alloc0 w5
  obtain ⟨K, hN, hth⟩ := stored w5 48 (ltz) (ltz) (dLight.zlen.trans (dLight.zlen).symm)
  have hone : ∀ v ∈ (ltz), v.oneCell' = true := ltz_one
  have hLs : (ltz).toArray.size = 200 := by rw [List.size_toArray]; exact dLight.zlen
  have hrow : (Try.prog.info? 48).map (·.size) = some 200 := dLight.row
  have hLi : (Try.prog.info? 48).map (·.size) = some (ltz).length := by rw [(dLight.zlen : (ltz).length = 200)]; exact hrow
  rw [(dLight.zlen : (ltz).length = 200)] at hth
  generalize hwz : ((w5.alloc (.cells (ltz).toArray 48)).setCells w5.heap.size 0 (ltz)) = w6 at *
  replace hC := hC.trans K (fun _ f => f.elim)
  replace hr := hr.chg K (fun _ _ f => f)
  replace hg := hg.chg K (fun _ _ f => f)
  have hwz' := Lib.hid hwz
  have rN := hN.range0
  clear hwz
  generalize (ltz) = zz at *
  go_wp2_with (first | (with_reducible refine wpList_alloc_row rfl _ rfl zz hz ?_) | (with_reducible refine wpList_store_mid rfl 48 _ _ rfl w5.heap.size 0 (zz).toArray rfl rfl (by rw [hLs]; exact hth) (by rw [hLs, hrow]) (one_mem hone) ?_; rw [List.toList_toArray, hwz'.out]))
  clear rN hN hth hwz' K hz hone hLs hLi hrow
  have H := DecodePacket_any w6 A bs.length c bs rfl hr (by omega)
  rw [hP] at H
  refine H.mono ?_
  rintro e w7 ⟨kd, he⟩
  clear H
  obtain rfl : e = .returned (.tuple #[.agg x.cells.toArray, .int .i64 0]) := he
  replace hC := hC.trans kd (fun _ f => f.elim)
  replace hr := hr.chg kd (fun _ _ f => f)
  replace hg := hg.chg kd (fun _ _ f => f)
  clear kd
  have hxl : x.cells.length = 4 := rfl
  have hxo : ∀ v ∈ x.cells, v.oneCell' = true := x.one
  generalize hcl : x.cells = L at *
  have HCL := Lib.hid hcl
  clear hcl
  have hz := dPacket.alloc0 w7
  obtain ⟨K, hN, hth⟩ := stored w7 53 (Pk.zero.cells) (L) (dPacket.zlen.trans (hxl).symm)
  have hone : ∀ v ∈ (L), v.oneCell' = true := hxo
  have hLs : (L).toArray.size = 4 := by rw [List.size_toArray]; exact hxl
  have hrow : (Try.prog.info? 53).map (·.size) = some 4 := dPacket.row
  have hLi : (Try.prog.info? 53).map (·.size) = some (L).length := by rw [(hxl : (L).length = 4)]; exact hrow
  rw [(hxl : (L).length = 4)] at hth
  generalize hwz : ((w7.alloc (.cells (Pk.zero.cells).toArray 53)).setCells w7.heap.size 0 (L)) = w8 at *
  replace hC := hC.trans K (fun _ f => f.elim)
  replace hr := hr.chg K (fun _ _ f => f)
  replace hg := hg.chg K (fun _ _ f => f)
  have hwz' := Lib.hid hwz
  have rN := hN.range0
  clear hwz
  generalize (Pk.zero.cells) = zz at *
  go_wp2_with (first | (with_reducible refine wpList_alloc_row rfl _ rfl zz hz ?_) | (with_reducible refine wpList_store_mid rfl 53 _ _ rfl w7.heap.size 0 (L).toArray rfl rfl (by rw [hLs]; exact hth) (by rw [hLs, hrow]) (one_mem hone) ?_; rw [List.toList_toArray, hwz'.out]) | (with_reducible refine wpList_load_mid rfl 53 _ rfl w7.heap.size 0 rfl (L) _ rN Try.underlying53 rfl hLi ?_))
  clear rN hN hth hwz' K hz hone hLs hLi hrow
  have HE := EncodePacket_any w8 x ox
  rw [HCL.out, hri, hen] at HE
  refine HE.mono ?_
  rintro e w9 ⟨ke, v, rfl, ho, _⟩
  clear HE
  replace hC := hC.trans ke (fun _ f => f.elim)
  replace hr := hr.chg ke (fun _ _ f => f)
  replace hg := hg.chg ke (fun _ _ f => f)
  clear ke
  obtain ⟨Ae, ce, rfl, _, _, hre, _, _⟩ := ho.slice
  clear ho
  go_wp2_with fail
  have H := DecodePacket_any w9 B ln cl (bs ++ [m]) HLN.out hg (by simp; omega)
  rw [hmo m] at H
  refine H.mono ?_
  rintro e w10 ⟨kd, he⟩
  clear H
  obtain rfl : e = .returned (.tuple #[.agg (Pk.zero.cells).toArray, .int .i64 61]) := he
  replace hC := hC.trans kd (fun _ f => f.elim)
  replace hr := hr.chg kd (fun _ _ f => f)
  replace hg := hg.chg kd (fun _ _ f => f)
  replace hre := hre.chg kd (fun _ _ f => f)
  clear kd
  have hz := dPacket.alloc0 w10
  obtain ⟨K, hN, hth⟩ := stored w10 53 (Pk.zero.cells) (Pk.zero.cells) (dPacket.zlen.trans (dPacket.zlen).symm)
  have hone : ∀ v ∈ (Pk.zero.cells), v.oneCell' = true := Pk.zero.one
  have hLs : (Pk.zero.cells).toArray.size = 4 := by rw [List.size_toArray]; exact dPacket.zlen
  have hrow : (Try.prog.info? 53).map (·.size) = some 4 := dPacket.row
  have hLi : (Try.prog.info? 53).map (·.size) = some (Pk.zero.cells).length := by rw [(dPacket.zlen : (Pk.zero.cells).length = 4)]; exact hrow
  rw [(dPacket.zlen : (Pk.zero.cells).length = 4)] at hth
  generalize hwz : ((w10.alloc (.cells (Pk.zero.cells).toArray 53)).setCells w10.heap.size 0 (Pk.zero.cells)) = w11 at *
  replace hC := hC.trans K (fun _ f => f.elim)
  replace hr := hr.chg K (fun _ _ f => f)
  replace hg := hg.chg K (fun _ _ f => f)
  replace hre := hre.chg K (fun _ _ f => f)
  have hwz' := Lib.hid hwz
  have rN := hN.range0
  clear hwz
  generalize (Pk.zero.cells) = zz at *
  go_wp2_with (first | (with_reducible refine wpList_alloc_row rfl _ rfl zz hz ?_) | (with_reducible refine wpList_store_mid rfl 53 _ _ rfl w10.heap.size 0 (zz).toArray rfl rfl (by rw [hLs]; exact hth) (by rw [hLs, hrow]) (one_mem hone) ?_; rw [List.toList_toArray, hwz'.out]))
  clear rN hN hth hwz' K hz hone hLs hLi hrow
  refine (same_any _ Ae A _ _ ce c bs bs rfl rfl hre hr).mono ?_
  rintro e ws ⟨rfl, rfl⟩
  rw [decide_eq_true (rfl : bs = bs)]
  clear hre
  go_wp2_with fail
  have H := DecodeProof_any ws A bs.length c bs rfl hr (by omega)
  rw [hQ] at H
  refine H.mono ?_
  rintro e w12 ⟨kd, he⟩
  clear H
  obtain rfl : e = .returned (.tuple #[.agg (pfz).toArray, .int .i64 61]) := he
  replace hC := hC.trans kd (fun _ f => f.elim)
  replace hr := hr.chg kd (fun _ _ f => f)
  replace hg := hg.chg kd (fun _ _ f => f)
  clear kd
  have hz := dProof.alloc0 w12
  obtain ⟨K, hN, hth⟩ := stored w12 59 (pfz) (pfz) (dProof.zlen.trans (dProof.zlen).symm)
  have hone : ∀ v ∈ (pfz), v.oneCell' = true := pfz_one
  have hLs : (pfz).toArray.size = 2 := by rw [List.size_toArray]; exact dProof.zlen
  have hrow : (Try.prog.info? 59).map (·.size) = some 2 := dProof.row
  have hLi : (Try.prog.info? 59).map (·.size) = some (pfz).length := by rw [(dProof.zlen : (pfz).length = 2)]; exact hrow
  rw [(dProof.zlen : (pfz).length = 2)] at hth
  generalize hwz : ((w12.alloc (.cells (pfz).toArray 59)).setCells w12.heap.size 0 (pfz)) = w13 at *
  replace hC := hC.trans K (fun _ f => f.elim)
  replace hr := hr.chg K (fun _ _ f => f)
  replace hg := hg.chg K (fun _ _ f => f)
  have hwz' := Lib.hid hwz
  have rN := hN.range0
  clear hwz
  generalize (pfz) = zz at *
  go_wp2_with (first | (with_reducible refine wpList_alloc_row rfl _ rfl zz hz ?_) | (with_reducible refine wpList_store_mid rfl 59 _ _ rfl w12.heap.size 0 (zz).toArray rfl rfl (by rw [hLs]; exact hth) (by rw [hLs, hrow]) (one_mem hone) ?_; rw [List.toList_toArray, hwz'.out]))
  clear rN hN hth hwz' K hz hone hLs hLi hrow
  refine (alive_any _).mono ?_
  rintro e we ⟨rfl, ke⟩
  go_wp2
  go_ret
  exact ⟨rfl, (hC.trans ke (fun _ f => f.elim)).below (Nat.le_refl _) (fun _ f => f.elim)⟩

set_option maxRecDepth 100000 in
set_option maxHeartbeats 3200000 in
theorem walk_proof (W : World) (A : Option Addr) (c : Nat) (bs : List UInt8) (m : UInt8) (hr : Rd W A bs) (hb : bs.length ≤ 20000) (hc : bs.length ≤ c) (hcm : c ≤ maxLen) (x : Pf) (hQ : whole (dProof (some bs)) = some x) (hri : x.right = true) (hen : x.enc = bs) (hsz : I64 x.size) (hok : ∀ y ∈ x.parts, y.Ok) (hpa : ∀ y ∈ x.parts, y.path.length ≤ 4096) (hlm : x.parts.length ≤ maxLen) (hmo : ∀ m, whole (dProof (some (bs ++ [m]))) = none) (hV : whole (dVote (some bs)) = none) (hH : whole (dHeader (some bs)) = none) (hL : whole (dLight (some bs)) = none) (hP : whole (dPacket (some bs)) = none) :
    Calls Try.prog 3 #[.slice A bs.length c, .int .u8 (m.toNat : Int)] W fun e W' => e = .returned (.bool true) ∧ Below W.heap.size W W' := by
  unfold maxLen at hcm
  have hbi : ¬ (20000 : Int) < (bs.length : Int) := by omega
  have hrb := hr
  have hC : Chg Non W W := Chg.refl Non W
  go_enter Try.func3, Try.ntmps3
  go_wp2_with (first
    | (at_builtin; refine wpList_app byt _ rfl _ _ rfl (v := .slice (some ⟨W.heap.size, 0, none⟩) 0 0) rfl (own_zero W) rfl rfl (hrb.chg ((Chg.refl Non W).alloc _) (fun _ _ f => f)) (by simp; omega) ?_; intro v5 w5 ho5 hgr5 hloc5)
    | (at_builtin; refine wpList_app byt _ rfl _ _ rfl (v := v5) rfl (ho5.chg ((Chg.refl Non w5).alloc _) (fun _ _ f => f)) rfl (l2 := [m]) rfl (rd_byte w5 m) (by simp; omega) ?_; intro v6 w6 ho6 hgr6 hloc6; rw [List.nil_append] at ho6; obtain ⟨B, cl, rfl, hc6, hm6, hg, hab6, hlt6⟩ := ho6.slice; obtain ⟨ln, hln⟩ : ∃ ln, ln = (bs ++ [m]).length := ⟨_, rfl⟩; rw [← hln]; have HLN := Lib.hid hln; clear hln))
  have G0 : Grow W (W.alloc (.cells #[] 5)) (.slice (some ⟨W.heap.size, 0, none⟩) 0 0) [] := ⟨own_zero W, fun k hk => by have hk' : some W.heap.size = some k := hk; injection hk' with e; omega, (Chg.refl Non W).alloc _⟩
  have G6 := (G0.more (Chg.refl _ _) ho5 hgr5 hloc5).more ((Chg.refl Non w5).alloc _) (by rw [List.nil_append]; exact ho6) hgr6 hloc6
  have hC6 := G6.chg
  clear G0 G6 ho5 hgr5 hloc5 ho6 hgr6 hloc6 hab6 hlt6 hc6 hm6 hrb
  replace hr := hr.chg hC6 (fun _ _ f => f)
  replace hC := hC.trans hC6 (fun _ f => f.elim)
  clear hC6
  have H := DecodeVote_any w6 A bs.length c bs rfl hr (by omega)
  rw [hV] at H
  refine H.mono ?_
  rintro e w1 ⟨kd, he⟩
  clear H
  obtain rfl : e = .returned (.tuple #[.agg (Vt.zero.cells).toArray, .int .i64 61]) := he
  replace hC := hC.trans kd (fun _ f => f.elim)
  replace hr := hr.chg kd (fun _ _ f => f)
  replace hg := hg.chg kd (fun _ _ f => f)
  clear kd
  have hz := dVote.alloc0 w1
  obtain ⟨K, hN, hth⟩ := stored w1 31 (Vt.zero.cells) (Vt.zero.cells) (dVote.zlen.trans (dVote.zlen).symm)
  have hone : ∀ v ∈ (Vt.zero.cells), v.oneCell' = true := Vt.zero.one
  have hLs : (Vt.zero.cells).toArray.size = 39 := by rw [List.size_toArray]; exact dVote.zlen
  have hrow : (Try.prog.info? 31).map (·.size) = some 39 := dVote.row
  have hLi : (Try.prog.info? 31).map (·.size) = some (Vt.zero.cells).length := by rw [(dVote.zlen : (Vt.zero.cells).length = 39)]; exact hrow
  rw [(dVote.zlen : (Vt.zero.cells).length = 39)] at hth
  generalize hwz : ((w1.alloc (.cells (Vt.zero.cells).toArray 31)).setCells w1.heap.size 0 (Vt.zero.cells)) = w2 at *
  replace hC := hC.trans K (fun _ f => f.elim)
  replace hr := hr.chg K (fun _ _ f => f)
  replace hg := hg.chg K (fun _ _ f => f)
  have hwz' := Lib.hid hwz
  have rN := hN.range0
  clear hwz
  generalize (Vt.zero.cells) = zz at *
  go_wp2_with (first | (with_reducible refine wpList_alloc_row rfl _ rfl zz hz ?_) | (with_reducible refine wpList_store_mid rfl 31 _ _ rfl w1.heap.size 0 (zz).toArray rfl rfl (by rw [hLs]; exact hth) (by rw [hLs, hrow]) (one_mem hone) ?_; rw [List.toList_toArray, hwz'.out]))
  clear rN hN hth hwz' K hz hone hLs hLi hrow
  have H := DecodeHeader_any w2 A bs.length c bs rfl hr (by omega)
  rw [hH] at H
  refine H.mono ?_
  rintro e w3 ⟨kd, he⟩
  clear H
  obtain rfl : e = .returned (.tuple #[.agg (Hd.zero.cells).toArray, .int .i64 61]) := he
  replace hC := hC.trans kd (fun _ f => f.elim)
  replace hr := hr.chg kd (fun _ _ f => f)
  replace hg := hg.chg kd (fun _ _ f => f)
  clear kd
  have hz := dHeader.alloc0 w3
  obtain ⟨K, hN, hth⟩ := stored w3 39 (Hd.zero.cells) (Hd.zero.cells) (dHeader.zlen.trans (dHeader.zlen).symm)
  have hone : ∀ v ∈ (Hd.zero.cells), v.oneCell' = true := Hd.zero.one
  have hLs : (Hd.zero.cells).toArray.size = 163 := by rw [List.size_toArray]; exact dHeader.zlen
  have hrow : (Try.prog.info? 39).map (·.size) = some 163 := dHeader.row
  have hLi : (Try.prog.info? 39).map (·.size) = some (Hd.zero.cells).length := by rw [(dHeader.zlen : (Hd.zero.cells).length = 163)]; exact hrow
  rw [(dHeader.zlen : (Hd.zero.cells).length = 163)] at hth
  generalize hwz : ((w3.alloc (.cells (Hd.zero.cells).toArray 39)).setCells w3.heap.size 0 (Hd.zero.cells)) = w4 at *
  replace hC := hC.trans K (fun _ f => f.elim)
  replace hr := hr.chg K (fun _ _ f => f)
  replace hg := hg.chg K (fun _ _ f => f)
  have hwz' := Lib.hid hwz
  have rN := hN.range0
  clear hwz
  generalize (Hd.zero.cells) = zz at *
  go_wp2_with (first | (with_reducible refine wpList_alloc_row rfl _ rfl zz hz ?_) | (with_reducible refine wpList_store_mid rfl 39 _ _ rfl w3.heap.size 0 (zz).toArray rfl rfl (by rw [hLs]; exact hth) (by rw [hLs, hrow]) (one_mem hone) ?_; rw [List.toList_toArray, hwz'.out]))
  clear rN hN hth hwz' K hz hone hLs hLi hrow
  have H := DecodeLight_any w4 A bs.length c bs rfl hr (by omega)
  rw [hL] at H
  refine H.mono ?_
  rintro e w5 ⟨kd, he⟩
  clear H
  obtain rfl : e = .returned (.tuple #[.agg (ltz).toArray, .int .i64 61]) := he
  replace hC := hC.trans kd (fun _ f => f.elim)
  replace hr := hr.chg kd (fun _ _ f => f)
  replace hg := hg.chg kd (fun _ _ f => f)
  clear kd
  have hz := dLight.alloc0 w5
  obtain ⟨K, hN, hth⟩ := stored w5 48 (ltz) (ltz) (dLight.zlen.trans (dLight.zlen).symm)
  have hone : ∀ v ∈ (ltz), v.oneCell' = true := ltz_one
  have hLs : (ltz).toArray.size = 200 := by rw [List.size_toArray]; exact dLight.zlen
  have hrow : (Try.prog.info? 48).map (·.size) = some 200 := dLight.row
  have hLi : (Try.prog.info? 48).map (·.size) = some (ltz).length := by rw [(dLight.zlen : (ltz).length = 200)]; exact hrow
  rw [(dLight.zlen : (ltz).length = 200)] at hth
  generalize hwz : ((w5.alloc (.cells (ltz).toArray 48)).setCells w5.heap.size 0 (ltz)) = w6 at *
  replace hC := hC.trans K (fun _ f => f.elim)
  replace hr := hr.chg K (fun _ _ f => f)
  replace hg := hg.chg K (fun _ _ f => f)
  have hwz' := Lib.hid hwz
  have rN := hN.range0
  clear hwz
  generalize (ltz) = zz at *
  go_wp2_with (first | (with_reducible refine wpList_alloc_row rfl _ rfl zz hz ?_) | (with_reducible refine wpList_store_mid rfl 48 _ _ rfl w5.heap.size 0 (zz).toArray rfl rfl (by rw [hLs]; exact hth) (by rw [hLs, hrow]) (one_mem hone) ?_; rw [List.toList_toArray, hwz'.out]))
  clear rN hN hth hwz' K hz hone hLs hLi hrow
  have H := DecodePacket_any w6 A bs.length c bs rfl hr (by omega)
  rw [hP] at H
  refine H.mono ?_
  rintro e w7 ⟨kd, he⟩
  clear H
  obtain rfl : e = .returned (.tuple #[.agg (Pk.zero.cells).toArray, .int .i64 61]) := he
  replace hC := hC.trans kd (fun _ f => f.elim)
  replace hr := hr.chg kd (fun _ _ f => f)
  replace hg := hg.chg kd (fun _ _ f => f)
  clear kd
  have hz := dPacket.alloc0 w7
  obtain ⟨K, hN, hth⟩ := stored w7 53 (Pk.zero.cells) (Pk.zero.cells) (dPacket.zlen.trans (dPacket.zlen).symm)
  have hone : ∀ v ∈ (Pk.zero.cells), v.oneCell' = true := Pk.zero.one
  have hLs : (Pk.zero.cells).toArray.size = 4 := by rw [List.size_toArray]; exact dPacket.zlen
  have hrow : (Try.prog.info? 53).map (·.size) = some 4 := dPacket.row
  have hLi : (Try.prog.info? 53).map (·.size) = some (Pk.zero.cells).length := by rw [(dPacket.zlen : (Pk.zero.cells).length = 4)]; exact hrow
  rw [(dPacket.zlen : (Pk.zero.cells).length = 4)] at hth
  generalize hwz : ((w7.alloc (.cells (Pk.zero.cells).toArray 53)).setCells w7.heap.size 0 (Pk.zero.cells)) = w8 at *
  replace hC := hC.trans K (fun _ f => f.elim)
  replace hr := hr.chg K (fun _ _ f => f)
  replace hg := hg.chg K (fun _ _ f => f)
  have hwz' := Lib.hid hwz
  have rN := hN.range0
  clear hwz
  generalize (Pk.zero.cells) = zz at *
  go_wp2_with (first | (with_reducible refine wpList_alloc_row rfl _ rfl zz hz ?_) | (with_reducible refine wpList_store_mid rfl 53 _ _ rfl w7.heap.size 0 (zz).toArray rfl rfl (by rw [hLs]; exact hth) (by rw [hLs, hrow]) (one_mem hone) ?_; rw [List.toList_toArray, hwz'.out]))
  clear rN hN hth hwz' K hz hone hLs hLi hrow
  have H := DecodeProof_any w8 A bs.length c bs rfl hr (by omega)
  rw [hQ] at H
  refine H.mono ?_
  rintro e w9 ⟨kd, nb, ms, hms, g1, he, B1, BI⟩
  clear H
  obtain rfl := he
  replace hC := hC.trans kd (fun _ f => f.elim)
  replace hr := hr.chg kd (fun _ _ f => f)
  replace hg := hg.chg kd (fun _ _ f => f)
  clear kd
  have BI : ∀ m ∈ ms, m.In w9 := fun m hm => (BI m hm).in_ (hok _ (by rw [← hms]; exact List.mem_map_of_mem hm)) (hpa _ (by rw [← hms]; exact List.mem_map_of_mem hm))
  have hml : ms.length = x.parts.length := by rw [← hms, List.length_map]
  have hxl : ([.int .i64 x.size, sl nb x.parts.length] : List Value).length = 2 := rfl
  have hxo : ∀ v ∈ ([.int .i64 x.size, sl nb x.parts.length] : List Value), v.oneCell' = true := by intro v hv; simp at hv; rcases hv with rfl | rfl <;> rfl
  have hpx : (⟨x.size, ms.map Pm.part⟩ : Pf) = x := by rw [hms]
  generalize hcl : ([.int .i64 x.size, sl nb x.parts.length] : List Value) = L at *
  have HCL := Lib.hid hcl
  clear hcl
  have hz := dProof.alloc0 w9
  obtain ⟨K, hN, hth⟩ := stored w9 59 (pfz) (L) (dProof.zlen.trans (hxl).symm)
  have hone : ∀ v ∈ (L), v.oneCell' = true := hxo
  have hLs : (L).toArray.size = 2 := by rw [List.size_toArray]; exact hxl
  have hrow : (Try.prog.info? 59).map (·.size) = some 2 := dProof.row
  have hLi : (Try.prog.info? 59).map (·.size) = some (L).length := by rw [(hxl : (L).length = 2)]; exact hrow
  rw [(hxl : (L).length = 2)] at hth
  generalize hwz : ((w9.alloc (.cells (pfz).toArray 59)).setCells w9.heap.size 0 (L)) = w10 at *
  replace hC := hC.trans K (fun _ f => f.elim)
  replace hr := hr.chg K (fun _ _ f => f)
  replace hg := hg.chg K (fun _ _ f => f)
  replace B1 := B1.chg K (fun f => f)
  replace BI := Ins.chg BI K
  have hwz' := Lib.hid hwz
  have rN := hN.range0
  clear hwz
  generalize (pfz) = zz at *
  go_wp2_with (first | (with_reducible refine wpList_alloc_row rfl _ rfl zz hz ?_) | (with_reducible refine wpList_store_mid rfl 59 _ _ rfl w9.heap.size 0 (L).toArray rfl rfl (by rw [hLs]; exact hth) (by rw [hLs, hrow]) (one_mem hone) ?_; rw [List.toList_toArray, hwz'.out]) | (with_reducible refine wpList_load_mid rfl 59 _ rfl w9.heap.size 0 rfl (L) _ rN Try.underlying59 rfl hLi ?_))
  clear rN hN hth hwz' K hz hone hLs hLi hrow
  have HE := EncodeProof_any w10 (some ⟨nb, 0, none⟩) x.parts.length x.size ms hsz (by rw [hml]; exact hlm) (lstM_new (fun _ => rfl) B1) BI
  have hcl : [Value.int .i64 x.size, .slice (some ⟨nb, 0, none⟩) ms.length x.parts.length].toArray = L.toArray := by rw [hml, ← HCL.out]
  rw [hcl, hpx, hri, hen] at HE
  clear B1 BI hcl
  refine HE.mono ?_
  rintro e w11 ⟨ke, v, rfl, ho, _⟩
  clear HE
  replace hC := hC.trans ke (fun _ f => f.elim)
  replace hr := hr.chg ke (fun _ _ f => f)
  replace hg := hg.chg ke (fun _ _ f => f)
  clear ke
  obtain ⟨Ae, ce, rfl, _, _, hre, _, _⟩ := ho.slice
  clear ho
  go_wp2_with fail
  have H := DecodeProof_any w11 B ln cl (bs ++ [m]) HLN.out hg (by simp; omega)
  rw [hmo m] at H
  refine H.mono ?_
  rintro e w12 ⟨kd, he⟩
  clear H
  obtain rfl : e = .returned (.tuple #[.agg (pfz).toArray, .int .i64 61]) := he
  replace hC := hC.trans kd (fun _ f => f.elim)
  replace hr := hr.chg kd (fun _ _ f => f)
  replace hg := hg.chg kd (fun _ _ f => f)
  replace hre := hre.chg kd (fun _ _ f => f)
  clear kd
  have hz := dProof.alloc0 w12
  obtain ⟨K, hN, hth⟩ := stored w12 59 (pfz) (pfz) (dProof.zlen.trans (dProof.zlen).symm)
  have hone : ∀ v ∈ (pfz), v.oneCell' = true := pfz_one
  have hLs : (pfz).toArray.size = 2 := by rw [List.size_toArray]; exact dProof.zlen
  have hrow : (Try.prog.info? 59).map (·.size) = some 2 := dProof.row
  have hLi : (Try.prog.info? 59).map (·.size) = some (pfz).length := by rw [(dProof.zlen : (pfz).length = 2)]; exact hrow
  rw [(dProof.zlen : (pfz).length = 2)] at hth
  generalize hwz : ((w12.alloc (.cells (pfz).toArray 59)).setCells w12.heap.size 0 (pfz)) = w13 at *
  replace hC := hC.trans K (fun _ f => f.elim)
  replace hr := hr.chg K (fun _ _ f => f)
  replace hg := hg.chg K (fun _ _ f => f)
  replace hre := hre.chg K (fun _ _ f => f)
  have hwz' := Lib.hid hwz
  have rN := hN.range0
  clear hwz
  generalize (pfz) = zz at *
  go_wp2_with (first | (with_reducible refine wpList_alloc_row rfl _ rfl zz hz ?_) | (with_reducible refine wpList_store_mid rfl 59 _ _ rfl w12.heap.size 0 (zz).toArray rfl rfl (by rw [hLs]; exact hth) (by rw [hLs, hrow]) (one_mem hone) ?_; rw [List.toList_toArray, hwz'.out]))
  clear rN hN hth hwz' K hz hone hLs hLi hrow
  refine (same_any _ Ae A _ _ ce c bs bs rfl rfl hre hr).mono ?_
  rintro e ws ⟨rfl, rfl⟩
  rw [decide_eq_true (rfl : bs = bs)]
  clear hre
  go_wp2_with fail
  refine (alive_any _).mono ?_
  rintro e we ⟨rfl, ke⟩
  go_wp2
  go_ret
  exact ⟨rfl, (hC.trans ke (fun _ f => f.elim)).below (Nat.le_refl _) (fun _ f => f.elim)⟩

set_option maxRecDepth 100000 in
theorem walk (W : World) (v0 v1 : Value) (h0 : Okv Try.prog W 22 v0) (h1 : Okv Try.prog W 5 v1) :
    Calls Try.prog 3 #[v0, v1] W fun e W' => e = .returned (.bool true) ∧ Below W.heap.size W W' := by
  obtain ⟨A, c, bs, rfl, hc, hcm, hr, _⟩ := bytes_arg h0
  obtain ⟨m, rfl⟩ := byte_of h1
  clear h0 h1
  by_cases big : 20000 < bs.length
  · have big' : (20000 : Int) < (bs.length : Int) := by omega
    unfold maxLen at hcm
    have hl63 : (bs.length : Int) ≤ 9223372036854775807 := by omega
    go_enter Try.func3, Try.ntmps3
    go_wp2_with fail
    refine (alive_any _).mono ?_
    rintro e w1 ⟨rfl, hc1⟩
    go_wp2
    go_ret
    exact ⟨rfl, hc1.below (Nat.le_refl _) (fun _ f => f.elim)⟩
  have hb : bs.length ≤ 20000 := by omega
  have nV : ∀ k : Int, vN (some bs) = k → (1 : Int) ≠ k → whole (dVote (some bs)) = none := fun k hk hne => none_of hk hne.symm (fun x h => (is_vote h).1)
  have nH : ∀ k : Int, vN (some bs) = k → (2 : Int) ≠ k → whole (dHeader (some bs)) = none := fun k hk hne => none_of hk hne.symm (fun x h => (is_header h).1)
  have nL : ∀ k : Int, vN (some bs) = k → (5 : Int) ≠ k → whole (dLight (some bs)) = none := fun k hk hne => none_of hk hne.symm (fun x h => (is_light h).1)
  have nP : ∀ k : Int, vN (some bs) = k → (6 : Int) ≠ k → whole (dPacket (some bs)) = none := fun k hk hne => none_of hk hne.symm (fun x h => (is_packet h).1)
  have nQ : ∀ k : Int, vN (some bs) = k → (7 : Int) ≠ k → whole (dProof (some bs)) = none := fun k hk hne => none_of hk hne.symm (fun x h => (is_proof h).1)
  cases hV : whole (dVote (some bs)) with
  | some x =>
    obtain ⟨hk, he, hri, ok, hmo⟩ := is_vote hV
    exact walk_vote W A c bs m hr hb hc hcm x hV ok hri he hmo (nH 1 hk (by decide)) (nL 1 hk (by decide)) (nP 1 hk (by decide)) (nQ 1 hk (by decide))
  | none =>
  cases hH : whole (dHeader (some bs)) with
  | some x =>
    obtain ⟨hk, he, hri, ok⟩ := is_header hH
    exact walk_header W A c bs m hr hb hc hcm x hH ok hri he hV (nL 2 hk (by decide)) (nP 2 hk (by decide)) (nQ 2 hk (by decide))
  | none =>
  cases hL : whole (dLight (some bs)) with
  | some x =>
    obtain ⟨hk, he, hri, ok, hmo, h1, hcu⟩ := is_light hL
    have hl := right_lens hri
    exact walk_light W A c bs m hr hb hc hcm x hL ok hri he hmo h1 hcu hl.1 hl.2.1 hl.2.2 hV hH (nP 5 hk (by decide)) (nQ 5 hk (by decide))
  | none =>
  cases hP : whole (dPacket (some bs)) with
  | some x =>
    obtain ⟨hk, he, hri, ok, hmo⟩ := is_packet hP
    exact walk_packet W A c bs m hr hb hc hcm x hP ok hri he hmo hV hH hL (nQ 6 hk (by decide))
  | none =>
  cases hQ : whole (dProof (some bs)) with
  | some x =>
    obtain ⟨hk, he, hri, hsz, hok, hmo⟩ := is_proof hQ
    have hpl := proof_lens hri
    exact walk_proof W A c bs m hr hb hc hcm x hQ hri he hsz hok hpl.2 hpl.1 hmo hV hH hL hP
  | none => exact walk_none W A c bs m hr hb hc hcm hV hH hL hP hQ

/-! ### The row's frame -/
theorem own : ownKnob Try.prog.godebug = none := by kernel_rfl
theorem walkA (W : World) (args : Array Value) (hsz : args.size = Try.f3.params.size) (hok : ∀ (j : Nat) (t : TypeId) (v : Value), Try.f3.params[j]? = some t → args[j]? = some v → Okv Try.prog W t v) :
    Calls Try.prog 3 args W fun e W' => e = .returned (.bool true) ∧ Below W.heap.size W W' := by
  rw [Try.params3] at hsz hok
  obtain ⟨v0, v1, rfl⟩ : ∃ v0 v1 : Value, args = #[v0, v1] := by
    obtain ⟨l⟩ := args
    match l, hsz with
    | [v0, v1], _ => exact ⟨v0, v1, rfl⟩
  exact walk W v0 v1 (hok 0 22 v0 rfl rfl) (hok 1 5 v1 rfl rfl)
set_option maxRecDepth 100000 in
theorem lifted (os : Os) (started : os.Started) (H : Type) (enc : TypeId × Value → H) :
    ReturnsInHanded {} Try.checked os 3 .any (Rows.formOnlySpec.pre6 enc Try.prog Try.f3 Rows.formOnlyRow.domain false) (Rows.formOnlySpec.post enc Try.prog Try.f3 false true false false) :=
  lifted_of_walk (C := Try.checked) (s := Rows.formOnlySpec) (conds := Rows.formOnlyRow.domain) (apart := false) (fresh := true) (T := 4) own started (by kernel_rfl) Try.func3
    (ChangeSpec.witness6 (enc := enc) (C := Try.checked) false ⟨#[], #[.slice none 0 0, .int .u8 0], []⟩ 8 (by kernel_rfl) (by kernel_rfl) (by kernel_rfl) (by kernel_rfl))
    rfl (fun ds hd => by
      rw [Try.params3] at hd
      match ds, hd with
      | [d0, d1], _ => exact ⟨rfl, rfl, rfl⟩)
    (by kernel_rfl) Try.underlying4 (by kernel_rfl) (by rw [Try.params3]; intro t ht; simp only [List.mem_cons, List.not_mem_nil, or_false] at ht; rcases ht with rfl | rfl <;> exact ⟨by kernel_rfl, of_decide_eq_true (by kernel_rfl)⟩) walkA

theorem holds : Rows.formOnlyRow.holds Try.pinned (OpenSpec.ofChange Rows.formOnlySpec) :=
  OpenClaim.holds_of_wide 3 Try.f3 rfl rfl rfl rfl rfl rfl rfl ⟨rfl, rfl, rfl, rfl, rfl⟩ rfl rfl rfl rfl rfl (by kernel_rfl) Try.func3 (by kernel_rfl)
    (of_decide_eq_true (by kernel_rfl)) (by unfold Func.isWrapper; first | (rw [if_pos (by decide +kernel)]; kernel_rfl) | (rw [if_neg (by decide +kernel)]; exact ⟨rfl, rfl⟩))
    (fun os started H enc _ => lifted os started H enc)
end Go.Proofs.Ytinbjbfgfknpaaa.formOnly
namespace Go.Proofs.Ytinbjbfgfknpaaa
/-- The statement. -/
theorem formOnly_holds : Rows.FormOnlySaid := formOnly.holds
end Go.Proofs.Ytinbjbfgfknpaaa
