/- Of the program at this commit: the law FormReads answers true for all bytes (they are the vote, header, packet and proof that the document says, or none); no condition. -/
import Derived.Test.YtgonbmcfeehfaaaRows
import Derived.WalkKit
import Derived.ProofKit
import Derived.Test.YtgonbmcfeehfaaaMFormReads11
import Derived.Test.YtgonbmcfeehfaaaMFormReads13
import Derived.Test.YtgonbmcfeehfaaaMFormReads14
import Derived.Test.YtgonbmcfeehfaaaMFormReads16
import Derived.Test.YtgonbmcfeehfaaaMFormReads17
import Derived.Test.YtgonbmcfeehfaaaMFormReads3
import Derived.Test.YtgonbmcfeehfaaaMFormReads10
namespace Go.Proofs.Ytgonbmcfeehfaaa.formReads
open Go.ChangeShapes Go.WideShapes Go.ChangeAt Go.RowKit
set_option linter.unusedVariables false

theorem dec_Vt {w w' : World} {r : Option Vt} {e : Ending} (h : Dec w Vt.zero.cells (r.map Vt.cells) e w') : Chg Non w w' ∧ e = .returned (.tuple #[.agg (r.getD Vt.zero).cells.toArray, .int .i64 (if r.isSome then 0 else 61)]) := by
  obtain ⟨h1, h2⟩ := h
  refine ⟨h1, ?_⟩
  cases r <;> exact h2
theorem zero_ok_Vt : Vt.zero.Ok := by
  constructor <;> first | exact ⟨by decide, by decide⟩ | decide | (show (0 : Nat) ≤ maxLen; unfold maxLen; omega) | rfl
theorem len_Vt (x : Vt) (ox : x.Ok) : x.cells.length = 39 := by simp [Vt.cells, bv_length, ox.block]
theorem dec_Hd {w w' : World} {r : Option Hd} {e : Ending} (h : Dec w Hd.zero.cells (r.map Hd.cells) e w') : Chg Non w w' ∧ e = .returned (.tuple #[.agg (r.getD Hd.zero).cells.toArray, .int .i64 (if r.isSome then 0 else 61)]) := by
  obtain ⟨h1, h2⟩ := h
  refine ⟨h1, ?_⟩
  cases r <;> exact h2
theorem zero_ok_Hd : Hd.zero.Ok := by
  constructor <;> first | exact ⟨by decide, by decide⟩ | decide | (show (0 : Nat) ≤ maxLen; unfold maxLen; omega) | rfl
theorem len_Hd (x : Hd) (ox : x.Ok) : x.cells.length = 163 := by simp [Hd.cells, bv_length, ox.last, ox.set, ox.next, ox.data, ox.app]
theorem dec_Pk {w w' : World} {r : Option Pk} {e : Ending} (h : Dec w Pk.zero.cells (r.map Pk.cells) e w') : Chg Non w w' ∧ e = .returned (.tuple #[.agg (r.getD Pk.zero).cells.toArray, .int .i64 (if r.isSome then 0 else 61)]) := by
  obtain ⟨h1, h2⟩ := h
  refine ⟨h1, ?_⟩
  cases r <;> exact h2
theorem zero_ok_Pk : Pk.zero.Ok := by
  constructor <;> first | exact ⟨by decide, by decide⟩ | decide | (show (0 : Nat) ≤ maxLen; unfold maxLen; omega) | rfl
theorem len_Pk (x : Pk) (ox : x.Ok) : x.cells.length = 4 := by simp [Pk.cells, bv_length]
/-- A proof that was read, whichever way: in memory, with its parts. -/
def PAny (w : World) (sz k : Int) (ps : List Pa) (e : Ending) (w' : World) : Prop :=
  Chg Non w w' ∧ ∃ (A : Option Addr) (c : Nat) (ms : List Pm), e = .returned (.tuple #[.agg #[.int .i64 sz, .slice A ms.length c], .int .i64 k]) ∧ ms.map Pm.part = ps ∧ LstM w' A ms Pm.cells 4 ∧ ∀ m ∈ ms, m.In w'
theorem proof_lens {x : Pf} (h : x.right = true) : x.parts.length ≤ maxLen ∧ ∀ y ∈ x.parts, y.path.length ≤ 4096 := by
  unfold Pf.right at h
  simp only [Bool.and_eq_true, List.all_eq_true] at h
  obtain ⟨_, h1, h2⟩ := h
  refine ⟨by have := (inR_iff.1 h1).2; unfold maxLen; omega, fun y hy => ?_⟩
  have h3 := h2 y hy
  unfold Pa.right at h3
  simp only [Bool.and_eq_true] at h3
  have := (inR_iff.1 h3.2.2.2).2
  omega
theorem dec_any {w w' : World} {bs : List UInt8} {e : Ending} (h : DecP w pfz (whole (dProof (some bs))) e w') : PAny w (((whole (dProof (some bs))).map Pf.size).getD 0) (if (whole (dProof (some bs))).isSome then 0 else 61) (((whole (dProof (some bs))).map Pf.parts).getD []) e w' := by
  obtain ⟨h1, h2⟩ := h
  refine ⟨h1, ?_⟩
  cases hr : whole (dProof (some bs)) with
  | none =>
    rw [hr] at h2
    exact ⟨none, 0, [], h2, rfl, fun i x hx => by simp at hx, by simp⟩
  | some x =>
    rw [hr] at h2
    obtain ⟨nb, ms, hms, _, he, B1, B2⟩ := h2
    obtain ⟨_, _, hri, _, hok, _⟩ := is_proof hr
    have hpl := proof_lens hri
    have hl : x.parts.length = ms.length := by rw [← hms, List.length_map]
    refine ⟨some ⟨nb, 0, none⟩, x.parts.length, ms, ?_, hms, lstM_new (fun _ => rfl) B1, fun m hm => (B2 m hm).in_ (hok _ (by rw [← hms]; exact List.mem_map_of_mem hm)) (hpl.2 _ (by rw [← hms]; exact List.mem_map_of_mem hm))⟩
    rw [he, hl]
    rfl
theorem ref_any {w w' : World} {r : Option Pf} {e : Ending} (h : RefP w pfz r e w') : PAny w ((r.map Pf.size).getD 0) (if r.isSome then 0 else 61) ((r.map Pf.parts).getD []) e w' := by
  obtain ⟨h1, h2⟩ := h
  refine ⟨h1, ?_⟩
  cases r with
  | none => exact ⟨none, 0, [], h2, rfl, fun i x hx => by simp at hx, by simp⟩
  | some x =>
    obtain ⟨A, c, ms, hms, he, M, I⟩ := h2
    exact ⟨A, c, ms, he, hms, M, I⟩
set_option maxRecDepth 100000 in
set_option maxHeartbeats 6400000 in
theorem walk (W : World) (v0 : Value) (h0 : Okv Try.prog W 22 v0) :
    Calls Try.prog 3 #[v0] W fun e W' => e = .returned (.bool true) ∧ Below W.heap.size W W' := by
  obtain ⟨A, c, bs, rfl, hc, hcm, hr, hA0⟩ := bytes_arg h0
  have hA : bs ≠ [] → ∀ j, abl A j → j < W.heap.size := fun hl j hj => hA0 j hl hj
  clear h0 hA0
  by_cases big : 20000 < bs.length
  · have big' : (20000 : Int) < (bs.length : Int) := by omega
    unfold maxLen at hcm
    have hl63 : (bs.length : Int) ≤ 9223372036854775807 := by omega
    go_enter Try.func3, Try.ntmps3
    go_wp2_with fail
    refine (alive_any _).mono ?_
    rintro e w1 ⟨rfl, hc1⟩
    go_wp2
    go_ret
    exact ⟨rfl, hc1.below (Nat.le_refl _) (fun _ f => f.elim)⟩
  have hb : ¬ (20000 : Int) < (bs.length : Int) := by omega
  have hbs : bs.length ≤ 20000 := by omega
  have hcm' := hcm
  unfold maxLen at hcm'
  have hC : Chg Non W W := Chg.refl Non W
  have hOV : ((whole (dVote (some bs))).getD Vt.zero).Ok := by
    cases h : whole (dVote (some bs)) with
    | none => exact zero_ok_Vt
    | some x => exact (is_vote h).2.2.2.1
  have hDV := fun (w : World) (hr : Rd w A bs) => (DecodeVote_any w A bs.length c bs rfl hr (by omega)).mono fun e w' h => dec_Vt h
  have hFV := fun (w : World) (hr : Rd w A bs) (hA : bs ≠ [] → ∀ j, abl A j → j < w.heap.size) => (ReadVote_any w A c bs hr hc hcm hA).mono fun e w' h => dec_Vt h
  generalize (if (whole (dVote (some bs))).isSome then (0 : Int) else 61) = kV at *
  generalize (whole (dVote (some bs))).getD Vt.zero = xV at *
  have HEQV : Hid (∀ w : World, (Op.equalIn 10000 31 (.agg xV.cells.toArray) (.agg xV.cells.toArray)).run Try.prog w = .ok true w) := Lib.hid fun w => by rw [run_eq_vote w xV xV hOV hOV]; simp
  have hlnV := len_Vt xV hOV
  have honV : ∀ v ∈ xV.cells, v.oneCell' = true := xV.one
  have hrowV : (Try.prog.info? 31).map (·.size) = some 39 := dVote.row
  have hlsV : xV.cells.toArray.size = 39 := by rw [List.size_toArray]; exact hlnV
  have hliV : (Try.prog.info? 31).map (·.size) = some xV.cells.length := by rw [hlnV]; exact hrowV
  generalize xV.cells = LV at *
  have HDV := Lib.hid hDV
  have HFV := Lib.hid hFV
  clear hDV hFV hOV
  have hOH : ((whole (dHeader (some bs))).getD Hd.zero).Ok := by
    cases h : whole (dHeader (some bs)) with
    | none => exact zero_ok_Hd
    | some x => exact (is_header h).2.2.2
  have hDH := fun (w : World) (hr : Rd w A bs) => (DecodeHeader_any w A bs.length c bs rfl hr (by omega)).mono fun e w' h => dec_Hd h
  have hFH := fun (w : World) (hr : Rd w A bs) (hA : bs ≠ [] → ∀ j, abl A j → j < w.heap.size) => (ReadHeader_any w A c bs hr hc hcm hA).mono fun e w' h => dec_Hd h
  generalize (if (whole (dHeader (some bs))).isSome then (0 : Int) else 61) = kH at *
  generalize (whole (dHeader (some bs))).getD Hd.zero = xH at *
  have HEQH : Hid (∀ w : World, (Op.equalIn 10000 36 (.agg xH.cells.toArray) (.agg xH.cells.toArray)).run Try.prog w = .ok true w) := Lib.hid fun w => by rw [run_eq_header 9997 w xH xH hOH hOH]; simp
  have hlnH := len_Hd xH hOH
  have honH : ∀ v ∈ xH.cells, v.oneCell' = true := xH.one
  have hrowH : (Try.prog.info? 36).map (·.size) = some 163 := dHeader.row
  have hlsH : xH.cells.toArray.size = 163 := by rw [List.size_toArray]; exact hlnH
  have hliH : (Try.prog.info? 36).map (·.size) = some xH.cells.length := by rw [hlnH]; exact hrowH
  generalize xH.cells = LH at *
  have HDH := Lib.hid hDH
  have HFH := Lib.hid hFH
  clear hDH hFH hOH
  have hOP : ((whole (dPacket (some bs))).getD Pk.zero).Ok := by
    cases h : whole (dPacket (some bs)) with
    | none => exact zero_ok_Pk
    | some x => exact (is_packet h).2.2.2.1
  have hDP := fun (w : World) (hr : Rd w A bs) => (DecodePacket_any w A bs.length c bs rfl hr (by omega)).mono fun e w' h => dec_Pk h
  have hFP := fun (w : World) (hr : Rd w A bs) (hA : bs ≠ [] → ∀ j, abl A j → j < w.heap.size) => (ReadPacket_any w A c bs hr hc hcm hA).mono fun e w' h => dec_Pk h
  generalize (if (whole (dPacket (some bs))).isSome then (0 : Int) else 61) = kP at *
  generalize (whole (dPacket (some bs))).getD Pk.zero = xP at *
  have HEQP : Hid (∀ w : World, (Op.equalIn 10000 40 (.agg xP.cells.toArray) (.agg xP.cells.toArray)).run Try.prog w = .ok true w) := Lib.hid fun w => by rw [run_eq_packet w xP xP]; simp
  have hlnP := len_Pk xP hOP
  have honP : ∀ v ∈ xP.cells, v.oneCell' = true := xP.one
  have hrowP : (Try.prog.info? 40).map (·.size) = some 4 := dPacket.row
  have hlsP : xP.cells.toArray.size = 4 := by rw [List.size_toArray]; exact hlnP
  have hliP : (Try.prog.info? 40).map (·.size) = some xP.cells.length := by rw [hlnP]; exact hrowP
  generalize xP.cells = LP at *
  have HDP := Lib.hid hDP
  have HFP := Lib.hid hFP
  clear hDP hFP hOP
  have hDQ := fun (w : World) (hr : Rd w A bs) => (DecodeProof_any w A bs.length c bs rfl hr (by omega)).mono fun e w' h => dec_any h
  have hFQ := fun (w : World) (hr : Rd w A bs) (hA : bs ≠ [] → ∀ j, abl A j → j < w.heap.size) => (ReadProof_any w A c bs hr hc hcm hA).mono fun e w' h => ref_any h
  have HPL : Hid ((((whole (dProof (some bs))).map Pf.parts).getD []).length ≤ 1000) := Lib.hid (by
    cases h : whole (dProof (some bs)) with
    | none => simp
    | some x =>
      have hri := (is_proof h).2.2.1
      unfold Pf.right at hri
      simp only [Bool.and_eq_true] at hri
      have := (inR_iff.1 hri.2.1).2
      show x.parts.length ≤ 1000
      omega)
  generalize (if (whole (dProof (some bs))).isSome then (0 : Int) else 61) = kQ at *
  generalize ((whole (dProof (some bs))).map Pf.size).getD 0 = sQ at *
  generalize ((whole (dProof (some bs))).map Pf.parts).getD [] = pQ at *
  have HDQ := Lib.hid hDQ
  have HFQ := Lib.hid hFQ
  clear hDQ hFQ
  go_enter Try.func3, Try.ntmps3
  go_wp2_with fail
  refine (HDV.out W hr).mono ?_
  rintro e w1 ⟨kd, rfl⟩
  replace hC := hC.trans kd (fun _ f => f.elim)
  replace hr := hr.chg kd (fun _ _ f => f)
  replace hA := fun hl j hj => Nat.lt_of_lt_of_le (hA hl j hj) kd.size
  clear kd
  have hz := dVote.alloc0 w1
  obtain ⟨K, BV1, hth⟩ := storedU w1 31 (Vt.zero.cells) (LV) (dVote.zlen.trans (hlnV).symm)
  have hltBV1 := BV1.lt
  rw [hlnV] at hth
  generalize hwz : ((w1.alloc (.cells (Vt.zero.cells).toArray 31)).setCells w1.heap.size 0 (LV)) = w2 at *
  replace hC := hC.trans K (fun _ f => f.elim)
  replace hr := hr.chg K (fun _ _ f => f)
  replace hA := fun hl j hj => Nat.lt_of_lt_of_le (hA hl j hj) K.size
  have hwz' := Lib.hid hwz
  clear hwz
  generalize (Vt.zero.cells) = zz at *
  go_wp2_with (first | (with_reducible refine wpList_alloc_row rfl _ rfl zz hz ?_) | (with_reducible refine wpList_store_mid rfl 31 _ _ rfl w1.heap.size 0 (LV).toArray rfl rfl (by rw [hlsV]; exact hth) (by rw [hlsV, hrowV]) (one_mem honV) ?_; rw [List.toList_toArray, hwz'.out]))
  clear hth hwz' K hz
  generalize hbBV1 : w1.heap.size = bBV1 at *
  clear hbBV1
  refine (HFV.out w2 hr hA).mono ?_
  rintro e w3 ⟨kd, rfl⟩
  replace hC := hC.trans kd (fun _ f => f.elim)
  replace hr := hr.chg kd (fun _ _ f => f)
  replace hA := fun hl j hj => Nat.lt_of_lt_of_le (hA hl j hj) kd.size
  replace BV1 := BV1.chg kd (fun f => f)
  clear kd
  have hz := dVote.alloc0 w3
  obtain ⟨K, BV2, hth⟩ := storedU w3 31 (Vt.zero.cells) (LV) (dVote.zlen.trans (hlnV).symm)
  have hltBV2 := BV2.lt
  rw [hlnV] at hth
  generalize hwz : ((w3.alloc (.cells (Vt.zero.cells).toArray 31)).setCells w3.heap.size 0 (LV)) = w4 at *
  replace hC := hC.trans K (fun _ f => f.elim)
  replace hr := hr.chg K (fun _ _ f => f)
  replace hA := fun hl j hj => Nat.lt_of_lt_of_le (hA hl j hj) K.size
  replace BV1 := BV1.chg K (fun f => f)
  have hwz' := Lib.hid hwz
  clear hwz
  generalize (Vt.zero.cells) = zz at *
  go_wp2_with (first | (with_reducible refine wpList_alloc_row rfl _ rfl zz hz ?_) | (with_reducible refine wpList_store_mid rfl 31 _ _ rfl w3.heap.size 0 (LV).toArray rfl rfl (by rw [hlsV]; exact hth) (by rw [hlsV, hrowV]) (one_mem honV) ?_; rw [List.toList_toArray, hwz'.out]))
  clear hth hwz' K hz
  generalize hbBV2 : w3.heap.size = bBV2 at *
  clear hbBV2
  refine (HDH.out w4 hr).mono ?_
  rintro e w5 ⟨kd, rfl⟩
  replace hC := hC.trans kd (fun _ f => f.elim)
  replace hr := hr.chg kd (fun _ _ f => f)
  replace hA := fun hl j hj => Nat.lt_of_lt_of_le (hA hl j hj) kd.size
  replace BV1 := BV1.chg kd (fun f => f)
  replace BV2 := BV2.chg kd (fun f => f)
  clear kd
  have hz := dHeader.alloc0 w5
  obtain ⟨K, BH1, hth⟩ := storedU w5 36 (Hd.zero.cells) (LH) (dHeader.zlen.trans (hlnH).symm)
  have hltBH1 := BH1.lt
  rw [hlnH] at hth
  generalize hwz : ((w5.alloc (.cells (Hd.zero.cells).toArray 36)).setCells w5.heap.size 0 (LH)) = w6 at *
  replace hC := hC.trans K (fun _ f => f.elim)
  replace hr := hr.chg K (fun _ _ f => f)
  replace hA := fun hl j hj => Nat.lt_of_lt_of_le (hA hl j hj) K.size
  replace BV1 := BV1.chg K (fun f => f)
  replace BV2 := BV2.chg K (fun f => f)
  have hwz' := Lib.hid hwz
  clear hwz
  generalize (Hd.zero.cells) = zz at *
  go_wp2_with (first | (with_reducible refine wpList_alloc_row rfl _ rfl zz hz ?_) | (with_reducible refine wpList_store_mid rfl 36 _ _ rfl w5.heap.size 0 (LH).toArray rfl rfl (by rw [hlsH]; exact hth) (by rw [hlsH, hrowH]) (one_mem honH) ?_; rw [List.toList_toArray, hwz'.out]))
  clear hth hwz' K hz
  generalize hbBH1 : w5.heap.size = bBH1 at *
  clear hbBH1
  refine (HFH.out w6 hr hA).mono ?_
  rintro e w7 ⟨kd, rfl⟩
  replace hC := hC.trans kd (fun _ f => f.elim)
  replace hr := hr.chg kd (fun _ _ f => f)
  replace hA := fun hl j hj => Nat.lt_of_lt_of_le (hA hl j hj) kd.size
  replace BV1 := BV1.chg kd (fun f => f)
  replace BV2 := BV2.chg kd (fun f => f)
  replace BH1 := BH1.chg kd (fun f => f)
  clear kd
  have hz := dHeader.alloc0 w7
  obtain ⟨K, BH2, hth⟩ := storedU w7 36 (Hd.zero.cells) (LH) (dHeader.zlen.trans (hlnH).symm)
  have hltBH2 := BH2.lt
  rw [hlnH] at hth
  generalize hwz : ((w7.alloc (.cells (Hd.zero.cells).toArray 36)).setCells w7.heap.size 0 (LH)) = w8 at *
  replace hC := hC.trans K (fun _ f => f.elim)
  replace hr := hr.chg K (fun _ _ f => f)
  replace hA := fun hl j hj => Nat.lt_of_lt_of_le (hA hl j hj) K.size
  replace BV1 := BV1.chg K (fun f => f)
  replace BV2 := BV2.chg K (fun f => f)
  replace BH1 := BH1.chg K (fun f => f)
  have hwz' := Lib.hid hwz
  clear hwz
  generalize (Hd.zero.cells) = zz at *
  go_wp2_with (first | (with_reducible refine wpList_alloc_row rfl _ rfl zz hz ?_) | (with_reducible refine wpList_store_mid rfl 36 _ _ rfl w7.heap.size 0 (LH).toArray rfl rfl (by rw [hlsH]; exact hth) (by rw [hlsH, hrowH]) (one_mem honH) ?_; rw [List.toList_toArray, hwz'.out]))
  clear hth hwz' K hz
  generalize hbBH2 : w7.heap.size = bBH2 at *
  clear hbBH2
  refine (HDP.out w8 hr).mono ?_
  rintro e w9 ⟨kd, rfl⟩
  replace hC := hC.trans kd (fun _ f => f.elim)
  replace hr := hr.chg kd (fun _ _ f => f)
  replace hA := fun hl j hj => Nat.lt_of_lt_of_le (hA hl j hj) kd.size
  replace BV1 := BV1.chg kd (fun f => f)
  replace BV2 := BV2.chg kd (fun f => f)
  replace BH1 := BH1.chg kd (fun f => f)
  replace BH2 := BH2.chg kd (fun f => f)
  clear kd
  have hz := dPacket.alloc0 w9
  obtain ⟨K, BP1, hth⟩ := storedU w9 40 (Pk.zero.cells) (LP) (dPacket.zlen.trans (hlnP).symm)
  have hltBP1 := BP1.lt
  rw [hlnP] at hth
  generalize hwz : ((w9.alloc (.cells (Pk.zero.cells).toArray 40)).setCells w9.heap.size 0 (LP)) = w10 at *
  replace hC := hC.trans K (fun _ f => f.elim)
  replace hr := hr.chg K (fun _ _ f => f)
  replace hA := fun hl j hj => Nat.lt_of_lt_of_le (hA hl j hj) K.size
  replace BV1 := BV1.chg K (fun f => f)
  replace BV2 := BV2.chg K (fun f => f)
  replace BH1 := BH1.chg K (fun f => f)
  replace BH2 := BH2.chg K (fun f => f)
  have hwz' := Lib.hid hwz
  clear hwz
  generalize (Pk.zero.cells) = zz at *
  go_wp2_with (first | (with_reducible refine wpList_alloc_row rfl _ rfl zz hz ?_) | (with_reducible refine wpList_store_mid rfl 40 _ _ rfl w9.heap.size 0 (LP).toArray rfl rfl (by rw [hlsP]; exact hth) (by rw [hlsP, hrowP]) (one_mem honP) ?_; rw [List.toList_toArray, hwz'.out]))
  clear hth hwz' K hz
  generalize hbBP1 : w9.heap.size = bBP1 at *
  clear hbBP1
  refine (HFP.out w10 hr hA).mono ?_
  rintro e w11 ⟨kd, rfl⟩
  replace hC := hC.trans kd (fun _ f => f.elim)
  replace hr := hr.chg kd (fun _ _ f => f)
  replace hA := fun hl j hj => Nat.lt_of_lt_of_le (hA hl j hj) kd.size
  replace BV1 := BV1.chg kd (fun f => f)
  replace BV2 := BV2.chg kd (fun f => f)
  replace BH1 := BH1.chg kd (fun f => f)
  replace BH2 := BH2.chg kd (fun f => f)
  replace BP1 := BP1.chg kd (fun f => f)
  clear kd
  have hz := dPacket.alloc0 w11
  obtain ⟨K, BP2, hth⟩ := storedU w11 40 (Pk.zero.cells) (LP) (dPacket.zlen.trans (hlnP).symm)
  have hltBP2 := BP2.lt
  rw [hlnP] at hth
  generalize hwz : ((w11.alloc (.cells (Pk.zero.cells).toArray 40)).setCells w11.heap.size 0 (LP)) = w12 at *
  replace hC := hC.trans K (fun _ f => f.elim)
  replace hr := hr.chg K (fun _ _ f => f)
  replace hA := fun hl j hj => Nat.lt_of_lt_of_le (hA hl j hj) K.size
  replace BV1 := BV1.chg K (fun f => f)
  replace BV2 := BV2.chg K (fun f => f)
  replace BH1 := BH1.chg K (fun f => f)
  replace BH2 := BH2.chg K (fun f => f)
  replace BP1 := BP1.chg K (fun f => f)
  have hwz' := Lib.hid hwz
  clear hwz
  generalize (Pk.zero.cells) = zz at *
  go_wp2_with (first | (with_reducible refine wpList_alloc_row rfl _ rfl zz hz ?_) | (with_reducible refine wpList_store_mid rfl 40 _ _ rfl w11.heap.size 0 (LP).toArray rfl rfl (by rw [hlsP]; exact hth) (by rw [hlsP, hrowP]) (one_mem honP) ?_; rw [List.toList_toArray, hwz'.out]))
  clear hth hwz' K hz
  generalize hbBP2 : w11.heap.size = bBP2 at *
  clear hbBP2
  refine (HDQ.out w12 hr).mono ?_
  rintro e w13 ⟨kd, A1, c1, ms1, rfl, E1, M1, I1⟩
  replace hC := hC.trans kd (fun _ f => f.elim)
  replace hr := hr.chg kd (fun _ _ f => f)
  replace hA := fun hl j hj => Nat.lt_of_lt_of_le (hA hl j hj) kd.size
  replace BV1 := BV1.chg kd (fun f => f)
  replace BV2 := BV2.chg kd (fun f => f)
  replace BH1 := BH1.chg kd (fun f => f)
  replace BH2 := BH2.chg kd (fun f => f)
  replace BP1 := BP1.chg kd (fun f => f)
  replace BP2 := BP2.chg kd (fun f => f)
  clear kd
  generalize hLQ1 : ([.int .i64 sQ, .slice A1 ms1.length c1] : List Value) = LQ1 at *
  have hlnQ : LQ1.length = 2 := by rw [← hLQ1]; rfl
  have honQ : ∀ v ∈ LQ1, v.oneCell' = true := by rw [← hLQ1]; intro v hv; simp at hv; rcases hv with rfl | rfl <;> rfl
  have hrowQ : (Try.prog.info? 45).map (·.size) = some 2 := dProof.row
  have hlsQ : LQ1.toArray.size = 2 := by rw [List.size_toArray]; exact hlnQ
  have hliQ1 : (Try.prog.info? 45).map (·.size) = some LQ1.length := by rw [hlnQ]; exact hrowQ
  have HLQ1 := Lib.hid hLQ1
  have HE1 := Lib.hid E1
  clear hLQ1 E1
  have hz := dProof.alloc0 w13
  obtain ⟨K, BQ1, hth⟩ := storedU w13 45 pfz LQ1 (dProof.zlen.trans hlnQ.symm)
  have hltBQ1 := BQ1.lt
  rw [hlnQ] at hth
  generalize hwz : ((w13.alloc (.cells pfz.toArray 45)).setCells w13.heap.size 0 LQ1) = w14 at *
  replace hC := hC.trans K (fun _ f => f.elim)
  replace hr := hr.chg K (fun _ _ f => f)
  replace hA := fun hl j hj => Nat.lt_of_lt_of_le (hA hl j hj) K.size
  replace BV1 := BV1.chg K (fun f => f)
  replace BV2 := BV2.chg K (fun f => f)
  replace BH1 := BH1.chg K (fun f => f)
  replace BH2 := BH2.chg K (fun f => f)
  replace BP1 := BP1.chg K (fun f => f)
  replace BP2 := BP2.chg K (fun f => f)
  replace M1 := M1.chg K
  replace I1 := Ins.chg I1 K
  have hwz' := Lib.hid hwz
  clear hwz
  generalize pfz = zz at *
  go_wp2_with (first | (with_reducible refine wpList_alloc_row rfl _ rfl zz hz ?_) | (with_reducible refine wpList_store_mid rfl 45 _ _ rfl w13.heap.size 0 LQ1.toArray rfl rfl (by rw [hlsQ]; exact hth) (by rw [hlsQ, hrowQ]) (one_mem honQ) ?_; rw [List.toList_toArray, hwz'.out]))
  clear hth hwz' K hz
  generalize hbBQ1 : w13.heap.size = bBQ1 at *
  clear hbBQ1
  refine (HFQ.out w14 hr hA).mono ?_
  rintro e w15 ⟨kd, A2, c2, ms2, rfl, E2, M2, I2⟩
  replace hC := hC.trans kd (fun _ f => f.elim)
  replace hr := hr.chg kd (fun _ _ f => f)
  replace hA := fun hl j hj => Nat.lt_of_lt_of_le (hA hl j hj) kd.size
  replace BV1 := BV1.chg kd (fun f => f)
  replace BV2 := BV2.chg kd (fun f => f)
  replace BH1 := BH1.chg kd (fun f => f)
  replace BH2 := BH2.chg kd (fun f => f)
  replace BP1 := BP1.chg kd (fun f => f)
  replace BP2 := BP2.chg kd (fun f => f)
  replace M1 := M1.chg kd
  replace I1 := Ins.chg I1 kd
  replace BQ1 := BQ1.chg kd (fun f => f)
  clear kd
  generalize hLQ2 : ([.int .i64 sQ, .slice A2 ms2.length c2] : List Value) = LQ2 at *
  have hlnQ : LQ2.length = 2 := by rw [← hLQ2]; rfl
  have honQ : ∀ v ∈ LQ2, v.oneCell' = true := by rw [← hLQ2]; intro v hv; simp at hv; rcases hv with rfl | rfl <;> rfl
  have hrowQ : (Try.prog.info? 45).map (·.size) = some 2 := dProof.row
  have hlsQ : LQ2.toArray.size = 2 := by rw [List.size_toArray]; exact hlnQ
  have hliQ2 : (Try.prog.info? 45).map (·.size) = some LQ2.length := by rw [hlnQ]; exact hrowQ
  have HLQ2 := Lib.hid hLQ2
  have HE2 := Lib.hid E2
  clear hLQ2 E2
  have rQ1 := BQ1.range0
  have hz := dProof.alloc0 w15
  obtain ⟨K, BQ2, hth⟩ := storedU w15 45 pfz LQ2 (dProof.zlen.trans hlnQ.symm)
  have hltBQ2 := BQ2.lt
  rw [hlnQ] at hth
  generalize hwz : ((w15.alloc (.cells pfz.toArray 45)).setCells w15.heap.size 0 LQ2) = w16 at *
  replace hC := hC.trans K (fun _ f => f.elim)
  replace hr := hr.chg K (fun _ _ f => f)
  replace hA := fun hl j hj => Nat.lt_of_lt_of_le (hA hl j hj) K.size
  replace BV1 := BV1.chg K (fun f => f)
  replace BV2 := BV2.chg K (fun f => f)
  replace BH1 := BH1.chg K (fun f => f)
  replace BH2 := BH2.chg K (fun f => f)
  replace BP1 := BP1.chg K (fun f => f)
  replace BP2 := BP2.chg K (fun f => f)
  replace M1 := M1.chg K
  replace I1 := Ins.chg I1 K
  replace BQ1 := BQ1.chg K (fun f => f)
  replace M2 := M2.chg K
  replace I2 := Ins.chg I2 K
  replace rQ1 := BQ1.range0
  have rQ2 := BQ2.range0
  have hwz' := Lib.hid hwz
  clear hwz
  generalize pfz = zz at *
  go_wp2_with (first | (with_reducible refine wpList_alloc_row rfl _ rfl zz hz ?_) | (with_reducible refine wpList_store_mid rfl 45 _ _ rfl w15.heap.size 0 LQ2.toArray rfl rfl (by rw [hlsQ]; exact hth) (by rw [hlsQ, hrowQ]) (one_mem honQ) ?_; rw [List.toList_toArray, hwz'.out]) | (with_reducible refine wpList_load_mid rfl 45 _ rfl bBQ1 0 rfl LQ1 _ rQ1 Try.underlying45 rfl hliQ1 ?_) | (with_reducible refine wpList_load_mid rfl 45 _ rfl w15.heap.size 0 rfl LQ2 _ rQ2 Try.underlying45 rfl hliQ2 ?_))
  clear hth hwz' K hz
  generalize hbBQ2 : w15.heap.size = bBQ2 at *
  clear hbBQ2
  have hms : ms1.length ≤ 1000 := by
    have h1 := congrArg List.length HE1.out
    rw [List.length_map] at h1
    rw [h1]
    exact HPL.out
  have HS := sameProof_yes w16 A1 A2 c1 c2 sQ ms1 ms2 (HE1.out.trans HE2.out.symm) hms M1 M2 I1 I2
  have e1 : #[Value.int .i64 sQ, .slice A1 ms1.length c1] = LQ1.toArray := by rw [← HLQ1.out]
  have e2 : #[Value.int .i64 sQ, .slice A2 ms2.length c2] = LQ2.toArray := by rw [← HLQ2.out]
  rw [e1, e2] at HS
  refine HS.mono ?_
  rintro e ws ⟨rfl, ks⟩
  clear HS e1 e2 rQ1 rQ2
  replace hC := hC.trans ks (fun _ f => f.elim)
  replace hr := hr.chg ks (fun _ _ f => f)
  replace hA := fun hl j hj => Nat.lt_of_lt_of_le (hA hl j hj) ks.size
  replace BV1 := BV1.chg ks (fun f => f)
  replace BV2 := BV2.chg ks (fun f => f)
  replace BH1 := BH1.chg ks (fun f => f)
  replace BH2 := BH2.chg ks (fun f => f)
  replace BP1 := BP1.chg ks (fun f => f)
  replace BP2 := BP2.chg ks (fun f => f)
  replace M1 := M1.chg ks
  replace I1 := Ins.chg I1 ks
  replace BQ1 := BQ1.chg ks (fun f => f)
  replace M2 := M2.chg ks
  replace I2 := Ins.chg I2 ks
  replace BQ2 := BQ2.chg ks (fun f => f)
  go_wp2_with fail
  refine (alive_any _).mono ?_
  rintro e we ⟨rfl, ke⟩
  replace hC := hC.trans ke (fun _ f => f.elim)
  replace hr := hr.chg ke (fun _ _ f => f)
  replace hA := fun hl j hj => Nat.lt_of_lt_of_le (hA hl j hj) ke.size
  replace BV1 := BV1.chg ke (fun f => f)
  replace BV2 := BV2.chg ke (fun f => f)
  replace BH1 := BH1.chg ke (fun f => f)
  replace BH2 := BH2.chg ke (fun f => f)
  replace BP1 := BP1.chg ke (fun f => f)
  replace BP2 := BP2.chg ke (fun f => f)
  replace M1 := M1.chg ke
  replace I1 := Ins.chg I1 ke
  replace BQ1 := BQ1.chg ke (fun f => f)
  replace M2 := M2.chg ke
  replace I2 := Ins.chg I2 ke
  replace BQ2 := BQ2.chg ke (fun f => f)
  have rV1 := BV1.range0
  have rV2 := BV2.range0
  have EQV := HEQV.out we
  have rH1 := BH1.range0
  have rH2 := BH2.range0
  have EQH := HEQH.out we
  have rP1 := BP1.range0
  have rP2 := BP2.range0
  have EQP := HEQP.out we
  go_wp2_with (first | (with_reducible refine wpList_load_w 31 _ rfl ?_ bBV1 0 rfl LV _ rV1 Try.underlying31 rfl hliV ?_; focus (first | (simp [Region.wanted, yielded]; done) | (go_simp; done) | kernel_rfl)) | (with_reducible refine wpList_load_w 31 _ rfl ?_ bBV2 0 rfl LV _ rV2 Try.underlying31 rfl hliV ?_; focus (first | (simp [Region.wanted, yielded]; done) | (go_simp; done) | kernel_rfl)) | (with_reducible refine wpList_eql_w 31 _ _ _ rfl ?_ (xs := LV.toArray) (ys := LV.toArray) rfl rfl vote_guard EQV ?_; focus (first | (simp [Region.wanted, yielded]; done) | (go_simp; done) | kernel_rfl)) | (with_reducible refine wpList_load_w 36 _ rfl ?_ bBH1 0 rfl LH _ rH1 Try.underlying36 rfl hliH ?_; focus (first | (simp [Region.wanted, yielded]; done) | (go_simp; done) | kernel_rfl)) | (with_reducible refine wpList_load_w 36 _ rfl ?_ bBH2 0 rfl LH _ rH2 Try.underlying36 rfl hliH ?_; focus (first | (simp [Region.wanted, yielded]; done) | (go_simp; done) | kernel_rfl)) | (with_reducible refine wpList_eql_w 36 _ _ _ rfl ?_ (xs := LH.toArray) (ys := LH.toArray) rfl rfl header_guard EQH ?_; focus (first | (simp [Region.wanted, yielded]; done) | (go_simp; done) | kernel_rfl)) | (with_reducible refine wpList_load_w 40 _ rfl ?_ bBP1 0 rfl LP _ rP1 Try.underlying40 rfl hliP ?_; focus (first | (simp [Region.wanted, yielded]; done) | (go_simp; done) | kernel_rfl)) | (with_reducible refine wpList_load_w 40 _ rfl ?_ bBP2 0 rfl LP _ rP2 Try.underlying40 rfl hliP ?_; focus (first | (simp [Region.wanted, yielded]; done) | (go_simp; done) | kernel_rfl)) | (with_reducible refine wpList_eql_w 40 _ _ _ rfl ?_ (xs := LP.toArray) (ys := LP.toArray) rfl rfl packet_guard EQP ?_; focus (first | (simp [Region.wanted, yielded]; done) | (go_simp; done) | kernel_rfl)))
  go_ret
  exact ⟨rfl, hC.below (Nat.le_refl _) (fun _ f => f.elim)⟩

/-! ### The row's frame -/
theorem own : ownKnob Try.prog.godebug = none := by kernel_rfl
theorem walkA (W : World) (args : Array Value) (hsz : args.size = Try.f3.params.size) (hok : ∀ (j : Nat) (t : TypeId) (v : Value), Try.f3.params[j]? = some t → args[j]? = some v → Okv Try.prog W t v) :
    Calls Try.prog 3 args W fun e W' => e = .returned (.bool true) ∧ Below W.heap.size W W' := by
  rw [Try.params3] at hsz hok
  obtain ⟨v0, rfl⟩ : ∃ v0 : Value, args = #[v0] := by
    obtain ⟨l⟩ := args
    match l, hsz with
    | [v0], _ => exact ⟨v0, rfl⟩
  exact walk W v0 (hok 0 22 v0 rfl rfl)
set_option maxRecDepth 100000 in
theorem lifted (os : Os) (started : os.Started) (H : Type) (enc : TypeId × Value → H) :
    ReturnsInHanded {} Try.checked os 3 .any (Rows.formReadsSpec.pre6 enc Try.prog Try.f3 Rows.formReadsRow.domain false) (Rows.formReadsSpec.post enc Try.prog Try.f3 false true false false) :=
  lifted_of_walk (C := Try.checked) (s := Rows.formReadsSpec) (conds := Rows.formReadsRow.domain) (apart := false) (fresh := true) (T := 4) own started (by kernel_rfl) Try.func3
    (ChangeSpec.witness6 (enc := enc) (C := Try.checked) false ⟨#[], #[.slice none 0 0], []⟩ 8 (by kernel_rfl) (by kernel_rfl) (by kernel_rfl) (by kernel_rfl))
    rfl (fun ds hd => by
      rw [Try.params3] at hd
      match ds, hd with
      | [d0], _ => exact ⟨rfl, rfl, rfl⟩)
    (by kernel_rfl) Try.underlying4 (by kernel_rfl) (by rw [Try.params3]; intro t ht; simp only [List.mem_cons, List.not_mem_nil, or_false] at ht; subst ht; exact ⟨by kernel_rfl, of_decide_eq_true (by kernel_rfl)⟩) walkA

theorem holds : Rows.formReadsRow.holds Try.pinned (OpenSpec.ofChange Rows.formReadsSpec) :=
  OpenClaim.holds_of_wide 3 Try.f3 rfl rfl rfl rfl rfl rfl rfl ⟨rfl, rfl, rfl, rfl, rfl⟩ rfl rfl rfl rfl rfl (by kernel_rfl) Try.func3 (by kernel_rfl)
    (of_decide_eq_true (by kernel_rfl)) (by unfold Func.isWrapper; first | (rw [if_pos (by decide +kernel)]; kernel_rfl) | (rw [if_neg (by decide +kernel)]; exact ⟨rfl, rfl⟩))
    (fun os started H enc _ => lifted os started H enc)
end Go.Proofs.Ytgonbmcfeehfaaa.formReads
namespace Go.Proofs.Ytgonbmcfeehfaaa
/-- The statement. -/
theorem formReads_holds : Rows.FormReadsSaid := formReads.holds
end Go.Proofs.Ytgonbmcfeehfaaa
