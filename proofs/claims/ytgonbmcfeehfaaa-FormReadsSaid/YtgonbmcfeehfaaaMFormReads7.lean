import Derived.Test.YtgonbmcfeehfaaaChecked
import Derived.WalkKit
import Derived.Lib.Hide
import Derived.WalkLawsBesides
import Derived.Deep.RegionHeld3
import Derived.Test.YtgonbmcfeehfaaaMFormReads6
/- Parts and proofs of package forms: what bytes are. Plain mathematics. -/
namespace Go.Proofs.Ytgonbmcfeehfaaa
open Go.RowKit
set_option linter.unusedVariables false
set_option linter.unusedSimpArgs false
set_option maxRecDepth 20000

def dHs (st : St) : Option (List UInt8 × St) := some (vH st, nH st)
theorem dHs_inv (st : St) (x : List UInt8) (r : List UInt8) (h : dHs st = some (x, some r)) : st = some (id x ++ r) ∧ x.length = 32 := by
  unfold dHs at h
  simp only [Option.some.injEq, Prod.mk.injEq] at h
  obtain ⟨rfl, h1⟩ := h
  exact ⟨nH_inv h1, vH_length st⟩
theorem dHs_app (x : List UInt8) (r : List UInt8) (ox : x.length = 32) : dHs (some (id x ++ r)) = some (x, some r) := by
  unfold dHs
  rw [id, (vH_app x ox r).1, (vH_app x ox r).2]
def dPa (st : St) : Option (Pa × St) :=
  (dNum 0 4096 st).bind fun i => (dText 4096 i.2).bind fun k => (dText 4096 k.2).bind fun v => (dList dHs 16 v.2).bind fun l => some (⟨i.1, k.1, v.1, l.1⟩, l.2)
theorem dPa_inv (st : St) (x : Pa) (r : List UInt8) (h : dPa st = some (x, some r)) : st = some (x.enc ++ r) ∧ (x.right = true ∧ x.Ok) := by
  unfold dPa at h
  simp only [Option.bind_eq_some_iff, Option.some.injEq, Prod.mk.injEq, Prod.exists] at h
  obtain ⟨i, s1, h1, k, s2, h2, v, s3, h3, l, s4, h4, rfl, rfl⟩ := h
  obtain ⟨e4, o4, o5⟩ := dList_inv dHs_inv h4
  rw [e4] at h3
  obtain ⟨e3, o3⟩ := dText_inv h3
  rw [e3] at h2
  obtain ⟨e2, o2⟩ := dText_inv h2
  rw [e2] at h1
  obtain ⟨e1, o1⟩ := dNum_inv h1
  refine ⟨?_, by simp [Pa.right, o1, o2, o3, o5], i64_in o1 (by omega) (by omega), by show k.size ≤ maxLen; unfold maxLen; omega, by show v.size ≤ maxLen; unfold maxLen; omega, o4⟩
  rw [e1]
  simp only [Pa.enc, List.append_assoc]
theorem dPa_app (x : Pa) (r : List UInt8) (h : x.right = true ∧ x.Ok) : dPa (some (x.enc ++ r)) = some (x, some r) := by
  obtain ⟨h, ox⟩ := h
  unfold Pa.right at h
  simp only [Bool.and_eq_true, decide_eq_true_eq] at h
  obtain ⟨o1, o2, o3, o4⟩ := h
  have h64 := (inR_iff.1 o4).2
  unfold dPa Pa.enc
  simp only [List.append_assoc]
  rw [dNum_app ox.index.l ox.index.h o1, Option.bind_some]
  simp only
  rw [dText_app o2 (by omega), Option.bind_some]
  simp only
  rw [dText_app o3 (by omega), Option.bind_some]
  simp only
  rw [dList_app dHs_app o4 (by omega) ox.path, Option.bind_some]
def dProof (st : St) : Option (Pf × St) :=
  (dBegin 7 st).bind fun s => (dNum 0 4096 s).bind fun n => (dList dPa 2 n.2).bind fun l => some (⟨n.1, l.1⟩, l.2)
theorem dProof_inv {st : St} {x : Pf} {r : List UInt8} (h : dProof st = some (x, some r)) : st = some (x.enc ++ r) ∧ x.right = true ∧ I64 x.size ∧ ∀ y ∈ x.parts, y.right = true ∧ y.Ok := by
  unfold dProof at h
  simp only [Option.bind_eq_some_iff, Option.some.injEq, Prod.mk.injEq, Prod.exists] at h
  obtain ⟨s1, h1, n, s2, h2, l, s3, h3, rfl, rfl⟩ := h
  obtain ⟨e3, o3, o4⟩ := dList_inv dPa_inv h3
  rw [e3] at h2
  obtain ⟨e2, o2⟩ := dNum_inv h2
  rw [e2] at h1
  have e1 := dBegin_inv h1
  refine ⟨?_, ?_, i64_in o2 (by omega) (by omega), o3⟩
  · rw [e1]; simp only [Pf.enc, List.append_assoc]
  · unfold Pf.right
    simp only [Bool.and_eq_true, List.all_eq_true]
    exact ⟨o2, o4, fun y hy => (o3 y hy).1⟩
theorem dProof_app {x : Pf} (hs : I64 x.size) (h : x.right = true) (ol : ∀ y ∈ x.parts, y.Ok) (r : List UInt8) : dProof (some (x.enc ++ r)) = some (x, some r) := by
  unfold Pf.right at h
  simp only [Bool.and_eq_true, List.all_eq_true] at h
  obtain ⟨o1, o2, o3⟩ := h
  have h64 := (inR_iff.1 o2).2
  unfold dProof Pf.enc
  simp only [List.append_assoc]
  rw [dBegin_app (by omega) (by omega), Option.bind_some, dNum_app hs.l hs.h o1, Option.bind_some]
  simp only
  rw [dList_app dPa_app o2 (by omega) (fun y hy => ⟨o3 y hy, ol y hy⟩), Option.bind_some]
end Go.Proofs.Ytgonbmcfeehfaaa

/- Package forms: lists of hashes, and parts, read. -/
namespace Go.Proofs.Ytgonbmcfeehfaaa
open Go.RowKit
set_option linter.unusedVariables false
set_option linter.unusedSimpArgs false
set_option maxRecDepth 20000

theorem hash1_r (w : World) (g : Nat) (F : Nat → Prop) (tb o : Nat) (t : TypeId) (p q old : List Value) (st : St) (S : Rst w g F tb t (p ++ (old ++ q)) st w) (ho : o = p.length) (hold : old.length = 32) :
    Calls Try.prog 44 #[.agg #[.pointer none, .pointer (some ⟨g, 0, none⟩)], .pointer (some ⟨tb, o, none⟩)] w (RO w g F tb t (p ++ (old ++ q)).length ((dHs st).map fun y => (p ++ (bv y.1 ++ q), y.2))) := hash_r w g F tb o t p q old st S ho hold

theorem makeHash (n : Nat) (hn : n ≤ 4096) : ∃ L0 : List Value, L0.length = n * 32 ∧ ∀ w : World, (Instr.makeSlice 75 (.int .i64 (n : Int)) (.int .i64 (n : Int))).run Try.prog w = .ok (.slice (some ⟨w.heap.size, 0, none⟩) n n) (w.alloc (.cells L0.toArray 26)) := by
  have hinfo : (Try.prog.info? 26).map (fun i => (i.zero.isSome, i.size, i.bytes)) = some (true, 32, 32) := by kernel_rfl
  cases hq : Try.prog.info? 26 with
  | none => rw [hq] at hinfo; cases hinfo
  | some i =>
    rw [hq] at hinfo
    simp only [Option.map_some, Option.some.injEq, Prod.mk.injEq] at hinfo
    obtain ⟨hz, hs, hb⟩ := hinfo
    obtain ⟨z, hz⟩ := Option.isSome_iff_exists.1 hz
    refine ⟨(madeCells z.cells (n * 32)).toList, by rw [Array.length_toList, size_madeCells], fun w => ?_⟩
    have h := run_make (P := Try.prog) w 75 26 i z Try.underlying75 hq hz .i64 .i64 (n : Int) (n : Int) (by omega) (by omega) (by rw [hb]; omega) (by omega)
    rw [h, hs, Int.toNat_natCast, Array.toArray_toList]

set_option maxHeartbeats 1600000 in
theorem listHash_r (w : World) (g : Nat) (F : Nat → Prop) (tb o : Nat) (t : TypeId) (p q : List Value) (A0 : Option Addr) (n0 c0 : Nat) (st : St) (S : Rst w g F tb t (p ++ .slice A0 n0 c0 :: q) st w) (ho : o = p.length) (hn0 : n0 ≤ maxLen) (most : Nat) (hmost : most ≤ 4096) :
    Calls Try.prog 75 #[.agg #[.pointer none, .pointer (some ⟨g, 0, none⟩)], .pointer (some ⟨tb, o, none⟩), .int .i64 (most : Int), .func (.func 44) #[] #[]] w (RLO w g F tb t (p ++ .slice A0 n0 c0 :: q).length p q 26 bv (dList dHs most st)) := by
  unfold maxLen at hn0
  have hC := ((Chg.refl Non w).alloc (.cells #[.pointer none, .pointer (some ⟨g, 0, none⟩)] 86)).alloc (.cells #[.int .i64 (n0 : Int)] 3)
  have S0 := S.non hC
  obtain ⟨k0, _⟩ := S.cell ho
  have hw := S.nw (Nat.le_refl w.heap.size)
  have hx0 := ((Hb.new w 86 #[.pointer none, .pointer (some ⟨g, 0, none⟩)]).alloc (.cells #[.int .i64 (n0 : Int)] 3)).cell 0
  have hx1 := ((Hb.new w 86 #[.pointer none, .pointer (some ⟨g, 0, none⟩)]).alloc (.cells #[.int .i64 (n0 : Int)] 3)).cell 1
  have hn : Hb ((w.alloc (.cells #[.pointer none, .pointer (some ⟨g, 0, none⟩)] 86)).alloc (.cells #[.int .i64 (n0 : Int)] 3)) (w.heap.size + 1) 3 #[.int .i64 (n0 : Int)] := by
    have := Hb.new (w.alloc (.cells #[.pointer none, .pointer (some ⟨g, 0, none⟩)] 86)) 3 #[.int .i64 (n0 : Int)]
    rwa [show (w.alloc (.cells #[.pointer none, .pointer (some ⟨g, 0, none⟩)] 86)).heap.size = w.heap.size + 1 by simp] at this
  have hg := S.rdr.lt
  have ht := S.row.lt
  have SN : Rst _ g F (w.heap.size + 1) 3 ([] ++ .int .i64 (n0 : Int) :: []) st _ := ⟨S0.rdr, hn, Chg.refl _ _, by omega, fun hf => by have := S.rdr.Flt _ hf; omega⟩
  have H := number_r _ g F (w.heap.size + 1) 0 3 [] [] (.int .i64 (n0 : Int)) st SN rfl 0 most
  have hBs : ((w.alloc (.cells #[.pointer none, .pointer (some ⟨g, 0, none⟩)] 86)).alloc (.cells #[.int .i64 (n0 : Int)] 3)).heap.size = w.heap.size + 2 := by simp
  have HH := Lib.hid H
  have HO := Lib.hid ho
  obtain ⟨N, hN⟩ : ∃ N, N = (p ++ Value.slice A0 n0 c0 :: q).length := ⟨_, rfl⟩
  rw [← hN]
  have HN := Lib.hid hN
  generalize hr : dList dHs most st = r
  have HR := Lib.hid hr
  clear H ho SN hn hr hN
  go_enter Try.func75, Try.ntmps75
  go_wp2_with fail
  obtain ⟨B, hB⟩ : ∃ B, B = (w.alloc (.cells #[.pointer none, .pointer (some ⟨g, 0, none⟩)] 86)).alloc (.cells #[.int .i64 (n0 : Int)] 3) := ⟨_, rfl⟩
  rw [← hB] at S0 hx0 hx1 HH hBs hC ⊢
  clear hB
  refine HH.out.mono ?_
  rintro e w2 h2
  clear HH
  have hnt : ¬ Two g (w.heap.size + 1) tb := by rintro (h | h); exact S.ne h; omega
  have hrow2 := S0.row.chg h2.chg hnt
  have hC2 : Chg (Two g tb) w w2 := (hC.mono (S' := Two g tb) (fun _ f => f.elim)).trans h2.chg (fun j hj => by rcases hj with rfl | rfl; exact .inl (.inl rfl); exact .inr (by omega))
  rcases h2.cases with ⟨k, he, _⟩ | ⟨y, k, he, T⟩
  · subst he
    simp only [Option.map_eq_none_iff] at k
    obtain rfl : r = none := HR.out.symm.trans (by unfold dList; rw [k]; rfl)
    go_wp2
    exact ⟨rfl, rfl, hC2, _, HN.out.symm, hrow2⟩
  · subst he
    obtain ⟨z, kz, rfl⟩ := Option.map_eq_some_iff.1 k
    obtain ⟨m, s2⟩ := z
    have hm : inR 0 most m = true ∧ m = vN st := by
      unfold dNum at kz
      split at kz
      · rename_i h; simp only [Option.some.injEq, Prod.mk.injEq] at kz; rw [← kz.1]; exact ⟨h, rfl⟩
      · cases kz
    have hm1 := inR_iff.1 hm.1
    obtain ⟨mn, rfl⟩ : ∃ mn : Nat, m = (mn : Int) := ⟨m.toNat, by omega⟩
    have hmn : mn ≤ 4096 := by omega
    have hRL : r = dK dHs s2 mn := HR.out.symm.trans (by unfold dList; rw [kz, Option.bind_some]; simp)
    have HRL := Lib.hid hRL
    obtain ⟨L0, hL0, HM⟩ := makeHash mn hmn
    have T' : Rst B g F (w.heap.size + 1) 3 ([] ++ .int .i64 (mn : Int) :: []) s2 w2 := T
    have cn := (T'.cell (o := 0) rfl).1
    have hnx : ¬ Two g (w.heap.size + 1) w.heap.size := by rintro (h | h) <;> omega
    have x0 := T'.chg.cell hx0 hnx
    have x1 := T'.chg.cell hx1 hnx
    have S2 : Rst w g F tb t (p ++ .slice A0 n0 c0 :: q) s2 w2 := ⟨T'.rdr, hrow2, hC2, S.ne, S.nF⟩
    clear hRL h2 kz k T hm hm1 hx0 hx1 S0 hC hrow2 HR
    go_wp2_with fail
    refine (writes_r _ g).mono ?_
    rintro e w3 ⟨rfl, hC3⟩
    have S3 := S2.non hC3
    have cn3 := hC3.cell cn (fun f => f)
    have x03 := hC3.cell x0 (fun f => f)
    have x13 := hC3.cell x1 (fun f => f)
    have HM3 := HM w3
    have S4 := S3.non ((Chg.refl Non w3).alloc (.cells L0.toArray 26))
    have hs3 : w.heap.size + 2 ≤ w3.heap.size := by have := T'.chg.size; have := hC3.size; omega
    obtain ⟨c4, f4⟩ := S4.cell HO.out
    have S5' := S3.set HO.out (.slice (some ⟨w3.heap.size, 0, none⟩) mn mn)
    have hss : (w3.setCell ⟨tb, o, none⟩ (.slice (some ⟨w3.heap.size, 0, none⟩) mn mn)).heap.size = w3.heap.size := by simp [World.setCell]
    have S5B := S5'.non ((Chg.refl Non _).alloc (.cells L0.toArray 26))
    obtain ⟨c5, _⟩ := S5B.cell HO.out
    have S5 := S4.set HO.out (.slice (some ⟨w3.heap.size, 0, none⟩) mn mn)
    have hb5 := (Hb.new w3 26 L0.toArray).far (p := ⟨tb, o, none⟩) (show w3.heap.size ≠ tb by omega) (.slice (some ⟨w3.heap.size, 0, none⟩) mn mn)
    have kk := ((Chg.refl (fun j => j = tb) w3).alloc (.cells L0.toArray 26)).setCell (p := ⟨tb, o, none⟩) (.inl rfl) (.slice (some ⟨w3.heap.size, 0, none⟩) mn mn)
    have x05 := kk.cell x03 (show ¬ w.heap.size = tb by omega)
    have x15 := kk.cell x13 (show ¬ w.heap.size = tb by omega)
    clear cn x0 x1 S2 S3 HM S4 S5' S5B kk
    have hFn : ∀ j, F j → j < w.heap.size := S.rdr.Flt
    have HFN := Lib.hid hFn
    have hcl : ∀ (st : St) (x : _) (s : St), dHs st = some (x, s) → (bv x).length = 32 := fun _ _ _ h => (by simp only [dHs, Option.some.injEq, Prod.mk.injEq] at h; rw [← h.1, bv_length, vH_length])
    clear hFn
    go_wp2_with fail
    clear x03 x13 cn3 c4 f4
    go_loopw [9, 28] (fun x i wr => ∃ (k : Nat) (lk : List _) (sk : St) (rest : List Value), k ≤ mn ∧ i = .int .i64 (k : Int) ∧ dK dHs s2 k = some (lk, sk) ∧ rest.length = (mn - k) * 32 ∧ Rst w g F tb t (p ++ .slice (some ⟨w3.heap.size, 0, none⟩) mn mn :: q) sk wr ∧ Hb wr w3.heap.size 26 (lk.flatMap bv ++ rest).toArray ∧ wr.cell? ⟨w.heap.size, 0, none⟩ = some (.pointer none) ∧ wr.cell? ⟨w.heap.size, 1, none⟩ = some (.pointer (some ⟨g, 0, none⟩))) (fun _ i _ => mn - (intOf i).toNat)
    case atStart => exact ⟨0, [], s2, L0, by omega, rfl, rfl, by rw [hL0, Nat.sub_zero], S5, by simpa using hb5, x05, x15⟩
    case round =>
      obtain ⟨k, lk, sk, rest, hk, rfl, hd, hrest, SK, hbk, a0, a1⟩ := hrel
      obtain ⟨a2, _⟩ := SK.cell HO.out
      have HSK := Lib.hid SK
      by_cases hlt : k < mn
      · have hro : rest = rest.take 32 ++ rest.drop 32 := (List.take_append_drop _ _).symm
        have hrl : (rest.take 32).length = 32 := by rw [List.length_take, hrest]; have : 1 * 32 ≤ (mn - k) * 32 := Nat.mul_le_mul_right _ (by omega); omega
        have hrl2 : (rest.drop 32).length = (mn - (k + 1)) * 32 := by
          have e : mn - k = (mn - (k + 1)) + 1 := by omega
          rw [List.length_drop, hrest, e, Nat.succ_mul]
          omega
        rw [hro] at hbk
        generalize rest.take 32 = old at *
        generalize rest.drop 32 = rest' at *
        have hfl := dK_flat hcl hd
        have hnb := hbk.lt
        have SE : Rst wr.drew g F w3.heap.size 26 (lk.flatMap bv ++ (old ++ rest')) sk wr.drew := ⟨(SK.non ((Chg.refl Non wr).drew)).rdr, hbk.chg ((Chg.refl Non wr).drew) (fun f => f), Chg.refl _ _, by omega, fun hf => by have := HFN.out _ hf; omega⟩
        have HE := hash1_r wr.drew g F w3.heap.size (k * 32) 26 (lk.flatMap bv) rest' old sk SE hfl.symm hrl
        have HEE := Lib.hid HE
        have e0 := ((Chg.refl Non wr).drew).cell a0 (fun f => f)
        have e1 := ((Chg.refl Non wr).drew).cell a1 (fun f => f)
        have e2 := ((Chg.refl Non wr).drew).cell a2 (fun f => f)
        have n1 : ¬ Two g w3.heap.size w.heap.size := by rintro (h | h) <;> omega
        have n2 : ¬ Two g w3.heap.size tb := by rintro (h | h); exact SK.ne h; omega
        have hki : (k : Int) < (mn : Int) := by omega
        have hdn : dK dHs s2 (k + 1) = (dHs sk).bind fun y => some (lk ++ [y.1], y.2) := by
          have e : dK dHs s2 (k + 1) = (dK dHs s2 k).bind fun x => (dHs x.2).bind fun y => some (x.1 ++ [y.1], y.2) := rfl
          rw [e, hd, Option.bind_some]
        have HDN := Lib.hid hdn
        have HD := Lib.hid hd
        have HRE := Lib.hid hrl2
        clear SE HE hro hrl hrest hfl hdn hd hrl2 SK hbk a0 a1 a2
        go_wp2_with fail
        go_region_held (fun w' => w'.cell? ⟨w.heap.size, 0, none⟩ = some (.pointer none) ∧ w'.cell? ⟨w.heap.size, 1, none⟩ = some (.pointer (some ⟨g, 0, none⟩)) ∧ w'.cell? ⟨tb, o, none⟩ = some (.slice (some ⟨w3.heap.size, 0, none⟩) mn mn)) (first | exact ⟨f0, f1, f2⟩ | exact ⟨e0, e1, e2⟩ | assumption) (first | (go_at_call 44; go_loud (refine HEE.out.mono ?_; rintro e wz hz; have f0 := hz.chg.cell e0 n1; have f1 := hz.chg.cell e1 n1; have f2 := hz.chg.cell e2 n2; rcases hz.cases with ⟨kn, he, C, _⟩ | ⟨y, ky, he, TZ⟩; (subst he; simp only [Option.map_eq_none_iff] at kn; obtain rfl : r = none := HRL.out.trans (dK_none (k := k + 1) (by omega) (by rw [HDN.out, kn]; rfl)); exact ⟨rfl, rfl, HSK.out.chg.trans (((Chg.refl Non wr).drew.mono (S' := Two g w3.heap.size) (fun _ f => f.elim)).trans C (fun _ h => .inl h)) (fun j hj => by rcases hj with rfl | rfl; exact .inl (.inl rfl); exact .inr (by omega)), _, HN.out.symm ▸ (by simp), (HSK.out.non ((Chg.refl Non wr).drew)).row.chg C n2⟩); subst he; obtain ⟨z, kz, rfl⟩ := Option.map_eq_some_iff.1 ky; clear ky)) | fail)
        have hz2 : dK dHs s2 (k + 1) = some (lk ++ [z.1], z.2) := by rw [HDN.out, kz]; rfl
        have T1 : Rst w g F tb t (p ++ .slice (some ⟨w3.heap.size, 0, none⟩) mn mn :: q) z.2 wz := by
          have b1 := HSK.out.non ((Chg.refl Non wr).drew)
          exact ⟨TZ.rdr, b1.row.chg TZ.chg n2, b1.chg.trans TZ.chg (fun j hj => by rcases hj with rfl | rfl; exact .inl (.inl rfl); exact .inr (by omega)), b1.ne, b1.nF⟩
        have T2 : Hb wz w3.heap.size 26 ((lk ++ [z.1]).flatMap bv ++ rest').toArray := by
          have := TZ.row
          simpa [List.append_assoc] using this
        clear hz HEE TZ kz
        go_wp2_with fail
        go_roundw
        case rel => exact ⟨k + 1, _, _, rest', by omega, by go_num, hz2, HRE.out, T1, T2, f0, f1⟩
        case measure => simp [intOf]; omega
      · obtain rfl : k = mn := by omega
        have hln := dK_len hd
        obtain rfl : rest = [] := List.eq_nil_of_length_eq_zero (by rw [hrest, Nat.sub_self, Nat.zero_mul])
        obtain rfl : r = some (lk, sk) := HRL.out.trans hd
        rw [List.append_nil] at hbk
        go_wp2
        go_end0
        refine ⟨rfl, w3.heap.size, by omega, ?_, hbk⟩
        have e : lk.length = k := hln
        show Rst w g F tb t (p ++ .slice (some ⟨w3.heap.size, 0, none⟩) lk.length lk.length :: q) sk wr
        rw [e]
        exact SK

theorem listHashR_r (w : World) (g : Nat) (F : Nat → Prop) (tb o : Nat) (t : TypeId) (p q : List Value) (st : St) (S : Rst w g F tb t (p ++ .slice none 0 0 :: q) st w) (ho : o = p.length) :
    Calls Try.prog 75 #[.agg #[.pointer none, .pointer (some ⟨g, 0, none⟩)], .pointer (some ⟨tb, o, none⟩), .int .i64 16, .func (.func 44) #[] #[]] w (RLO w g F tb t (p ++ .slice none 0 0 :: q).length p q 26 bv (dList dHs 16 st)) :=
  listHash_r w g F tb o t p q none 0 0 st S ho (by unfold maxLen; omega) 16 (by omega)
/-- What the reading of a part leaves. -/
def RPO (w : World) (g : Nat) (F : Nat → Prop) (tb : Nat) (t : TypeId) (n : Nat) (p q : List Value) (r : Option (Pa × St)) (e : Ending) (w' : World) : Prop :=
  match r with
  | some x => e = .returned (.tuple #[]) ∧ ∃ nb, w.heap.size ≤ nb ∧ Rst w g F tb t (p ++ (Pm.cells ⟨x.1, some ⟨nb, 0, none⟩, x.1.path.length⟩ ++ q)) x.2 w' ∧ Hb w' nb 26 (x.1.path.flatMap bv).toArray
  | none => e = .panicked bad ∧ Chg (Two g tb) w w' ∧ ∃ L' : List Value, L'.length = n ∧ Hb w' tb t L'.toArray
theorem RPO.cases {w w' : World} {g : Nat} {F : Nat → Prop} {tb : Nat} {t : TypeId} {n : Nat} {p q : List Value} {r : Option (Pa × St)} {e : Ending} (h : RPO w g F tb t n p q r e w') : (r = none ∧ e = .panicked bad ∧ Chg (Two g tb) w w' ∧ ∃ L' : List Value, L'.length = n ∧ Hb w' tb t L'.toArray) ∨
    (∃ x, r = some x ∧ e = .returned (.tuple #[]) ∧ ∃ nb, w.heap.size ≤ nb ∧ Rst w g F tb t (p ++ (Pm.cells ⟨x.1, some ⟨nb, 0, none⟩, x.1.path.length⟩ ++ q)) x.2 w' ∧ Hb w' nb 26 (x.1.path.flatMap bv).toArray) := by
  cases r with
  | some x => exact .inr ⟨x, rfl, h.1, h.2⟩
  | none => exact .inl ⟨rfl, h.1, h.2⟩
theorem RPO.chg {w w' : World} {g : Nat} {F : Nat → Prop} {tb : Nat} {t : TypeId} {n : Nat} {p q : List Value} {r : Option (Pa × St)} {e : Ending} (h : RPO w g F tb t n p q r e w') : Chg (Two g tb) w w' := by
  cases r with
  | some x => obtain ⟨_, nb, _, h1, _⟩ := h; exact h1.chg
  | none => exact h.2.1
set_option maxHeartbeats 1600000 in
theorem part_r (w : World) (g : Nat) (F : Nat → Prop) (tb o : Nat) (t : TypeId) (p q : List Value) (a0 a1 a2 : Value) (st : St) (S : Rst w g F tb t (p ++ (a0 :: a1 :: a2 :: .slice none 0 0 :: q)) st w) (ho : o = p.length) :
    Calls Try.prog 62 #[.agg #[.pointer none, .pointer (some ⟨g, 0, none⟩)], .pointer (some ⟨tb, o, none⟩)] w (RPO w g F tb t (p ++ (a0 :: a1 :: a2 :: .slice none 0 0 :: q)).length p q (dPa st)) := by
  generalize hn : (p ++ (a0 :: a1 :: a2 :: .slice none 0 0 :: q)).length = n
  generalize hr : dPa st = r
  have HR := Lib.hid hr
  have HN := Lib.hid hn
  have HO := Lib.hid ho
  clear hr hn ho
  have S0 := S.non ((Chg.refl Non w).alloc (.cells #[.pointer none, .pointer (some ⟨g, 0, none⟩)] 86))
  have hw := S.nw (Nat.le_refl w.heap.size)
  have hx := Hb.new w 86 #[.pointer none, .pointer (some ⟨g, 0, none⟩)]
  have hgl := S.rdr.lt
  have htl := S.row.lt
  have hx0 : (w.alloc (.cells #[.pointer none, .pointer (some ⟨g, 0, none⟩)] 86)).cell? ⟨w.heap.size, 0, none⟩ = some (.pointer none) := hx.cell 0
  have hx1 : (w.alloc (.cells #[.pointer none, .pointer (some ⟨g, 0, none⟩)] 86)).cell? ⟨w.heap.size, 1, none⟩ = some (.pointer (some ⟨g, 0, none⟩)) := hx.cell 1
  have hBs : (w.alloc (.cells #[.pointer none, .pointer (some ⟨g, 0, none⟩)] 86)).heap.size = w.heap.size + 1 := by simp
  have S1 := S0.here
  clear hx S
  go_enter Try.func62, Try.ntmps62
  go_wp2_with fail
  generalize w.alloc (.cells #[.pointer none, .pointer (some ⟨g, 0, none⟩)] 86) = B at *
  have D2 := S1.non ((Chg.refl Non B).drew)
  have x0 := D2.chg.cell hx0 hw
  have x1 := D2.chg.cell hx1 hw
  go_region_held (fun w' => w'.cell? ⟨w.heap.size, 0, none⟩ = some (.pointer none) ∧ w'.cell? ⟨w.heap.size, 1, none⟩ = some (.pointer (some ⟨g, 0, none⟩))) (first | exact ⟨y0, y1⟩ | exact ⟨x0, x1⟩ | assumption) (first | (go_at_call 56; go_loud (refine (number_r _ g F tb o t p (a1 :: a2 :: .slice none 0 0 :: q) a0 st D2.here HO.out 0 4096).mono ?_; rintro e w2 h2; have y0 := h2.chg.cell x0 hw; have y1 := h2.chg.cell x1 hw; rcases h2.cases with ⟨k, he, C, L', hL1, hL2⟩ | ⟨y, k, he, T2⟩; (subst he; obtain rfl : r = none := HR.out.symm.trans (by (try simp only [Option.map_eq_none_iff] at k); simp [dPa, k]); exact ⟨rfl, rfl, (S0.chg.trans (D2.chg.trans C (fun _ h => .inl h)) (fun _ h => .inl h)), L', by (rw [hL1, ← HN.out]) <;> simp [bv_length, vH_length] <;> omega, hL2⟩); subst he; obtain ⟨z2, k2, rfl⟩ := Option.map_eq_some_iff.1 k; clear k)) | fail)
  have S2 := D2.trans T2
  clear x0 x1 T2 D2 y0 y1 h2
  go_wp2_with fail
  have D3 := S2.non ((Chg.refl Non w2).drew)
  have x0 := D3.chg.cell hx0 hw
  have x1 := D3.chg.cell hx1 hw
  go_region_held (fun w' => w'.cell? ⟨w.heap.size, 0, none⟩ = some (.pointer none) ∧ w'.cell? ⟨w.heap.size, 1, none⟩ = some (.pointer (some ⟨g, 0, none⟩))) (first | exact ⟨y0, y1⟩ | exact ⟨x0, x1⟩ | assumption) (first | (go_at_call 58; go_loud (refine (text_r _ g F tb (o + 1) t (p ++ [.int .i64 z2.1]) (a2 :: .slice none 0 0 :: q) a1 z2.2 (D3.here.eq (by simp)) (by rw [HO.out]; simp) 4096 (by omega)).mono ?_; rintro e w3 h3; have y0 := h3.chg.cell x0 hw; have y1 := h3.chg.cell x1 hw; rcases h3.cases with ⟨k, he, C, L', hL1, hL2⟩ | ⟨y, k, he, T3⟩; (subst he; obtain rfl : r = none := HR.out.symm.trans (by (try simp only [Option.map_eq_none_iff] at k); simp [dPa, k2, k]); exact ⟨rfl, rfl, (S0.chg.trans (D3.chg.trans C (fun _ h => .inl h)) (fun _ h => .inl h)), L', by (rw [hL1, ← HN.out]) <;> simp [bv_length, vH_length] <;> omega, hL2⟩); subst he; obtain ⟨z3, k3, rfl⟩ := Option.map_eq_some_iff.1 k; clear k)) | fail)
  have S3 := D3.trans T3
  clear x0 x1 T3 D3 y0 y1 h3
  go_wp2_with fail
  have D4 := S3.non ((Chg.refl Non w3).drew)
  have x0 := D4.chg.cell hx0 hw
  have x1 := D4.chg.cell hx1 hw
  go_region_held (fun w' => w'.cell? ⟨w.heap.size, 0, none⟩ = some (.pointer none) ∧ w'.cell? ⟨w.heap.size, 1, none⟩ = some (.pointer (some ⟨g, 0, none⟩))) (first | exact ⟨y0, y1⟩ | exact ⟨x0, x1⟩ | assumption) (first | (go_at_call 58; go_loud (refine (text_r _ g F tb (o + 2) t (p ++ [.int .i64 z2.1, .string z3.1]) (.slice none 0 0 :: q) a2 z3.2 (D4.here.eq (by simp)) (by rw [HO.out]; simp) 4096 (by omega)).mono ?_; rintro e w4 h4; have y0 := h4.chg.cell x0 hw; have y1 := h4.chg.cell x1 hw; rcases h4.cases with ⟨k, he, C, L', hL1, hL2⟩ | ⟨y, k, he, T4⟩; (subst he; obtain rfl : r = none := HR.out.symm.trans (by (try simp only [Option.map_eq_none_iff] at k); simp [dPa, k2, k3, k]); exact ⟨rfl, rfl, (S0.chg.trans (D4.chg.trans C (fun _ h => .inl h)) (fun _ h => .inl h)), L', by (rw [hL1, ← HN.out]) <;> simp [bv_length, vH_length] <;> omega, hL2⟩); subst he; obtain ⟨z4, k4, rfl⟩ := Option.map_eq_some_iff.1 k; clear k)) | fail)
  have S4 := D4.trans T4
  clear x0 x1 T4 D4 y0 y1 h4
  go_wp2_with fail
  have D5 := S4.non ((Chg.refl Non w4).drew)
  have x0 := D5.chg.cell hx0 hw
  have x1 := D5.chg.cell hx1 hw
  go_region_held (fun w' => w'.cell? ⟨w.heap.size, 0, none⟩ = some (.pointer none) ∧ w'.cell? ⟨w.heap.size, 1, none⟩ = some (.pointer (some ⟨g, 0, none⟩))) (first | exact ⟨y0, y1⟩ | exact ⟨x0, x1⟩ | assumption) (first | (go_at_call 75; go_loud (refine (listHashR_r _ g F tb (o + 3) t (p ++ [.int .i64 z2.1, .string z3.1, .string z4.1]) q z4.2 (D5.here.eq (by simp)) (by rw [HO.out]; simp)).mono ?_; rintro e w5 h5; have y0 := h5.chg.cell x0 hw; have y1 := h5.chg.cell x1 hw; rcases h5.cases with ⟨k, he, C, L', hL1, hL2⟩ | ⟨z5, k5, he, nb5, N5, T5, B5⟩; (subst he; obtain rfl : r = none := HR.out.symm.trans (by (try simp only [Option.map_eq_none_iff] at k); simp [dPa, k2, k3, k4, k]); exact ⟨rfl, rfl, (S0.chg.trans (D5.chg.trans C (fun _ h => .inl h)) (fun _ h => .inl h)), L', by (rw [hL1, ← HN.out]) <;> simp [bv_length, vH_length] <;> omega, hL2⟩); subst he)) | fail)
  have S5 := D5.trans T5
  have N5 : w.heap.size < nb5 := by have := D5.chg.size; omega
  clear x0 x1 T5 D5 y0 y1 h5
  obtain rfl : r = some (_, z5.2) := HR.out.symm.trans (by simp only [dPa, k2, k3, k4, k5, Option.bind_some, Option.map_some]; rfl)
  go_wp2
  go_end0
  exact ⟨rfl, nb5, by omega, (S0.trans S5).eq (by simp [Pm.cells]), B5⟩
end Go.Proofs.Ytgonbmcfeehfaaa

/- Package forms: lists of parts, and proofs, read. -/
namespace Go.Proofs.Ytgonbmcfeehfaaa
open Go.RowKit
set_option linter.unusedVariables false
set_option linter.unusedSimpArgs false
set_option maxRecDepth 20000

/-- A part's path lies in a block of its own. -/
def PathIn (n : Nat) (w : World) (m : Pm) : Prop := ∃ pb, m.A = some ⟨pb, 0, none⟩ ∧ m.c = m.part.path.length ∧ n ≤ pb ∧ Hb w pb 26 (m.part.path.flatMap bv).toArray
theorem PathIn.mono {n n' : Nat} {w : World} {m : Pm} (h : PathIn n w m) (hn : n' ≤ n) : PathIn n' w m := by
  obtain ⟨pb, h1, h2, h3, h4⟩ := h
  exact ⟨pb, h1, h2, Nat.le_trans hn h3, h4⟩
theorem PathIn.chg {n : Nat} {S : Nat → Prop} {w w' : World} {m : Pm} (h : PathIn n w m) (k : Chg S w w') (hS : ∀ j, n ≤ j → ¬ S j) : PathIn n w' m := by
  obtain ⟨pb, h1, h2, h3, h4⟩ := h
  exact ⟨pb, h1, h2, h3, h4.chg k (hS pb h3)⟩
def partZ0 : List Value := [.int .i64 0, .string ⟨#[]⟩, .string ⟨#[]⟩, .slice none 0 0]
theorem makePart (n : Nat) (hn : n ≤ 2) : ∀ w : World, (Instr.makeSlice 43 (.int .i64 (n : Int)) (.int .i64 (n : Int))).run Try.prog w = .ok (.slice (some ⟨w.heap.size, 0, none⟩) n n) (w.alloc (.cells (List.replicate n partZ0).flatten.toArray 77)) := by
  have hinfo : (Try.prog.info? 77).map (fun i => (i.zero.map (·.cells), i.size, i.bytes)) = some (some partZ0.toArray, 4, 64) := by kernel_rfl
  cases hq : Try.prog.info? 77 with
  | none => rw [hq] at hinfo; cases hinfo
  | some i =>
    rw [hq] at hinfo
    simp only [Option.map_some, Option.some.injEq, Prod.mk.injEq] at hinfo
    obtain ⟨hz, hs, hb⟩ := hinfo
    obtain ⟨z, hz, hzc⟩ := Option.map_eq_some_iff.1 hz
    intro w
    have h := run_make (P := Try.prog) w 43 77 i z Try.underlying43 hq hz .i64 .i64 (n : Int) (n : Int) (by omega) (by omega) (by rw [hb]; omega) (by omega)
    rw [h, hs, Int.toNat_natCast, hzc]
    have e : madeCells partZ0.toArray (n * 4) = (List.replicate n partZ0).flatten.toArray := by
      match n, hn with
      | 0, _ => first | kernel_rfl | simp [madeCells, partZ0]
      | 1, _ =>
        have e4 : Array.range 4 = #[0, 1, 2, 3] := by decide +kernel
        simp [madeCells, partZ0, e4]
      | 2, _ =>
        have e8 : Array.range 8 = #[0, 1, 2, 3, 4, 5, 6, 7] := by decide +kernel
        simp [madeCells, partZ0, e8]
    rw [e]
theorem Pm.cells_len (m : Pm) : m.cells.length = 4 := rfl
theorem partFlat_len (l : List Pm) : (l.flatMap Pm.cells).length = l.length * 4 := by
  induction l with
  | nil => rfl
  | cons x l ih => rw [List.flatMap_cons, List.length_append, ih, Pm.cells_len, List.length_cons]; omega
/-- What the reading of a list of parts leaves. -/
def RPL (w : World) (g : Nat) (F : Nat → Prop) (tb : Nat) (t : TypeId) (n : Nat) (p q : List Value) (r : Option (List Pa × St)) (e : Ending) (w' : World) : Prop :=
  match r with
  | some x => e = .returned (.tuple #[]) ∧ ∃ nb, w.heap.size ≤ nb ∧ Rst w g F tb t (p ++ .slice (some ⟨nb, 0, none⟩) x.1.length x.1.length :: q) x.2 w' ∧ ∃ ms : List Pm, ms.map Pm.part = x.1 ∧ Hb w' nb 77 (ms.flatMap Pm.cells).toArray ∧ ∀ m ∈ ms, PathIn w.heap.size w' m
  | none => e = .panicked bad ∧ Chg (Two g tb) w w' ∧ ∃ L' : List Value, L'.length = n ∧ Hb w' tb t L'.toArray
theorem RPL.cases {w w' : World} {g : Nat} {F : Nat → Prop} {tb : Nat} {t : TypeId} {n : Nat} {p q : List Value} {r : Option (List Pa × St)} {e : Ending} (h : RPL w g F tb t n p q r e w') : (r = none ∧ e = .panicked bad ∧ Chg (Two g tb) w w' ∧ ∃ L' : List Value, L'.length = n ∧ Hb w' tb t L'.toArray) ∨
    (∃ x, r = some x ∧ e = .returned (.tuple #[]) ∧ ∃ nb, w.heap.size ≤ nb ∧ Rst w g F tb t (p ++ .slice (some ⟨nb, 0, none⟩) x.1.length x.1.length :: q) x.2 w' ∧ ∃ ms : List Pm, ms.map Pm.part = x.1 ∧ Hb w' nb 77 (ms.flatMap Pm.cells).toArray ∧ ∀ m ∈ ms, PathIn w.heap.size w' m) := by
  cases r with
  | some x => exact .inr ⟨x, rfl, h.1, h.2⟩
  | none => exact .inl ⟨rfl, h.1, h.2⟩
theorem RPL.chg {w w' : World} {g : Nat} {F : Nat → Prop} {tb : Nat} {t : TypeId} {n : Nat} {p q : List Value} {r : Option (List Pa × St)} {e : Ending} (h : RPL w g F tb t n p q r e w') : Chg (Two g tb) w w' := by
  cases r with
  | some x => obtain ⟨_, nb, _, h1, _⟩ := h; exact h1.chg
  | none => exact h.2.1
set_option maxHeartbeats 1600000 in
theorem listPart_r (w : World) (g : Nat) (F : Nat → Prop) (tb o : Nat) (t : TypeId) (p q : List Value) (st : St) (S : Rst w g F tb t (p ++ .slice none 0 0 :: q) st w) (ho : o = p.length) :
    Calls Try.prog 61 #[.agg #[.pointer none, .pointer (some ⟨g, 0, none⟩)], .pointer (some ⟨tb, o, none⟩), .int .i64 2, .func (.func 62) #[] #[]] w (RPL w g F tb t (p ++ .slice none 0 0 :: q).length p q (dList dPa 2 st)) := by
  have hC := ((Chg.refl Non w).alloc (.cells #[.pointer none, .pointer (some ⟨g, 0, none⟩)] 86)).alloc (.cells #[.int .i64 0] 3)
  have S0 := S.non hC
  obtain ⟨k0, _⟩ := S.cell ho
  have hw := S.nw (Nat.le_refl w.heap.size)
  have hx0 := ((Hb.new w 86 #[.pointer none, .pointer (some ⟨g, 0, none⟩)]).alloc (.cells #[.int .i64 0] 3)).cell 0
  have hx1 := ((Hb.new w 86 #[.pointer none, .pointer (some ⟨g, 0, none⟩)]).alloc (.cells #[.int .i64 0] 3)).cell 1
  have hn : Hb ((w.alloc (.cells #[.pointer none, .pointer (some ⟨g, 0, none⟩)] 86)).alloc (.cells #[.int .i64 0] 3)) (w.heap.size + 1) 3 #[.int .i64 0] := by
    have := Hb.new (w.alloc (.cells #[.pointer none, .pointer (some ⟨g, 0, none⟩)] 86)) 3 #[.int .i64 0]
    rwa [show (w.alloc (.cells #[.pointer none, .pointer (some ⟨g, 0, none⟩)] 86)).heap.size = w.heap.size + 1 by simp] at this
  have hg := S.rdr.lt
  have ht := S.row.lt
  have SN : Rst _ g F (w.heap.size + 1) 3 ([] ++ .int .i64 0 :: []) st _ := ⟨S0.rdr, hn, Chg.refl _ _, by omega, fun hf => by have := S.rdr.Flt _ hf; omega⟩
  have H := number_r _ g F (w.heap.size + 1) 0 3 [] [] (.int .i64 0) st SN rfl 0 2
  have hBs : ((w.alloc (.cells #[.pointer none, .pointer (some ⟨g, 0, none⟩)] 86)).alloc (.cells #[.int .i64 0] 3)).heap.size = w.heap.size + 2 := by simp
  have HH := Lib.hid H
  have HO := Lib.hid ho
  obtain ⟨N, hN⟩ : ∃ N, N = (p ++ Value.slice none 0 0 :: q).length := ⟨_, rfl⟩
  rw [← hN]
  have HN := Lib.hid hN
  generalize hr : dList dPa 2 st = r
  have HR := Lib.hid hr
  clear H ho SN hn hr hN
  go_enter Try.func61, Try.ntmps61
  go_wp2_with fail
  obtain ⟨B, hB⟩ : ∃ B, B = (w.alloc (.cells #[.pointer none, .pointer (some ⟨g, 0, none⟩)] 86)).alloc (.cells #[.int .i64 0] 3) := ⟨_, rfl⟩
  rw [← hB] at S0 hx0 hx1 HH hBs hC ⊢
  clear hB
  refine HH.out.mono ?_
  rintro e w2 h2
  clear HH
  have hnt : ¬ Two g (w.heap.size + 1) tb := by rintro (h | h); exact S.ne h; omega
  have hrow2 := S0.row.chg h2.chg hnt
  have hC2 : Chg (Two g tb) w w2 := (hC.mono (S' := Two g tb) (fun _ f => f.elim)).trans h2.chg (fun j hj => by rcases hj with rfl | rfl; exact .inl (.inl rfl); exact .inr (by omega))
  rcases h2.cases with ⟨k, he, _⟩ | ⟨y, k, he, T⟩
  · subst he
    simp only [Option.map_eq_none_iff] at k
    obtain rfl : r = none := HR.out.symm.trans (by unfold dList; rw [k]; rfl)
    go_wp2
    exact ⟨rfl, rfl, hC2, _, HN.out.symm, hrow2⟩
  · subst he
    obtain ⟨z, kz, rfl⟩ := Option.map_eq_some_iff.1 k
    obtain ⟨m, s2⟩ := z
    have hm : inR 0 2 m = true ∧ m = vN st := by
      unfold dNum at kz
      split at kz
      · rename_i h; simp only [Option.some.injEq, Prod.mk.injEq] at kz; rw [← kz.1]; exact ⟨h, rfl⟩
      · cases kz
    have hm1 := inR_iff.1 hm.1
    obtain ⟨mn, rfl⟩ : ∃ mn : Nat, m = (mn : Int) := ⟨m.toNat, by omega⟩
    have hmn : mn ≤ 2 := by omega
    have hRL : r = dK dPa s2 mn := HR.out.symm.trans (by unfold dList; rw [kz, Option.bind_some]; simp)
    have HRL := Lib.hid hRL
    have HM := makePart mn hmn
    have T' : Rst B g F (w.heap.size + 1) 3 ([] ++ .int .i64 (mn : Int) :: []) s2 w2 := T
    have cn := (T'.cell (o := 0) rfl).1
    have hnx : ¬ Two g (w.heap.size + 1) w.heap.size := by rintro (h | h) <;> omega
    have x0 := T'.chg.cell hx0 hnx
    have x1 := T'.chg.cell hx1 hnx
    have S2 : Rst w g F tb t (p ++ .slice none 0 0 :: q) s2 w2 := ⟨T'.rdr, hrow2, hC2, S.ne, S.nF⟩
    clear hRL h2 kz k T hm hm1 hx0 hx1 S0 hC hrow2 HR
    go_wp2_with fail
    refine (writes_r _ g).mono ?_
    rintro e w3 ⟨rfl, hC3⟩
    have S3 := S2.non hC3
    have cn3 := hC3.cell cn (fun f => f)
    have x03 := hC3.cell x0 (fun f => f)
    have x13 := hC3.cell x1 (fun f => f)
    have HM3 := HM w3
    have S4 := S3.non ((Chg.refl Non w3).alloc (.cells (List.replicate mn partZ0).flatten.toArray 77))
    have hs3 : w.heap.size + 2 ≤ w3.heap.size := by have := T'.chg.size; have := hC3.size; omega
    obtain ⟨c4, f4⟩ := S4.cell HO.out
    have S5' := S3.set HO.out (.slice (some ⟨w3.heap.size, 0, none⟩) mn mn)
    have hss : (w3.setCell ⟨tb, o, none⟩ (.slice (some ⟨w3.heap.size, 0, none⟩) mn mn)).heap.size = w3.heap.size := by simp [World.setCell]
    have S5B := S5'.non ((Chg.refl Non _).alloc (.cells (List.replicate mn partZ0).flatten.toArray 77))
    obtain ⟨c5, _⟩ := S5B.cell HO.out
    have S5 := S4.set HO.out (.slice (some ⟨w3.heap.size, 0, none⟩) mn mn)
    have hb5 := (Hb.new w3 77 (List.replicate mn partZ0).flatten.toArray).far (p := ⟨tb, o, none⟩) (show w3.heap.size ≠ tb by omega) (.slice (some ⟨w3.heap.size, 0, none⟩) mn mn)
    have kk := ((Chg.refl (fun j => j = tb) w3).alloc (.cells (List.replicate mn partZ0).flatten.toArray 77)).setCell (p := ⟨tb, o, none⟩) (.inl rfl) (.slice (some ⟨w3.heap.size, 0, none⟩) mn mn)
    have x05 := kk.cell x03 (show ¬ w.heap.size = tb by omega)
    have x15 := kk.cell x13 (show ¬ w.heap.size = tb by omega)
    clear cn x0 x1 S2 S3 HM S4 S5' S5B kk
    have hFn : ∀ j, F j → j < w.heap.size := S.rdr.Flt
    have HFN := Lib.hid hFn
    clear hFn
    go_wp2_with fail
    clear x03 x13 cn3 c4 f4
    go_loopw [9, 28] (fun x i wr => ∃ (k : Nat) (lk : List Pm) (sk : St), k ≤ mn ∧ i = .int .i64 (k : Int) ∧ dK dPa s2 k = some (lk.map Pm.part, sk) ∧ Rst w g F tb t (p ++ .slice (some ⟨w3.heap.size, 0, none⟩) mn mn :: q) sk wr ∧ Hb wr w3.heap.size 77 (lk.flatMap Pm.cells ++ (List.replicate (mn - k) partZ0).flatten).toArray ∧ (∀ m ∈ lk, PathIn (w3.heap.size + 1) wr m) ∧ wr.cell? ⟨w.heap.size, 0, none⟩ = some (.pointer none) ∧ wr.cell? ⟨w.heap.size, 1, none⟩ = some (.pointer (some ⟨g, 0, none⟩))) (fun _ i _ => mn - (intOf i).toNat)
    case atStart => exact ⟨0, [], s2, by omega, rfl, rfl, S5, by simpa using hb5, by simp, x05, x15⟩
    case round =>
      obtain ⟨k, lk, sk, hk, rfl, hd, SK, hbk, hpk, a0, a1⟩ := hrel
      obtain ⟨a2, _⟩ := SK.cell HO.out
      have HSK := Lib.hid SK
      by_cases hlt : k < mn
      · have e : mn - k = (mn - (k + 1)) + 1 := by omega
        rw [e, List.replicate_succ, List.flatten_cons] at hbk
        clear e
        generalize hrr : (List.replicate (mn - (k + 1)) partZ0).flatten = rest' at *
        have HRR := Lib.hid hrr
        clear hrr
        have hlk := dK_len hd
        rw [List.length_map] at hlk
        have hfl := partFlat_len lk
        rw [hlk] at hfl
        have hnb := hbk.lt
        have SE : Rst wr.drew g F w3.heap.size 77 (lk.flatMap Pm.cells ++ (.int .i64 0 :: .string ⟨#[]⟩ :: .string ⟨#[]⟩ :: .slice none 0 0 :: rest')) sk wr.drew := ⟨(SK.non ((Chg.refl Non wr).drew)).rdr, hbk.chg ((Chg.refl Non wr).drew) (fun f => f), Chg.refl _ _, by omega, fun hf => by have := HFN.out _ hf; omega⟩
        have HE := part_r wr.drew g F w3.heap.size (k * 4) 77 (lk.flatMap Pm.cells) rest' (.int .i64 0) (.string ⟨#[]⟩) (.string ⟨#[]⟩) sk SE hfl.symm
        have HEE := Lib.hid HE
        have HPK := Lib.hid hpk
        have e0 := ((Chg.refl Non wr).drew).cell a0 (fun f => f)
        have e1 := ((Chg.refl Non wr).drew).cell a1 (fun f => f)
        have e2 := ((Chg.refl Non wr).drew).cell a2 (fun f => f)
        have n1 : ¬ Two g w3.heap.size w.heap.size := by rintro (h | h) <;> omega
        have n2 : ¬ Two g w3.heap.size tb := by rintro (h | h); exact SK.ne h; omega
        have hki : (k : Int) < (mn : Int) := by omega
        have hdn : dK dPa s2 (k + 1) = (dPa sk).bind fun y => some (lk.map Pm.part ++ [y.1], y.2) := by
          have e : dK dPa s2 (k + 1) = (dK dPa s2 k).bind fun x => (dPa x.2).bind fun y => some (x.1 ++ [y.1], y.2) := rfl
          rw [e, hd, Option.bind_some]
        have HDN := Lib.hid hdn
        have hds : wr.drew.heap.size = wr.heap.size := rfl
        clear SE HE hfl hlk hdn hd SK hbk hpk a0 a1 a2
        go_wp2_with fail
        go_region_held (fun w' => w'.cell? ⟨w.heap.size, 0, none⟩ = some (.pointer none) ∧ w'.cell? ⟨w.heap.size, 1, none⟩ = some (.pointer (some ⟨g, 0, none⟩)) ∧ w'.cell? ⟨tb, o, none⟩ = some (.slice (some ⟨w3.heap.size, 0, none⟩) mn mn)) (first | exact ⟨f0, f1, f2⟩ | exact ⟨e0, e1, e2⟩ | assumption) (first | (go_at_call 62; go_loud (refine HEE.out.mono ?_; rintro e wz hz; have f0 := hz.chg.cell e0 n1; have f1 := hz.chg.cell e1 n1; have f2 := hz.chg.cell e2 n2; rcases hz.cases with ⟨kn, he, C, _⟩ | ⟨z, kz, he, nz, NZ, TZ, BZ⟩; (subst he; obtain rfl : r = none := HRL.out.trans (dK_none (k := k + 1) (by omega) (by rw [HDN.out, kn]; rfl)); exact ⟨rfl, rfl, HSK.out.chg.trans (((Chg.refl Non wr).drew.mono (S' := Two g w3.heap.size) (fun _ f => f.elim)).trans C (fun _ h => .inl h)) (fun j hj => by rcases hj with rfl | rfl; exact .inl (.inl rfl); exact .inr (by omega)), _, HN.out.symm ▸ (by simp), (HSK.out.non ((Chg.refl Non wr).drew)).row.chg C n2⟩); subst he)) | fail)
        have hz2 : dK dPa s2 (k + 1) = some ((lk ++ [(⟨z.1, some ⟨nz, 0, none⟩, z.1.path.length⟩ : Pm)]).map Pm.part, z.2) := by rw [HDN.out, kz, List.map_append]; rfl
        have T1 : Rst w g F tb t (p ++ .slice (some ⟨w3.heap.size, 0, none⟩) mn mn :: q) z.2 wz := by
          have b1 := HSK.out.non ((Chg.refl Non wr).drew)
          exact ⟨TZ.rdr, b1.row.chg TZ.chg n2, b1.chg.trans TZ.chg (fun j hj => by rcases hj with rfl | rfl; exact .inl (.inl rfl); exact .inr (by omega)), b1.ne, b1.nF⟩
        have T2 : Hb wz w3.heap.size 77 ((lk ++ [(⟨z.1, some ⟨nz, 0, none⟩, z.1.path.length⟩ : Pm)]).flatMap Pm.cells ++ rest').toArray := by
          have := TZ.row
          simpa [List.append_assoc] using this
        have T3 : ∀ m ∈ lk ++ [(⟨z.1, some ⟨nz, 0, none⟩, z.1.path.length⟩ : Pm)], PathIn (w3.heap.size + 1) wz m := by
          intro m hm
          rcases List.mem_append.1 hm with hm | hm
          · exact ((HPK.out m hm).chg ((Chg.refl Non wr).drew) (fun _ _ f => f)).chg TZ.chg (fun j hj => by rintro (h | h) <;> omega)
          · simp only [List.mem_singleton] at hm
            subst hm
            exact ⟨nz, rfl, rfl, by omega, BZ⟩
        clear hz HEE TZ kz BZ
        go_wp2_with fail
        go_roundw
        case rel => exact ⟨k + 1, _, _, by omega, by go_num, hz2, T1, by rw [HRR.out]; exact T2, T3, f0, f1⟩
        case measure => simp [intOf]; omega
      · obtain rfl : k = mn := by omega
        have hln := dK_len hd
        rw [List.length_map] at hln
        obtain rfl : r = some (lk.map Pm.part, sk) := HRL.out.trans hd
        rw [Nat.sub_self, List.replicate_zero, List.flatten_nil, List.append_nil] at hbk
        go_wp2
        go_end0
        refine ⟨rfl, w3.heap.size, by omega, ?_, lk, rfl, hbk, fun m hm => (hpk m hm).mono (by omega)⟩
        have e : (lk.map Pm.part).length = k := by rw [List.length_map]; exact hln
        show Rst w g F tb t (p ++ .slice (some ⟨w3.heap.size, 0, none⟩) (lk.map Pm.part).length (lk.map Pm.part).length :: q) sk wr
        rw [e]
        exact SK
/-- What the reading of a proof leaves. -/
def RPF (w : World) (g : Nat) (F : Nat → Prop) (tb : Nat) (t : TypeId) (n : Nat) (p q : List Value) (r : Option (Pf × St)) (e : Ending) (w' : World) : Prop :=
  match r with
  | some x => e = .returned (.tuple #[]) ∧ ∃ nb, w.heap.size ≤ nb ∧ Rst w g F tb t (p ++ ([.int .i64 x.1.size, .slice (some ⟨nb, 0, none⟩) x.1.parts.length x.1.parts.length] ++ q)) x.2 w' ∧ ∃ ms : List Pm, ms.map Pm.part = x.1.parts ∧ Hb w' nb 77 (ms.flatMap Pm.cells).toArray ∧ ∀ m ∈ ms, PathIn w.heap.size w' m
  | none => e = .panicked bad ∧ Chg (Two g tb) w w' ∧ ∃ L' : List Value, L'.length = n ∧ Hb w' tb t L'.toArray
theorem RPF.cases {w w' : World} {g : Nat} {F : Nat → Prop} {tb : Nat} {t : TypeId} {n : Nat} {p q : List Value} {r : Option (Pf × St)} {e : Ending} (h : RPF w g F tb t n p q r e w') : (r = none ∧ e = .panicked bad ∧ Chg (Two g tb) w w' ∧ ∃ L' : List Value, L'.length = n ∧ Hb w' tb t L'.toArray) ∨
    (∃ x, r = some x ∧ e = .returned (.tuple #[]) ∧ ∃ nb, w.heap.size ≤ nb ∧ Rst w g F tb t (p ++ ([.int .i64 x.1.size, .slice (some ⟨nb, 0, none⟩) x.1.parts.length x.1.parts.length] ++ q)) x.2 w' ∧ ∃ ms : List Pm, ms.map Pm.part = x.1.parts ∧ Hb w' nb 77 (ms.flatMap Pm.cells).toArray ∧ ∀ m ∈ ms, PathIn w.heap.size w' m) := by
  cases r with
  | some x => exact .inr ⟨x, rfl, h.1, h.2⟩
  | none => exact .inl ⟨rfl, h.1, h.2⟩
theorem RPF.chg {w w' : World} {g : Nat} {F : Nat → Prop} {tb : Nat} {t : TypeId} {n : Nat} {p q : List Value} {r : Option (Pf × St)} {e : Ending} (h : RPF w g F tb t n p q r e w') : Chg (Two g tb) w w' := by
  cases r with
  | some x => obtain ⟨_, nb, _, h1, _⟩ := h; exact h1.chg
  | none => exact h.2.1
set_option maxHeartbeats 1600000 in
theorem proof_r (w : World) (g : Nat) (F : Nat → Prop) (tb o : Nat) (t : TypeId) (p q : List Value) (a0 : Value) (st : St) (S : Rst w g F tb t (p ++ (a0 :: .slice none 0 0 :: q)) st w) (ho : o = p.length) :
    Calls Try.prog 30 #[.agg #[.pointer none, .pointer (some ⟨g, 0, none⟩)], .pointer (some ⟨tb, o, none⟩)] w (RPF w g F tb t (p ++ (a0 :: .slice none 0 0 :: q)).length p q (dProof st)) := by
  generalize hn : (p ++ (a0 :: .slice none 0 0 :: q)).length = n
  generalize hr : dProof st = r
  have HR := Lib.hid hr
  have HN := Lib.hid hn
  have HO := Lib.hid ho
  clear hr hn ho
  have S0 := S.non ((Chg.refl Non w).alloc (.cells #[.pointer none, .pointer (some ⟨g, 0, none⟩)] 86))
  have hw := S.nw (Nat.le_refl w.heap.size)
  have hx := Hb.new w 86 #[.pointer none, .pointer (some ⟨g, 0, none⟩)]
  have hgl := S.rdr.lt
  have htl := S.row.lt
  have hx0 : (w.alloc (.cells #[.pointer none, .pointer (some ⟨g, 0, none⟩)] 86)).cell? ⟨w.heap.size, 0, none⟩ = some (.pointer none) := hx.cell 0
  have hx1 : (w.alloc (.cells #[.pointer none, .pointer (some ⟨g, 0, none⟩)] 86)).cell? ⟨w.heap.size, 1, none⟩ = some (.pointer (some ⟨g, 0, none⟩)) := hx.cell 1
  have hBs : (w.alloc (.cells #[.pointer none, .pointer (some ⟨g, 0, none⟩)] 86)).heap.size = w.heap.size + 1 := by simp
  have S1 := S0.here
  clear hx S
  go_enter Try.func30, Try.ntmps30
  go_wp2_with fail
  generalize w.alloc (.cells #[.pointer none, .pointer (some ⟨g, 0, none⟩)] 86) = B at *
  have x0 := S1.chg.cell hx0 hw
  have x1 := S1.chg.cell hx1 hw
  refine (begin_r _ g F tb t _ st S1.here 7).mono ?_
  rintro e w2 h2
  rcases h2.cases with ⟨k, he, C, L', hL1, hL2⟩ | ⟨y, k, he, T2⟩
  · subst he; obtain rfl : r = none := HR.out.symm.trans (by (try simp only [Option.map_eq_none_iff] at k); simp [dProof, k]); go_wp2; exact ⟨rfl, rfl, (S0.chg.trans (S1.chg.trans C (fun _ h => .inl h)) (fun _ h => .inl h)), L', by (rw [hL1, ← HN.out]) <;> simp [bv_length, vH_length] <;> omega, hL2⟩
  subst he
  obtain ⟨z2, k2, rfl⟩ := Option.map_eq_some_iff.1 k
  clear k
  have S2 := S1.trans T2
  clear x0 x1 T2 h2
  go_wp2_with fail
  have D3 := S2.non ((Chg.refl Non w2).drew)
  have x0 := D3.chg.cell hx0 hw
  have x1 := D3.chg.cell hx1 hw
  go_region_held (fun w' => w'.cell? ⟨w.heap.size, 0, none⟩ = some (.pointer none) ∧ w'.cell? ⟨w.heap.size, 1, none⟩ = some (.pointer (some ⟨g, 0, none⟩))) (first | exact ⟨y0, y1⟩ | exact ⟨x0, x1⟩ | assumption) (first | (go_at_call 56; go_loud (refine (number_r _ g F tb o t p (.slice none 0 0 :: q) a0 z2 D3.here HO.out 0 4096).mono ?_; rintro e w3 h3; have y0 := h3.chg.cell x0 hw; have y1 := h3.chg.cell x1 hw; rcases h3.cases with ⟨k, he, C, L', hL1, hL2⟩ | ⟨y, k, he, T3⟩; (subst he; obtain rfl : r = none := HR.out.symm.trans (by (try simp only [Option.map_eq_none_iff] at k); simp [dProof, k2, k]); exact ⟨rfl, rfl, (S0.chg.trans (D3.chg.trans C (fun _ h => .inl h)) (fun _ h => .inl h)), L', by (rw [hL1, ← HN.out]) <;> simp [bv_length, vH_length] <;> omega, hL2⟩); subst he; obtain ⟨z3, k3, rfl⟩ := Option.map_eq_some_iff.1 k; clear k)) | fail)
  have S3 := D3.trans T3
  clear x0 x1 T3 D3 y0 y1 h3
  go_wp2_with fail
  have D4 := S3.non ((Chg.refl Non w3).drew)
  have x0 := D4.chg.cell hx0 hw
  have x1 := D4.chg.cell hx1 hw
  go_region_held (fun w' => w'.cell? ⟨w.heap.size, 0, none⟩ = some (.pointer none) ∧ w'.cell? ⟨w.heap.size, 1, none⟩ = some (.pointer (some ⟨g, 0, none⟩))) (first | exact ⟨y0, y1⟩ | exact ⟨x0, x1⟩ | assumption) (first | (go_at_call 61; go_loud (refine (listPart_r _ g F tb (o + 1) t (p ++ [.int .i64 z3.1]) q z3.2 (D4.here.eq (by simp)) (by rw [HO.out]; simp)).mono ?_; rintro e w4 h4; have y0 := h4.chg.cell x0 hw; have y1 := h4.chg.cell x1 hw; rcases h4.cases with ⟨k, he, C, L', hL1, hL2⟩ | ⟨z4, k4, he, nb4, N4, T4, B4⟩; (subst he; obtain rfl : r = none := HR.out.symm.trans (by (try simp only [Option.map_eq_none_iff] at k); simp [dProof, k2, k3, k]); exact ⟨rfl, rfl, (S0.chg.trans (D4.chg.trans C (fun _ h => .inl h)) (fun _ h => .inl h)), L', by (rw [hL1, ← HN.out]) <;> simp [bv_length, vH_length] <;> omega, hL2⟩); subst he)) | fail)
  have S4 := D4.trans T4
  have N4 : w.heap.size < nb4 := by have := D4.chg.size; omega
  clear x0 x1 T4 D4 y0 y1 h4
  obtain rfl : r = some (_, z4.2) := HR.out.symm.trans (by simp only [dProof, k2, k3, k4, Option.bind_some, Option.map_some]; rfl)
  go_wp2
  go_end0
  obtain ⟨ms, m1, m2, m3⟩ := B4
  exact ⟨rfl, nb4, by omega, (S0.trans S4).eq (by simp), ms, m1, m2, fun m hm => (m3 m hm).mono (show w.heap.size ≤ w3.heap.size by have := S3.chg.size; omega)⟩
end Go.Proofs.Ytgonbmcfeehfaaa
