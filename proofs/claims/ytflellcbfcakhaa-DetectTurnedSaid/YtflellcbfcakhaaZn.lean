/- The law DetectTurned, walked. -/
import Derived.Test.YtflellcbfcakhaaChecked
import Derived.WalkKit
import Derived.WalkLawsBesides
import Derived.Lib.Hide
import Derived.IntWalk
import Derived.BigGuard
import Derived.Deep.Cut
import Derived.Deep.CutRange
import Derived.Deep.CutBlock
import Derived.BigCall
import Derived.CellFam
import Derived.Deep.Draws
import Derived.Deep.QuietTactic
import Derived.BigQuiet
import Derived.Deep.MidRow
import Derived.Test.YtflellcbfcakhaaZm
namespace Go.Proofs.Ytflellcbfcakhaa
open Go.RowKit
set_option linter.unusedVariables false
set_option linter.unusedSimpArgs false
set_option maxRecDepth 20000

/-- What Classify told: nothing, or evidence. -/
def Tld (P : World → Value → Prop) (x y z : Li) (w' : World) (L : List Value) (code : Int) : Prop := (conf x.hd y.hd z.hd = false ∧ code = 171 ∧ L = Ez) ∨
  (conf x.hd y.hd z.hd = true ∧ code = 0 ∧ ∃ Lc A n c, Lc.length = 200 ∧ L = evc (kd y z) x.hd.height Lc (.slice A n c) ∧ P w' (.slice A n c))
theorem clf_one {P : World → Value → Prop} {x y z : Li} {w w' : World} {e : Ending} (h : Clf P x y z w e w') : ∃ (L : List Value) (code : Int), e = .returned (.tuple #[.agg L.toArray, .int .i64 code]) ∧ Hid (Chg Non w w') ∧ L.length = 203 ∧ (∀ u ∈ L, u.oneCell' = true) ∧ Hid (Tld P x y z w' L code) := by
  obtain ⟨k, ⟨h, rfl⟩ | ⟨h, Lc, A, n, c, h1, h2, rfl, h3⟩⟩ := h
  · exact ⟨Ez, 171, rfl, Lib.hid k, ez_len, ez_one, Lib.hid (.inl ⟨h, rfl, rfl⟩)⟩
  · exact ⟨_, 0, rfl, Lib.hid k, by rw [evc_len, h1], evc_one _ _ _ _ h2 rfl, Lib.hid (.inr ⟨h, rfl, Lc, A, n, c, h1, rfl, h3⟩)⟩
theorem evc_at {s : ByteArray} {h : Int} {cs : List Value} {v : Value} (hc : cs.length = 200) {w : World} {g : Nat} (hb : Hb w g 38 (evc s h cs v).toArray) :
    w.cell? ⟨g, 0, none⟩ = some (.string s) ∧ w.cell? ⟨g, 1, none⟩ = some (.int .i64 h) ∧ w.cell? ⟨g, 202, none⟩ = some v := by
  rw [hb.cell, hb.cell, hb.cell, List.getElem?_toArray, List.getElem?_toArray, List.getElem?_toArray]
  refine ⟨rfl, rfl, ?_⟩
  unfold evc
  rw [List.getElem?_append_right (by simp), List.getElem?_append_right (by simp [hc])]
  simp [hc]
theorem ownk_at {n₀ : Nat} {w : World} {A : Option Addr} {n c : Nat} {rs : List Nat} (h : OwnK n₀ w (.slice A n c) rs) : n = rs.length ∧ n ≤ maxLen ∧ ∀ (i k : Nat), rs[i]? = some k → ∃ g, A = some ⟨g, 0, none⟩ ∧ w.cell? ⟨g, i, none⟩ = some (.int .u64 (k : Int)) := by
  obtain ⟨_, ⟨e, h0⟩ | ⟨g, cap, cur, e, hb, hg, hc1, hc2, hc3, hc4⟩⟩ := h
  · injection e with e1 e2 e3
    subst e2
    have hr : rs = [] := List.eq_nil_of_length_eq_zero h0
    subst hr
    exact ⟨rfl, Nat.zero_le _, fun i k hk => by simp at hk⟩
  · injection e with e1 e2 e3
    subst e1; subst e2
    rw [Nat.mul_one] at hc4
    refine ⟨rfl, by omega, fun i k hk => ⟨g, rfl, ?_⟩⟩
    have hi := (List.getElem?_eq_some_iff.1 hk).1
    have e : (cur.toList.take rs.length)[i]? = (rs.map keyV64)[i]? := by rw [hc4]
    rw [List.getElem?_take_of_lt hi, List.getElem?_map, hk, Array.getElem?_toList] at e
    have hbb : Hb w g 43 cur := hg
    rw [hbb.cell, e]
    rfl
set_option maxRecDepth 100000 in
set_option maxHeartbeats 6400000 in
theorem turned_walk (W : World) (v0 : Value) (h0 : Okv Try.prog W 32 v0) :
    Calls Try.prog 3 #[v0] W fun e W' => e = .returned (.bool true) ∧ Below W.heap.size W W' := by
  obtain ⟨x, y, z, rfl, ⟨ox, nx⟩, ⟨oy, ny⟩, oz, nz⟩ := three_arg h0
  clear h0
  have HAL := Lib.hid (fun w => alive_any w)
  have HEND : Hid (∀ w', Chg Non W w' → Below W.heap.size W w') := Lib.hid fun w' k => k.below (Nat.le_refl _) (fun _ f => f.elim)
  have HR3 : Hid (∀ w1, Chg Non W w1 → Hid (Hb w1 W.heap.size 32 (x.cells ++ (y.cells ++ z.cells)).toArray) → Hid (w1.rangeAt W.heap.size 0 x.cells ∧ w1.rangeAt W.heap.size 200 y.cells ∧ w1.rangeAt W.heap.size 400 z.cells) ∧ Hid (LstM w1 (some ⟨W.heap.size, 0, none⟩) [x, y, z] Li.cells 200) ∧ Hid (Chg Non W w1)) := Lib.hid fun w1 k h => by
    have r := h.out.range0
    obtain ⟨r0, r⟩ := rangeAt_app r
    obtain ⟨r1, r2⟩ := rangeAt_app r
    rw [x.cells_len ox] at r1 r2
    rw [y.cells_len oy] at r2
    have hlt := h.out.lt
    refine ⟨Lib.hid ⟨r0, r1, r2⟩, Lib.hid (fun i u hu => ⟨_, _, rfl, hlt, ?_⟩), Lib.hid k⟩
    match i, hu with
    | 0, hu => obtain rfl : x = u := by simpa using hu
               exact r0
    | 1, hu => obtain rfl : y = u := by simpa using hu
               exact r1
    | 2, hu => obtain rfl : z = u := by simpa using hu
               exact r2
    | (k + 3), hu => simp at hu
  have HP : Hid (∀ w1 A, Hid (LstM w1 A [x, y, z] Li.cells 200) → Calls Try.prog 4 #[.slice A 3 3] w1 (Zero w1 (.bool (fewB [x, y, z])))) := Lib.hid fun w1 A M => few_any w1 A 3 [x, y, z] (by unfold maxLen; simp) (by intro u hu; simp only [List.mem_cons, List.not_mem_nil, or_false] at hu; rcases hu with rfl | rfl | rfl <;> assumption) M.out
  have HF : fewB [x, y, z] = true → (x.sv.length ≤ 20 ∧ x.nx.length ≤ 20 ∧ x.se.length ≤ 20) ∧ (y.sv.length ≤ 20 ∧ y.nx.length ≤ 20 ∧ y.se.length ≤ 20) ∧ (z.sv.length ≤ 20 ∧ z.nx.length ≤ 20 ∧ z.se.length ≤ 20) := fun h => by
    unfold fewB Li.few at h
    simpa using h
  have HC1 : Hid (fewB [x, y, z] = true → ∀ w', Chg Non W w' → Calls Try.prog 6 #[.agg x.cells.toArray, .agg y.cells.toArray, .agg z.cells.toArray] w' (Clf (Keys x y z) x y z w')) := Lib.hid fun h w' k => by
    have h := HF h
    exact Classify_all 20 (by omega) sort_20 w' x y z ox oy oz (nx.chg k) (ny.chg k) (nz.chg k) (by omega) (by omega) (by omega) (by omega)
  have HC2 : Hid (fewB [x, y, z] = true → ∀ w', Chg Non W w' → Calls Try.prog 6 #[.agg x.cells.toArray, .agg z.cells.toArray, .agg y.cells.toArray] w' (Clf (Keys x z y) x z y w')) := Lib.hid fun h w' k => by
    have h := HF h
    exact Classify_all 20 (by omega) sort_20 w' x z y ox oz oy (nx.chg k) (nz.chg k) (ny.chg k) (by omega) (by omega) (by omega) (by omega)
  have HSS : Hid (fewB [x, y, z] = true → ∀ w', Chg Non W w' → Calls Try.prog 7 #[.slice y.A2 y.sv.length y.c2, .slice z.A2 z.sv.length z.c2] w' fun e w'' => ∃ s : Bool, e = .returned (.bool s) ∧ Chg Non w' w'' ∧ (s = true → y.sv = z.sv)) := Lib.hid fun h w' k => by
    have h := HF h
    exact sameSet_any w' _ _ _ _ _ _ (by omega) (by omega) (ny.chg k).sv (nz.chg k).sv
  have HSV : Hid (∀ w1 : World, w1.rangeAt W.heap.size 200 y.cells → w1.rangeAt W.heap.size 400 z.cells → w1.cell? ⟨W.heap.size, 398, none⟩ = some (.slice y.A2 y.sv.length y.c2) ∧ w1.cell? ⟨W.heap.size, 598, none⟩ = some (.slice z.A2 z.sv.length z.c2)) := Lib.hid fun w1 r1 r2 => ⟨(Li.rows oy r1).sv, (Li.rows oz r2).sv⟩
  have rx := light_row x ox
  have ry := light_row y oy
  have rz := light_row z oz
  have HCF := Lib.hid (conf_turn x.hd y.hd z.hd)
  have HKD := Lib.hid (kd_turn y z)
  have HKC := Lib.hid (kd_cases y z)
  have HNM : Hid (kd y z = sEqu → y.sv = z.sv → ∀ rs ss : List Nat, rs.Pairwise (· < ·) → ss.Pairwise (· < ·) → (∀ k, k ∈ rs ↔ Nam x y z k) → (∀ k, k ∈ ss ↔ Nam x z y k) → rs = ss) := Lib.hid fun hk hs rs ss h1 h2 h3 h4 => rising_eq h1 h2 (fun k => by rw [h3, h4, nam_turn hk hs])
  clear HF ox oy oz nx ny nz
  generalize fewB [x, y, z] = p at *
  generalize hcx : x.cells = cx at *
  generalize hcy : y.cells = cy at *
  generalize hcz : z.cells = cz at *
  have HCX := Lib.hid hcx
  clear hcx hcy hcz HCX
  generalize hc3 : cx ++ (cy ++ cz) = c3 at *
  clear hc3
  go_enter Try.func3, Try.ntmps3
  go_wp2_with (first | (with_reducible refine wpList_box_h rfl _ _ rfl c3 rfl ?_; intro w1 k1 h1; obtain ⟨HRR, HM, HC⟩ := HR3.out w1 k1 h1))
  refine (HP.out w1 _ HM).mono ?_
  rintro e w2 ⟨rfl, k2⟩
  have HC2' : Hid (Chg Non W w2) := Lib.hid (HC.out.trans k2 (fun _ f => f.elim))
  cases p with
  | false =>
    clear HRR HM HC k1 h1
    go_wp2_with fail
    refine (HAL.out w2).mono ?_
    rintro e w3 ⟨rfl, k3⟩
    go_wp2_with fail
    go_ret
    exact ⟨rfl, HEND.out _ (HC2'.out.trans k3 (fun _ f => f.elim))⟩
  | true =>
    have hgl : W.heap.size < w1.heap.size := h1.out.lt
    have r0 := k2.range' HRR.out.1 (fun f => f)
    have r1 := k2.range' HRR.out.2.1 (fun f => f)
    have r2 := k2.range' HRR.out.2.2 (fun f => f)
    have HRA : Hid (w2.rangeAt W.heap.size 0 cx ∧ w2.rangeAt W.heap.size 200 cy ∧ w2.rangeAt W.heap.size 400 cz) := Lib.hid ⟨r0, r1, r2⟩
    have HGS : Hid (W.heap.size < w2.heap.size) := Lib.hid (Nat.lt_of_lt_of_le hgl k2.size)
    clear HRR HM HC k1 h1 k2 HP hgl
    go_wp2_with (first | (with_reducible refine wpList_load_mid rfl 31 _ rfl W.heap.size 0 rfl cx _ r0 Try.underlying31 rfl rx ?_; go_frame) | (with_reducible refine wpList_load_mid rfl 31 _ rfl W.heap.size 200 rfl cy _ r1 Try.underlying31 rfl ry ?_; go_frame) | (with_reducible refine wpList_load_mid rfl 31 _ rfl W.heap.size 400 rfl cz _ r2 Try.underlying31 rfl rz ?_; go_frame))
    refine (HC1.out (by first | exact rfl | trivial) w2 HC2'.out).mono ?_
    rintro e w3 hcl
    obtain ⟨L1, c1, rfl, k3, hL1, hL2, HT1⟩ := clf_one hcl
    have HC3 : Hid (Chg Non W w3) := Lib.hid (HC2'.out.trans k3.out (fun _ f => f.elim))
    have eal := ev_alloc
    have erow : (Try.prog.info? 38).map (·.size) = some L1.length := by rw [hL1]; exact ev_row
    have ezl : Ez.length = L1.length := by rw [ez_len, hL1]
    have HG3 : Hid (W.heap.size < w3.heap.size) := Lib.hid (Nat.lt_of_lt_of_le HGS.out k3.out.size)
    have HFE : Hid (∀ wa wb, Chg Non w3 wa → Chg (· = w3.heap.size) wa wb → Hid (Hb wb w3.heap.size 38 L1.toArray) → wb.rangeAt W.heap.size 0 cx ∧ wb.rangeAt W.heap.size 200 cy ∧ wb.rangeAt W.heap.size 400 cz ∧ Hid (Hb wb w3.heap.size 38 L1.toArray) ∧ Hid (Chg Non W wb ∧ Chg Non w3 wb)) := Lib.hid fun wa wb ka kb h => by
      have kk : Chg Non w2 wb := k3.out.trans (ka.fresh kb) (fun _ f => f.elim)
      exact ⟨kk.range' HRA.out.1 (fun f => f), kk.range' HRA.out.2.1 (fun f => f), kk.range' HRA.out.2.2 (fun f => f), h, Lib.hid ⟨HC3.out.trans (ka.fresh kb) (fun _ f => f.elim), ka.fresh kb⟩⟩
    have HEZ := Lib.hid ez_len
    generalize Ez = ez at *
    clear hcl k3 r0 r1 r2
    go_wp2_with (first | (with_reducible refine wpList_alloc_h rfl _ rfl ez eal ?_; intro wa ka hA; go_frame) | (with_reducible refine wpList_store_h rfl 38 _ _ rfl w3.heap.size ez L1 rfl rfl hA.out ezl erow hL2 ?_; intro wb kb hB; obtain ⟨r0, r1, r2, HB4, HC4⟩ := HFE.out wa wb ka kb hB; go_frame) | (with_reducible refine wpList_load_mid rfl 31 _ rfl W.heap.size 0 rfl cx _ r0 Try.underlying31 rfl rx ?_; go_frame) | (with_reducible refine wpList_load_mid rfl 31 _ rfl W.heap.size 200 rfl cy _ r1 Try.underlying31 rfl ry ?_; go_frame) | (with_reducible refine wpList_load_mid rfl 31 _ rfl W.heap.size 400 rfl cz _ r2 Try.underlying31 rfl rz ?_; go_frame))
    have HG4 : Hid (W.heap.size < wb.heap.size ∧ w3.heap.size < wb.heap.size) := Lib.hid ⟨Nat.lt_of_lt_of_le HG3.out HC4.out.2.size, HB4.out.lt⟩
    have HRB : Hid (wb.rangeAt W.heap.size 200 cy ∧ wb.rangeAt W.heap.size 400 cz) := Lib.hid ⟨r1, r2⟩
    clear r0 r1 r2 hA hB ka kb HFE HRA HG3 HC3 erow ezl hL1 hL2
    refine (HC2.out (by first | exact rfl | trivial) wb HC4.out.1).mono ?_
    rintro e w5 hcl
    obtain ⟨L2, c2, rfl, k5, hL1, hL2, HT2⟩ := clf_one hcl
    have erow : (Try.prog.info? 38).map (·.size) = some L2.length := by rw [hL1]; exact ev_row
    have ezl : ez.length = L2.length := by rw [HEZ.out, hL1]
    have HFE : Hid (∀ wa wd, Chg Non w5 wa → Chg (· = w5.heap.size) wa wd → Hid (Hb wd w5.heap.size 38 L2.toArray) → Hid (wd.rangeAt W.heap.size 200 cy ∧ wd.rangeAt W.heap.size 400 cz) ∧ Hid (Hb wd w3.heap.size 38 L1.toArray) ∧ Hid (Hb wd w5.heap.size 38 L2.toArray) ∧ Hid (Chg Non W wd ∧ Chg Non w3 wd ∧ Chg Non w5 wd)) := Lib.hid fun wa wd ka kb h => by
      have kf : Chg Non w5 wd := ka.fresh kb
      have kk : Chg Non wb wd := k5.out.trans kf (fun _ f => f.elim)
      exact ⟨Lib.hid ⟨kk.range' HRB.out.1 (fun f => f), kk.range' HRB.out.2 (fun f => f)⟩, Lib.hid (HB4.out.chg kk (fun f => f)), h, Lib.hid ⟨HC4.out.1.trans kk (fun _ f => f.elim), HC4.out.2.trans kk (fun _ f => f.elim), kf⟩⟩
    clear hcl k5
    go_upto_region 6 with (first | (with_reducible refine wpList_alloc_h rfl _ rfl ez eal ?_; intro wa ka hA; go_frame) | (with_reducible refine wpList_store_h rfl 38 _ _ rfl w5.heap.size ez L2 rfl rfl hA.out ezl erow hL2 ?_; intro wd kb hB; obtain ⟨HRD, HB1, HB2, HCD⟩ := HFE.out wa wd ka kb hB; go_frame))
    clear hA hB ka kb HFE HRB HG4 HB4 HC4 erow ezl hL1 hL2 eal HEZ
    generalize w3.heap.size = g1 at *
    generalize w5.heap.size = g2 at *
    rcases HT1.out with ⟨hcf, rfl, hL⟩ | ⟨hcf, rfl, Lc, A, n, c, hLc, hL, HK1⟩
    · rcases HT2.out with ⟨_, rfl, hM⟩ | ⟨hcg, _⟩
      · have HP1 : Hid (∀ w', Chg Non wd w' → w'.cell? ⟨g1, 0, none⟩ = some (.string ⟨#[]⟩) ∧ w'.cell? ⟨g2, 0, none⟩ = some (.string ⟨#[]⟩)) := Lib.hid fun w' k => by
          have e1 := HB1.out.chg k (fun f => f)
          have e2 := HB2.out.chg k (fun f => f)
          rw [hL] at e1
          rw [hM] at e2
          exact ⟨by rw [e1.cell, List.getElem?_toArray]; rfl, by rw [e2.cell, List.getElem?_toArray]; rfl⟩
        clear hL hM hcf
        go_wp2_with fail
        refine (HAL.out wd).mono ?_
        rintro e w7 ⟨rfl, k7⟩
        obtain ⟨p1, p2⟩ := HP1.out w7 k7
        have HE7 := Lib.hid (HEND.out _ (HCD.out.1.trans k7 (fun _ f => f.elim)))
        clear k7
        go_wp2_with fail
        go_ret
        exact ⟨by first | rfl | simp, HE7.out⟩
      · rw [HCF.out, hcf] at hcg
        cases hcg
    · rcases HT2.out with ⟨hcg, _⟩ | ⟨_, rfl, Ld, B, m, d, hLd, hM, HK2⟩
      · rw [HCF.out, hcf] at hcg
        cases hcg
      · subst hL
        subst hM
        rw [HKD.out] at HB2
        generalize hkd : kd y z = K at *
        generalize x.hd.height = ht at *
        have HP1 : Hid (∀ w', Chg Non wd w' → (w'.cell? ⟨g1, 0, none⟩ = some (.string K) ∧ w'.cell? ⟨g1, 1, none⟩ = some (.int .i64 ht) ∧ w'.cell? ⟨g1, 202, none⟩ = some (.slice A n c)) ∧ w'.cell? ⟨g2, 0, none⟩ = some (.string K) ∧ w'.cell? ⟨g2, 1, none⟩ = some (.int .i64 ht) ∧ w'.cell? ⟨g2, 202, none⟩ = some (.slice B m d)) := Lib.hid fun w' k => ⟨evc_at hLc (HB1.out.chg k (fun f => f)), evc_at hLd (HB2.out.chg k (fun f => f))⟩
        obtain ⟨c398, c598⟩ := HSV.out wd HRD.out.1 HRD.out.2
        obtain ⟨rs, hO1, hr1, hr2⟩ := HK1
        obtain ⟨ss, hO2, hs1, hs2⟩ := HK2
        have HO1 : Hid (∀ w', Chg Non wd w' → ∀ (i k : Nat), rs[i]? = some k → ∃ g, A = some ⟨g, 0, none⟩ ∧ w'.cell? ⟨g, i, none⟩ = some (.int .u64 (k : Int))) := Lib.hid fun w' k => (ownk_at ((hO1.chg HCD.out.2.1 (fun _ _ f => f)).chg k (fun _ _ f => f))).2.2
        have HO2 : Hid (∀ w', Chg Non wd w' → ∀ (i k : Nat), ss[i]? = some k → ∃ g, B = some ⟨g, 0, none⟩ ∧ w'.cell? ⟨g, i, none⟩ = some (.int .u64 (k : Int))) := Lib.hid fun w' k => (ownk_at ((hO2.chg HCD.out.2.2 (fun _ _ f => f)).chg k (fun _ _ f => f))).2.2
        obtain ⟨hn1, hn2, _⟩ := ownk_at hO1
        obtain ⟨hm1, hm2, _⟩ := ownk_at hO2
        unfold maxLen at hn2 hm2
        have HN1 := Lib.hid hn1
        have HM1 := Lib.hid hm1
        have HEQ : Hid (K = sEqu → y.sv = z.sv → rs = ss) := Lib.hid fun h1 h2 => HNM.out h1 h2 rs ss hr1 hs1 hr2 hs2
        clear hO1 hO2 hr1 hr2 hs1 hs2 hn1 hm1 HNM hkd hcf hLc hLd HT1 HT2 HB1 HB2 HKD HCF HC1 HC2 HR3 HSV rx ry rz HRD
        go_wp2_with fail
        refine (HSS.out (by first | exact rfl | trivial) wd HCD.out.1).mono ?_
        rintro e w7 ⟨s, rfl, k7, hs⟩
        have HS7 := Lib.hid (fun (h : K = sEqu) (hs' : s = true) => HEQ.out h (hs hs'))
        have HK7 := Lib.hid k7
        obtain ⟨⟨_, _, q1⟩, _, _, q2⟩ := HP1.out w7 k7
        clear HEQ hs k7 HSS c398 c598
        go_upto_block 0 with (fail)
        clear q1 q2
        generalize hkb : ((n : Int) == (m : Int)) = kb0
        have HKB : Hid (kb0 = true → n = m) := Lib.hid (fun h => by rw [← hkb] at h; have := eq_of_beq h; omega)
        have HKE : Hid (rs = ss → kb0 = true) := Lib.hid (fun e => by
          have : n = m := by rw [HN1.out, HM1.out, e]
          rw [← hkb, this]
          exact beq_self_eq_true _)
        clear hkb
        go_cut [9, 10] from 72 to 92 (fun s9 s10 wx => ∃ kb : Bool, s9 = .bool kb ∧ Hid (rs = ss → kb = true) ∧ Hid (Chg Non wd wx))
        case first =>
          go_wp2_with fail
          go_loopw [9, 10] (fun s9 s10 wr => ∃ (kb : Bool) (i : Nat), s9 = .bool kb ∧ s10 = .int .i64 (i : Int) ∧ i ≤ n ∧ Hid (kb = true → n = m) ∧ Hid (rs = ss → kb = true) ∧ Hid (Chg Non wd wr)) (fun _ s10 _ => n + 1 - (intOf s10).toNat)
          case atStart => exact ⟨kb0, 0, rfl, rfl, by omega, HKB, HKE, HK7⟩
          case round =>
            obtain ⟨kb, i, rfl, rfl, hi, hk1, hk2, hC⟩ := hrel
            obtain ⟨⟨_, _, q1⟩, _, _, q2⟩ := HP1.out wr hC.out
            cases kb with
            | false =>
              go_wp2_with fail
              go_meet
              exact ⟨false, rfl, hk2, hC⟩
            | true =>
              have hnm : n = m := hk1.out rfl
              by_cases hlt : i < n
              · have h1 : i < rs.length := by rw [← HN1.out]; exact hlt
                have h2 : i < ss.length := by rw [← HM1.out, ← hnm]; exact hlt
                obtain ⟨ga, hA, ca⟩ := HO1.out wr hC.out i _ (List.getElem?_eq_getElem h1)
                obtain ⟨gb, hB, cb⟩ := HO2.out wr hC.out i _ (List.getElem?_eq_getElem h2)
                have HNX : Hid (rs = ss → rs[i] = ss[i]) := Lib.hid (fun e => by subst e; rfl)
                generalize rs[i] = k1 at *
                generalize ss[i] = k2 at *
                rw [hA] at q1
                rw [hB] at q2
                have hki : (i : Int) < (n : Int) := by omega
                have hkm : (i : Int) < (m : Int) := by omega
                have HNMM := Lib.hid hnm
                clear h1 h2 hA hB hnm
                go_wp2_with fail
                go_quiet (fail)
                go_wp2_with fail
                go_roundw
                case rel => exact ⟨_, i + 1, rfl, by go_num, by omega, Lib.hid (fun _ => HNMM.out), Lib.hid (fun e => by have := HNX.out e; subst this; simp), Lib.hid (hC.out.drewN _)⟩
                case measure => simp [intOf]; omega
              · have hge : ¬ (i : Int) < (n : Int) := by omega
                clear hnm
                go_wp2_with fail
                go_meet
                exact ⟨true, rfl, Lib.hid (fun _ => rfl), hC⟩
        case rest =>
        obtain ⟨kb, rfl, hkb2, hC8⟩ := hcut
        go_wp2_with fail
        refine (HAL.out wc).mono ?_
        rintro e w9 ⟨rfl, k9⟩
        have HC9 : Hid (Chg Non wd w9) := Lib.hid (hC8.out.trans k9 (fun _ f => f.elim))
        obtain ⟨⟨q1, q2, _⟩, q3, q4, _⟩ := HP1.out w9 HC9.out
        have HE9 := Lib.hid (HEND.out _ (HCD.out.1.trans HC9.out (fun _ f => f.elim)))
        have HFIN : Hid (K = sEqu → s = true → kb = true) := Lib.hid fun h h' => hkb2.out (HS7.out h h')
        clear k9 hC8 HC9 HP1
        rcases HKC.out with h | h | h
        · rw [h] at q1 q3
          unfold sLun at q1 q3
          clear h
          cases s <;> cases kb
          all_goals
            go_wp2_with fail
            go_ret
            exact ⟨by first | rfl | simp, HE9.out⟩
        · have HFN := Lib.hid (HFIN.out h)
          rw [h] at q1 q3
          unfold sEqu at q1 q3
          clear h
          cases s with
          | false =>
            cases kb
            all_goals
              go_wp2_with fail
              go_ret
              exact ⟨by first | rfl | simp, HE9.out⟩
          | true =>
            cases kb with
            | false => exact absurd (HFN.out rfl) Bool.false_ne_true
            | true =>
              go_wp2_with fail
              go_ret
              exact ⟨by first | rfl | simp, HE9.out⟩
        · rw [h] at q1 q3
          unfold sAmn at q1 q3
          clear h
          cases s <;> cases kb
          all_goals
            go_wp2_with fail
            go_ret
            exact ⟨by first | rfl | simp, HE9.out⟩
end Go.Proofs.Ytflellcbfcakhaa
