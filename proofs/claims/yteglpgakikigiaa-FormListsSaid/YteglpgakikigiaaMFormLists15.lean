import Derived.Test.YteglpgakikigiaaChecked
import Derived.WalkKit
import Derived.WalkLawsBesides
import Derived.Lib.Hide
import Derived.Recover
import Derived.Test.YteglpgakikigiaaMFormLists5
import Derived.Test.YteglpgakikigiaaMFormLists6
import Derived.Test.YteglpgakikigiaaMFormLists8
import Derived.Test.YteglpgakikigiaaMFormLists13
import Derived.Test.YteglpgakikigiaaMFormLists14
/- The document's answers for forms: ReadLight. -/
namespace Go.Proofs.Yteglpgakikigiaa
open Go.RowKit
set_option linter.unusedVariables false
set_option linter.unusedSimpArgs false
set_option maxRecDepth 20000

theorem built_Lt (H : List Value) (h : H.length = 163) : Try.prog.built 38 [(0, .agg H.toArray)] = some (H ++ (cmz ++ [Value.slice none 0 0, Value.slice none 0 0])).toArray := by
  have e : Try.prog.built 38 [(0, .agg H.toArray)] = Instr.fill (fun i => (#[(0, 163), (163, 35), (198, 1), (199, 1)] : Array (Nat × Nat))[i]?) ltz.toArray [(0, .agg H.toArray)] := by kernel_rfl
  have hz : ltz.length = 200 := rfl
  have hd : ltz.drop 163 = cmz ++ [Value.slice none 0 0, Value.slice none 0 0] := by rfl
  have hc : (Value.agg H.toArray).cells = H.toArray := rfl
  have hp : (#[(0, 163), (163, 35), (198, 1), (199, 1)] : Array (Nat × Nat))[0]? = some (0, 163) := rfl
  have hl := fill_list H 0 ltz (by rw [h, hz]; omega)
  rw [h, List.take_zero, List.nil_append, hd] at hl
  rw [e]
  unfold Instr.fill
  simp only [hp, hc]
  rw [if_neg (by simp [h, hz])]
  unfold Instr.fill
  rw [← hl]
  simp
theorem zero_Lt : Try.prog.built 38 [] = some ltz.toArray := by kernel_rfl
theorem own_keep {α : Type} {e : TypeId} {sz : Nat} {cells : α → List Value} {w w' : World} {v : Value} {l : List α} {g tb m : Nat} (h : OwnL e sz cells w v l) (hv : ∀ j, vbl v j → m ≤ j) (hg : g < m) (ht : tb < m) (k : Chg (fun j => j = g ∨ j = tb) w w') : OwnL e sz cells w' v l :=
  h.chg k fun j hj hh => by have := hv j hj; omega
/-- What the document's reading of a light block leaves. -/
def RefT (w : World) (z : List Value) (r : Option Lt) (e : Ending) (w' : World) : Prop :=
  Chg Non w w' ∧ match r with
    | some x => ∃ A1 A2 A3 c1 c2 c3, e = .returned (.tuple #[.agg (x.cells (.slice A1 x.commit.seals.length c1) (.slice A2 x.set.length c2) (.slice A3 x.next.length c3)).toArray, .int .i64 0]) ∧ LstM w' A1 x.commit.seals Se.cells 3 ∧ LstM w' A2 x.set Va.cells 2 ∧ LstM w' A3 x.next Va.cells 2
    | none => e = .returned (.tuple #[.agg z.toArray, .int .i64 61])
set_option maxHeartbeats 6400000 in
theorem ReadLight_any (w : World) (A : Option Addr) (c : Nat) (bs : List UInt8) (hr : Rd w A bs) (hc : bs.length ≤ c) (hcm : c ≤ maxLen) (hA : bs ≠ [] → ∀ j, abl A j → j < w.heap.size) :
    Calls Try.prog 10 #[Value.slice A bs.length c] w (RefT w ltz (whole (dLight (some bs)))) := by
  rw [as_whole (rLight_is (some bs))]
  obtain ⟨hR2, hb2, hk2, hs2⟩ := rdF_new w 38 ltz A c bs hr hc hcm hA
  generalize hst : (some bs : St) = st at *
  have ox := rLight_ok st
  have HN := refRNumber _ (w.heap.size + 1) (fun j => j < w.heap.size) st hR2 (fun j hj => by rw [hs2]; omega)
  have hz : ∀ w : World, (Instr.alloc 38 true (.tuple #[])).run Try.prog w = .ok (.pointer (some ⟨w.heap.size, 0, none⟩)) (w.alloc (.cells ltz.toArray 38)) := dLight.alloc0
  have hzl : ltz.length = 200 := dLight.zlen
  have hrow : (Try.prog.info? 38).map (·.size) = some 200 := dLight.row
  have hzz := zero_Lt
  have hzone := ltz_one
  have hs0 : rBeg 5 st = if vN st = 5 then nW st else none := rfl
  have hx : rLight st = (⟨(rHeader (rBeg 5 st)).1, (rCommit (rHeader (rBeg 5 st)).2).1, (rSet (rCommit (rHeader (rBeg 5 st)).2).2).1, (rSet (rSet (rCommit (rHeader (rBeg 5 st)).2).2).2).1⟩, (rSet (rSet (rCommit (rHeader (rBeg 5 st)).2).2).2).2) := rfl
  rw [hx] at ox
  rw [hx]
  clear hx
  have hch : (rHeader (rBeg 5 st)).1.chain.size ≤ 4096 := vT_size _
  have hle1 := (inR_iff.1 (rCommit_len (rHeader (rBeg 5 st)).2)).2
  have hle2 := (inR_iff.1 (rSet_right (rCommit (rHeader (rBeg 5 st)).2).2)).2
  have hle3 := (inR_iff.1 (rSet_right (rSet (rCommit (rHeader (rBeg 5 st)).2).2).2)).2
  have HHD := Lib.hid (fun (w : World) (g : Nat) (F : Nat → Prop) h1 h2 => readHeader_any w g F (rBeg 5 st) h1 h2)
  have HCM := Lib.hid (fun (w : World) (g : Nat) (F : Nat → Prop) h1 h2 => readCommit_any w g F (rHeader (rBeg 5 st)).2 h1 h2)
  have HS1 := Lib.hid (fun (w : World) (g : Nat) (F : Nat → Prop) h1 h2 => readSet_any w g F (rCommit (rHeader (rBeg 5 st)).2).2 h1 h2)
  have HS2 := Lib.hid (fun (w : World) (g : Nat) (F : Nat → Prop) h1 h2 => readSet_any w g F (rSet (rCommit (rHeader (rBeg 5 st)).2).2).2 h1 h2)
  clear hst
  generalize rBeg 5 st = s1 at *
  generalize nW st = s0 at *
  generalize vN st = m at *
  generalize (rSet (rSet (rCommit (rHeader s1).2).2).2).2 = s9 at *
  generalize (rSet (rSet (rCommit (rHeader s1).2).2).2).1 = l3 at *
  generalize (rSet (rCommit (rHeader s1).2).2).2 = s4 at *
  generalize (rSet (rCommit (rHeader s1).2).2).1 = l2 at *
  generalize (rCommit (rHeader s1).2).2 = s3 at *
  generalize (rCommit (rHeader s1).2).1 = cm at *
  generalize (rHeader s1).2 = s2 at *
  generalize (rHeader s1).1 = hd at *
  generalize hxx : (⟨hd, cm, l2, l3⟩ : Lt) = x at *
  generalize hrr : (if s9 = some [] ∧ x.right = true then some x else none) = rr
  have HRR := Lib.hid hrr
  have OX := Lib.hid ox
  have HXX := Lib.hid hxx
  have hhl : hd.cells.length = 163 := hd.cells_len (by have := ox.header; rw [← hxx] at this; exact this)
  have hcl : ∀ v, (cm.cells v).length = 35 := fun v => cm.cells_len (by have := ox.commit; rw [← hxx] at this; exact this) v
  have hho : ∀ v ∈ hd.cells, v.oneCell' = true := hd.one
  have HX : Hid (∀ (w' : World) (A1 A2 A3 : Option Addr) (c1 c2 c3 : Nat), LstM w' A1 cm.seals Se.cells 3 → LstM w' A2 l2 Va.cells 2 → LstM w' A3 l3 Va.cells 2 → Calls Try.prog 29 #[.agg (hd.cells ++ (cm.cells (.slice A1 cm.seals.length c1) ++ [Value.slice A2 l2.length c2, Value.slice A3 l3.length c3])).toArray] w' fun e w'' => Chg Non w' w'' ∧ ∃ v, e = .returned (.tuple #[v, .bool x.right])) := Lib.hid fun w' A1 A2 A3 c1 c2 c3 M1 M2 M3 => by
    subst hxx
    exact refLight_any w' ⟨hd, cm, l2, l3⟩ OX.out hch A1 A2 A3 c1 c2 c3 (by show cm.seals.length ≤ 64; omega) (by show l2.length ≤ 64; omega) (by show l3.length ≤ 64; omega) M1 M2 M3
  have HLL : Hid (∀ (w' : World) (A1 A2 A3 : Option Addr) (c1 c2 c3 : Nat), LstM w' A1 cm.seals Se.cells 3 → LstM w' A2 l2 Va.cells 2 → LstM w' A3 l3 Va.cells 2 → Chg Non w w' → RefT w ltz (some x) (.returned (.tuple #[.agg (hd.cells ++ (cm.cells (.slice A1 cm.seals.length c1) ++ [Value.slice A2 l2.length c2, Value.slice A3 l3.length c3])).toArray, .int .i64 0])) w') := Lib.hid fun w' A1 A2 A3 c1 c2 c3 M1 M2 M3 k => by
    subst hxx
    exact ⟨k, A1, A2, A3, c1, c2, c3, rfl, M1, M2, M3⟩
  generalize x.right = ok at *
  generalize hzg : ltz = z at *
  generalize bs.length = n at *
  have HZ := Lib.hid hz
  have hz0 := hz w
  have HVV := Lib.hid HN
  have HHL := Lib.hid hhl
  have HCL := Lib.hid hcl
  have HHO := Lib.hid hho
  clear HN hz hr hc hA hR2 hrr hxx ox hle1 hle2 hle3 hch
  by_cases hk : m = 5
  · rw [if_pos hk] at hs0
    subst hs0
    subst hk
    go_enter Try.func10, Try.ntmps10
    go_wp2_with (with_reducible refine wpList_alloc_row rfl _ rfl z hz0 ?_)
    generalize (w.alloc (.cells z.toArray 38)).alloc (.cells #[Value.slice A n c, .bool false] 56) = w2 at *
    refine HVV.out.mono ?_
    rintro e w1 ⟨rfl, hR, hK⟩
    have hb1 := hb2.chg hK (fun e => by unfold Eqg at e; omega)
    have hk1 := hk2.trans hK (fun j hj => .inr (by unfold Eqg at hj; omega))
    obtain ⟨A9, m9, c9, hblk⟩ := hR.blk
    have q1 : w1.cell? ⟨w.heap.size + 1, 1, none⟩ = some (.bool s1.isNone) := hblk.cell 1
    have q2 : w1.frozen? ⟨w.heap.size + 1, 1, none⟩ = false := hblk.frozen 1
    have hw1 := hK.size
    rw [hs2] at hw1
    clear HVV hz0 hK hblk hb2 hk2
    go_wp2_with fail
    have hR2 := hR.same
    have kk := (Chg.refl (Eqg (w.heap.size + 1)) w1).setCell (p := ⟨w.heap.size + 1, 1, none⟩) (.inl rfl) (.bool s1.isNone)
    have hb3 := hb1.chg kk (fun e => by unfold Eqg at e; omega)
    have hk3 := hk1.trans kk (fun j hj => .inr (by unfold Eqg at hj; omega))
    have hw3 := kk.size
    clear hb1 hk1 kk hR q1 q2
    generalize w1.setCell ⟨w.heap.size + 1, 1, none⟩ (.bool s1.isNone) = w3 at *
    refine (HHD.out w3 _ _ hR2 (fun j hj => by omega)).mono ?_
    rintro e w4 ⟨rfl, hR4, hK4⟩
    have hb4 := hb3.chg hK4 (fun e => by unfold Eqg at e; omega)
    have hk4 := hk3.trans hK4 (fun j hj => .inr (by unfold Eqg at hj; omega))
    have hw4 := hK4.size
    have hl0 : (hd.cells ++ (cmz ++ [Value.slice none 0 0, Value.slice none 0 0])).length = 200 := by rw [List.length_append, HHL.out]; rfl
    have hz4 := HZ.out w4
    obtain ⟨K5, hN5, hth5⟩ := storedU w4 38 z (hd.cells ++ (cmz ++ [Value.slice none 0 0, Value.slice none 0 0])) (hzl.trans hl0.symm)
    rw [hl0] at hth5
    have hbu := built_Lt hd.cells HHL.out
    have hone : ∀ v ∈ (hd.cells ++ (cmz ++ [Value.slice none 0 0, Value.slice none 0 0])), v.oneCell' = true := fun v hv => by
      rcases List.mem_append.1 hv with h | h
      · exact HHO.out v h
      · rcases List.mem_append.1 h with h | h
        · exact cmz_one v h
        · simp at h; subst h; rfl
    have hLs1 : (hd.cells ++ (cmz ++ [Value.slice none 0 0, Value.slice none 0 0])).toArray.size = 200 := by rw [List.size_toArray]; exact hl0
    have S : Rfs w (w.heap.size + 1) (fun j => j < w.heap.size) w4.heap.size 38 (hd.cells ++ (cmz ++ [Value.slice none 0 0, Value.slice none 0 0])) w.heap.size z s2 _ := ⟨hR4.chg K5 (fun f => f) (fun _ _ f => f), hN5, hb4.chg K5 (fun f => f), (hk4.mono (S' := fun j => j = w.heap.size + 1 ∨ j = w4.heap.size ∨ j = w.heap.size) (fun _ f => f.elim)).trans K5 (fun j hj => hj.elim), by omega, by omega, by omega, by omega, by omega, fun j hj => by have := K5.size; omega⟩
    clear hb3 hk3 hR2 hb4 hk4 hR4 hK4 K5 hN5 hl0
    generalize hcs : (hd.cells ++ (cmz ++ [Value.slice none 0 0, Value.slice none 0 0])) = L0 at *
    generalize hw5 : (w4.alloc (.cells z.toArray 38)).setCells w4.heap.size 0 L0 = w5 at *
    have HCS := Lib.hid hcs
    have HW5 := Lib.hid hw5
    clear hcs hw5
    go_wp2_with (first | (with_reducible refine wpList_build_row rfl 38 _ rfl (v := Value.agg hd.cells.toArray) rfl hbu ?_) | (with_reducible refine wpList_alloc_row rfl _ rfl z hz4 ?_) | (with_reducible refine wpList_store_mid rfl 38 _ _ rfl w4.heap.size 0 L0.toArray rfl rfl (by rw [hLs1]; exact hth5) (by rw [hLs1, hrow]) (one_mem hone) ?_; rw [List.toList_toArray, HW5.out]))
    have S := S.eq HCS.out.symm
    have htb : w.heap.size + 1 < w4.heap.size := by omega
    clear hbu hz4 hth5 hone hLs1 HCS HW5 hw4 hw3 hw1
    generalize w4.heap.size = tb at *
    refine (HCM.out _ _ _ S.rdr S.fsw).mono ?_
    rintro e w6 ⟨v1, rfl, ho1, hv1, hR, hK⟩
    have hts := S.row.lt
    have hv1 : ∀ j, vbl v1 j → tb < j := fun j hj => by have := hv1 j hj; omega
    obtain ⟨A1, c1, rfl, _, _, _⟩ := ho1.slice (fun x _ => rfl) (by omega)
    have S := S.read hR hK
    have hC1 := HCL.out (.slice A1 cm.seals.length c1)
    have hCo : ∀ u ∈ cm.cells (.slice A1 cm.seals.length c1), u.oneCell' = true := cm_one _ _ _ _ _ rfl
    have HV1 := Lib.hid hv1
    generalize hcc : cm.cells (.slice A1 cm.seals.length c1) = C1 at *
    have HCC := Lib.hid hcc
    have ht := S.there (o := 163) HHL.out.symm
    rw [cmz_len] at ht
    have S := S.sets (o := 163) HHL.out.symm C1 (by rw [hC1, cmz_len])
    have ks := Chg.setCells (S := fun j => j = w.heap.size + 1 ∨ j = tb) (.inr rfl) C1 _ 163 (Chg.refl _ w6)
    have ho1 := own_keep (m := tb + 1) ho1 (fun j hj => hv1 j hj) (by omega) (by omega) ks
    have HO1 := Lib.hid ho1
    have hCs : C1.toArray.size = 35 := by rw [List.size_toArray]; exact hC1
    clear ks hR hK hts hv1 ho1 hcc
    go_wp2_with (with_reducible refine wpList_store_mid rfl 32 _ _ rfl tb 163 C1.toArray rfl rfl (by rw [hCs]; exact ht) (by rw [hCs]; exact cm_rowU) (one_mem hCo) ?_; rw [List.toList_toArray])
    clear ht hCo
    generalize w6.setCells tb 163 C1 = w7 at *
    refine (HS1.out _ _ _ S.rdr S.fsw).mono ?_
    rintro e w8 ⟨v2, rfl, ho2, hv2, hR, hK⟩
    have hts := S.row.lt
    have hv2 : ∀ j, vbl v2 j → tb < j := fun j hj => by have := hv2 j hj; omega
    obtain ⟨A2, c2, rfl, _, _, _⟩ := ho2.slice (fun x _ => rfl) (by omega)
    have S := (S.read hR hK).eq (L' := (hd.cells ++ C1) ++ (.slice none 0 0 :: [Value.slice none 0 0])) (by simp)
    have ho1 := own_keep (m := tb + 1) HO1.out (fun j hj => HV1.out j hj) (by omega) (by omega) (hK.mono (S' := fun j => j = w.heap.size + 1 ∨ j = tb) (fun j hj => .inl (.inl (by unfold Eqg at hj; exact hj))))
    have hl198 : 198 = (hd.cells ++ C1).length := by rw [List.length_append, HHL.out, hC1]
    obtain ⟨cc, ff⟩ := S.cell (o := 198) hl198
    have ks := (Chg.refl (fun j => j = w.heap.size + 1 ∨ j = tb) w8).setCell (p := ⟨tb, 198, none⟩) (.inl (.inr rfl)) (.slice A2 l2.length c2)
    have S := S.set (o := 198) hl198 (.slice A2 l2.length c2)
    have ho1 := own_keep (m := tb + 1) ho1 (fun j hj => HV1.out j hj) (by omega) (by omega) ks
    have ho2 := own_keep (m := tb + 1) ho2 (fun j hj => hv2 j hj) (by omega) (by omega) ks
    have HV2 := Lib.hid hv2
    have HO1 := Lib.hid ho1
    have HO2 := Lib.hid ho2
    clear ks hR hK hts hv2 ho2 ho1
    generalize hn2 : l2.length = n2 at *
    have HN2 := Lib.hid hn2
    clear hn2
    go_wp2_with fail
    clear cc ff
    generalize w8.setCell ⟨tb, 198, none⟩ (.slice A2 n2 c2) = w9 at *
    refine (HS2.out _ _ _ S.rdr S.fsw).mono ?_
    rintro e wa ⟨v3, rfl, ho3, hv3, hR, hK⟩
    have hts := S.row.lt
    have hv3 : ∀ j, vbl v3 j → tb < j := fun j hj => by have := hv3 j hj; omega
    obtain ⟨A3, c3, rfl, _, _, _⟩ := ho3.slice (fun x _ => rfl) (by omega)
    have S := (S.read hR hK).eq (L' := (hd.cells ++ (C1 ++ [Value.slice A2 n2 c2])) ++ (.slice none 0 0 :: [])) (by simp)
    have kr := hK.mono (S' := fun j => j = w.heap.size + 1 ∨ j = tb) (fun j hj => .inl (.inl (by unfold Eqg at hj; exact hj)))
    have ho1 := own_keep (m := tb + 1) HO1.out (fun j hj => HV1.out j hj) (by omega) (by omega) kr
    have ho2 := own_keep (m := tb + 1) HO2.out (fun j hj => HV2.out j hj) (by omega) (by omega) kr
    have hl199 : 199 = (hd.cells ++ (C1 ++ [Value.slice A2 n2 c2])).length := by rw [List.length_append, List.length_append, HHL.out, hC1]; rfl
    obtain ⟨cc, ff⟩ := S.cell (o := 199) hl199
    have ks := (Chg.refl (fun j => j = w.heap.size + 1 ∨ j = tb) wa).setCell (p := ⟨tb, 199, none⟩) (.inl (.inr rfl)) (.slice A3 l3.length c3)
    have S := S.set (o := 199) hl199 (.slice A3 l3.length c3)
    have ho1 := own_keep (m := tb + 1) ho1 (fun j hj => HV1.out j hj) (by omega) (by omega) ks
    have ho2 := own_keep (m := tb + 1) ho2 (fun j hj => HV2.out j hj) (by omega) (by omega) ks
    have ho3 := own_keep (m := tb + 1) ho3 (fun j hj => hv3 j hj) (by omega) (by omega) ks
    have S := S.eq (L' := hd.cells ++ (C1 ++ [Value.slice A2 n2 c2, Value.slice A3 l3.length c3])) (by simp)
    have HV3 := Lib.hid hv3
    clear ks kr hR hK hts hv3
    have hLl : (hd.cells ++ (C1 ++ [Value.slice A2 n2 c2, Value.slice A3 l3.length c3])).length = 200 := by rw [List.length_append, List.length_append, HHL.out, hC1]; rfl
    have hLone : ∀ u ∈ (hd.cells ++ (C1 ++ [Value.slice A2 n2 c2, Value.slice A3 l3.length c3])), u.oneCell' = true := fun v hv => by
      rcases List.mem_append.1 hv with h | h
      · exact HHO.out v h
      · rcases List.mem_append.1 h with h | h
        · rw [← HCC.out] at h; exact cm_one _ _ _ _ _ rfl v h
        · simp at h; rcases h with rfl | rfl <;> rfl
    have HX' : Hid (∀ w' : World, OwnL 75 3 Se.cells w' (.slice A1 cm.seals.length c1) cm.seals → OwnL 71 2 Va.cells w' (.slice A2 n2 c2) l2 → OwnL 71 2 Va.cells w' (.slice A3 l3.length c3) l3 → Calls Try.prog 29 #[.agg (hd.cells ++ (C1 ++ [Value.slice A2 n2 c2, Value.slice A3 l3.length c3])).toArray] w' fun e w'' => Chg Non w' w'' ∧ ∃ v, e = .returned (.tuple #[v, .bool ok])) := Lib.hid fun w' o1 o2 o3 => by
      have h := HX.out w' A1 A2 A3 c1 c2 c3 (own_lst o1 (fun x _ => rfl) (by omega)) (own_lst o2 (fun x _ => rfl) (by omega)) (own_lst o3 (fun x _ => rfl) (by omega))
      rw [HCC.out] at h
      exact h
    have HLL' : Hid (∀ w' : World, OwnL 75 3 Se.cells w' (.slice A1 cm.seals.length c1) cm.seals → OwnL 71 2 Va.cells w' (.slice A2 n2 c2) l2 → OwnL 71 2 Va.cells w' (.slice A3 l3.length c3) l3 → Chg Non w w' → RefT w z (some x) (.returned (.tuple #[.agg (hd.cells ++ (C1 ++ [Value.slice A2 n2 c2, Value.slice A3 l3.length c3])).toArray, .int .i64 0])) w') := Lib.hid fun w' o1 o2 o3 k => by
      have h := HLL.out w' A1 A2 A3 c1 c2 c3 (own_lst o1 (fun x _ => rfl) (by omega)) (own_lst o2 (fun x _ => rfl) (by omega)) (own_lst o3 (fun x _ => rfl) (by omega)) k
      rw [HCC.out] at h
      exact h
    have HOO : Hid (OwnL 75 3 Se.cells (wa.setCell ⟨tb, 199, none⟩ (.slice A3 l3.length c3)) (.slice A1 cm.seals.length c1) cm.seals ∧ OwnL 71 2 Va.cells (wa.setCell ⟨tb, 199, none⟩ (.slice A3 l3.length c3)) (.slice A2 n2 c2) l2 ∧ OwnL 71 2 Va.cells (wa.setCell ⟨tb, 199, none⟩ (.slice A3 l3.length c3)) (.slice A3 l3.length c3) l3) := Lib.hid ⟨ho1, ho2, ho3⟩
    clear ho1 ho2 ho3 HX HLL HO1 HO2
    generalize hLL : (hd.cells ++ (C1 ++ [Value.slice A2 n2 c2, Value.slice A3 l3.length c3])) = L at *
    clear hLL
    generalize l3.length = n3 at *
    have hLs : L.toArray.size = 200 := by rw [List.size_toArray]; exact hLl
    have hLi : (Try.prog.info? 38).map (·.size) = some L.length := by rw [hLl]; exact hrow
    have hzs : z.toArray.size = 200 := by rw [List.size_toArray]; exact hzl
    have hN4 := S.row
    have r4 := S.row.range0
    have hb4 := S.res
    have hR4 := S.rdr
    have hk4 := (Chg.refl Non w).trans S.chg (fun j hj => .inr (by omega))
    have HKK := Lib.hid (fun h => HV1.out w.heap.size h)
    clear S
    have hne : tb ≠ w.heap.size := by omega
    go_wp2_with (with_reducible refine wpList_load_mid rfl 38 _ rfl tb 0 rfl L _ r4 Try.underlying38 rfl hLi ?_)
    clear r4 cc ff
    refine (HX'.out _ HOO.out.1 HOO.out.2.1 HOO.out.2.2).mono ?_
    rintro e w5 ⟨k5, v, rfl⟩
    have hb5 := hb4.chg k5 (fun f => f)
    have hN5 := hN4.chg k5 (fun f => f)
    have hk5 := hk4.trans k5 (fun _ f => f.elim)
    have hR5 := hR4.chg k5 (fun f => f) (fun _ _ f => f)
    have HO5 := Lib.hid (And.intro (HOO.out.1.chg k5 (fun _ _ f => f)) (And.intro (HOO.out.2.1.chg k5 (fun _ _ f => f)) (HOO.out.2.2.chg k5 (fun _ _ f => f))))
    clear hb4 hN4 hk4 hR4 k5 HX' HOO
    have HE := ends_any w5 _ _ s9 ok hR5
    have ht5 := hb5.there0
    rw [hzl] at ht5
    have r5 := hN5.range0
    clear hR5
    by_cases hok : s9 = some [] ∧ ok = true
    · rw [if_pos hok] at HE
      obtain rfl : rr = some x := HRR.out.symm.trans (if_pos hok)
      clear hok HRR
      have b9 := hb5.sets0 (L' := L) (hzl.trans hLl.symm)
      go_wp2_with fail
      refine HE.mono ?_
      rintro e w6 ⟨rfl, rfl⟩
      clear HE
      go_wp2_with (first | (with_reducible refine wpList_load_mid rfl 38 _ rfl tb 0 rfl L _ r5 Try.underlying38 rfl hLi ?_) | (with_reducible refine wpList_store_mid rfl 38 _ _ rfl w.heap.size 0 L.toArray rfl rfl (by rw [hLs]; exact ht5) (by rw [hLs, hrow]) (one_mem hLone) ?_))
      refine bodyPost_ret ((results_cell_tmp rfl _ _ _).trans ?_) rfl (R := RefT w z (some x)) (v := .tuple #[.agg L.toArray, .int .i64 0]) ?_
      · simp only [asAddr, Sem.run_pure, Result.andThen_ok]
        have hl := load_row b9 Try.underlying38 rfl hLi
        simp [hl]
      · have ks := Chg.setCells (S := fun j => j = w.heap.size) rfl L _ 0 (Chg.refl _ w6)
        exact HLL'.out _ (HO5.out.1.chg ks (fun j hj e => by have := HV1.out j hj; omega)) (HO5.out.2.1.chg ks (fun j hj e => by have := HV2.out j hj; omega)) (HO5.out.2.2.chg ks (fun j hj e => by have := HV3.out j hj; omega)) (hk5.trans ks (fun j hj => .inr (by omega)))
    · rw [if_neg hok] at HE
      obtain rfl : rr = none := HRR.out.symm.trans (if_neg hok)
      clear hok HRR
      have b9 := hb5.sets0 (L' := z) rfl
      have hzi : (Try.prog.info? 38).map (·.size) = some z.length := by rw [hzl]; exact hrow
      go_wp2_with fail
      refine HE.mono ?_
      rintro e w6 ⟨rfl, rfl⟩
      clear HE
      go_wp2_with (first | (with_reducible refine wpList_build_zero rfl 38 rfl hzz ?_) | (with_reducible refine wpList_store_mid rfl 38 _ _ rfl w.heap.size 0 z.toArray rfl rfl (by rw [hzs]; exact ht5) (by rw [hzs, hrow]) (one_mem hzone) ?_))
      refine bodyPost_ret ((results_cell_tmp rfl _ _ _).trans ?_) rfl (R := RefT w z none) (v := .tuple #[.agg z.toArray, .int .i64 61]) ?_
      · simp only [asAddr, Sem.run_pure, Result.andThen_ok]
        have hl := load_row b9 Try.underlying38 rfl hzi
        simp [hl]
      · exact ⟨hk5.trans (Chg.setCells (S := fun j => j = w.heap.size) rfl z _ 0 (Chg.refl _ _)) (fun j hj => .inr (by omega)), rfl⟩
  · rw [if_neg hk] at hs0
    subst hs0
    go_enter Try.func10, Try.ntmps10
    go_wp2_with (with_reducible refine wpList_alloc_row rfl _ rfl z hz0 ?_)
    generalize (w.alloc (.cells z.toArray 38)).alloc (.cells #[Value.slice A n c, .bool false] 56) = w2 at *
    refine HVV.out.mono ?_
    rintro e w1 ⟨rfl, hR, hK⟩
    have hb1 := hb2.chg hK (fun e => by unfold Eqg at e; omega)
    have hk1 := hk2.trans hK (fun j hj => .inr (by unfold Eqg at hj; omega))
    obtain ⟨A9, m9, c9, hblk⟩ := hR.blk
    have q1 : w1.cell? ⟨w.heap.size + 1, 1, none⟩ = some (.bool s0.isNone) := hblk.cell 1
    have q2 : w1.frozen? ⟨w.heap.size + 1, 1, none⟩ = false := hblk.frozen 1
    have hw1 := hK.size
    rw [hs2] at hw1
    clear HVV hz0 hK hblk hb2 hk2
    go_wp2_with fail
    have hR2 := hR.brk
    have kk := (Chg.refl (Eqg (w.heap.size + 1)) w1).setCell (p := ⟨w.heap.size + 1, 1, none⟩) (.inl rfl) (.bool true)
    have hb3 := hb1.chg kk (fun e => by unfold Eqg at e; omega)
    have hk3 := hk1.trans kk (fun j hj => .inr (by unfold Eqg at hj; omega))
    have hw3 := kk.size
    clear hb1 hk1 kk hR q1 q2
    generalize w1.setCell ⟨w.heap.size + 1, 1, none⟩ (.bool true) = w3 at *
    refine (HHD.out w3 _ _ hR2 (fun j hj => by omega)).mono ?_
    rintro e w4 ⟨rfl, hR4, hK4⟩
    have hb4 := hb3.chg hK4 (fun e => by unfold Eqg at e; omega)
    have hk4 := hk3.trans hK4 (fun j hj => .inr (by unfold Eqg at hj; omega))
    have hw4 := hK4.size
    have hl0 : (hd.cells ++ (cmz ++ [Value.slice none 0 0, Value.slice none 0 0])).length = 200 := by rw [List.length_append, HHL.out]; rfl
    have hz4 := HZ.out w4
    obtain ⟨K5, hN5, hth5⟩ := storedU w4 38 z (hd.cells ++ (cmz ++ [Value.slice none 0 0, Value.slice none 0 0])) (hzl.trans hl0.symm)
    rw [hl0] at hth5
    have hbu := built_Lt hd.cells HHL.out
    have hone : ∀ v ∈ (hd.cells ++ (cmz ++ [Value.slice none 0 0, Value.slice none 0 0])), v.oneCell' = true := fun v hv => by
      rcases List.mem_append.1 hv with h | h
      · exact HHO.out v h
      · rcases List.mem_append.1 h with h | h
        · exact cmz_one v h
        · simp at h; subst h; rfl
    have hLs1 : (hd.cells ++ (cmz ++ [Value.slice none 0 0, Value.slice none 0 0])).toArray.size = 200 := by rw [List.size_toArray]; exact hl0
    have S : Rfs w (w.heap.size + 1) (fun j => j < w.heap.size) w4.heap.size 38 (hd.cells ++ (cmz ++ [Value.slice none 0 0, Value.slice none 0 0])) w.heap.size z s2 _ := ⟨hR4.chg K5 (fun f => f) (fun _ _ f => f), hN5, hb4.chg K5 (fun f => f), (hk4.mono (S' := fun j => j = w.heap.size + 1 ∨ j = w4.heap.size ∨ j = w.heap.size) (fun _ f => f.elim)).trans K5 (fun j hj => hj.elim), by omega, by omega, by omega, by omega, by omega, fun j hj => by have := K5.size; omega⟩
    clear hb3 hk3 hR2 hb4 hk4 hR4 hK4 K5 hN5 hl0
    generalize hcs : (hd.cells ++ (cmz ++ [Value.slice none 0 0, Value.slice none 0 0])) = L0 at *
    generalize hw5 : (w4.alloc (.cells z.toArray 38)).setCells w4.heap.size 0 L0 = w5 at *
    have HCS := Lib.hid hcs
    have HW5 := Lib.hid hw5
    clear hcs hw5
    go_wp2_with (first | (with_reducible refine wpList_build_row rfl 38 _ rfl (v := Value.agg hd.cells.toArray) rfl hbu ?_) | (with_reducible refine wpList_alloc_row rfl _ rfl z hz4 ?_) | (with_reducible refine wpList_store_mid rfl 38 _ _ rfl w4.heap.size 0 L0.toArray rfl rfl (by rw [hLs1]; exact hth5) (by rw [hLs1, hrow]) (one_mem hone) ?_; rw [List.toList_toArray, HW5.out]))
    have S := S.eq HCS.out.symm
    have htb : w.heap.size + 1 < w4.heap.size := by omega
    clear hbu hz4 hth5 hone hLs1 HCS HW5 hw4 hw3 hw1
    generalize w4.heap.size = tb at *
    refine (HCM.out _ _ _ S.rdr S.fsw).mono ?_
    rintro e w6 ⟨v1, rfl, ho1, hv1, hR, hK⟩
    have hts := S.row.lt
    have hv1 : ∀ j, vbl v1 j → tb < j := fun j hj => by have := hv1 j hj; omega
    obtain ⟨A1, c1, rfl, _, _, _⟩ := ho1.slice (fun x _ => rfl) (by omega)
    have S := S.read hR hK
    have hC1 := HCL.out (.slice A1 cm.seals.length c1)
    have hCo : ∀ u ∈ cm.cells (.slice A1 cm.seals.length c1), u.oneCell' = true := cm_one _ _ _ _ _ rfl
    have HV1 := Lib.hid hv1
    generalize hcc : cm.cells (.slice A1 cm.seals.length c1) = C1 at *
    have HCC := Lib.hid hcc
    have ht := S.there (o := 163) HHL.out.symm
    rw [cmz_len] at ht
    have S := S.sets (o := 163) HHL.out.symm C1 (by rw [hC1, cmz_len])
    have ks := Chg.setCells (S := fun j => j = w.heap.size + 1 ∨ j = tb) (.inr rfl) C1 _ 163 (Chg.refl _ w6)
    have ho1 := own_keep (m := tb + 1) ho1 (fun j hj => hv1 j hj) (by omega) (by omega) ks
    have HO1 := Lib.hid ho1
    have hCs : C1.toArray.size = 35 := by rw [List.size_toArray]; exact hC1
    clear ks hR hK hts hv1 ho1 hcc
    go_wp2_with (with_reducible refine wpList_store_mid rfl 32 _ _ rfl tb 163 C1.toArray rfl rfl (by rw [hCs]; exact ht) (by rw [hCs]; exact cm_rowU) (one_mem hCo) ?_; rw [List.toList_toArray])
    clear ht hCo
    generalize w6.setCells tb 163 C1 = w7 at *
    refine (HS1.out _ _ _ S.rdr S.fsw).mono ?_
    rintro e w8 ⟨v2, rfl, ho2, hv2, hR, hK⟩
    have hts := S.row.lt
    have hv2 : ∀ j, vbl v2 j → tb < j := fun j hj => by have := hv2 j hj; omega
    obtain ⟨A2, c2, rfl, _, _, _⟩ := ho2.slice (fun x _ => rfl) (by omega)
    have S := (S.read hR hK).eq (L' := (hd.cells ++ C1) ++ (.slice none 0 0 :: [Value.slice none 0 0])) (by simp)
    have ho1 := own_keep (m := tb + 1) HO1.out (fun j hj => HV1.out j hj) (by omega) (by omega) (hK.mono (S' := fun j => j = w.heap.size + 1 ∨ j = tb) (fun j hj => .inl (.inl (by unfold Eqg at hj; exact hj))))
    have hl198 : 198 = (hd.cells ++ C1).length := by rw [List.length_append, HHL.out, hC1]
    obtain ⟨cc, ff⟩ := S.cell (o := 198) hl198
    have ks := (Chg.refl (fun j => j = w.heap.size + 1 ∨ j = tb) w8).setCell (p := ⟨tb, 198, none⟩) (.inl (.inr rfl)) (.slice A2 l2.length c2)
    have S := S.set (o := 198) hl198 (.slice A2 l2.length c2)
    have ho1 := own_keep (m := tb + 1) ho1 (fun j hj => HV1.out j hj) (by omega) (by omega) ks
    have ho2 := own_keep (m := tb + 1) ho2 (fun j hj => hv2 j hj) (by omega) (by omega) ks
    have HV2 := Lib.hid hv2
    have HO1 := Lib.hid ho1
    have HO2 := Lib.hid ho2
    clear ks hR hK hts hv2 ho2 ho1
    generalize hn2 : l2.length = n2 at *
    have HN2 := Lib.hid hn2
    clear hn2
    go_wp2_with fail
    clear cc ff
    generalize w8.setCell ⟨tb, 198, none⟩ (.slice A2 n2 c2) = w9 at *
    refine (HS2.out _ _ _ S.rdr S.fsw).mono ?_
    rintro e wa ⟨v3, rfl, ho3, hv3, hR, hK⟩
    have hts := S.row.lt
    have hv3 : ∀ j, vbl v3 j → tb < j := fun j hj => by have := hv3 j hj; omega
    obtain ⟨A3, c3, rfl, _, _, _⟩ := ho3.slice (fun x _ => rfl) (by omega)
    have S := (S.read hR hK).eq (L' := (hd.cells ++ (C1 ++ [Value.slice A2 n2 c2])) ++ (.slice none 0 0 :: [])) (by simp)
    have kr := hK.mono (S' := fun j => j = w.heap.size + 1 ∨ j = tb) (fun j hj => .inl (.inl (by unfold Eqg at hj; exact hj)))
    have ho1 := own_keep (m := tb + 1) HO1.out (fun j hj => HV1.out j hj) (by omega) (by omega) kr
    have ho2 := own_keep (m := tb + 1) HO2.out (fun j hj => HV2.out j hj) (by omega) (by omega) kr
    have hl199 : 199 = (hd.cells ++ (C1 ++ [Value.slice A2 n2 c2])).length := by rw [List.length_append, List.length_append, HHL.out, hC1]; rfl
    obtain ⟨cc, ff⟩ := S.cell (o := 199) hl199
    have ks := (Chg.refl (fun j => j = w.heap.size + 1 ∨ j = tb) wa).setCell (p := ⟨tb, 199, none⟩) (.inl (.inr rfl)) (.slice A3 l3.length c3)
    have S := S.set (o := 199) hl199 (.slice A3 l3.length c3)
    have ho1 := own_keep (m := tb + 1) ho1 (fun j hj => HV1.out j hj) (by omega) (by omega) ks
    have ho2 := own_keep (m := tb + 1) ho2 (fun j hj => HV2.out j hj) (by omega) (by omega) ks
    have ho3 := own_keep (m := tb + 1) ho3 (fun j hj => hv3 j hj) (by omega) (by omega) ks
    have S := S.eq (L' := hd.cells ++ (C1 ++ [Value.slice A2 n2 c2, Value.slice A3 l3.length c3])) (by simp)
    have HV3 := Lib.hid hv3
    clear ks kr hR hK hts hv3
    have hLl : (hd.cells ++ (C1 ++ [Value.slice A2 n2 c2, Value.slice A3 l3.length c3])).length = 200 := by rw [List.length_append, List.length_append, HHL.out, hC1]; rfl
    have hLone : ∀ u ∈ (hd.cells ++ (C1 ++ [Value.slice A2 n2 c2, Value.slice A3 l3.length c3])), u.oneCell' = true := fun v hv => by
      rcases List.mem_append.1 hv with h | h
      · exact HHO.out v h
      · rcases List.mem_append.1 h with h | h
        · rw [← HCC.out] at h; exact cm_one _ _ _ _ _ rfl v h
        · simp at h; rcases h with rfl | rfl <;> rfl
    have HX' : Hid (∀ w' : World, OwnL 75 3 Se.cells w' (.slice A1 cm.seals.length c1) cm.seals → OwnL 71 2 Va.cells w' (.slice A2 n2 c2) l2 → OwnL 71 2 Va.cells w' (.slice A3 l3.length c3) l3 → Calls Try.prog 29 #[.agg (hd.cells ++ (C1 ++ [Value.slice A2 n2 c2, Value.slice A3 l3.length c3])).toArray] w' fun e w'' => Chg Non w' w'' ∧ ∃ v, e = .returned (.tuple #[v, .bool ok])) := Lib.hid fun w' o1 o2 o3 => by
      have h := HX.out w' A1 A2 A3 c1 c2 c3 (own_lst o1 (fun x _ => rfl) (by omega)) (own_lst o2 (fun x _ => rfl) (by omega)) (own_lst o3 (fun x _ => rfl) (by omega))
      rw [HCC.out] at h
      exact h
    have HLL' : Hid (∀ w' : World, OwnL 75 3 Se.cells w' (.slice A1 cm.seals.length c1) cm.seals → OwnL 71 2 Va.cells w' (.slice A2 n2 c2) l2 → OwnL 71 2 Va.cells w' (.slice A3 l3.length c3) l3 → Chg Non w w' → RefT w z (some x) (.returned (.tuple #[.agg (hd.cells ++ (C1 ++ [Value.slice A2 n2 c2, Value.slice A3 l3.length c3])).toArray, .int .i64 0])) w') := Lib.hid fun w' o1 o2 o3 k => by
      have h := HLL.out w' A1 A2 A3 c1 c2 c3 (own_lst o1 (fun x _ => rfl) (by omega)) (own_lst o2 (fun x _ => rfl) (by omega)) (own_lst o3 (fun x _ => rfl) (by omega)) k
      rw [HCC.out] at h
      exact h
    have HOO : Hid (OwnL 75 3 Se.cells (wa.setCell ⟨tb, 199, none⟩ (.slice A3 l3.length c3)) (.slice A1 cm.seals.length c1) cm.seals ∧ OwnL 71 2 Va.cells (wa.setCell ⟨tb, 199, none⟩ (.slice A3 l3.length c3)) (.slice A2 n2 c2) l2 ∧ OwnL 71 2 Va.cells (wa.setCell ⟨tb, 199, none⟩ (.slice A3 l3.length c3)) (.slice A3 l3.length c3) l3) := Lib.hid ⟨ho1, ho2, ho3⟩
    clear ho1 ho2 ho3 HX HLL HO1 HO2
    generalize hLL : (hd.cells ++ (C1 ++ [Value.slice A2 n2 c2, Value.slice A3 l3.length c3])) = L at *
    clear hLL
    generalize l3.length = n3 at *
    have hLs : L.toArray.size = 200 := by rw [List.size_toArray]; exact hLl
    have hLi : (Try.prog.info? 38).map (·.size) = some L.length := by rw [hLl]; exact hrow
    have hzs : z.toArray.size = 200 := by rw [List.size_toArray]; exact hzl
    have hN4 := S.row
    have r4 := S.row.range0
    have hb4 := S.res
    have hR4 := S.rdr
    have hk4 := (Chg.refl Non w).trans S.chg (fun j hj => .inr (by omega))
    have HKK := Lib.hid (fun h => HV1.out w.heap.size h)
    clear S
    have hne : tb ≠ w.heap.size := by omega
    go_wp2_with (with_reducible refine wpList_load_mid rfl 38 _ rfl tb 0 rfl L _ r4 Try.underlying38 rfl hLi ?_)
    clear r4 cc ff
    refine (HX'.out _ HOO.out.1 HOO.out.2.1 HOO.out.2.2).mono ?_
    rintro e w5 ⟨k5, v, rfl⟩
    have hb5 := hb4.chg k5 (fun f => f)
    have hN5 := hN4.chg k5 (fun f => f)
    have hk5 := hk4.trans k5 (fun _ f => f.elim)
    have hR5 := hR4.chg k5 (fun f => f) (fun _ _ f => f)
    have HO5 := Lib.hid (And.intro (HOO.out.1.chg k5 (fun _ _ f => f)) (And.intro (HOO.out.2.1.chg k5 (fun _ _ f => f)) (HOO.out.2.2.chg k5 (fun _ _ f => f))))
    clear hb4 hN4 hk4 hR4 k5 HX' HOO
    have HE := ends_any w5 _ _ s9 ok hR5
    have ht5 := hb5.there0
    rw [hzl] at ht5
    have r5 := hN5.range0
    clear hR5
    by_cases hok : s9 = some [] ∧ ok = true
    · rw [if_pos hok] at HE
      obtain rfl : rr = some x := HRR.out.symm.trans (if_pos hok)
      clear hok HRR
      have b9 := hb5.sets0 (L' := L) (hzl.trans hLl.symm)
      go_wp2_with fail
      refine HE.mono ?_
      rintro e w6 ⟨rfl, rfl⟩
      clear HE
      go_wp2_with (first | (with_reducible refine wpList_load_mid rfl 38 _ rfl tb 0 rfl L _ r5 Try.underlying38 rfl hLi ?_) | (with_reducible refine wpList_store_mid rfl 38 _ _ rfl w.heap.size 0 L.toArray rfl rfl (by rw [hLs]; exact ht5) (by rw [hLs, hrow]) (one_mem hLone) ?_))
      refine bodyPost_ret ((results_cell_tmp rfl _ _ _).trans ?_) rfl (R := RefT w z (some x)) (v := .tuple #[.agg L.toArray, .int .i64 0]) ?_
      · simp only [asAddr, Sem.run_pure, Result.andThen_ok]
        have hl := load_row b9 Try.underlying38 rfl hLi
        simp [hl]
      · have ks := Chg.setCells (S := fun j => j = w.heap.size) rfl L _ 0 (Chg.refl _ w6)
        exact HLL'.out _ (HO5.out.1.chg ks (fun j hj e => by have := HV1.out j hj; omega)) (HO5.out.2.1.chg ks (fun j hj e => by have := HV2.out j hj; omega)) (HO5.out.2.2.chg ks (fun j hj e => by have := HV3.out j hj; omega)) (hk5.trans ks (fun j hj => .inr (by omega)))
    · rw [if_neg hok] at HE
      obtain rfl : rr = none := HRR.out.symm.trans (if_neg hok)
      clear hok HRR
      have b9 := hb5.sets0 (L' := z) rfl
      have hzi : (Try.prog.info? 38).map (·.size) = some z.length := by rw [hzl]; exact hrow
      go_wp2_with fail
      refine HE.mono ?_
      rintro e w6 ⟨rfl, rfl⟩
      clear HE
      go_wp2_with (first | (with_reducible refine wpList_build_zero rfl 38 rfl hzz ?_) | (with_reducible refine wpList_store_mid rfl 38 _ _ rfl w.heap.size 0 z.toArray rfl rfl (by rw [hzs]; exact ht5) (by rw [hzs, hrow]) (one_mem hzone) ?_))
      refine bodyPost_ret ((results_cell_tmp rfl _ _ _).trans ?_) rfl (R := RefT w z none) (v := .tuple #[.agg z.toArray, .int .i64 61]) ?_
      · simp only [asAddr, Sem.run_pure, Result.andThen_ok]
        have hl := load_row b9 Try.underlying38 rfl hzi
        simp [hl]
      · exact ⟨hk5.trans (Chg.setCells (S := fun j => j = w.heap.size) rfl z _ 0 (Chg.refl _ _)) (fun j hj => .inr (by omega)), rfl⟩
end Go.Proofs.Yteglpgakikigiaa

/- Package forms: decoded[[]api.Validator], DecodeSet. -/
namespace Go.Proofs.Yteglpgakikigiaa
open Go.RowKit
set_option linter.unusedVariables false
set_option linter.unusedSimpArgs false
set_option maxRecDepth 20000

/-- What decoding validators leaves. -/
def DecV (w : World) (r : Option (List Va)) (e : Ending) (w' : World) : Prop :=
  Chg Non w w' ∧ match r with
    | some l => ∃ nb, w.heap.size ≤ nb ∧ e = .returned (.tuple #[.slice (some ⟨nb, 0, none⟩) l.length l.length, .int .i64 0]) ∧ Hb w' nb 71 (l.flatMap Va.cells).toArray
    | none => e = .returned (.tuple #[.slice none 0 0, .int .i64 61])
theorem load_vals {w : World} {a : Addr} {v : Value} (h : w.cell? a = some v) : (loadVar 24 a).run Try.prog w = .ok v w := by
  have hagg : (isAgg 24).run Try.prog w = .ok false w := by
    unfold isAgg
    rw [Sem.run_bind, run_underlying Try.underlying24 w]
    rfl
  simp [loadVar, Sem.run_bind, hagg, h]
theorem catchDP_Set (w : World) (p q : Nat) (x y : Value) (v : Value) (u : TypeId) (older : List PanicEntry) (hp : Hb w p 24 #[x]) (hq : Hb w q 25 #[y]) (hpq : q ≠ p) :
    CallsD Try.prog 33 #[.pointer (some ⟨p, 0, none⟩), .pointer (some ⟨q, 0, none⟩)] (.panicking ({ v := .iface u v, recovered := false } :: older)) w fun e u' w' =>
      e = .returned (.tuple #[]) ∧ u' = .panicking ({ v := .iface u v, recovered := true } :: older) ∧ w' = ((w.setCell ⟨p, 0, none⟩ (.slice none 0 0)).setCell ⟨q, 0, none⟩ (.int .i64 61)) := by
  have c0 : w.cell? ⟨p, 0, none⟩ = some x := hp.cell 0
  have f0 : w.frozen? ⟨p, 0, none⟩ = false := hp.frozen 0
  have hq1 := hq.far (p := ⟨p, 0, none⟩) hpq (.slice none 0 0)
  have c1 : _ = some y := hq1.cell 0
  have f1 : _ = false := hq1.frozen 0
  refine callsD_of_wpS Try.func33 rfl fun c₀ cs hu => ?_
  apply wpS_seq
  apply wpS_region
  simp [wpOpsS, go_sem, recoverD, hu, Try.ntmps33, Exit.thenS]
  refine wpS_cond (t := true) (by simp [Act.eval, Array.replicate]) ?_
  simp only [if_true]
  refine wpS_of_wp ?_
  go_wp2_with fail
  exact ⟨rfl, _, rfl, .tuple #[], by simp [results, Try.results33], rfl, rfl, rfl⟩
theorem catchDI_Set (w : World) (p q : Addr) : CallsD Try.prog 33 #[.pointer (some p), .pointer (some q)] .returning w fun e u' w' => e = .returned (.tuple #[]) ∧ u' = .returning ∧ w' = w := by
  refine callsD_of_wpS Try.func33 rfl fun c₀ cs hu => ?_
  apply wpS_seq
  apply wpS_region
  simp [wpOpsS, go_sem, recoverD, hu, Try.ntmps33, Exit.thenS]
  refine wpS_cond (t := false) (by simp [Act.eval, Array.replicate]) ?_
  simp only [Bool.false_eq_true, if_false]
  refine wpS_of_wp (wp_skip ?_)
  cases c₀
  simp_all [bodyPostS, results, Try.results33]

/-- The error's way. -/
theorem decErr_Set (w w2 : World) (h : Chg Non w w2) (x y : Value) (hp : Hb w2 w.heap.size 24 #[x]) (hq : Hb w2 (w.heap.size + 1) 25 #[y]) (r : Option (List Va)) (hr : r = none) (tmps : Array Value)
    (h4 : tmps.getD 4 undef = .pointer (some ⟨w.heap.size, 0, none⟩)) (h5 : tmps.getD 5 undef = .pointer (some ⟨w.heap.size + 1, 0, none⟩)) :
    Leaves Try.prog Try.f17 tmps (DecV w r) [{ target := .fn (.func 33) #[.pointer (some ⟨w.heap.size, 0, none⟩), .pointer (some ⟨w.heap.size + 1, 0, none⟩)], args := #[] }] (.panicking bad) w2 := by
  subst hr
  refine leaves_cons (f := 33) (args := #[.pointer (some ⟨w.heap.size, 0, none⟩), .pointer (some ⟨w.heap.size + 1, 0, none⟩)]) (by simp) (by simp [go_sem]) ?_
  refine (catchDP_Set w2 w.heap.size (w.heap.size + 1) x _ _ _ _ hp hq (by omega)).mono ?_
  rintro e u' w'' ⟨rfl, rfl, rfl⟩
  have hb3 := (hp.set 0 (.slice none 0 0)).far (p := ⟨w.heap.size + 1, 0, none⟩) (by simp) (.int .i64 61)
  have he3 := (hq.far (p := ⟨w.heap.size, 0, none⟩) (by simp) (.slice none 0 0)).set 0 (.int .i64 61)
  refine ⟨_, results_two rfl _ _ _ ⟨w.heap.size, 0, none⟩ ⟨w.heap.size + 1, 0, none⟩ _ _ h4 h5 (load_vals (hb3.cell 0)) (load_errno (he3.cell 0)), ?_, rfl⟩
  have K := ((Chg.refl (fun k => k = w.heap.size ∨ k = w.heap.size + 1) w2).setCell (p := ⟨w.heap.size, 0, none⟩) (.inl (.inl rfl)) (.slice none 0 0)).setCell (p := ⟨w.heap.size + 1, 0, none⟩) (.inl (.inr rfl)) (.int .i64 61)
  exact h.trans K (fun j hj => .inr (by omega))
theorem one_of {w : World} {t : TypeId} {b : Nat} {L : List Value} (h : Hb w b t L.toArray) (hl : L.length = 1) : ∃ x, Hb w b t #[x] := by
  match L, hl with
  | [x], _ => exact ⟨x, h⟩

theorem decoded_Set (w : World) (A : Option Addr) (n c : Nat) (bs : List UInt8) (r : Option (List Va × St)) (hn : n = bs.length) (hr : Rd w A bs) (hsz : bs.length ≤ 1000000000)
    (H : ∀ (w1 : World) (g : Nat) (F : Nat → Prop), Rst w1 g F w.heap.size 24 [.slice none 0 0] (some bs) w1 → Calls Try.prog 18 #[.agg #[.pointer none, .pointer (some ⟨g, 0, none⟩)], .pointer (some ⟨w.heap.size, 0, none⟩)] w1 (RLO w1 g F w.heap.size 24 1 [] [] 71 Va.cells r)) :
    Calls Try.prog 17 #[.slice A n c, .func (.func 18) #[] #[]] w (DecV w (whole r)) := by
  have hmf := mkf
  have hC0 := dw_chg w [.slice none 0 0] 24
  have hb0 := dw_b w [.slice none 0 0] 24
  have he0 := dw_e w [.slice none 0 0] 24
  have HN := newReader_any (dw w [.slice none 0 0] 24) A n c bs hn (hr.chg hC0 (fun _ _ f => f)) hsz
  generalize hR : whole r = R
  have HR := Lib.hid hR
  have HH := Lib.hid H
  have HNN := Lib.hid HN
  clear hR H HN hn hr
  go_enter_defers Try.func17, Try.ntmps17
  go_wp2_with fail
  have hdw : dw w [.slice none 0 0] 24 = (w.alloc (.cells #[.slice none 0 0] 24)).alloc (.cells #[.int .i64 0] 25) := rfl
  rw [← hdw]
  have hds : (dw w [.slice none 0 0] 24).heap.size = w.heap.size + 2 := by rw [hdw]; simp
  clear hdw
  generalize dw w [.slice none 0 0] 24 = w0 at *
  refine HNN.out.mono ?_
  rintro e w1 ⟨g, F, rfl, hR1, hg, hF, hC1⟩
  have hb1 := hb0.chg hC1 (fun f => f)
  have he1 := he0.chg hC1 (fun f => f)
  have S1 : Rst w1 g F w.heap.size 24 [.slice none 0 0] (some bs) w1 := ⟨hR1, hb1, Chg.refl _ _, by omega, fun h => by have := hF _ h; omega⟩
  have H1 := HH.out w1 g F S1
  have hne : ¬ Two g w.heap.size (w.heap.size + 1) := by rintro (h | h) <;> omega
  have hn01 : Chg Non w w1 := hC0.trans hC1 (fun _ f => f.elim)
  have hw1s := hC1.size
  clear HNN hb0 he0 hC0 hC1 HH S1
  go_wp2_with fail
  refine H1.mono ?_
  rintro e w2 h2
  have he2 := he1.chg h2.chg hne
  have hn02 : Chg Non w w2 := hn01.trans h2.chg (fun j hj => .inr (by rcases hj with rfl | rfl <;> omega))
  clear H1 he1 hb1
  rcases h2.cases with ⟨k, rfl, _, L', hL1, hL2⟩ | ⟨⟨x, s⟩, k, rfl, nb, g1, T, B1⟩
  · have hRn : R = none := HR.out.symm.trans (by rw [k]; rfl)
    obtain ⟨x0, hL3⟩ := one_of hL2 hL1
    go_wp2
    refine decErr_Set w w2 hn02 x0 _ hL3 he2 _ rfl _ ?_ ?_ <;> rfl
  · have T := T.eq (L' := [.slice (some ⟨nb, 0, none⟩) x.length x.length]) (by simp)
    have hs1 : w.heap.size + 2 ≤ w1.heap.size := by omega
    have hRx : ∀ h : s = some [], R = some x := fun h => HR.out.symm.trans (by rw [k, h]; rfl)
    simp only at B1
    have HRX := Lib.hid hRx
    clear h2 hRx
    go_wp2_with fail
    refine (endR_any _ g F s T.rdr).mono ?_
    rintro e w3 ⟨rfl, rfl⟩
    have hb2 : Hb _ w.heap.size 24 #[.slice (some ⟨nb, 0, none⟩) x.length x.length] := T.row
    by_cases hs : s = some []
    · have hRs : R = some x := HRX.out hs
      have hev : endv s = 0 := by unfold endv; rw [if_pos hs]
      rw [hev]
      have HB1 := Lib.hid B1
      have HFIN : Hid (∀ w', Chg Non w w' → Hb w' nb 71 (x.flatMap Va.cells).toArray → DecV w R (.returned (.tuple #[.slice (some ⟨nb, 0, none⟩) x.length x.length, .int .i64 0])) w') := Lib.hid fun w' h1 h2 => by rw [hRs]; exact ⟨h1, nb, by omega, rfl, h2⟩
      clear B1
      generalize x.length = xl at *
      have cA : _ = some (Value.slice (some ⟨nb, 0, none⟩) xl xl) := hb2.cell 0
      have fA : _ = false := hb2.frozen 0
      have hb3 := hb2.set 0 (.slice (some ⟨nb, 0, none⟩) xl xl)
      have he3 := he2.far (p := ⟨w.heap.size, 0, none⟩) (by simp) (.slice (some ⟨nb, 0, none⟩) xl xl)
      have c3 : _ = some (Value.int .i64 0) := he3.cell 0
      have f3 : _ = false := he3.frozen 0
      clear hev hs HR
      go_wp2_with (go_at_call 35; refine (insist_yes _).mono ?_; rintro e w5 ⟨rfl, rfl⟩)
      refine leaves_cons (f := 33) (args := #[.pointer (some ⟨w.heap.size, 0, none⟩), .pointer (some ⟨w.heap.size + 1, 0, none⟩)]) (by simp) (by simp [go_sem]) ?_
      refine (catchDI_Set _ ⟨w.heap.size, 0, none⟩ ⟨w.heap.size + 1, 0, none⟩).mono ?_
      rintro e u' w'' ⟨rfl, rfl, rfl⟩
      have hb4 := hb3.far (p := ⟨w.heap.size + 1, 0, none⟩) (by simp) (.int .i64 0)
      have he4 := he3.set 0 (.int .i64 0)
      refine ⟨_, results_two rfl _ _ _ ⟨w.heap.size, 0, none⟩ ⟨w.heap.size + 1, 0, none⟩ _ _ rfl rfl (load_vals (hb4.cell 0)) (load_errno (he4.cell 0)), ?_⟩
      have K := ((Chg.refl (fun k => k = w.heap.size ∨ k = w.heap.size + 1) w5).setCell (p := ⟨w.heap.size, 0, none⟩) (.inl (.inl rfl)) (.slice (some ⟨nb, 0, none⟩) xl xl)).setCell (p := ⟨w.heap.size + 1, 0, none⟩) (.inl (.inr rfl)) (.int .i64 0)
      exact HFIN.out _ (hn02.trans K (fun j hj => .inr (by omega))) (HB1.out.chg K (fun h => by have h : nb = w.heap.size ∨ nb = w.heap.size + 1 := h; omega))
    · have hRn : R = none := HR.out.symm.trans (by
        rw [k]
        match s, hs with
        | none, _ => rfl
        | some (_ :: _), _ => rfl)
      have hev : endv s = 21 := by unfold endv; rw [if_neg hs]
      rw [hev]
      clear hev hs HR
      go_wp2_with (go_at_call 35; refine (insist_no _).mono ?_; rintro e w5 ⟨rfl, rfl⟩)
      refine decErr_Set w _ hn02 _ _ hb2 he2 _ rfl _ ?_ ?_ <;> rfl
theorem DecodeSet_any (w : World) (A : Option Addr) (n c : Nat) (bs : List UInt8) (hn : n = bs.length) (hr : Rd w A bs) (hsz : bs.length ≤ 1000000000) : Calls Try.prog 5 #[.slice A n c] w (DecV w (whole (dSet (some bs)))) := by
  have H := decoded_Set w A n c bs (dSet (some bs)) hn hr hsz (fun w1 g F S => by
    generalize w.heap.size = tb at *
    exact set_r w1 g F tb 0 24 [] [] (some bs) S rfl)
  generalize whole (dSet (some bs)) = r at *
  have HH := Lib.hid H
  clear H hn hr
  go_enter Try.func5, Try.ntmps5
  go_wp2_with fail
  refine HH.out.mono ?_
  rintro e w1 h
  have HK := Lib.hid h
  obtain ⟨v, k, rfl⟩ : ∃ v k, e = .returned (.tuple #[v, .int .i64 k]) := by
    obtain ⟨_, h2⟩ := h
    cases r with
    | some x => obtain ⟨nb, g1, rfl, B1⟩ := h2; exact ⟨_, _, rfl⟩
    | none => exact ⟨_, _, h2⟩
  clear h
  go_wp2_with fail
  go_ret2
  exact HK.out
end Go.Proofs.Yteglpgakikigiaa
