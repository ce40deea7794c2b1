/- The document's Entries. -/
import Derived.Test.YtahlfncijbkcoaaDoorChecked
import Derived.WalkKit
import Derived.WalkLawsBesides
import Derived.Lib.Hide
import Derived.Deep.MidRow
import Derived.Test.YtahlfncijbkcoaaDoorKw
import Derived.Test.YtahlfncijbkcoaaDoorOc
import Derived.Test.YtahlfncijbkcoaaDoorOe
import Derived.Test.YtahlfncijbkcoaaDoorOg
namespace Go.Proofs.YtahlfncijbkcoaaDoor
open Go.RowKit
set_option linter.unusedVariables false
set_option linter.unusedSimpArgs false
set_option maxRecDepth 20000

section
variable {ops : Array Oper} {Q : Exit → Act → World → Prop}
theorem wp_appN {o : Oper} {a : Act} {w : World} {K : Act → World → Prop} (sl x : Operand) (ho : o.op = .call { callee := .builtin .append, args := #[sl, x], argTypes := #[38, 38] }) {v : Value} {es : List En} (hv : a.eval sl = v) (hown : OwnN w v es) (y : En) {nb : Nat} (hx : a.eval x = .slice (some ⟨nb, 0, none⟩) 1 1) (hb : Hb w nb 54 y.cells.toArray) (hlen : es.length ≤ 1000)
    (h : ∀ v' w', Hid (OwnN w' v' (es ++ [y])) → Chg (vbl v) w w' → (∀ j, vbl v' j → vbl v j ∨ w.heap.size ≤ j) → K (a.put o.dst v') w') : o.wp Tryd.prog a w K Q := by
  obtain ⟨i, z, hi, hz, hzs, hs, hbb⟩ := entry_parts
  obtain ⟨v', w', hrun, h2, h3, h4⟩ := run_app1 w o.type 38 Tryd.underlying38 hi hz hs hbb hzs (by omega) (by omega) hown y rfl y.one (c := 1) hb hlen
  refine wp_step (v := v') (w' := w') ?_ (h v' w' (Lib.hid h2) (chg_grown h3) ?_)
  · unfold execOp
    simp only [ho, resolve, invoke, builtin, Sem.run_bind, Sem.run_pure, Result.andThen_ok, List.map_toArray, List.map_cons, List.map_nil, hv, hx, hrun]
  · intro j hj
    rcases h4 with h4 | h4
    · exact .inl (h4.symm.trans hj)
    · right
      have : some w.heap.size = some j := h4.symm.trans hj
      injection this with this
      omega
end
theorem map_take {α β : Type} (f : α → β) {l : List α} {k : Nat} {x : α} (hx : l[k]? = some x) : (l.take (k + 1)).map f = (l.take k).map f ++ [f x] := by
  rw [List.take_add_one, hx, List.map_append]
  rfl
set_option maxHeartbeats 12800000 in
theorem rEntries_any (w : World) (G n : Nat) (st : Bst) (h : DocB w G n st.F) (hi : Inv st.F st.S) (hn : n ≤ 800) :
    Calls Tryd.prog 12 #[.pointer (some ⟨G, 0, none⟩)] w (EntP w st.F n) := by
  obtain ⟨l, ⟨A, c, hb, M, hne⟩, hL, hlen⟩ := h
  have HM := Lib.hid M
  have HGB : Hid (Hb w G 28 #[.slice A l.length c]) := Lib.hid hb
  have HLS := Lib.hid hL
  have HI := Lib.hid hi
  have HLN : Hid (l.length ≤ n) := Lib.hid hlen
  have hl8 : l.length ≤ 800 := by omega
  have ent : ∀ args w, (callFunc 29 args).run Tryd.prog w = .ok (.enter 29 args) w := enters_of Tryd.func29 (by kernel_rfl) rfl
  clear hb M hne hL hlen hi hn
  generalize hm : l.length = m at *
  have HL := Lib.hid hm
  clear hm
  have HC0 : Hid (∀ w', Chg Non w w' → w'.cell? ⟨G, 0, none⟩ = some (.slice A m c)) := Lib.hid fun w' k => by rw [(HGB.out.chg k (fun f => f)).cell]; rfl
  go_enter Tryd.func12, Tryd.ntmps12
  go_wp2_with fail
  go_loopw [3, 4] (fun v i wr => ∃ (k : Nat), k ≤ m ∧ i = .int .i64 (k : Int) ∧ Hid (OwnN wr v ((l.take k).map entOf)) ∧ Hid (∀ j, vbl v j → w.heap.size ≤ j) ∧ Hid (Chg Non w wr)) (fun _ i _ => m - (intOf i).toNat)
  case atStart => exact ⟨0, by omega, rfl, Lib.hid (OwnL.nil w), Lib.hid (fun j hj => by cases hj), Lib.hid (Chg.refl _ _)⟩
  case round =>
    obtain ⟨k, hk, rfl, hO, hV, hC⟩ := hrel
    have g0 := HC0.out wr hC.out
    by_cases hlt : k < m
    · have hki : (k : Int) < (m : Int) := by omega
      have hkl : k < l.length := by rw [HL.out]; exact hlt
      have hx := List.getElem?_eq_getElem hkl
      obtain ⟨a, ao, rfl, hab, _⟩ := HM.out k _ hx
      have HMT := Lib.hid (map_take entOf hx)
      have hmem : l[k] ∈ l := List.getElem_mem hkl
      have HR : Hid (∀ w', Chg Non w w' → w'.rangeAt a (ao + k * 3) (am l[k])) := Lib.hid fun w' kk => by
        obtain ⟨a', ao', e, _, r⟩ := (HM.out.chg kk) k _ hx
        injection e with e
        injection e with e1 e2
        subst e1
        subst e2
        exact r
      generalize l[k] = y at *
      obtain ⟨⟨s, d⟩, xn⟩ := y
      have hFx := (HLS.out.mem (s, d) xn).1 hmem
      have hfine := HI.out.fine (s, d) (by omega)
      have h64 : xn < 18446744073709551616 := by have := HI.out.lt (s, d); omega
      have has := accOk_size hfine.1
      have hds := denOk_size hfine.2
      dsimp only at has hds
      have z5 : (⟨#[98, 97, 110, 107, 47]⟩ : ByteArray).size = 5 := rfl
      have z6 : (⟨#[47]⟩ : ByteArray).size = 1 := rfl
      have HZ1 : Hid ((⟨#[98, 97, 110, 107, 47]⟩ : ByteArray).size + d.size ≤ 100000) := Lib.hid (by omega)
      have HZ2 : Hid (((⟨#[98, 97, 110, 107, 47]⟩ : ByteArray) ++ d).size + (⟨#[47]⟩ : ByteArray).size ≤ 100000) := Lib.hid (by rw [ba_app_size]; omega)
      have HZ3 : Hid ((((⟨#[98, 97, 110, 107, 47]⟩ : ByteArray) ++ d) ++ ⟨#[47]⟩).size + s.size ≤ 100000) := Lib.hid (by rw [ba_app_size, ba_app_size]; omega)
      have HNU : Hid (xn < 18446744073709551616) := Lib.hid h64
      have HKM : Hid (k < m) := Lib.hid hlt
      have HTL : Hid (((l.take k).map entOf).length ≤ 1000) := Lib.hid (by rw [List.length_map, List.length_take]; omega)
      clear z5 z6 has hds h64 hfine hFx hmem hx hkl
      go_wp2_with fail
      have KD : Hid (Chg Non w wr.drew) := Lib.hid hC.out.drew
      have HAB : Hid (a < w.heap.size ∧ G < w.heap.size) := Lib.hid ⟨hab, HGB.out.lt⟩
      have HB : Hid (∀ w', Chg (vbl u3) wr.drew w' → w'.cell? ⟨G, 0, none⟩ = some (.slice (some ⟨a, ao, none⟩) m c) ∧ w'.cell? ⟨a, ao + k * 3, none⟩ = some (.string s) ∧ w'.cell? ⟨a, ao + k * 3 + 1, none⟩ = some (.string d) ∧ w'.cell? ⟨a, ao + k * 3 + 2, none⟩ = some (.int .u64 (xn : Int))) := Lib.hid fun w' kk => by
        have hG : ¬ vbl u3 G := fun e => by have := hV.out G e; have := HAB.out.2; omega
        have hA : ¬ vbl u3 a := fun e => by have := hV.out a e; have := HAB.out.1; omega
        have r := kk.range' (HR.out _ KD.out) hA
        obtain ⟨r0, r1⟩ := rangeAt_cons (u := .string s) (q := [.string d, .int .u64 (xn : Int)]) r
        obtain ⟨r1, r2⟩ := rangeAt_cons r1
        obtain ⟨r2, _⟩ := rangeAt_cons r2
        exact ⟨kk.cell (HC0.out _ KD.out) hG, r0, r1, r2⟩
      have HO3 := Lib.hid (hO.out.chg ((Chg.refl Non wr).drew) (fun _ _ f => f))
      clear g0 hC hO
      refine wp_region_heads [0, 1, 2, 3, 4, 5, 6, 7, 8, 9, 10, 11, 12, 13, 14, 15, 16, 17, 18, 19, 20, 21, 22, 23, 24, 25, 26, 27] 5 #[true, true, true, true, true, true, true, true, true, true, true, true, true, true, true, true, true, true, true, true, true, true, true, true, true, true, true, true, false, false, false, false, false] (by kernel_rfl) (by kernel_rfl) (by kernel_rfl) (by kernel_rfl) (by kernel_rfl) (fun w' => Chg (vbl u3) wr.drew w') (Chg.refl _ _) ?_
      refine headI_run rfl rfl (fun w' kk => by (skip); first | (go_simp; rfl) | (go_simp; done)) ?_
      simp only [Act.put, List.setIfInBounds_toArray, List.set_cons_zero, List.set_cons_succ]
      refine headI_run rfl rfl (fun w' kk => by (skip); first | (go_simp; rfl) | (go_simp; done)) ?_
      simp only [Act.put, List.setIfInBounds_toArray, List.set_cons_zero, List.set_cons_succ]
      refine headI_run rfl rfl (fun w' kk => by (skip); first | (go_simp; rfl) | (go_simp; done)) ?_
      simp only [Act.put, List.setIfInBounds_toArray, List.set_cons_zero, List.set_cons_succ]
      refine headI_run rfl rfl (fun w' kk => by (skip); first | (go_simp; rfl) | (go_simp; done)) ?_
      simp only [Act.put, List.setIfInBounds_toArray, List.set_cons_zero, List.set_cons_succ]
      refine headI_run rfl rfl (fun w' kk => by (have x0 := (HB.out w' kk).1; skip); first | (go_simp; rfl) | (go_simp; done)) ?_
      simp only [Act.put, List.setIfInBounds_toArray, List.set_cons_zero, List.set_cons_succ]
      refine headI_run rfl rfl (fun w' kk => by (skip); first | (go_simp; rfl) | (go_simp; done)) ?_
      simp only [Act.put, List.setIfInBounds_toArray, List.set_cons_zero, List.set_cons_succ]
      refine headI_run rfl rfl (fun w' kk => by (skip); first | (go_simp; rfl) | (go_simp; done)) ?_
      simp only [Act.put, List.setIfInBounds_toArray, List.set_cons_zero, List.set_cons_succ]
      refine headI_run rfl rfl (fun w' kk => by (skip); first | (go_simp; rfl) | (go_simp; done)) ?_
      simp only [Act.put, List.setIfInBounds_toArray, List.set_cons_zero, List.set_cons_succ]
      refine headI_run rfl rfl (fun w' kk => by (have x0 := (HB.out w' kk).2.2.1; skip); first | (go_simp; rfl) | (go_simp; done)) ?_
      simp only [Act.put, List.setIfInBounds_toArray, List.set_cons_zero, List.set_cons_succ]
      refine headI_add rfl rfl _ _ _ _ rfl (p := ⟨#[98, 97, 110, 107, 47]⟩) (q := d) rfl rfl HZ1.out ?_
      simp only [Act.put, List.setIfInBounds_toArray, List.set_cons_zero, List.set_cons_succ]
      refine headI_add rfl rfl _ _ _ _ rfl (p := ⟨#[98, 97, 110, 107, 47]⟩ ++ d) (q := ⟨#[47]⟩) rfl rfl HZ2.out ?_
      simp only [Act.put, List.setIfInBounds_toArray, List.set_cons_zero, List.set_cons_succ]
      refine headI_run rfl rfl (fun w' kk => by (skip); first | (go_simp; rfl) | (go_simp; done)) ?_
      simp only [Act.put, List.setIfInBounds_toArray, List.set_cons_zero, List.set_cons_succ]
      refine headI_run rfl rfl (fun w' kk => by (skip); first | (go_simp; rfl) | (go_simp; done)) ?_
      simp only [Act.put, List.setIfInBounds_toArray, List.set_cons_zero, List.set_cons_succ]
      refine headI_run rfl rfl (fun w' kk => by (skip); first | (go_simp; rfl) | (go_simp; done)) ?_
      simp only [Act.put, List.setIfInBounds_toArray, List.set_cons_zero, List.set_cons_succ]
      refine headI_run rfl rfl (fun w' kk => by (have x0 := (HB.out w' kk).1; skip); first | (go_simp; rfl) | (go_simp; done)) ?_
      simp only [Act.put, List.setIfInBounds_toArray, List.set_cons_zero, List.set_cons_succ]
      refine headI_run rfl rfl (fun w' kk => by (skip); first | (go_simp; rfl) | (go_simp; done)) ?_
      simp only [Act.put, List.setIfInBounds_toArray, List.set_cons_zero, List.set_cons_succ]
      refine headI_run rfl rfl (fun w' kk => by (skip); first | (go_simp; rfl) | (go_simp; done)) ?_
      simp only [Act.put, List.setIfInBounds_toArray, List.set_cons_zero, List.set_cons_succ]
      refine headI_run rfl rfl (fun w' kk => by (skip); first | (go_simp; rfl) | (go_simp; done)) ?_
      simp only [Act.put, List.setIfInBounds_toArray, List.set_cons_zero, List.set_cons_succ]
      refine headI_run rfl rfl (fun w' kk => by (have x0 := (HB.out w' kk).2.1; skip); first | (go_simp; rfl) | (go_simp; done)) ?_
      simp only [Act.put, List.setIfInBounds_toArray, List.set_cons_zero, List.set_cons_succ]
      refine headI_add rfl rfl _ _ _ _ rfl (p := (⟨#[98, 97, 110, 107, 47]⟩ ++ d) ++ ⟨#[47]⟩) (q := s) rfl rfl HZ3.out ?_
      simp only [Act.put, List.setIfInBounds_toArray, List.set_cons_zero, List.set_cons_succ]
      refine headI_run rfl rfl (fun w' kk => by (skip); first | (go_simp; rfl) | (go_simp; done)) ?_
      simp only [Act.put, List.setIfInBounds_toArray, List.set_cons_zero, List.set_cons_succ]
      refine headI_run rfl rfl (fun w' kk => by (skip); first | (go_simp; rfl) | (go_simp; done)) ?_
      simp only [Act.put, List.setIfInBounds_toArray, List.set_cons_zero, List.set_cons_succ]
      refine headI_run rfl rfl (fun w' kk => by (skip); first | (go_simp; rfl) | (go_simp; done)) ?_
      simp only [Act.put, List.setIfInBounds_toArray, List.set_cons_zero, List.set_cons_succ]
      refine headI_run rfl rfl (fun w' kk => by (have x0 := (HB.out w' kk).1; skip); first | (go_simp; rfl) | (go_simp; done)) ?_
      simp only [Act.put, List.setIfInBounds_toArray, List.set_cons_zero, List.set_cons_succ]
      refine headI_run rfl rfl (fun w' kk => by (skip); first | (go_simp; rfl) | (go_simp; done)) ?_
      simp only [Act.put, List.setIfInBounds_toArray, List.set_cons_zero, List.set_cons_succ]
      refine headI_run rfl rfl (fun w' kk => by (skip); first | (go_simp; rfl) | (go_simp; done)) ?_
      simp only [Act.put, List.setIfInBounds_toArray, List.set_cons_zero, List.set_cons_succ]
      refine headI_run rfl rfl (fun w' kk => by (skip); first | (go_simp; rfl) | (go_simp; done)) ?_
      simp only [Act.put, List.setIfInBounds_toArray, List.set_cons_zero, List.set_cons_succ]
      refine headI_run rfl rfl (fun w' kk => by (have x0 := (HB.out w' kk).2.2.2; skip); first | (go_simp; rfl) | (go_simp; done)) ?_
      simp only [Act.put, List.setIfInBounds_toArray, List.set_cons_zero, List.set_cons_succ]
      refine headI_nil ?_
      generalize wr.drew = w3 at *
      refine held_w (n := 28) (fuel := 4) (L' := #[true, true, true, true, true, true, true, true, true, true, true, true, true, true, true, true, true, true, true, true, true, true, true, true, true, true, true, true, true, false, false, false, false]) rfl (by kernel_rfl) rfl (by kernel_rfl) ?_
      refine wp_call (vl := [.int .u64 (xn : Int)]) 29 _ _ rfl rfl ent (Digits_any w3 xn HNU.out) ?_
      rintro e w4 ⟨rfl, k4⟩
      refine ⟨_, rfl, k4.mono (fun _ f => f.elim), ?_⟩
      simp only [Act.put, List.setIfInBounds_toArray, List.set_cons_zero, List.set_cons_succ]
      refine held_w (n := 29) (fuel := 3) (L' := #[true, true, true, true, true, true, true, true, true, true, true, true, true, true, true, true, true, true, true, true, true, true, true, true, true, true, true, true, true, true, false, false, false]) rfl (by kernel_rfl) rfl (by kernel_rfl) ?_
      refine wp_built _ _ rfl [(0, .string (eKey (s, d))), (1, .string (dec xn))] rfl (built_entry _ _) ?_
      simp only [Act.put, List.setIfInBounds_toArray, List.set_cons_zero, List.set_cons_succ]
      refine ⟨k4.mono (fun _ f => f.elim), ?_⟩
      refine held_w (n := 30) (fuel := 2) (L' := #[true, true, true, true, true, true, true, true, true, true, true, true, true, true, true, true, true, true, true, true, true, true, true, true, true, true, true, true, true, true, true, false, false]) rfl (by kernel_rfl) rfl (by kernel_rfl) ?_
      refine wp_row1 _ rfl (entOf ((s, d), xn)) rfl ?_
      simp only [Act.put, List.setIfInBounds_toArray, List.set_cons_zero, List.set_cons_succ]
      have k5 : Chg Non w3 (w4.alloc (.cells (entOf ((s, d), xn)).cells.toArray 54)) := k4.alloc _
      have HO5 := Lib.hid (HO3.out.chg k5 (fun _ _ f => f))
      have HK5 := Lib.hid (KD.out.trans k5 (fun _ f => f.elim))
      have hb5 := Hb.new w4 54 (entOf ((s, d), xn)).cells.toArray
      refine ⟨k5.mono (fun _ f => f.elim), ?_⟩
      have HKS : Hid (∀ w', Chg (vbl u3) (w4.alloc (.cells (entOf ((s, d), xn)).cells.toArray 54)) w' → Chg (vbl u3) w3 w') := Lib.hid fun w' k => (k5.mono (fun _ f => f.elim)).trans k (fun _ f => .inl f)
      clear k4 k5 HO3 KD
      generalize w4.alloc (.cells (entOf ((s, d), xn)).cells.toArray 54) = w5 at *
      refine held_w (n := 31) (fuel := 1) (L' := #[true, true, true, true, true, true, true, true, true, true, true, true, true, true, true, true, true, true, true, true, true, true, true, true, true, true, true, true, true, true, true, true, false]) rfl (by kernel_rfl) rfl (by kernel_rfl) ?_
      refine wp_appN _ _ rfl rfl HO5.out (entOf ((s, d), xn)) rfl hb5 HTL.out ?_
      intro v6 w6 hO6 k6 hv6
      simp only [Act.put, List.setIfInBounds_toArray, List.set_cons_zero, List.set_cons_succ]
      refine ⟨HKS.out w6 k6, ?_⟩
      refine held_w (n := 32) (fuel := 0) (L' := #[true, true, true, true, true, true, true, true, true, true, true, true, true, true, true, true, true, true, true, true, true, true, true, true, true, true, true, true, true, true, true, true, true]) rfl (by kernel_rfl) rfl (by kernel_rfl) ?_
      refine wp_val (v := v6) (by go_simp) ?_
      simp only [Act.put, List.setIfInBounds_toArray, List.set_cons_zero, List.set_cons_succ]
      refine ⟨HKS.out w6 k6, ?_⟩
      refine wpAnyH_done (by kernel_rfl) ?_ _
      refine NoPanic.normal ?_
      have HO6 : Hid (OwnN w6 v6 ((l.take (k + 1)).map entOf)) := Lib.hid (by rw [HMT.out]; exact hO6.out)
      have HV6 : Hid (∀ j, vbl v6 j → w.heap.size ≤ j) := Lib.hid fun j hj => by
        rcases hv6 j hj with e | e
        · exact hV.out j e
        · exact Nat.le_trans HK5.out.size e
      have HK6 : Hid (Chg Non w w6) := Lib.hid (HK5.out.trans k6 (fun j hj => .inr (hV.out j hj)))
      clear hO6 k6 hv6 HKS hb5 HB HO5 HK5
      go_wp2_with fail
      go_roundw
      case rel => exact ⟨k + 1, by have := HKM.out; omega, by go_num, HO6, HV6, HK6⟩
      case measure => have := HKM.out; simp [intOf]; omega
    · obtain rfl : k = m := by omega
      have HA : Hid (OwnN wr u3 (l.map entOf)) := Lib.hid (by have := hO.out; rwa [← HL.out, List.take_length] at this)
      obtain ⟨A2, c2, hu, _, _, hr⟩ := HA.out.slice (fun x _ => rfl) (by omega)
      have HS := Lib.hid (Sorted_any wr A2 c2 (l.map entOf) (by rw [List.length_map, HL.out]; omega) hr)
      obtain ⟨q2, hq2⟩ : ∃ q, q = (l.map entOf).length := ⟨_, rfl⟩
      rw [← hq2] at hu HS
      clear hO hV HA hr hq2 ent
      subst hu
      go_wp2_with fail
      refine HS.out.mono ?_
      rintro e w2 ⟨k2, A3, c3, ss, rfl, hM3, hp, hs⟩
      have HQ : Hid (EntP w st.F n (.returned (.slice A3 ss.length c3)) w2) := Lib.hid ⟨hC.out.trans k2 (fun _ f => f.elim), A3, c3, ss, rfl, hM3, Lib.hid ⟨l, HLS.out, hp.out, hs.out⟩, by rw [hp.out.length_eq, List.length_map, HL.out]; exact HLN.out⟩
      clear k2 hM3 hp hs
      generalize ss.length = q3 at *
      go_wp2_with fail
      go_ret
      exact HQ.out
end Go.Proofs.YtahlfncijbkcoaaDoor
