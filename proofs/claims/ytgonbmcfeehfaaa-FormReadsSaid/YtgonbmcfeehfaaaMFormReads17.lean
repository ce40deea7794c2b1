import Derived.Test.YtgonbmcfeehfaaaChecked
import Derived.WalkKit
import Derived.WalkLawsBesides
import Derived.Lib.Hide
import Derived.Deep.QuietTactic
import Derived.BigQuiet
import Derived.Test.YtgonbmcfeehfaaaMFormReads2
import Derived.Test.YtgonbmcfeehfaaaMFormReads8
import Derived.Test.YtgonbmcfeehfaaaMFormReads15
/- nuncioref05.Same of two proofs that are one, in two places. -/
namespace Go.Proofs.Ytgonbmcfeehfaaa
open Go.RowKit
set_option linter.unusedVariables false
set_option linter.unusedSimpArgs false
set_option maxRecDepth 20000

theorem hash_guardU : Try.prog.eqGuardType Try.prog.depth 26 = false := by kernel_rfl
/-- A row is loaded, in each world of a class. -/
theorem quiet_load_row {ops : Array Oper} {o : Oper} {a : Act} {C : World → Prop} {K : Act → Prop} {E : Prop} (hgd : o.guard = none) (ty : TypeId) (x : Operand) (ho : o.op = .load ty x) (b off : Nat) (hx : a.eval x = .pointer (some ⟨b, off, none⟩)) (cs : List Value) (d : TypeDesc)
    (hC : ∀ w', C w' → w'.rangeAt b off cs) (hu : Try.prog.underlying ty = some d) (hd : d.isRow = true) (hi : (Try.prog.info? ty).map (·.size) = some cs.length) (h : K (a.put o.dst (.agg cs.toArray))) :
    if Region.wanted o (yielded ops a.tmps) = true then o.quiet Try.prog a C K else E := by
  have hw : Region.wanted o (yielded ops a.tmps) = true := by simp [Region.wanted, hgd]
  rw [if_pos hw]
  refine ⟨_, fun w' hw' => ?_, h⟩
  have hl := run_loadVar_mid w' b off ty cs d (hC w' hw') hu hd hi
  unfold Oper.quietAt execOp
  simp only [ho, hx, Instr.loadAt, Instr.sureAddr, Sem.run_bind, Sem.run_pure, Result.andThen_ok, hl]
  exact ⟨rfl, rfl⟩
/-- Two rows are held against each other, in each world of a class. -/
theorem quiet_neq_row {ops : Array Oper} {o : Oper} {a : Act} {C : World → Prop} {K : Act → Prop} {E : Prop} (hgd : o.guard = none) (t : TypeId) (x y : Operand) (u : TypeId) (ho : o.op = .binOp .neq t x y u)
    {xs ys : Array Value} (hx : a.eval x = .agg xs) (hy : a.eval y = .agg ys) (hg : Try.prog.eqGuardType Try.prog.depth t = false) {b : Bool} (hrun : ∀ w, (Op.equalIn 10000 t (.agg xs) (.agg ys)).run Try.prog w = .ok b w) (h : K (a.put o.dst (.bool (!b)))) :
    if Region.wanted o (yielded ops a.tmps) = true then o.quiet Try.prog a C K else E := by
  have hw : Region.wanted o (yielded ops a.tmps) = true := by simp [Region.wanted, hgd]
  rw [if_pos hw]
  refine ⟨_, fun w' hw' => ?_, h⟩
  unfold Oper.quietAt execOp
  simp only [ho, hx, hy, Sem.run_bind, run_eqGuard_agg w' .neq t x y xs ys hg, Result.andThen_ok, run_neq_struct, hrun, Sem.run_pure]
  exact ⟨rfl, rfl⟩
set_option maxHeartbeats 3200000 in
theorem sameProof_yes (w : World) (A B : Option Addr) (c d : Nat) (sz : Int) (ms ns : List Pm) (he : ms.map Pm.part = ns.map Pm.part) (hl : ms.length ≤ 1000) (M : LstM w A ms Pm.cells 4) (N : LstM w B ns Pm.cells 4) (hm : ∀ m ∈ ms, m.In w) (hn : ∀ m ∈ ns, m.In w) :
    Calls Try.prog 13 #[.agg #[.int .i64 sz, .slice A ms.length c], .agg #[.int .i64 sz, .slice B ns.length d]] w (Zero w (.bool true)) := by
  have hln : ns.length = ms.length := by have := congrArg List.length he; rw [List.length_map, List.length_map] at this; exact this.symm
  rw [hln]
  have HM := Lib.hid M
  have HN := Lib.hid N
  have HMI := Lib.hid hm
  have HNI := Lib.hid hn
  have HE := Lib.hid he
  have HLN := Lib.hid hln
  clear M N hm hn he hln
  generalize hnn : ms.length = n at *
  have HL := Lib.hid hnn
  clear hnn
  have k2 := ((Chg.refl Non w).alloc (.cells #[.int .i64 sz, .slice A n c] 45)).alloc (.cells #[.int .i64 sz, .slice B n d] 45)
  have hs : (w.alloc (.cells #[.int .i64 sz, .slice A n c] 45)).heap.size = w.heap.size + 1 := by simp
  have b1 := (Hb.new w 45 #[.int .i64 sz, .slice A n c]).alloc (.cells #[.int .i64 sz, .slice B n d] 45)
  have b2 := Hb.new (w.alloc (.cells #[.int .i64 sz, .slice A n c] 45)) 45 #[.int .i64 sz, .slice B n d]
  rw [hs] at b2
  have HB1 := Lib.hid b1
  have HB2 := Lib.hid b2
  clear b1 b2 hs
  go_enter Try.func13, Try.ntmps13
  go_wp2_with fail
  generalize (w.alloc (.cells #[.int .i64 sz, .slice A n c] 45)).alloc (.cells #[.int .i64 sz, .slice B n d] 45) = w2 at *
  have HK2 := Lib.hid k2
  clear k2
  go_loopw [5, 6, 7, 8] (fun i x y k wr => ∃ q : Nat, q ≤ n ∧ i = .int .i64 (q : Int) ∧ Hid (Chg Non w2 wr)) (fun i _ _ _ _ => n - (intOf i).toNat)
  case atStart => exact ⟨0, by omega, rfl, Lib.hid (Chg.refl _ _)⟩
  case round =>
    obtain ⟨q, hq, rfl, HC⟩ := hrel
    have cA : wr.cell? ⟨w.heap.size, 1, none⟩ = some (.slice A n c) := (HB1.out.chg HC.out (fun f => f)).cell 1
    have cB : wr.cell? ⟨w.heap.size + 1, 1, none⟩ = some (.slice B n d) := (HB2.out.chg HC.out (fun f => f)).cell 1
    by_cases hlt : q < n
    · have hq1 : q < ms.length := by rw [HL.out]; exact hlt
      have hq2 : q < ns.length := by rw [HLN.out]; exact hlt
      have hx := List.getElem?_eq_getElem hq1
      have hy := List.getElem?_eq_getElem hq2
      have hxm := HMI.out _ (List.getElem_mem hq1)
      have hym := HNI.out _ (List.getElem_mem hq2)
      have hpp : (ms[q]).part = (ns[q]).part := by
        have := congrArg (fun l : List Pa => l[q]?) HE.out
        simpa [hq1, hq2] using this
      have K0 := HK2.out.trans HC.out (fun _ f => f.elim)
      obtain ⟨a, ao, rfl, _, r1⟩ := (HM.out.chg K0) q _ hx
      obtain ⟨b, bo, rfl, _, r2⟩ := (HN.out.chg K0) q _ hy
      have i1 := hxm.2.2.chg K0
      have i2 := hym.2.2.chg K0
      have h16 := hxm.2.1
      have hpa := hxm.1.path
      generalize ms[q] = m at *
      generalize ns[q] = m' at *
      clear hx hy hxm hym hq1 hq2
      obtain ⟨p, PA, pc⟩ := m
      obtain ⟨p', PB, pd⟩ := m'
      have hpp : p = p' := hpp
      subst hpp
      obtain ⟨ix, ky, vu, pa⟩ := p
      have hpn0 : pa.length = pa.length := rfl
      generalize hpn : pa.length = pn at *
      have hpm : pa.length = pn := hpn
      have HPL := Lib.hid hpm
      have HPA := Lib.hid hpa
      have I1 := Lib.hid i1
      have I2 := Lib.hid i2
      have r1 : wr.rangeAt a (ao + q * 4) [.int .i64 ix, .string ky, .string vu, .slice PA pn pc] := by rw [← hpn]; exact r1
      have r2 : wr.rangeAt b (bo + q * 4) [.int .i64 ix, .string ky, .string vu, .slice PB pn pd] := by rw [← hpn]; exact r2
      unfold maxLen at h16
      clear hpn0 hpm hpn hpa i1 i2
      have hqi : (q : Int) < (n : Int) := by omega
      have hpr : (Try.prog.info? 77).map (·.size) = some ([.int .i64 ix, .string ky, .string vu, .slice PA pn pc] : List Value).length := part_row
      have hpr2 : (Try.prog.info? 77).map (·.size) = some ([.int .i64 ix, .string ky, .string vu, .slice PB pn pd] : List Value).length := part_row
      have L1 := partIn_is wr (L := [.int .i64 ix, .string ky, .string vu, .slice PA pn pc]) rfl
      have L2 := partIn_is (partIn wr [.int .i64 ix, .string ky, .string vu, .slice PA pn pc]) (L := [.int .i64 ix, .string ky, .string vu, .slice PB pn pd]) rfl
      have hxb := L1.1.lt
      have X := L1.1.chg L2.2 (fun f => f)
      have Y := L2.1
      have k7 := L1.2
      have k8 := L2.2
      have al1 := part_alloc0 wr
      have al2 := part_alloc0 (partIn wr [.int .i64 ix, .string ky, .string vu, .slice PA pn pc])
      have th1 := part_there wr
      have th2 := part_there (partIn wr [.int .i64 ix, .string ky, .string vu, .slice PA pn pc])
      have px1 : (wr.alloc (.cells partZ.toArray 77)).setCells wr.heap.size 0 [.int .i64 ix, .string ky, .string vu, .slice PA pn pc] = partIn wr [.int .i64 ix, .string ky, .string vu, .slice PA pn pc] := rfl
      have px2 : ((partIn wr [.int .i64 ix, .string ky, .string vu, .slice PA pn pc]).alloc (.cells partZ.toArray 77)).setCells (partIn wr [.int .i64 ix, .string ky, .string vu, .slice PA pn pc]).heap.size 0 [.int .i64 ix, .string ky, .string vu, .slice PB pn pd] = partIn (partIn wr [.int .i64 ix, .string ky, .string vu, .slice PA pn pc]) [.int .i64 ix, .string ky, .string vu, .slice PB pn pd] := rfl
      have on1 : ∀ v ∈ ([.int .i64 ix, .string ky, .string vu, .slice PA pn pc] : List Value), v.oneCell' = true := by intro v hv; simp at hv; rcases hv with rfl | rfl | rfl | rfl <;> rfl
      have on2 : ∀ v ∈ ([.int .i64 ix, .string ky, .string vu, .slice PB pn pd] : List Value), v.oneCell' = true := by intro v hv; simp at hv; rcases hv with rfl | rfl | rfl | rfl <;> rfl
      have sz1 : ([.int .i64 ix, .string ky, .string vu, .slice PA pn pc] : List Value).toArray.size = 4 := rfl
      have sz2 : ([.int .i64 ix, .string ky, .string vu, .slice PB pn pd] : List Value).toArray.size = 4 := rfl
      have s7 := k7.size
      generalize hw7 : partIn wr [.int .i64 ix, .string ky, .string vu, .slice PA pn pc] = w7 at *
      generalize hw8 : partIn w7 [.int .i64 ix, .string ky, .string vu, .slice PB pn pd] = w8 at *
      have r2 := k7.range' r2 (fun f => f)
      have cB7 := k7.cell cB (fun f => f)
      have hne : w7.heap.size ≠ wr.heap.size := by omega
      have cx0 : w8.cell? ⟨wr.heap.size, 0, none⟩ = some (.int .i64 ix) := X.cell 0
      have cx1 : w8.cell? ⟨wr.heap.size, 1, none⟩ = some (.string ky) := X.cell 1
      have cx2 : w8.cell? ⟨wr.heap.size, 2, none⟩ = some (.string vu) := X.cell 2
      have cx3 : w8.cell? ⟨wr.heap.size, 3, none⟩ = some (.slice PA pn pc) := X.cell 3
      have cy0 : w8.cell? ⟨w7.heap.size, 0, none⟩ = some (.int .i64 ix) := Y.cell 0
      have cy1 : w8.cell? ⟨w7.heap.size, 1, none⟩ = some (.string ky) := Y.cell 1
      have cy2 : w8.cell? ⟨w7.heap.size, 2, none⟩ = some (.string vu) := Y.cell 2
      have cy3 : w8.cell? ⟨w7.heap.size, 3, none⟩ = some (.slice PB pn pd) := Y.cell 3
      have HX := Lib.hid X
      have HY := Lib.hid Y
      have HW7 := Lib.hid px1
      have HW8 := Lib.hid px2
      clear X Y L1 L2 px1 px2 hw7 hw8 K0
      have HK78 := Lib.hid ((k7.trans k8 (fun _ f => f.elim)))
      clear k7 k8
      go_wp2_with (first
        | (with_reducible refine wpList_load_mid rfl 77 _ rfl a (ao + q * 4) rfl [.int .i64 ix, .string ky, .string vu, .slice PA pn pc] _ r1 Try.underlying77 rfl hpr ?_)
        | (with_reducible refine wpList_load_mid rfl 77 _ rfl b (bo + q * 4) rfl [.int .i64 ix, .string ky, .string vu, .slice PB pn pd] _ r2 Try.underlying77 rfl hpr2 ?_)
        | (with_reducible refine wpList_alloc_row rfl _ rfl partZ al1 ?_)
        | (with_reducible refine wpList_alloc_row rfl _ rfl partZ al2 ?_)
        | (with_reducible refine wpList_store_mid rfl 77 _ _ rfl wr.heap.size 0 [.int .i64 ix, .string ky, .string vu, .slice PA pn pc].toArray rfl rfl (by rw [sz1]; exact th1) (by rw [sz1]; exact part_row) (one_mem on1) ?_; rw [List.toList_toArray, HW7.out])
        | (with_reducible refine wpList_store_mid rfl 77 _ _ rfl w7.heap.size 0 [.int .i64 ix, .string ky, .string vu, .slice PB pn pd].toArray rfl rfl (by rw [sz2]; exact th2) (by rw [sz2]; exact part_row) (one_mem on2) ?_; rw [List.toList_toArray, HW8.out]))
      clear hpp r1 r2 hpr hpr2 al1 al2 th1 th2 on1 on2 sz1 sz2 HW7 HW8 cx0 cx1 cx2 cx3 cy0 cy1 cy2 cy3 cA cB cB7
      have HC0 := HC
      have I1 := Lib.hid (I1.out.chg HK78.out)
      have I2 := Lib.hid (I2.out.chg HK78.out)
      have HK9 := Lib.hid (HC.out.trans HK78.out (fun _ f => f.elim))
      clear HC HC0
      generalize w7.heap.size = yb at *
      generalize wr.heap.size = xb at *
      go_loopw [8] (fun k wi => ∃ r : Nat, r ≤ pn ∧ k = .int .i64 (r : Int) ∧ Hid (Chg Non w8 wi)) (fun k _ => pn - (intOf k).toNat)
      case atStart => exact ⟨0, by omega, rfl, Lib.hid (Chg.refl _ _)⟩
      case round =>
        obtain ⟨r, hr, rfl, HCI⟩ := hrel
        have cx3 : wr.cell? ⟨xb, 3, none⟩ = some (.slice PA pn pc) := (HX.out.chg HCI.out (fun f => f)).cell 3
        have cy3 : wr.cell? ⟨yb, 3, none⟩ = some (.slice PB pn pd) := (HY.out.chg HCI.out (fun f => f)).cell 3
        by_cases hlr : r < pn
        · have hjl : r < pa.length := by rw [HPL.out]; exact hlr
          have hj := List.getElem?_eq_getElem hjl
          have h32 := HPA.out pa[r] (List.getElem_mem hjl)
          obtain ⟨ea, eo, rfl, _, j1⟩ := (I1.out.chg HCI.out) r _ hj
          obtain ⟨eb, fo, rfl, _, j2⟩ := (I2.out.chg HCI.out) r _ hj
          generalize pa[r] = hh at *
          have hih : (Try.prog.info? 26).map (·.size) = some (bv hh).length := by rw [bv_length, h32]; exact hash_row
          have EQ : ∀ w : World, (Op.equalIn 10000 26 (.agg (bv hh).toArray) (.agg (bv hh).toArray)).run Try.prog w = .ok true w := fun w => by rw [run_eq_hash w h32 h32]; simp
          have hri : (r : Int) < (pn : Int) := by omega
          have J1 := Lib.hid j1
          have J2 := Lib.hid j2
          have HIH := Lib.hid hih
          have HEQ := Lib.hid EQ
          clear hj hjl j1 j2 hih EQ h32
          go_wp2_with fail
          refine wp_region_quiet_lit (by kernel_rfl) (by kernel_rfl) ?_
          quiet_step (fail)
          quiet_step (fail)
          quiet_step (fail)
          quiet_step (fail)
          refine wpQuiet_step (fun K hK => ?_)
          refine quiet_load_row (by rfl) _ _ (by rfl) ea (eo + r * 32) (by rfl) (bv hh) _ (by rintro w' ⟨n, rfl⟩; exact ((Chg.refl Non wr).drewN n).range' J1.out (fun f => f)) Try.underlying26 rfl HIH.out ?_
          refine hK _ ?_
          clear hK K
          quiet_step (fail)
          quiet_step (fail)
          quiet_step (fail)
          quiet_step (fail)
          refine wpQuiet_step (fun K hK => ?_)
          refine quiet_load_row (by rfl) _ _ (by rfl) eb (fo + r * 32) (by rfl) (bv hh) _ (by rintro w' ⟨n, rfl⟩; exact ((Chg.refl Non wr).drewN n).range' J2.out (fun f => f)) Try.underlying26 rfl HIH.out ?_
          refine hK _ ?_
          clear hK K
          refine wpQuiet_step (fun K hK => ?_)
          refine quiet_neq_row (by rfl) _ _ _ _ (by rfl) (by rfl) (by rfl) hash_guardU HEQ.out ?_
          refine hK _ ?_
          clear hK K
          refine wpQuiet_nil ?_
          intro _ hw'
          obtain ⟨nq, hw''⟩ := hw'
          subst hw''
          go_wp2_with fail
          go_roundw
          case rel => exact ⟨r + 1, by omega, by go_num, Lib.hid (HCI.out.drewN _)⟩
          case measure => simp [intOf]; omega
        · obtain rfl : r = pn := by omega
          go_wp2_with fail
          go_roundw
          case rel => exact ⟨q + 1, by omega, by go_num, Lib.hid (HK9.out.trans HCI.out (fun _ f => f.elim))⟩
          case measure => simp [intOf]; omega
    · obtain rfl : q = n := by omega
      go_wp2_with fail
      go_ret
      exact ⟨rfl, HK2.out.trans HC.out (fun _ f => f.elim)⟩
end Go.Proofs.Ytgonbmcfeehfaaa
