import Derived.Test.YtgonbmcfeehfaaaChecked
import Derived.WalkKit
import Derived.WalkLawsBesides
import Derived.Lib.Hide
import Derived.Recover
import Derived.ChangeKeysEq
import Derived.Laws.StructEq
import Derived.Deep.RegionHeld3
import Derived.Test.YtgonbmcfeehfaaaMFormReads3
import Derived.Test.YtgonbmcfeehfaaaMFormReads4
import Derived.Test.YtgonbmcfeehfaaaMFormReads5
import Derived.Test.YtgonbmcfeehfaaaMFormReads6
import Derived.Test.YtgonbmcfeehfaaaMFormReads7
/- Package forms: decoded[api.Proof]. -/
namespace Go.Proofs.Ytgonbmcfeehfaaa
open Go.RowKit
set_option linter.unusedVariables false
set_option linter.unusedSimpArgs false
set_option maxRecDepth 20000


def pfz : List Value := [.int .i64 0, .slice none 0 0]
theorem pfz_one : ∀ v ∈ pfz, v.oneCell' = true := by intro v hv; simp [pfz] at hv; rcases hv with rfl | rfl <;> rfl
/-- What decoding a proof leaves. -/
def DecP (w : World) (z : List Value) (r : Option Pf) (e : Ending) (w' : World) : Prop :=
  Chg Non w w' ∧ match r with
    | some x => ∃ nb, ∃ ms : List Pm, ms.map Pm.part = x.parts ∧ w.heap.size ≤ nb ∧ e = .returned (.tuple #[.agg [.int .i64 x.size, sl nb x.parts.length].toArray, .int .i64 0]) ∧
        Hb w' nb 77 (ms.flatMap Pm.cells).toArray ∧ ∀ m ∈ ms, PathIn w.heap.size w' m
    | none => e = .returned (.tuple #[.agg z.toArray, .int .i64 61])

theorem dProof.row : (Try.prog.info? 45).map (·.size) = some 2 := by kernel_rfl
theorem dProof.alloc0 (w : World) : (Instr.alloc 45 true (.tuple #[])).run Try.prog w = .ok (.pointer (some ⟨w.heap.size, 0, none⟩)) (w.alloc (.cells pfz.toArray 45)) := by kernel_rfl
theorem dProof.zlen : pfz.length = 2 := by rfl

theorem catchDP_Proof (w : World) (p q : Nat) (L : List Value) (y : Value) (v : Value) (u : TypeId) (older : List PanicEntry) (hp : Hb w p 45 L.toArray) (hL : L.length = 2) (hq : Hb w q 32 #[y]) (hpq : q ≠ p) :
    CallsD Try.prog 60 #[.pointer (some ⟨p, 0, none⟩), .pointer (some ⟨q, 0, none⟩)] (.panicking ({ v := .iface u v, recovered := false } :: older)) w fun e u' w' =>
      e = .returned (.tuple #[]) ∧ u' = .panicking ({ v := .iface u v, recovered := true } :: older) ∧ w' = (((w.alloc (.cells pfz.toArray 45)).setCells p 0 pfz).setCell ⟨q, 0, none⟩ (.int .i64 61)) := by
  have hz := dProof.alloc0 w
  have hzl := dProof.zlen
  have hrow := dProof.row
  have hn := Hb.new w 45 pfz.toArray
  have hp1 := hp.alloc (.cells pfz.toArray 45)
  have hth := hp1.there0
  rw [hL] at hth
  have hq1 := (hq.alloc (.cells pfz.toArray 45)).farCells hpq pfz 0
  have c1 : _ = some y := hq1.cell 0
  have f1 : _ = false := hq1.frozen 0
  refine callsD_of_wpS Try.func60 rfl fun c₀ cs hu => ?_
  apply wpS_seq
  apply wpS_region
  simp [wpOpsS, go_sem, recoverD, hu, Try.ntmps60, Exit.thenS]
  refine wpS_cond (t := true) (by simp [Act.eval, Array.replicate]) ?_
  simp only [if_true]
  refine wpS_of_wp ?_
  have hone : ∀ v ∈ pfz, v.oneCell' = true := pfz_one
  generalize pfz = z at *
  go_wp2_with (first | (with_reducible refine wpList_alloc_row rfl _ rfl z hz ?_) | (with_reducible refine wpList_load_mid rfl 45 _ rfl w.heap.size 0 rfl z _ hn.range0 Try.underlying45 rfl (by rw [hrow, hzl]) ?_) | (with_reducible refine wpList_store_mid rfl 45 _ _ rfl p 0 z.toArray rfl rfl (by rw [List.size_toArray, hzl]; exact hth) (by rw [List.size_toArray, hrow, hzl]) (one_mem hone) ?_))
  exact ⟨rfl, _, rfl, .tuple #[], by simp [results, Try.results60], rfl, rfl, rfl⟩

theorem catchDI_Proof (w : World) (p q : Addr) : CallsD Try.prog 60 #[.pointer (some p), .pointer (some q)] .returning w fun e u' w' => e = .returned (.tuple #[]) ∧ u' = .returning ∧ w' = w := by
  refine callsD_of_wpS Try.func60 rfl fun c₀ cs hu => ?_
  apply wpS_seq
  apply wpS_region
  simp [wpOpsS, go_sem, recoverD, hu, Try.ntmps60, Exit.thenS]
  refine wpS_cond (t := false) (by simp [Act.eval, Array.replicate]) ?_
  simp only [Bool.false_eq_true, if_false]
  refine wpS_of_wp (wp_skip ?_)
  cases c₀
  simp_all [bodyPostS, results, Try.results60]

/-- The error's way. -/
theorem decErr_Proof (w w2 : World) (h : Chg Non w w2) (L : List Value) (y : Value) (hp : Hb w2 w.heap.size 45 L.toArray) (hL : L.length = 2) (hq : Hb w2 (w.heap.size + 1) 32 #[y]) (r : Option Pf) (hr : r = none) (tmps : Array Value)
    (h4 : tmps.getD 4 undef = .pointer (some ⟨w.heap.size, 0, none⟩)) (h5 : tmps.getD 5 undef = .pointer (some ⟨w.heap.size + 1, 0, none⟩)) :
    Leaves Try.prog Try.f29 tmps (DecP w pfz r) [{ target := .fn (.func 60) #[.pointer (some ⟨w.heap.size, 0, none⟩), .pointer (some ⟨w.heap.size + 1, 0, none⟩)], args := #[] }] (.panicking bad) w2 := by
  subst hr
  refine leaves_cons (f := 60) (args := #[.pointer (some ⟨w.heap.size, 0, none⟩), .pointer (some ⟨w.heap.size + 1, 0, none⟩)]) (by simp) (by simp [go_sem]) ?_
  refine (catchDP_Proof w2 w.heap.size (w.heap.size + 1) L _ _ _ _ hp hL hq (by omega)).mono ?_
  rintro e u' w'' ⟨rfl, rfl, rfl⟩
  have hz : pfz.length = 2 := dProof.zlen
  have hb3 := ((hp.alloc (.cells pfz.toArray 45)).sets0 (L' := pfz) (by rw [hL, hz])).far (p := ⟨w.heap.size + 1, 0, none⟩) (by simp) (.int .i64 61)
  have he3 := ((hq.alloc (.cells pfz.toArray 45)).farCells (tb := w.heap.size) (by omega) pfz 0).set 0 (.int .i64 61)
  refine ⟨_, results_two rfl _ _ _ ⟨w.heap.size, 0, none⟩ ⟨w.heap.size + 1, 0, none⟩ _ _ h4 h5 (load_row hb3 Try.underlying45 rfl (by rw [dProof.row, hz])) (load_errno (he3.cell 0)), ?_, rfl⟩
  have K := (Chg.setCells (S := fun k => k = w.heap.size ∨ k = w.heap.size + 1) (.inl rfl) pfz _ 0 ((Chg.refl _ w2).alloc (.cells pfz.toArray 45))).setCell (p := ⟨w.heap.size + 1, 0, none⟩) (.inl (.inr rfl)) (.int .i64 61)
  exact h.trans K (fun j hj => .inr (by omega))

theorem decoded_Proof (w : World) (A : Option Addr) (n c : Nat) (bs : List UInt8) (r : Option (Pf × St)) (hn : n = bs.length) (hr : Rd w A bs) (hsz : bs.length ≤ 1000000000)
    (H : ∀ (w1 : World) (g : Nat) (F : Nat → Prop), Rst w1 g F w.heap.size 45 pfz (some bs) w1 → Calls Try.prog 30 #[.agg #[.pointer none, .pointer (some ⟨g, 0, none⟩)], .pointer (some ⟨w.heap.size, 0, none⟩)] w1 (RPF w1 g F w.heap.size 45 2 [] [] r)) :
    Calls Try.prog 29 #[.slice A n c, .func (.func 30) #[] #[]] w (DecP w pfz (whole r)) := by
  have hmf := mkf
  have hC0 := dw_chg w pfz 45
  have hb0 := dw_b w pfz 45
  have he0 := dw_e w pfz 45
  have hz := dProof.alloc0 w
  have hrow := dProof.row
  have HN := newReader_any (dw w pfz 45) A n c bs hn (hr.chg hC0 (fun _ _ f => f)) hsz
  generalize hR : whole r = R
  have HR := Lib.hid hR
  have HH := Lib.hid H
  have HNN := Lib.hid HN
  clear hR H HN hn hr
  have hzz := dProof.zlen
  go_enter_defers Try.func29, Try.ntmps29
  go_wp2_with (first | (with_reducible refine wpList_alloc_row rfl _ rfl pfz hz ?_))
  have hdw : dw w pfz 45 = (w.alloc (.cells pfz.toArray 45)).alloc (.cells #[.int .i64 0] 32) := rfl
  rw [← hdw]
  have hds : (dw w pfz 45).heap.size = w.heap.size + 2 := by rw [hdw]; simp
  clear hdw
  generalize dw w pfz 45 = w0 at *
  refine HNN.out.mono ?_
  rintro e w1 ⟨g, F, rfl, hR1, hg, hF, hC1⟩
  have hb1 := hb0.chg hC1 (fun f => f)
  have he1 := he0.chg hC1 (fun f => f)
  have S1 : Rst w1 g F w.heap.size 45 pfz (some bs) w1 := ⟨hR1, hb1, Chg.refl _ _, by omega, fun h => by have := hF _ h; omega⟩
  have H1 := HH.out w1 g F S1
  have hne : ¬ Two g w.heap.size (w.heap.size + 1) := by rintro (h | h) <;> omega
  have hn01 : Chg Non w w1 := hC0.trans hC1 (fun _ f => f.elim)
  have hw1s := hC1.size
  clear HNN hb0 he0 hC0 hC1 HH S1
  go_wp2_with fail
  refine H1.mono ?_
  rintro e w2 h2
  have he2 := he1.chg h2.chg hne
  have hn02 : Chg Non w w2 := hn01.trans h2.chg (fun j hj => .inr (by rcases hj with rfl | rfl <;> omega))
  clear H1 he1 hb1
  rcases h2.cases with ⟨k, rfl, _, L', hL1, hL2⟩ | ⟨⟨x, s⟩, k, rfl, nb, g1, T, ms, hms, B1, B2⟩
  · have hRn : R = none := HR.out.symm.trans (by rw [k]; rfl)
    go_wp2
    refine decErr_Proof w w2 hn02 L' _ hL2 hL1 he2 _ rfl _ ?_ ?_ <;> rfl
  · have hLn : ([.int .i64 x.size, sl nb x.parts.length] : List Value).length = 2 := rfl
    have hL1 : ∀ v ∈ ([.int .i64 x.size, sl nb x.parts.length] : List Value), v.oneCell' = true := by intro v hv; simp at hv; rcases hv with rfl | rfl <;> rfl
    have T := T.eq (L' := [.int .i64 x.size, sl nb x.parts.length]) (by simp)
    have hs1 : w.heap.size + 2 ≤ w1.heap.size := by omega
    have hRx : ∀ h : s = some [], R = some x := fun h => HR.out.symm.trans (by rw [k, h]; rfl)
    simp only at B1 B2 hms
    generalize hL : ([.int .i64 x.size, sl nb x.parts.length] : List Value) = L at *
    have HL := Lib.hid hL
    have HRX := Lib.hid hRx
    clear h2 hL hRx
    go_wp2_with fail
    refine (endR_any _ g F s T.rdr).mono ?_
    rintro e w3 ⟨rfl, rfl⟩
    have hb2 : Hb _ w.heap.size 45 L.toArray := T.row
    by_cases hs : s = some []
    · have hRs : R = some x := HRX.out hs
      have hev : endv s = 0 := by unfold endv; rw [if_pos hs]
      have hth := hb2.there0
      rw [hLn] at hth
      have hLs : L.toArray.size = 2 := by rw [List.size_toArray, hLn]
      rw [hev]
      have hb3 := hb2.sets0 (L' := L) rfl
      have he3 := he2.farCells (tb := w.heap.size) (by omega) L 0
      have c3 : _ = some (Value.int .i64 0) := he3.cell 0
      have f3 : _ = false := he3.frozen 0
      have hrg := hb2.range0
      clear hev hs HR
      go_wp2_with (first | (go_at_call 37; refine (insist_yes _).mono ?_; rintro e w5 ⟨rfl, rfl⟩) | (with_reducible refine wpList_load_mid rfl 45 _ rfl w.heap.size 0 rfl L _ hrg Try.underlying45 rfl (by rw [hrow, hLn]) ?_; refine wpList_store_mid rfl 45 _ _ rfl w.heap.size 0 L.toArray rfl rfl (by rw [hLs]; exact hth) (by rw [hLs, hrow]) (one_mem hL1) ?_) | (with_reducible refine wpList_store_mid rfl 45 _ _ rfl w.heap.size 0 L.toArray rfl rfl (by rw [hLs]; exact hth) (by rw [hLs, hrow]) (one_mem hL1) ?_))
      refine leaves_cons (f := 60) (args := #[.pointer (some ⟨w.heap.size, 0, none⟩), .pointer (some ⟨w.heap.size + 1, 0, none⟩)]) (by simp) (by simp [go_sem]) ?_
      refine (catchDI_Proof _ ⟨w.heap.size, 0, none⟩ ⟨w.heap.size + 1, 0, none⟩).mono ?_
      rintro e u' w'' ⟨rfl, rfl, rfl⟩
      have hb4 := hb3.far (p := ⟨w.heap.size + 1, 0, none⟩) (by simp) (.int .i64 0)
      have he4 := he3.set 0 (.int .i64 0)
      refine ⟨_, results_two rfl _ _ _ ⟨w.heap.size, 0, none⟩ ⟨w.heap.size + 1, 0, none⟩ _ _ rfl rfl (load_row hb4 Try.underlying45 rfl (by rw [hrow, hLn])) (load_errno (he4.cell 0)), ?_, ?_⟩
      · exact hn02.trans ((Chg.setCells (S := fun k => k = w.heap.size ∨ k = w.heap.size + 1) (.inl rfl) L _ 0 (Chg.refl _ _)).setCell (p := ⟨w.heap.size + 1, 0, none⟩) (.inl (.inr rfl)) (.int .i64 0)) (fun j hj => .inr (by omega))
      · rw [hRs]
        exact ⟨nb, ms, hms, by omega, by rw [HL.out]; rfl, (B1.farCells (by omega) L 0).far (p := ⟨w.heap.size + 1, 0, none⟩) (show nb ≠ w.heap.size + 1 by omega) _, fun m hm => ((B2 m hm).chg ((Chg.setCells (S := fun k => k = w.heap.size ∨ k = w.heap.size + 1) (.inl rfl) L _ 0 (Chg.refl _ _)).setCell (p := ⟨w.heap.size + 1, 0, none⟩) (.inl (.inr rfl)) (.int .i64 0)) (fun j hj => by omega)).mono (by omega)⟩
    · have hRn : R = none := HR.out.symm.trans (by
        rw [k]
        match s, hs with
        | none, _ => rfl
        | some (_ :: _), _ => rfl)
      have hev : endv s = 21 := by unfold endv; rw [if_neg hs]
      rw [hev]
      clear hev hs HR
      go_wp2_with (go_at_call 37; refine (insist_no _).mono ?_; rintro e w5 ⟨rfl, rfl⟩)
      refine decErr_Proof w _ hn02 L _ hb2 hLn he2 _ rfl _ ?_ ?_ <;> rfl
end Go.Proofs.Ytgonbmcfeehfaaa

/- Package forms: DecodeProof. -/
namespace Go.Proofs.Ytgonbmcfeehfaaa
open Go.RowKit
set_option linter.unusedVariables false
set_option linter.unusedSimpArgs false
set_option maxRecDepth 20000

theorem DecodeProof_any (w : World) (A : Option Addr) (n c : Nat) (bs : List UInt8) (hn : n = bs.length) (hr : Rd w A bs) (hsz : bs.length ≤ 1000000000) : Calls Try.prog 11 #[.slice A n c] w (DecP w pfz (whole (dProof (some bs)))) := by
  have hz := dProof.alloc0 w
  have hzl := dProof.zlen
  have hrow := dProof.row
  have hC := (Chg.refl Non w).alloc (.cells pfz.toArray 45)
  have hb := Hb.new w 45 pfz.toArray
  have H := decoded_Proof (w.alloc (.cells pfz.toArray 45)) A n c bs (dProof (some bs)) hn (hr.chg hC (fun _ _ f => f)) hsz (fun w1 g F S => by
    generalize (w.alloc (.cells pfz.toArray 45)).heap.size = tb at *
    exact proof_r w1 g F tb 0 45 [] [] (.int .i64 0) (some bs) S rfl)
  generalize whole (dProof (some bs)) = r at *
  have hzone := pfz_one
  have HH := Lib.hid H
  have HC := Lib.hid hC
  clear H hC hn hr
  generalize pfz = z at *
  go_enter Try.func11, Try.ntmps11
  go_wp2_with (with_reducible refine wpList_alloc_row rfl _ rfl z hz ?_)
  refine HH.out.mono ?_
  rintro e w1 ⟨h1, h2⟩
  clear HH
  have hb1 := hb.chg h1 (fun f => f)
  have h0 := HC.out.trans h1 (fun _ f => f.elim)
  have hs1 := HC.out.size
  have hss : (w.alloc (.cells z.toArray 45)).heap.size = w.heap.size + 1 := by simp
  obtain ⟨L, k, rfl, hL1, hL2, hk⟩ : ∃ (L : List Value) (k : Int), e = .returned (.tuple #[.agg L.toArray, .int .i64 k]) ∧ L.length = 2 ∧ (∀ v ∈ L, v.oneCell' = true) ∧ (∀ w', Chg (fun j => j = w.heap.size) w1 w' → DecP w z r (.returned (.tuple #[.agg L.toArray, .int .i64 k])) w') := by
    cases r with
    | some x =>
      obtain ⟨nb, ms, hms, g1, rfl, B1, B2⟩ := h2
      refine ⟨_, 0, rfl, rfl, (by intro v hv; simp at hv; rcases hv with rfl | rfl <;> rfl), fun w' k => ⟨h0.trans k (fun j hj => .inr (by omega)), nb, ms, hms, by omega, rfl, B1.chg k (by omega), fun m hm => ((B2 m hm).chg k (fun j hj => by omega)).mono (by omega)⟩⟩
    | none => exact ⟨z, 61, h2, hzl, hzone, fun w' k => ⟨h0.trans k (fun j hj => .inr (by omega)), rfl⟩⟩
  have hLs : L.toArray.size = 2 := by rw [List.size_toArray, hL1]
  have hth := hb1.there0
  rw [hzl] at hth
  have hb2 := hb1.sets0 (L' := L) (by rw [hzl, hL1])
  have HK := Lib.hid hk
  clear h2 hk
  go_wp2_with (with_reducible refine wpList_store_mid rfl 45 _ _ rfl w.heap.size 0 L.toArray rfl rfl (by rw [hLs]; exact hth) (by rw [hLs, hrow]) (one_mem hL2) ?_)
  refine bodyPost_ret ((results_cell_tmp rfl _ _ _).trans ?_) rfl (R := DecP w z r) (v := .tuple #[.agg L.toArray, .int .i64 k]) ?_
  · simp only [asAddr, Sem.run_pure, Result.andThen_ok]
    have hl := load_row hb2 Try.underlying45 rfl (by rw [hrow, hL1])
    simp [hl]
  · exact HK.out _ (Chg.setCells (S := fun j => j = w.heap.size) rfl L _ 0 (Chg.refl _ _))
end Go.Proofs.Ytgonbmcfeehfaaa

/- The things of package forms held against each other by ==. -/
namespace Go.Proofs.Ytgonbmcfeehfaaa
open Go.RowKit
set_option linter.unusedVariables false
set_option linter.unusedSimpArgs false
set_option maxRecDepth 20000

theorem eqF {P : Program} {w : World} {d : Nat} {xs ys : Array Value} {f : Field} {fs : List Field} {a b : Value} {p q : Prop} [Decidable p] [Decidable q] (hn : f.name ≠ "_") (ha : (part f.type xs f.offset).run P w = .ok a w) (hb : (part f.type ys f.offset).run P w = .ok b w)
    (he : (Op.equalIn d f.type a b).run P w = .ok (decide p) w) (ht : (Op.eqFields d xs ys fs).run P w = .ok (decide q) w) : (Op.eqFields d xs ys (f :: fs)).run P w = .ok (decide (p ∧ q)) w := by
  simp only [Op.eqFields, hn, ne_eq, not_false_eq_true, if_true, Sem.run_bind, ha, hb, he, Result.andThen_ok]
  by_cases hp : p
  · simp only [decide_eq_true hp, Bool.not_true, Bool.false_eq_true, if_false]
    rw [ht]
    congr 1
    rw [decide_eq_decide]
    simp [hp]
  · simp only [decide_eq_false hp, Bool.not_false, if_true, Sem.run_pure]
    congr 1
    symm
    rw [decide_eq_false_iff_not]
    exact fun h => hp h.1
theorem eqF0 {P : Program} {w : World} {d : Nat} {xs ys : Array Value} : (Op.eqFields d xs ys []).run P w = .ok (decide True) w := by simp [Op.eqFields]

theorem eqInt {w : World} (d : Nat) {t : TypeId} {k k' : IntKind} (a b : Int) (h : Try.prog.underlying t = some (.int k')) : (Op.equalIn (d + 1) t (.int k a) (.int k b)).run Try.prog w = .ok (decide (a = b)) w := by
  rw [run_equalIn_int w d t k k' a b h]
  congr 1
theorem eqNat {w : World} (d : Nat) {t : TypeId} {k k' : IntKind} (a b : Nat) (h : Try.prog.underlying t = some (.int k')) : (Op.equalIn (d + 1) t (.int k (a : Int)) (.int k (b : Int))).run Try.prog w = .ok (decide (a = b)) w := by
  rw [eqInt d (a : Int) (b : Int) h]
  congr 1
  rw [decide_eq_decide]
  omega
theorem eqStr {w : World} (d : Nat) (a b : ByteArray) : (Op.equalIn (d + 1) 9 (.string a) (.string b)).run Try.prog w = .ok (decide (a = b)) w := by
  rw [run_equalIn_string w d 9 a b Try.underlying9]
  congr 1
  rw [Bool.eq_iff_iff]
  simp only [ByteArray.toList_eq, beq_iff_eq, decide_eq_true_eq, Array.toList_inj]
  exact ⟨fun h => by cases a; cases b; simp_all, fun h => by rw [h]⟩
theorem eqHash {w : World} (d : Nat) {a b : List UInt8} (ha : a.length = 32) (hb : b.length = 32) : (Op.equalIn (d + 2) 26 (.agg (bv a).toArray) (.agg (bv b).toArray)).run Try.prog w = .ok (decide (a = b)) w := by
  obtain ⟨i, hi, _, _, _⟩ := info_parts byt.hi
  rw [run_equalIn_array w (d + 1) (bv a).toArray (bv b).toArray Try.underlying26 hi, byte_cells, run_items w d a b 32 ha hb _ (fun i hi => by simpa using hi)]
  congr 1
  rw [decide_eq_decide]
  constructor
  · intro h
    apply List.ext_getElem?
    intro j
    rcases Nat.lt_or_ge j 32 with hj | hj
    · exact h j (by simpa using hj)
    · rw [List.getElem?_eq_none (by omega), List.getElem?_eq_none (by omega)]
  · rintro rfl _ _
    rfl

/-- A cell of a row. -/
theorem part1 {w : World} {e : TypeId} (he : Try.prog.plainKey e = true) {L : List Value} {off : Nat} {v : Value} (h : L[off]? = some v) : (part e L.toArray off).run Try.prog w = .ok v w := run_part_plain w he (by simpa using h)
/-- A row of a row. -/
theorem partR {w : World} {t : TypeId} {d : TypeDesc} (hu : Try.prog.underlying t = some d) (hd : d.isRow = true) {n : Nat} (hi : (Try.prog.info? t).map (·.size) = some n) {L cs : List Value} {off : Nat} (h : (L.drop off).take n = cs) : (part t L.toArray off).run Try.prog w = .ok (.agg cs.toArray) w := by
  have hagg : (isAgg t).run Try.prog w = .ok true w := by
    unfold isAgg
    rw [Sem.run_bind, run_underlying hu w]
    cases d <;> simp_all
  cases hq : Try.prog.info? t with
  | none => simp [hq] at hi
  | some i =>
    have hs : i.size = n := by simpa [hq] using hi
    have he : L.toArray.extract off (off + n) = cs.toArray := by
      rw [← h]
      simp [List.extract_toArray, List.take_drop, List.extract]
    simp only [part, Sem.run_bind, hagg, Result.andThen_ok, if_true]
    simp [sizeOf, typeInfo, hq, hs, he, Sem.run_bind]
    exact h

theorem sig_row : (Try.prog.info? 29).map (·.size) = some 2 := by kernel_rfl
theorem eqSig {w : World} (d : Nat) (a b c e : Nat) : (Op.equalIn (d + 2) 29 (.agg [Value.int .u64 (a : Int), .int .u64 (b : Int)].toArray) (.agg [Value.int .u64 (c : Int), .int .u64 (e : Int)].toArray)).run Try.prog w = .ok (decide (a = c ∧ b = e ∧ True)) w := by
  rw [run_equalIn_struct w (d + 1) 29 _ _ (by kernel_rfl) (by kernel_rfl)]
  unfold Program.fieldsOf
  rw [Try.underlying29]
  exact eqF (by decide) (part1 (by kernel_rfl) rfl) (part1 (by kernel_rfl) rfl) (eqNat d a c Try.underlying27) (eqF (by decide) (part1 (by kernel_rfl) rfl) (part1 (by kernel_rfl) rfl) (eqNat d b e Try.underlying27) eqF0)

theorem mid_get {p m q : List Value} {n : Nat} (hm : m.length = n) (j : Nat) : (p ++ (m ++ q))[p.length + n + j]? = q[j]? := by
  rw [List.getElem?_append_right (by omega), List.getElem?_append_right (by omega)]
  congr 1
  omega

theorem Vt.eqv {x y : Vt} : (x.chain = y.chain ∧ x.height = y.height ∧ x.round = y.round ∧ x.type = y.type ∧ x.block = y.block ∧ x.key = y.key ∧ (x.r = y.r ∧ x.s = y.s ∧ True) ∧ True) ↔ x = y := by
  cases x
  cases y
  simp
instance : DecidableEq Vt := fun x y => decidable_of_iff _ Vt.eqv
theorem Vt.drop4 (x : Vt) (ox : x.Ok) : (x.cells.drop 4).take 32 = bv x.block := by
  have e : x.cells.drop 4 = bv x.block ++ [.int .u64 (x.key : Int), .int .u64 (x.r : Int), .int .u64 (x.s : Int)] := rfl
  rw [e, List.take_left' (by rw [bv_length, ox.block])]
theorem Vt.drop37 (x : Vt) (ox : x.Ok) : (x.cells.drop 37).take 2 = [Value.int .u64 (x.r : Int), .int .u64 (x.s : Int)] := by
  have e : x.cells.drop 4 = bv x.block ++ [.int .u64 (x.key : Int), .int .u64 (x.r : Int), .int .u64 (x.s : Int)] := rfl
  rw [show 37 = 4 + (32 + 1) by omega, ← List.drop_drop, e, ← List.drop_drop, List.drop_left' (by rw [bv_length, ox.block])]
  rfl
theorem Vt.get36 (x : Vt) (ox : x.Ok) : x.cells[36]? = some (.int .u64 (x.key : Int)) := mid_get (p := [.string x.chain, .int .i64 x.height, .int .i64 x.round, .int .i64 x.type]) (by rw [bv_length, ox.block] : (bv x.block).length = 32) 0
theorem run_eq_vote (w : World) (x y : Vt) (ox : x.Ok) (oy : y.Ok) : (Op.equalIn 10000 31 (.agg x.cells.toArray) (.agg y.cells.toArray)).run Try.prog w = .ok (decide (x = y)) w := by
  rw [run_equalIn_struct w 9999 31 _ _ (by kernel_rfl) (by kernel_rfl)]
  unfold Program.fieldsOf
  rw [Try.underlying31]
  refine (eqF (by decide) (part1 (by kernel_rfl) rfl) (part1 (by kernel_rfl) rfl) (eqStr 9998 _ _) (eqF (by decide) (part1 (by kernel_rfl) rfl) (part1 (by kernel_rfl) rfl) (eqInt 9998 _ _ Try.underlying3) (eqF (by decide) (part1 (by kernel_rfl) rfl) (part1 (by kernel_rfl) rfl) (eqInt 9998 _ _ Try.underlying3) (eqF (by decide) (part1 (by kernel_rfl) rfl) (part1 (by kernel_rfl) rfl) (eqInt 9998 _ _ Try.underlying24)
    (eqF (by decide) (partR Try.underlying26 rfl hash_row (x.drop4 ox)) (partR Try.underlying26 rfl hash_row (y.drop4 oy)) (eqHash 9997 ox.block oy.block) (eqF (by decide) (part1 (by kernel_rfl) (x.get36 ox)) (part1 (by kernel_rfl) (y.get36 oy)) (eqNat 9998 _ _ Try.underlying27)
    (eqF (by decide) (partR Try.underlying29 rfl sig_row (x.drop37 ox)) (partR Try.underlying29 rfl sig_row (y.drop37 oy)) (eqSig 9997 _ _ _ _) eqF0))))))).trans ?_
  congr 1
  rw [decide_eq_decide]
  exact Vt.eqv

theorem Pk.eqv {x y : Pk} : (x.seq = y.seq ∧ x.from = y.from ∧ x.data = y.data ∧ x.timeout = y.timeout ∧ True) ↔ x = y := by
  cases x
  cases y
  simp
instance : DecidableEq Pk := fun x y => decidable_of_iff _ Pk.eqv
theorem run_eq_packet (w : World) (x y : Pk) : (Op.equalIn 10000 40 (.agg x.cells.toArray) (.agg y.cells.toArray)).run Try.prog w = .ok (decide (x = y)) w := by
  rw [run_equalIn_struct w 9999 40 _ _ (by kernel_rfl) (by kernel_rfl)]
  unfold Program.fieldsOf
  rw [Try.underlying40]
  refine (eqF (by decide) (part1 (by kernel_rfl) rfl) (part1 (by kernel_rfl) rfl) (eqInt 9998 _ _ Try.underlying3) (eqF (by decide) (part1 (by kernel_rfl) rfl) (part1 (by kernel_rfl) rfl) (eqStr 9998 _ _) (eqF (by decide) (part1 (by kernel_rfl) rfl) (part1 (by kernel_rfl) rfl) (eqStr 9998 _ _) (eqF (by decide) (part1 (by kernel_rfl) rfl) (part1 (by kernel_rfl) rfl) (eqInt 9998 _ _ Try.underlying3) eqF0)))).trans ?_
  congr 1
  rw [decide_eq_decide]
  exact Pk.eqv

theorem Hd.eqv {x y : Hd} : (x.chain = y.chain ∧ x.height = y.height ∧ x.time = y.time ∧ x.last = y.last ∧ x.set = y.set ∧ x.next = y.next ∧ x.data = y.data ∧ x.app = y.app ∧ True) ↔ x = y := by
  cases x
  cases y
  simp
instance : DecidableEq Hd := fun x y => decidable_of_iff _ Hd.eqv
theorem Hd.drops (x : Hd) (ox : x.Ok) : (x.cells.drop 3).take 32 = bv x.last ∧ (x.cells.drop 35).take 32 = bv x.set ∧ (x.cells.drop 67).take 32 = bv x.next ∧ (x.cells.drop 99).take 32 = bv x.data ∧ (x.cells.drop 131).take 32 = bv x.app := by
  have h1 : (bv x.last).length = 32 := by rw [bv_length, ox.last]
  have h2 : (bv x.set).length = 32 := by rw [bv_length, ox.set]
  have h3 : (bv x.next).length = 32 := by rw [bv_length, ox.next]
  have h4 : (bv x.data).length = 32 := by rw [bv_length, ox.data]
  have h5 : (bv x.app).length = 32 := by rw [bv_length, ox.app]
  have e0 : x.cells.drop 3 = bv x.last ++ (bv x.set ++ (bv x.next ++ (bv x.data ++ bv x.app))) := rfl
  have e1 : x.cells.drop 35 = bv x.set ++ (bv x.next ++ (bv x.data ++ bv x.app)) := by rw [show 35 = 3 + 32 by omega, ← List.drop_drop, e0, List.drop_left' h1]
  have e2 : x.cells.drop 67 = bv x.next ++ (bv x.data ++ bv x.app) := by rw [show 67 = 35 + 32 by omega, ← List.drop_drop, e1, List.drop_left' h2]
  have e3 : x.cells.drop 99 = bv x.data ++ bv x.app := by rw [show 99 = 67 + 32 by omega, ← List.drop_drop, e2, List.drop_left' h3]
  have e4 : x.cells.drop 131 = bv x.app := by rw [show 131 = 99 + 32 by omega, ← List.drop_drop, e3, List.drop_left' h4]
  rw [e0, e1, e2, e3, e4]
  exact ⟨List.take_left' h1, List.take_left' h2, List.take_left' h3, List.take_left' h4, List.take_of_length_le (by omega)⟩
theorem Hd.get0 (x : Hd) : x.cells[0]? = some (.string x.chain) ∧ x.cells[1]? = some (.int .i64 x.height) ∧ x.cells[2]? = some (.int .i64 x.time) := ⟨rfl, rfl, rfl⟩
set_option maxHeartbeats 1600000 in
theorem run_eq_header (d : Nat) (w : World) (x y : Hd) (ox : x.Ok) (oy : y.Ok) : (Op.equalIn (d + 3) 36 (.agg x.cells.toArray) (.agg y.cells.toArray)).run Try.prog w = .ok (decide (x = y)) w := by
  obtain ⟨a0, a1, a2, a3, a4⟩ := x.drops ox
  obtain ⟨b0, b1, b2, b3, b4⟩ := y.drops oy
  obtain ⟨g0, g1, g2⟩ := x.get0
  obtain ⟨k0, k1, k2⟩ := y.get0
  rw [run_equalIn_struct w (d + 2) 36 _ _ (by kernel_rfl) (by kernel_rfl)]
  unfold Program.fieldsOf
  rw [Try.underlying36]
  refine (eqF (by decide) (part1 (by kernel_rfl) g0) (part1 (by kernel_rfl) k0) (eqStr (d + 1) _ _) (eqF (by decide) (part1 (by kernel_rfl) g1) (part1 (by kernel_rfl) k1) (eqInt (d + 1) _ _ Try.underlying3) (eqF (by decide) (part1 (by kernel_rfl) g2) (part1 (by kernel_rfl) k2) (eqInt (d + 1) _ _ Try.underlying3)
    (eqF (by decide) (partR Try.underlying26 rfl hash_row a0) (partR Try.underlying26 rfl hash_row b0) (eqHash d ox.last oy.last) (eqF (by decide) (partR Try.underlying26 rfl hash_row a1) (partR Try.underlying26 rfl hash_row b1) (eqHash d ox.set oy.set)
    (eqF (by decide) (partR Try.underlying26 rfl hash_row a2) (partR Try.underlying26 rfl hash_row b2) (eqHash d ox.next oy.next) (eqF (by decide) (partR Try.underlying26 rfl hash_row a3) (partR Try.underlying26 rfl hash_row b3) (eqHash d ox.data oy.data)
    (eqF (by decide) (partR Try.underlying26 rfl hash_row a4) (partR Try.underlying26 rfl hash_row b4) (eqHash d ox.app oy.app) eqF0)))))))).trans ?_
  congr 1
  rw [decide_eq_decide]
  exact Hd.eqv

/-- == of two structs, under a guard or none: by what 'equalIn' answers. -/
theorem wpList_eql_w {ops : Array Oper} {rest : List Oper} {op : Oper} {a : Act} {w : World} {Q : Exit → Act → World → Prop} (t : TypeId) (x y : Operand) (u : TypeId) (ho : op.op = .binOp .eql t x y u) (hw : Region.wanted op (yielded ops a.tmps) = true)
    {xs ys : Array Value} (hx : a.eval x = .agg xs) (hy : a.eval y = .agg ys) (hg : Try.prog.eqGuardType Try.prog.depth t = false) {b : Bool} (hrun : (Op.equalIn 10000 t (.agg xs) (.agg ys)).run Try.prog w = .ok b w)
    (h : wpList Try.prog ops Q rest (a.put op.dst (.bool b)) w) : wpList Try.prog ops Q (op :: rest) a w := by
  unfold wpList
  rw [if_pos hw]
  left
  unfold Oper.wp execOp
  simp only [ho, hx, hy, Sem.run_bind, run_eqGuard_agg w .eql t x y xs ys hg, Result.andThen_ok, run_eql_struct, hrun, Sem.run_pure]
  exact h
theorem wpList_neq_w {ops : Array Oper} {rest : List Oper} {op : Oper} {a : Act} {w : World} {Q : Exit → Act → World → Prop} (t : TypeId) (x y : Operand) (u : TypeId) (ho : op.op = .binOp .neq t x y u) (hw : Region.wanted op (yielded ops a.tmps) = true)
    {xs ys : Array Value} (hx : a.eval x = .agg xs) (hy : a.eval y = .agg ys) (hg : Try.prog.eqGuardType Try.prog.depth t = false) {b : Bool} (hrun : (Op.equalIn 10000 t (.agg xs) (.agg ys)).run Try.prog w = .ok b w)
    (h : wpList Try.prog ops Q rest (a.put op.dst (.bool (!b))) w) : wpList Try.prog ops Q (op :: rest) a w := by
  unfold wpList
  rw [if_pos hw]
  left
  unfold Oper.wp execOp
  simp only [ho, hx, hy, Sem.run_bind, run_eqGuard_agg w .neq t x y xs ys hg, Result.andThen_ok, run_neq_struct, hrun, Sem.run_pure]
  exact h
theorem vote_guard : Try.prog.eqGuardType Try.prog.depth 31 = false := by kernel_rfl
theorem packet_guard : Try.prog.eqGuardType Try.prog.depth 40 = false := by kernel_rfl
theorem header_guard : Try.prog.eqGuardType Try.prog.depth 36 = false := by kernel_rfl
end Go.Proofs.Ytgonbmcfeehfaaa

/- Things of package forms as arguments: their cells out of a reading. -/
namespace Go.Proofs.Ytgonbmcfeehfaaa
open Go.RowKit
set_option linter.unusedVariables false
set_option linter.unusedSimpArgs false
set_option maxRecDepth 20000

theorem cut (cs : List Value) (a b c : Nat) (h : a + b = c) : cs.drop a = (cs.drop a).take b ++ cs.drop c := by
  subst h
  rw [← List.drop_drop, List.take_append_drop]
theorem okc_i64 {w : World} {n : Nat} {t : TypeId} {cs : List Value} (hu : Try.prog.underlying t = some (.int .i64)) (h : Okc Try.prog w (n + 1) t cs) : ∃ x, cs = [.int .i64 x] ∧ I64 x := by
  unfold Okc at h
  simp only [hu] at h
  obtain ⟨x, h1, h2⟩ := h
  exact ⟨x, h1, (i64_bounds h2).1, (i64_bounds h2).2⟩
theorem okc_u64 {w : World} {n : Nat} {cs : List Value} (h : Okc Try.prog w (n + 1) 27 cs) : ∃ x : Nat, cs = [.int .u64 (x : Int)] ∧ x < 18446744073709551616 := by
  unfold Okc at h
  simp only [Try.underlying27] at h
  obtain ⟨x, h1, h2⟩ := h
  obtain ⟨m, rfl, hm⟩ := u64_nat h2
  exact ⟨m, h1, hm⟩
theorem okc_str {w : World} {n : Nat} {cs : List Value} (h : Okc Try.prog w (n + 1) 9 cs) : ∃ s, cs = [.string s] ∧ s.size ≤ maxLen := by
  unfold Okc at h
  simp only [Try.underlying9] at h
  exact h
theorem okc_hash {w : World} {n : Nat} {cs : List Value} (h : Okc Try.prog w (n + 2) 26 cs) : ∃ hs : List UInt8, cs = bv hs ∧ hs.length = 32 := by
  unfold Okc at h
  simp only [Try.underlying26] at h
  obtain ⟨hl, hb⟩ := h
  rw [hash_cells] at hl
  obtain ⟨hs, rfl⟩ := bytes_of cs (fun i hi => by
    have h1 := hb i (by omega)
    unfold Okc at h1
    simp only [Try.underlying5, byte_cells, Nat.mul_one] at h1
    obtain ⟨x, h2, h3⟩ := h1
    refine ⟨x, ?_, h3⟩
    have : (cs.drop i)[0]? = some (.int .u8 x) := by
      have h4 : ((cs.drop i).take 1)[0]? = some (.int .u8 x) := by rw [h2]; rfl
      rw [List.getElem?_take] at h4
      simpa using h4
    simpa using this)
  exact ⟨hs, rfl, by rw [bv_length] at hl; exact hl⟩
theorem sig_cells : Try.prog.cellsOf 29 = 2 := by kernel_rfl
theorem type_cells : Try.prog.cellsOf 24 = 1 := by kernel_rfl
theorem okc_sig {w : World} {n : Nat} {cs : List Value} (h : Okc Try.prog w (n + 2) 29 cs) : ∃ x y : Nat, cs = [.int .u64 (x : Int), .int .u64 (y : Int)] ∧ x < 18446744073709551616 ∧ y < 18446744073709551616 := by
  unfold Okc at h
  simp only [Try.underlying29] at h
  obtain ⟨hl, hf⟩ := h
  rw [sig_cells] at hl
  have h0 : Okc Try.prog w (n + 1) 27 ((cs.drop 0).take (Try.prog.cellsOf 27)) := hf 0 _ rfl
  have h1 : Okc Try.prog w (n + 1) 27 ((cs.drop 1).take (Try.prog.cellsOf 27)) := hf 1 _ rfl
  rw [u64_cells] at h0 h1
  obtain ⟨x, e0, b0⟩ := okc_u64 h0
  obtain ⟨y, e1, b1⟩ := okc_u64 h1
  have c0 := cut cs 0 1 1 rfl
  have c1 := cut cs 1 1 2 rfl
  rw [e0] at c0
  rw [e1, List.drop_of_length_le (i := 2) (by omega)] at c1
  rw [c1] at c0
  exact ⟨x, y, c0, b0, b1⟩
theorem vote_cells : Try.prog.cellsOf 31 = 39 := by kernel_rfl
theorem vote_of {w : World} {n : Nat} {cs : List Value} (h : Okc Try.prog w (n + 3) 31 cs) : ∃ x : Vt, cs = x.cells ∧ x.Ok := by
  unfold Okc at h
  simp only [Try.underlying31] at h
  obtain ⟨hl, hf⟩ := h
  rw [vote_cells] at hl
  have h0 : Okc Try.prog w (n + 2) 9 ((cs.drop 0).take (Try.prog.cellsOf 9)) := hf 0 _ rfl
  have h1 : Okc Try.prog w (n + 2) 3 ((cs.drop 1).take (Try.prog.cellsOf 3)) := hf 1 _ rfl
  have h2 : Okc Try.prog w (n + 2) 3 ((cs.drop 2).take (Try.prog.cellsOf 3)) := hf 2 _ rfl
  have h3 : Okc Try.prog w (n + 2) 24 ((cs.drop 3).take (Try.prog.cellsOf 24)) := hf 3 _ rfl
  have h4 : Okc Try.prog w (n + 2) 26 ((cs.drop 4).take (Try.prog.cellsOf 26)) := hf 4 _ rfl
  have h5 : Okc Try.prog w (n + 2) 27 ((cs.drop 36).take (Try.prog.cellsOf 27)) := hf 5 _ rfl
  have h6 : Okc Try.prog w (n + 2) 29 ((cs.drop 37).take (Try.prog.cellsOf 29)) := hf 6 _ rfl
  rw [str_cells] at h0
  rw [int_cells] at h1 h2
  rw [type_cells] at h3
  rw [hash_cells] at h4
  rw [u64_cells] at h5
  rw [sig_cells] at h6
  obtain ⟨a0, e0, b0⟩ := okc_str h0
  obtain ⟨a1, e1, b1⟩ := okc_i64 Try.underlying3 h1
  obtain ⟨a2, e2, b2⟩ := okc_i64 Try.underlying3 h2
  obtain ⟨a3, e3, b3⟩ := okc_i64 Try.underlying24 h3
  obtain ⟨a4, e4, b4⟩ := okc_hash h4
  obtain ⟨a5, e5, b5⟩ := okc_u64 h5
  obtain ⟨a6, a7, e6, b6, b7⟩ := okc_sig h6
  refine ⟨⟨a0, a1, a2, a3, a4, a5, a6, a7⟩, ?_, ⟨b0, b1, b2, b3, b4, b5, b6, b7⟩⟩
  have c0 := cut cs 0 1 1 rfl
  have c1 := cut cs 1 1 2 rfl
  have c2 := cut cs 2 1 3 rfl
  have c3 := cut cs 3 1 4 rfl
  have c4 := cut cs 4 32 36 rfl
  have c5 := cut cs 36 1 37 rfl
  have c6 := cut cs 37 2 39 rfl
  rw [e6, List.drop_of_length_le (i := 39) (by omega)] at c6
  rw [e5, c6] at c5
  rw [e4, c5] at c4
  rw [e3, c4] at c3
  rw [e2, c3] at c2
  rw [e1, c2] at c1
  rw [e0, c1] at c0
  exact c0
/-- A struct's cells. -/
theorem agg_arg {w : World} {t : TypeId} {fs : Array Field} {v : Value} (hu : Try.prog.underlying t = some (.struct fs)) (h : Okv Try.prog w t v) : ∃ cs, v = .agg cs ∧ ∀ n, Okc Try.prog w n t cs.toList := by
  obtain ⟨hv, ho⟩ := h
  simp only [hu] at hv
  obtain ⟨cs, rfl⟩ := hv
  exact ⟨cs, rfl, ho⟩
theorem vote_arg {w : World} {v : Value} (h : Okv Try.prog w 31 v) : ∃ x : Vt, v = .agg x.cells.toArray ∧ x.Ok := by
  obtain ⟨cs, rfl, ho⟩ := agg_arg Try.underlying31 h
  obtain ⟨x, hx, ox⟩ := vote_of (ho 3)
  exact ⟨x, by rw [← hx], ox⟩
theorem packet_cells : Try.prog.cellsOf 40 = 4 := by kernel_rfl
theorem packet_of {w : World} {n : Nat} {cs : List Value} (h : Okc Try.prog w (n + 2) 40 cs) : ∃ x : Pk, cs = x.cells ∧ x.Ok := by
  unfold Okc at h
  simp only [Try.underlying40] at h
  obtain ⟨hl, hf⟩ := h
  rw [packet_cells] at hl
  have h0 : Okc Try.prog w (n + 1) 3 ((cs.drop 0).take (Try.prog.cellsOf 3)) := hf 0 _ rfl
  have h1 : Okc Try.prog w (n + 1) 9 ((cs.drop 1).take (Try.prog.cellsOf 9)) := hf 1 _ rfl
  have h2 : Okc Try.prog w (n + 1) 9 ((cs.drop 2).take (Try.prog.cellsOf 9)) := hf 2 _ rfl
  have h3 : Okc Try.prog w (n + 1) 3 ((cs.drop 3).take (Try.prog.cellsOf 3)) := hf 3 _ rfl
  rw [str_cells] at h1 h2
  rw [int_cells] at h0 h3
  obtain ⟨a0, e0, b0⟩ := okc_i64 Try.underlying3 h0
  obtain ⟨a1, e1, b1⟩ := okc_str h1
  obtain ⟨a2, e2, b2⟩ := okc_str h2
  obtain ⟨a3, e3, b3⟩ := okc_i64 Try.underlying3 h3
  refine ⟨⟨a0, a1, a2, a3⟩, ?_, ⟨b0, b1, b2, b3⟩⟩
  have c0 := cut cs 0 1 1 rfl
  have c1 := cut cs 1 1 2 rfl
  have c2 := cut cs 2 1 3 rfl
  have c3 := cut cs 3 1 4 rfl
  rw [e3, List.drop_of_length_le (i := 4) (by omega)] at c3
  rw [e2, c3] at c2
  rw [e1, c2] at c1
  rw [e0, c1] at c0
  exact c0
theorem packet_arg {w : World} {v : Value} (h : Okv Try.prog w 40 v) : ∃ x : Pk, v = .agg x.cells.toArray ∧ x.Ok := by
  obtain ⟨cs, rfl, ho⟩ := agg_arg Try.underlying40 h
  obtain ⟨x, hx, ox⟩ := packet_of (ho 2)
  exact ⟨x, by rw [← hx], ox⟩
end Go.Proofs.Ytgonbmcfeehfaaa

/- Package forms: decoded[api.Light]. -/
namespace Go.Proofs.Ytgonbmcfeehfaaa
open Go.RowKit
set_option linter.unusedVariables false
set_option linter.unusedSimpArgs false
set_option maxRecDepth 20000


def Lt.zero : Lt := ⟨Hd.zero, ⟨0, 0, noH, []⟩, [], []⟩
def ltz : List Value := Lt.zero.cells (.slice none 0 0) (.slice none 0 0) (.slice none 0 0)
theorem Lt.one (x : Lt) (n1 n2 n3 : Nat) : ∀ v ∈ x.cells (sl n1 x.commit.seals.length) (sl n2 x.set.length) (sl n3 x.next.length), v.oneCell' = true := by
  intro v hv
  simp only [Lt.cells, Cm.cells, List.mem_append, List.mem_cons, List.not_mem_nil, or_false] at hv
  rcases hv with h | ((rfl | rfl) | h | rfl) | rfl | rfl <;> first | rfl | exact bv_one _ _ h | exact x.header.one _ h
theorem ltz_one : ∀ v ∈ ltz, v.oneCell' = true := by
  intro v hv
  simp only [ltz, Lt.cells, Cm.cells, List.mem_append, List.mem_cons, List.not_mem_nil, or_false] at hv
  rcases hv with h | ((rfl | rfl) | h | rfl) | rfl | rfl <;> first | rfl | exact bv_one _ _ h | exact Hd.one _ _ h
theorem dLight_len {st : St} {y : Lt × St} (h : dLight st = some y) (a b c : Value) : (y.1.cells a b c).length = 200 := by
  unfold dLight at h
  simp only [Option.bind_eq_some_iff, Option.some.injEq, Prod.exists] at h
  obtain ⟨s1, h1, hd, s2, h2, cm, s3, h3, s, s4, h4, n, s5, h5, rfl⟩ := h
  have e1 := dHeader_len h2
  have e2 := dCommit_len h3 a
  simp only at e1 e2
  simp [Lt.cells, e1, e2]
theorem dLight.zlen : ltz.length = 200 := by rfl

end Go.Proofs.Ytgonbmcfeehfaaa

/- Package forms: list[nuncio/api.Seal], written. -/
namespace Go.Proofs.Ytgonbmcfeehfaaa
open Go.RowKit
set_option linter.unusedVariables false
set_option linter.unusedSimpArgs false
set_option maxRecDepth 20000

end Go.Proofs.Ytgonbmcfeehfaaa

/- Package forms: list[nuncio/api.Validator], written. -/
namespace Go.Proofs.Ytgonbmcfeehfaaa
open Go.RowKit
set_option linter.unusedVariables false
set_option linter.unusedSimpArgs false
set_option maxRecDepth 20000

end Go.Proofs.Ytgonbmcfeehfaaa

/- Package forms: validators and sets, written. -/
namespace Go.Proofs.Ytgonbmcfeehfaaa
open Go.RowKit
set_option linter.unusedVariables false
set_option linter.unusedSimpArgs false
set_option maxRecDepth 20000

/-- A list's elements lie from A on, in memory that is not the writer's. -/
def LstW {α : Type} (w : World) (g : Nat) (v : Value) (A : Option Addr) (l : List α) (cells : α → List Value) (sz : Nat) : Prop :=
  ∀ (i : Nat) (x : α), l[i]? = some x → ∃ eb eo, A = some ⟨eb, eo, none⟩ ∧ ¬ Wft g v eb ∧ eb < w.heap.size ∧ w.rangeAt eb (eo + i * sz) (cells x)
theorem LstW.chg {α : Type} {w w' : World} {g : Nat} {v : Value} {A : Option Addr} {l : List α} {cells : α → List Value} {sz : Nat} (h : LstW w g v A l cells sz) (k : Chg Non w w') : LstW w' g v A l cells sz := by
  intro i x hx
  obtain ⟨eb, eo, e, h1, h2, h3⟩ := h i x hx
  exact ⟨eb, eo, e, h1, Nat.lt_of_lt_of_le h2 k.size, k.range' h3 (fun f => f)⟩
theorem LstW.later {α : Type} {B w : World} {g : Nat} {v v' : Value} {l0 : List UInt8} {A : Option Addr} {l : List α} {cells : α → List Value} {sz : Nat} (h : LstW B g v A l cells sz) (S : Wst B g v l0 w v') : LstW w g v' A l cells sz := by
  intro i x hx
  obtain ⟨eb, eo, e, h1, h2, h3⟩ := h i x hx
  exact ⟨eb, eo, e, S.nw h1 h2, Nat.lt_of_lt_of_le h2 S.chg.size, S.range h3 h1⟩
theorem okAt_get {α : Type} {p : α → Bool} {l : List α} {i : Nat} {x : α} (h : l[i]? = some x) : okAt p l i = p x := by unfold okAt; rw [h]; rfl
theorem bsAt_get {α : Type} {f : α → List UInt8} {l : List α} {i : Nat} {x : α} (h : l[i]? = some x) : bsAt f l i = f x := by unfold bsAt; rw [h]; rfl
end Go.Proofs.Ytgonbmcfeehfaaa

/- Package forms: seals and commits, written. -/
namespace Go.Proofs.Ytgonbmcfeehfaaa
open Go.RowKit
set_option linter.unusedVariables false
set_option linter.unusedSimpArgs false
set_option maxRecDepth 20000
end Go.Proofs.Ytgonbmcfeehfaaa

/- Package forms: headers, written: contracts. -/
namespace Go.Proofs.Ytgonbmcfeehfaaa
open Go.RowKit
set_option linter.unusedVariables false
set_option linter.unusedSimpArgs false
set_option maxRecDepth 20000
set_option maxHeartbeats 1600000 in
theorem header_w (g : Nat) (l : List UInt8) (w : World) (v : Value) (b o : Nat) (x : Hd) (h : Wri w g v (some l)) (hc : w.rangeAt b o x.cells) (hb : ¬ Wft g v b) (hbl : b < w.heap.size) (ox : x.Ok) (hl : l.length ≤ 100000) :
    Calls Try.prog 21 #[.agg #[.pointer (some ⟨g, 0, none⟩), .pointer none], .pointer (some ⟨b, o, none⟩)] w (WO w g v x.right (l ++ x.enc)) := by
  have S0 := (Wst.here h).non ((Chg.refl Non w).alloc (.cells #[.pointer (some ⟨g, 0, none⟩), .pointer none] 86))
  have R0 := ((Chg.refl Non w).alloc (.cells #[.pointer (some ⟨g, 0, none⟩), .pointer none] 86)).range' hc (fun f => f)
  have hw := h.nnew (Nat.le_refl w.heap.size)
  have hx := Hb.new w 86 #[.pointer (some ⟨g, 0, none⟩), .pointer none]
  have hx0 : (w.alloc (.cells #[.pointer (some ⟨g, 0, none⟩), .pointer none] 86)).cell? ⟨w.heap.size, 0, none⟩ = some (.pointer (some ⟨g, 0, none⟩)) := hx.cell 0
  have hx1 : (w.alloc (.cells #[.pointer (some ⟨g, 0, none⟩), .pointer none] 86)).cell? ⟨w.heap.size, 1, none⟩ = some (.pointer none) := hx.cell 1
  have hBl : b < (w.alloc (.cells #[.pointer (some ⟨g, 0, none⟩), .pointer none] 86)).heap.size := by simp; omega
  have hBw : w.heap.size < (w.alloc (.cells #[.pointer (some ⟨g, 0, none⟩), .pointer none] 86)).heap.size := by simp
  have S1 := Wst.here (S0.wri)
  obtain ⟨B, hB⟩ : ∃ B, B = w.alloc (.cells #[.pointer (some ⟨g, 0, none⟩), .pointer none] 86) := ⟨_, rfl⟩
  obtain ⟨f0, f1, f2, f3, f4, f5, f6, f7⟩ := hd_facts R0 ox
  rw [← hB] at f0 f1 f2 f3 f4 f5 f6 f7
  generalize hok : x.right = ok
  have HOK := Lib.hid hok
  clear hok hx hc
  go_enter Try.func21, Try.ntmps21
  go_wp2_with fail
  rw [← hB] at S0 R0 hx0 hx1 hBl hBw S1 ⊢
  clear hB
  have x0 := S1.cell hx0 hw
  have x1 := S1.cell hx1 hw
  have hwn := S1.nw hw hBw
  go_wp2_with (first | (go_at_call 39; refine (begin_w g l _ v 2 S1.wri ⟨by omega, by omega⟩ (by omega)).mono ?_; rintro e w2 h2; obtain ⟨rfl, v2, T2⟩ := h2) | fail)
  have S2 := S1.trans T2
  clear T2 x0 x1 hwn
  go_wp2_with fail
  have D3 := S2.non ((Chg.refl Non w2).drew)
  have x0 := D3.cell hx0 hw
  have x1 := D3.cell hx1 hw
  have hwn := D3.nw hw hBw
  go_region_held (fun w' => w'.cell? ⟨w.heap.size, 0, none⟩ = some (.pointer (some ⟨g, 0, none⟩)) ∧ w'.cell? ⟨w.heap.size, 1, none⟩ = some (.pointer none)) (first | exact ⟨y0, y1⟩ | exact ⟨x0, x1⟩ | assumption) (first | (go_at_call 40; go_loud (refine (name_w g _ _ v2 b o x.chain D3.wri (D3.cell f0 hb) (D3.nw hb hBl) ox.chain (by simp [be_length, num_length, tx_length, bytes_len]; omega)).mono ?_; rintro e w3 h3; have y0 := h3.chg.cell x0 hwn; have y1 := h3.chg.cell x1 hwn; rcases h3.cases with ⟨k3, he, C⟩ | ⟨k3, he, v3, T3⟩; (subst he; obtain rfl : ok = false := HOK.out.symm.trans (by simp [Hd.right, k3]); exact ⟨rfl, rfl, S0.chg.trans (D3.chg.trans C D3.wft) S0.wft⟩); subst he)) | fail)
  have S3 := D3.trans T3
  clear D3 T3 x0 x1 hwn y0 y1
  clear h3
  go_wp2_with fail
  have D4 := S3.non ((Chg.refl Non w3).drew)
  have x0 := D4.cell hx0 hw
  have x1 := D4.cell hx1 hw
  have hwn := D4.nw hw hBw
  go_region_held (fun w' => w'.cell? ⟨w.heap.size, 0, none⟩ = some (.pointer (some ⟨g, 0, none⟩)) ∧ w'.cell? ⟨w.heap.size, 1, none⟩ = some (.pointer none)) (first | exact ⟨y0, y1⟩ | exact ⟨x0, x1⟩ | assumption) (first | (go_at_call 41; go_loud (refine (height_w g _ _ v3 b (o + 1) x.height D4.wri (D4.cell f1 hb) (D4.nw hb hBl) ox.height (by simp [be_length, num_length, tx_length, bytes_len]; have := nameOk_size k3; omega)).mono ?_; rintro e w4 h4; have y0 := h4.chg.cell x0 hwn; have y1 := h4.chg.cell x1 hwn; rcases h4.cases with ⟨k4, he, C⟩ | ⟨k4, he, v4, T4⟩; (subst he; obtain rfl : ok = false := HOK.out.symm.trans (by simp [Hd.right, k3, k4]); exact ⟨rfl, rfl, S0.chg.trans (D4.chg.trans C D4.wft) S0.wft⟩); subst he)) | fail)
  have S4 := D4.trans T4
  clear D4 T4 x0 x1 hwn y0 y1
  clear h4
  go_wp2_with fail
  have D5 := S4.non ((Chg.refl Non w4).drew)
  have x0 := D5.cell hx0 hw
  have x1 := D5.cell hx1 hw
  have hwn := D5.nw hw hBw
  go_region_held (fun w' => w'.cell? ⟨w.heap.size, 0, none⟩ = some (.pointer (some ⟨g, 0, none⟩)) ∧ w'.cell? ⟨w.heap.size, 1, none⟩ = some (.pointer none)) (first | exact ⟨y0, y1⟩ | exact ⟨x0, x1⟩ | assumption) (first | (go_at_call 56; go_loud (refine (numberI_w g _ _ v4 b (o + 2) x.time 0 1099511627776 D5.wri (D5.cell f2 hb) (D5.nw hb hBl) ox.time (by simp [be_length, num_length, tx_length, bytes_len]; have := nameOk_size k3; omega)).mono ?_; rintro e w5 h5; have y0 := h5.chg.cell x0 hwn; have y1 := h5.chg.cell x1 hwn; rcases h5.cases with ⟨k5, he, C⟩ | ⟨k5, he, v5, T5⟩; (subst he; obtain rfl : ok = false := HOK.out.symm.trans (by simp [Hd.right, k3, k4, k5]); exact ⟨rfl, rfl, S0.chg.trans (D5.chg.trans C D5.wft) S0.wft⟩); subst he)) | fail)
  have S5 := D5.trans T5
  clear D5 T5 x0 x1 hwn y0 y1
  clear h5
  go_wp2_with fail
  have D6 := S5.non ((Chg.refl Non w5).drew)
  have x0 := D6.cell hx0 hw
  have x1 := D6.cell hx1 hw
  have hwn := D6.nw hw hBw
  go_region_held (fun w' => w'.cell? ⟨w.heap.size, 0, none⟩ = some (.pointer (some ⟨g, 0, none⟩)) ∧ w'.cell? ⟨w.heap.size, 1, none⟩ = some (.pointer none)) (first | exact ⟨y0, y1⟩ | exact ⟨x0, x1⟩ | assumption) (first | (go_at_call 44; go_loud (refine (hash_w g _ _ v5 b (o + 3) x.last ox.last D6.wri (D6.range f3 hb) (D6.nw hb hBl) (by simp [be_length, num_length, tx_length, bytes_len]; have := nameOk_size k3; omega)).mono ?_; rintro e w6 h6; have y0 := h6.chg.cell x0 hwn; have y1 := h6.chg.cell x1 hwn; obtain ⟨rfl, v6, T6⟩ := h6)) | fail)
  have S6 := D6.trans T6
  clear D6 T6 x0 x1 hwn y0 y1
  go_wp2_with fail
  have D7 := S6.non ((Chg.refl Non w6).drew)
  have x0 := D7.cell hx0 hw
  have x1 := D7.cell hx1 hw
  have hwn := D7.nw hw hBw
  go_region_held (fun w' => w'.cell? ⟨w.heap.size, 0, none⟩ = some (.pointer (some ⟨g, 0, none⟩)) ∧ w'.cell? ⟨w.heap.size, 1, none⟩ = some (.pointer none)) (first | exact ⟨y0, y1⟩ | exact ⟨x0, x1⟩ | assumption) (first | (go_at_call 44; go_loud (refine (hash_w g _ _ v6 b (o + 35) x.set ox.set D7.wri (D7.range f4 hb) (D7.nw hb hBl) (by simp [be_length, num_length, tx_length, bytes_len, ox.last]; have := nameOk_size k3; omega)).mono ?_; rintro e w7 h7; have y0 := h7.chg.cell x0 hwn; have y1 := h7.chg.cell x1 hwn; obtain ⟨rfl, v7, T7⟩ := h7)) | fail)
  have S7 := D7.trans T7
  clear D7 T7 x0 x1 hwn y0 y1
  go_wp2_with fail
  have D8 := S7.non ((Chg.refl Non w7).drew)
  have x0 := D8.cell hx0 hw
  have x1 := D8.cell hx1 hw
  have hwn := D8.nw hw hBw
  go_region_held (fun w' => w'.cell? ⟨w.heap.size, 0, none⟩ = some (.pointer (some ⟨g, 0, none⟩)) ∧ w'.cell? ⟨w.heap.size, 1, none⟩ = some (.pointer none)) (first | exact ⟨y0, y1⟩ | exact ⟨x0, x1⟩ | assumption) (first | (go_at_call 44; go_loud (refine (hash_w g _ _ v7 b (o + 67) x.next ox.next D8.wri (D8.range f5 hb) (D8.nw hb hBl) (by simp [be_length, num_length, tx_length, bytes_len, ox.last, ox.set]; have := nameOk_size k3; omega)).mono ?_; rintro e w8 h8; have y0 := h8.chg.cell x0 hwn; have y1 := h8.chg.cell x1 hwn; obtain ⟨rfl, v8, T8⟩ := h8)) | fail)
  have S8 := D8.trans T8
  clear D8 T8 x0 x1 hwn y0 y1
  go_wp2_with fail
  have D9 := S8.non ((Chg.refl Non w8).drew)
  have x0 := D9.cell hx0 hw
  have x1 := D9.cell hx1 hw
  have hwn := D9.nw hw hBw
  go_region_held (fun w' => w'.cell? ⟨w.heap.size, 0, none⟩ = some (.pointer (some ⟨g, 0, none⟩)) ∧ w'.cell? ⟨w.heap.size, 1, none⟩ = some (.pointer none)) (first | exact ⟨y0, y1⟩ | exact ⟨x0, x1⟩ | assumption) (first | (go_at_call 44; go_loud (refine (hash_w g _ _ v8 b (o + 99) x.data ox.data D9.wri (D9.range f6 hb) (D9.nw hb hBl) (by simp [be_length, num_length, tx_length, bytes_len, ox.last, ox.set, ox.next]; have := nameOk_size k3; omega)).mono ?_; rintro e w9 h9; have y0 := h9.chg.cell x0 hwn; have y1 := h9.chg.cell x1 hwn; obtain ⟨rfl, v9, T9⟩ := h9)) | fail)
  have S9 := D9.trans T9
  clear D9 T9 x0 x1 hwn y0 y1
  go_wp2_with fail
  have D10 := S9.non ((Chg.refl Non w9).drew)
  have x0 := D10.cell hx0 hw
  have x1 := D10.cell hx1 hw
  have hwn := D10.nw hw hBw
  go_region_held (fun w' => w'.cell? ⟨w.heap.size, 0, none⟩ = some (.pointer (some ⟨g, 0, none⟩)) ∧ w'.cell? ⟨w.heap.size, 1, none⟩ = some (.pointer none)) (first | exact ⟨y0, y1⟩ | exact ⟨x0, x1⟩ | assumption) (first | (go_at_call 44; go_loud (refine (hash_w g _ _ v9 b (o + 131) x.app ox.app D10.wri (D10.range f7 hb) (D10.nw hb hBl) (by simp [be_length, num_length, tx_length, bytes_len, ox.last, ox.set, ox.next, ox.data]; have := nameOk_size k3; omega)).mono ?_; rintro e w10 h10; have y0 := h10.chg.cell x0 hwn; have y1 := h10.chg.cell x1 hwn; obtain ⟨rfl, v10, T10⟩ := h10)) | fail)
  have S10 := D10.trans T10
  clear D10 T10 x0 x1 hwn y0 y1
  obtain rfl : ok = true := HOK.out.symm.trans (by simp [Hd.right, k3, k4, k5])
  go_wp2
  go_end0
  refine ⟨rfl, v10, ?_⟩
  have S := S0.trans S10
  simpa [Hd.enc, List.append_assoc] using S

end Go.Proofs.Ytgonbmcfeehfaaa

/- Package forms: light blocks, written. -/
namespace Go.Proofs.Ytgonbmcfeehfaaa
open Go.RowKit
set_option linter.unusedVariables false
set_option linter.unusedSimpArgs false
set_option maxRecDepth 20000

theorem Hd.enc_len (x : Hd) (h : x.right = true) (ox : x.Ok) : x.enc.length ≤ 1000 := by
  unfold Hd.right at h
  simp only [Bool.and_eq_true] at h
  have := nameOk_size h.1
  unfold Hd.enc
  simp [num_length, tx_length, ox.last, ox.set, ox.next, ox.data, ox.app]
  have e1 : x.chain.data.size = x.chain.size := rfl
  omega
theorem flat_len {α : Type} (f : α → List UInt8) (m : Nat) (hf : ∀ x, (f x).length ≤ m) : ∀ l : List α, (l.flatMap f).length ≤ l.length * m
  | [] => by simp
  | x :: l => by
    have h1 := flat_len f m hf l
    have h2 := hf x
    simp only [List.flatMap_cons, List.length_append, List.length_cons, Nat.succ_mul]
    omega
theorem Se.enc_len (x : Se) : x.enc.length ≤ 24 := by simp [Se.enc, be_length]
theorem Va.enc_len (x : Va) : x.enc.length ≤ 16 := by simp [Va.enc, be_length, num_length]
theorem Cm.enc_len (x : Cm) (h : x.right = true) (ox : x.Ok) : x.enc.length ≤ 3000 := by
  unfold Cm.right at h
  simp only [Bool.and_eq_true] at h
  have h3 := (inR_iff.1 h.2.2).2
  have h4 := flat_len Se.enc 24 Se.enc_len x.seals
  unfold Cm.enc encL
  simp only [List.length_append, num_length, ox.block]
  omega
theorem set_len (l : List Va) (h : setRight l = true) : (setEnc l).length ≤ 3000 := by
  have h3 := (inR_iff.1 h).2
  have h4 := flat_len Va.enc 16 Va.enc_len l
  unfold setEnc encL
  simp only [List.length_append, num_length]
  omega
theorem Lt.enc_len (x : Lt) (h : x.right = true) (ox : x.Ok) : x.enc.length ≤ 100000 := by
  unfold Lt.right at h
  simp only [Bool.and_eq_true] at h
  have h1 := x.header.enc_len h.1 ox.header
  have h2 := x.commit.enc_len h.2.1 ox.commit
  have h3 := set_len x.set h.2.2.1
  have h4 := set_len x.next h.2.2.2
  unfold Lt.enc
  simp only [List.length_append, num_length]
  omega
theorem Hd.cells_len (x : Hd) (ox : x.Ok) : x.cells.length = 163 := by
  unfold Hd.cells
  simp [bv_length, ox.last, ox.set, ox.next, ox.data, ox.app]
theorem Cm.cells_len (x : Cm) (ox : x.Ok) (a : Value) : (x.cells a).length = 35 := by
  unfold Cm.cells
  simp [bv_length, ox.block]
end Go.Proofs.Ytgonbmcfeehfaaa

/- Package forms: EncodeLight, DecodeLight. -/
namespace Go.Proofs.Ytgonbmcfeehfaaa
open Go.RowKit
set_option linter.unusedVariables false
set_option linter.unusedSimpArgs false
set_option maxRecDepth 20000

/-- A list's elements lie from A on. -/
def LstM {α : Type} (w : World) (A : Option Addr) (l : List α) (cells : α → List Value) (sz : Nat) : Prop :=
  ∀ (i : Nat) (x : α), l[i]? = some x → ∃ eb eo, A = some ⟨eb, eo, none⟩ ∧ eb < w.heap.size ∧ w.rangeAt eb (eo + i * sz) (cells x)
theorem LstM.chg {α : Type} {w w' : World} {A : Option Addr} {l : List α} {cells : α → List Value} {sz : Nat} (h : LstM w A l cells sz) (k : Chg Non w w') : LstM w' A l cells sz := by
  intro i x hx
  obtain ⟨eb, eo, e, h2, h3⟩ := h i x hx
  exact ⟨eb, eo, e, Nat.lt_of_lt_of_le h2 k.size, k.range' h3 (fun f => f)⟩
theorem LstM.not {α : Type} {w w' : World} {A : Option Addr} {l : List α} {cells : α → List Value} {sz : Nat} (h : LstM w A l cells sz) (k : Chg Non w w') {g : Nat} (hg : w.heap.size ≤ g) : LstW w' g (.slice none 0 0) A l cells sz := by
  intro i x hx
  obtain ⟨eb, eo, e, h2, h3⟩ := h i x hx
  exact ⟨eb, eo, e, (by rintro (h | h); omega; cases h), Nat.lt_of_lt_of_le h2 k.size, k.range' h3 (fun f => f)⟩
theorem flat_get {α : Type} {cells : α → List Value} {sz : Nat} (hc : ∀ x, (cells x).length = sz) : ∀ (l : List α) (i : Nat) (x : α), l[i]? = some x → ∀ (j : Nat) (u : Value), (cells x)[j]? = some u → (l.flatMap cells)[i * sz + j]? = some u
  | [], i, x, h, _, _, _ => by simp at h
  | y :: l, 0, x, h, j, u, hu => by
    simp only [List.getElem?_cons_zero, Option.some.injEq] at h
    subst h
    rw [Nat.zero_mul, Nat.zero_add, List.flatMap_cons, List.getElem?_append_left (List.getElem?_eq_some_iff.1 hu).1]
    exact hu
  | y :: l, i + 1, x, h, j, u, hu => by
    rw [List.flatMap_cons, List.getElem?_append_right (by rw [hc, Nat.succ_mul]; omega), hc]
    have e : (i + 1) * sz + j - sz = i * sz + j := by rw [Nat.succ_mul]; omega
    rw [e]
    exact flat_get hc l i x (by simpa using h) j u hu
/-- A new block of elements. -/
theorem lstM_new {α : Type} {w : World} {n : Nat} {t : TypeId} {l : List α} {cells : α → List Value} {sz : Nat} (hc : ∀ x, (cells x).length = sz) (h : Hb w n t (l.flatMap cells).toArray) : LstM w (some ⟨n, 0, none⟩) l cells sz := by
  intro i x hx
  refine ⟨n, 0, rfl, h.lt, fun j u hu => ?_⟩
  rw [Nat.zero_add, h.cell]
  simpa using flat_get hc l i x hx j u hu

end Go.Proofs.Ytgonbmcfeehfaaa
