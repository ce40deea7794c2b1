import Derived.Test.YtgonbmcfeehfaaaChecked
import Derived.WalkKit
import Derived.WalkLawsBesides
import Derived.Lib.Hide
import Derived.Recover
import Derived.Deep.QuietTactic
import Derived.BigQuiet
import Derived.Laws.Tables
import Derived.Deep.MidRow
import Derived.Test.YtgonbmcfeehfaaaMFormReads4
import Derived.Test.YtgonbmcfeehfaaaMFormReads5
import Derived.Test.YtgonbmcfeehfaaaMFormReads6
import Derived.Test.YtgonbmcfeehfaaaMFormReads8
import Derived.Test.YtgonbmcfeehfaaaMFormReads9
import Derived.Test.YtgonbmcfeehfaaaMFormReads10
/- Package forms: decoded[nuncio/api.Header]. -/
namespace Go.Proofs.Ytgonbmcfeehfaaa
open Go.RowKit
set_option linter.unusedVariables false
set_option linter.unusedSimpArgs false
set_option maxRecDepth 20000


theorem dHeader.row : (Try.prog.info? 36).map (·.size) = some 163 := by kernel_rfl
theorem dHeader.alloc0 (w : World) : (Instr.alloc 36 true (.tuple #[])).run Try.prog w = .ok (.pointer (some ⟨w.heap.size, 0, none⟩)) (w.alloc (.cells (Hd.zero.cells).toArray 36)) := by kernel_rfl
theorem dHeader.zlen : (Hd.zero.cells).length = 163 := by rfl

theorem catchDP_Header (w : World) (p q : Nat) (L : List Value) (y : Value) (v : Value) (u : TypeId) (older : List PanicEntry) (hp : Hb w p 36 L.toArray) (hL : L.length = 163) (hq : Hb w q 32 #[y]) (hpq : q ≠ p) :
    CallsD Try.prog 55 #[.pointer (some ⟨p, 0, none⟩), .pointer (some ⟨q, 0, none⟩)] (.panicking ({ v := .iface u v, recovered := false } :: older)) w fun e u' w' =>
      e = .returned (.tuple #[]) ∧ u' = .panicking ({ v := .iface u v, recovered := true } :: older) ∧ w' = (((w.alloc (.cells (Hd.zero.cells).toArray 36)).setCells p 0 (Hd.zero.cells)).setCell ⟨q, 0, none⟩ (.int .i64 61)) := by
  have hz := dHeader.alloc0 w
  have hzl := dHeader.zlen
  have hrow := dHeader.row
  have hn := Hb.new w 36 (Hd.zero.cells).toArray
  have hp1 := hp.alloc (.cells (Hd.zero.cells).toArray 36)
  have hth := hp1.there0
  rw [hL] at hth
  have hq1 := (hq.alloc (.cells (Hd.zero.cells).toArray 36)).farCells hpq (Hd.zero.cells) 0
  have c1 : _ = some y := hq1.cell 0
  have f1 : _ = false := hq1.frozen 0
  refine callsD_of_wpS Try.func55 rfl fun c₀ cs hu => ?_
  apply wpS_seq
  apply wpS_region
  simp [wpOpsS, go_sem, recoverD, hu, Try.ntmps55, Exit.thenS]
  refine wpS_cond (t := true) (by simp [Act.eval, Array.replicate]) ?_
  simp only [if_true]
  refine wpS_of_wp ?_
  have hone : ∀ v ∈ (Hd.zero.cells), v.oneCell' = true := Hd.one _
  generalize Hd.zero.cells = z at *
  go_wp2_with (first | (with_reducible refine wpList_alloc_row rfl _ rfl z hz ?_) | (with_reducible refine wpList_load_mid rfl 36 _ rfl w.heap.size 0 rfl z _ hn.range0 Try.underlying36 rfl (by rw [hrow, hzl]) ?_) | (with_reducible refine wpList_store_mid rfl 36 _ _ rfl p 0 z.toArray rfl rfl (by rw [List.size_toArray, hzl]; exact hth) (by rw [List.size_toArray, hrow, hzl]) (one_mem hone) ?_))
  exact ⟨rfl, _, rfl, .tuple #[], by simp [results, Try.results55], rfl, rfl, rfl⟩

theorem catchDI_Header (w : World) (p q : Addr) : CallsD Try.prog 55 #[.pointer (some p), .pointer (some q)] .returning w fun e u' w' => e = .returned (.tuple #[]) ∧ u' = .returning ∧ w' = w := by
  refine callsD_of_wpS Try.func55 rfl fun c₀ cs hu => ?_
  apply wpS_seq
  apply wpS_region
  simp [wpOpsS, go_sem, recoverD, hu, Try.ntmps55, Exit.thenS]
  refine wpS_cond (t := false) (by simp [Act.eval, Array.replicate]) ?_
  simp only [Bool.false_eq_true, if_false]
  refine wpS_of_wp (wp_skip ?_)
  cases c₀
  simp_all [bodyPostS, results, Try.results55]

/-- The error's way. -/
theorem decErr_Header (w w2 : World) (h : Chg Non w w2) (L : List Value) (y : Value) (hp : Hb w2 w.heap.size 36 L.toArray) (hL : L.length = 163) (hq : Hb w2 (w.heap.size + 1) 32 #[y]) (r : Option (List Value)) (hr : r = none) (tmps : Array Value)
    (h4 : tmps.getD 4 undef = .pointer (some ⟨w.heap.size, 0, none⟩)) (h5 : tmps.getD 5 undef = .pointer (some ⟨w.heap.size + 1, 0, none⟩)) :
    Leaves Try.prog Try.f20 tmps (Dec w (Hd.zero.cells) r) [{ target := .fn (.func 55) #[.pointer (some ⟨w.heap.size, 0, none⟩), .pointer (some ⟨w.heap.size + 1, 0, none⟩)], args := #[] }] (.panicking bad) w2 := by
  subst hr
  refine leaves_cons (f := 55) (args := #[.pointer (some ⟨w.heap.size, 0, none⟩), .pointer (some ⟨w.heap.size + 1, 0, none⟩)]) (by simp) (by simp [go_sem]) ?_
  refine (catchDP_Header w2 w.heap.size (w.heap.size + 1) L _ _ _ _ hp hL hq (by omega)).mono ?_
  rintro e u' w'' ⟨rfl, rfl, rfl⟩
  have hz : (Hd.zero.cells).length = 163 := dHeader.zlen
  have hb3 := ((hp.alloc (.cells (Hd.zero.cells).toArray 36)).sets0 (L' := Hd.zero.cells) (by rw [hL, hz])).far (p := ⟨w.heap.size + 1, 0, none⟩) (by simp) (.int .i64 61)
  have he3 := ((hq.alloc (.cells (Hd.zero.cells).toArray 36)).farCells (tb := w.heap.size) (by omega) (Hd.zero.cells) 0).set 0 (.int .i64 61)
  refine ⟨_, results_two rfl _ _ _ ⟨w.heap.size, 0, none⟩ ⟨w.heap.size + 1, 0, none⟩ _ _ h4 h5 (load_row hb3 Try.underlying36 rfl (by rw [dHeader.row, hz])) (load_errno (he3.cell 0)), ?_, rfl⟩
  have K := (Chg.setCells (S := fun k => k = w.heap.size ∨ k = w.heap.size + 1) (.inl rfl) (Hd.zero.cells) _ 0 ((Chg.refl _ w2).alloc (.cells (Hd.zero.cells).toArray 36))).setCell (p := ⟨w.heap.size + 1, 0, none⟩) (.inl (.inr rfl)) (.int .i64 61)
  exact h.trans K (fun j hj => .inr (by omega))

theorem decoded_Header (w : World) (A : Option Addr) (n c : Nat) (bs : List UInt8) (r : Option (List Value × St)) (hn : n = bs.length) (hr : Rd w A bs) (hsz : bs.length ≤ 1000000000) (hlen : ∀ L s, r = some (L, s) → L.length = 163 ∧ ∀ v ∈ L, v.oneCell' = true)
    (H : ∀ (w1 : World) (g : Nat) (F : Nat → Prop), Rst w1 g F w.heap.size 36 (Hd.zero.cells) (some bs) w1 → Calls Try.prog 21 #[.agg #[.pointer none, .pointer (some ⟨g, 0, none⟩)], .pointer (some ⟨w.heap.size, 0, none⟩)] w1 (RO w1 g F w.heap.size 36 163 r)) :
    Calls Try.prog 20 #[.slice A n c, .func (.func 21) #[] #[]] w (Dec w (Hd.zero.cells) (whole r)) := by
  have hmf := mkf
  have hC0 := dw_chg w (Hd.zero.cells) 36
  have hb0 := dw_b w (Hd.zero.cells) 36
  have he0 := dw_e w (Hd.zero.cells) 36
  have hz := dHeader.alloc0 w
  have hrow := dHeader.row
  have HN := newReader_any (dw w (Hd.zero.cells) 36) A n c bs hn (hr.chg hC0 (fun _ _ f => f)) hsz
  generalize hR : whole r = R
  have HR := Lib.hid hR
  have HLE := Lib.hid hlen
  have HH := Lib.hid H
  have HNN := Lib.hid HN
  clear hR hlen H HN hn hr
  have hzz := dHeader.zlen
  go_enter_defers Try.func20, Try.ntmps20
  go_wp2_with (first | (with_reducible refine wpList_alloc_row rfl _ rfl (Hd.zero.cells) hz ?_))
  have hdw : dw w (Hd.zero.cells) 36 = (w.alloc (.cells (Hd.zero.cells).toArray 36)).alloc (.cells #[.int .i64 0] 32) := rfl
  rw [← hdw]
  have hds : (dw w (Hd.zero.cells) 36).heap.size = w.heap.size + 2 := by rw [hdw]; simp
  clear hdw
  generalize dw w (Hd.zero.cells) 36 = w0 at *
  refine HNN.out.mono ?_
  rintro e w1 ⟨g, F, rfl, hR1, hg, hF, hC1⟩
  have hb1 := hb0.chg hC1 (fun f => f)
  have he1 := he0.chg hC1 (fun f => f)
  have S1 : Rst w1 g F w.heap.size 36 (Hd.zero.cells) (some bs) w1 := ⟨hR1, hb1, Chg.refl _ _, by omega, fun h => by have := hF _ h; omega⟩
  have H1 := HH.out w1 g F S1
  have hne : ¬ Two g w.heap.size (w.heap.size + 1) := by rintro (h | h) <;> omega
  have hn01 : Chg Non w w1 := hC0.trans hC1 (fun _ f => f.elim)
  clear HNN hb0 he0 hC0 hC1 HH S1
  go_wp2_with fail
  refine H1.mono ?_
  rintro e w2 h2
  have he2 := he1.chg h2.chg hne
  have hn02 : Chg Non w w2 := hn01.trans h2.chg (fun j hj => .inr (by rcases hj with rfl | rfl <;> omega))
  clear H1 he1 hb1
  rcases h2.cases with ⟨k, rfl, _, L', hL1, hL2⟩ | ⟨⟨L, s⟩, k, rfl, T⟩
  · have hRn : R = none := HR.out.symm.trans (by rw [k]; rfl)
    go_wp2
    refine decErr_Header w w2 hn02 L' _ hL2 hL1 he2 _ rfl _ ?_ ?_ <;> rfl
  · obtain ⟨hLn, hL1⟩ := HLE.out L s k
    clear HLE h2
    go_wp2_with fail
    refine (endR_any _ g F s T.rdr).mono ?_
    rintro e w3 ⟨rfl, rfl⟩
    have hb2 : Hb _ w.heap.size 36 L.toArray := T.row
    by_cases hs : s = some []
    · have hRs : R = some L := HR.out.symm.trans (by rw [k, hs]; rfl)
      have hev : endv s = 0 := by unfold endv; rw [if_pos hs]
      have hth := hb2.there0
      rw [hLn] at hth
      have hLs : L.toArray.size = 163 := by rw [List.size_toArray, hLn]
      rw [hev]
      have hb3 := hb2.sets0 (L' := L) rfl
      have he3 := he2.farCells (tb := w.heap.size) (by omega) L 0
      have c3 : _ = some (Value.int .i64 0) := he3.cell 0
      have f3 : _ = false := he3.frozen 0
      have hrg := hb2.range0
      clear hev hs HR
      go_wp2_with (first | (go_at_call 37; refine (insist_yes _).mono ?_; rintro e w5 ⟨rfl, rfl⟩) | (with_reducible refine wpList_load_mid rfl 36 _ rfl w.heap.size 0 rfl L _ hrg Try.underlying36 rfl (by rw [hrow, hLn]) ?_; refine wpList_store_mid rfl 36 _ _ rfl w.heap.size 0 L.toArray rfl rfl (by rw [hLs]; exact hth) (by rw [hLs, hrow]) (one_mem hL1) ?_) | (with_reducible refine wpList_store_mid rfl 36 _ _ rfl w.heap.size 0 L.toArray rfl rfl (by rw [hLs]; exact hth) (by rw [hLs, hrow]) (one_mem hL1) ?_))
      refine leaves_cons (f := 55) (args := #[.pointer (some ⟨w.heap.size, 0, none⟩), .pointer (some ⟨w.heap.size + 1, 0, none⟩)]) (by simp) (by simp [go_sem]) ?_
      refine (catchDI_Header _ ⟨w.heap.size, 0, none⟩ ⟨w.heap.size + 1, 0, none⟩).mono ?_
      rintro e u' w'' ⟨rfl, rfl, rfl⟩
      have hb4 := hb3.far (p := ⟨w.heap.size + 1, 0, none⟩) (by simp) (.int .i64 0)
      have he4 := he3.set 0 (.int .i64 0)
      refine ⟨_, results_two rfl _ _ _ ⟨w.heap.size, 0, none⟩ ⟨w.heap.size + 1, 0, none⟩ _ _ rfl rfl (load_row hb4 Try.underlying36 rfl (by rw [hrow, hLn])) (load_errno (he4.cell 0)), ?_, by rw [hRs]; rfl⟩
      exact hn02.trans ((Chg.setCells (S := fun k => k = w.heap.size ∨ k = w.heap.size + 1) (.inl rfl) L _ 0 (Chg.refl _ _)).setCell (p := ⟨w.heap.size + 1, 0, none⟩) (.inl (.inr rfl)) (.int .i64 0)) (fun j hj => .inr (by omega))
    · have hRn : R = none := HR.out.symm.trans (by
        rw [k]
        match s, hs with
        | none, _ => rfl
        | some (_ :: _), _ => rfl)
      have hev : endv s = 21 := by unfold endv; rw [if_neg hs]
      rw [hev]
      clear hev hs HR
      go_wp2_with (go_at_call 37; refine (insist_no _).mono ?_; rintro e w5 ⟨rfl, rfl⟩)
      refine decErr_Header w _ hn02 L _ hb2 hLn he2 _ rfl _ ?_ ?_ <;> rfl
end Go.Proofs.Ytgonbmcfeehfaaa

/- Package forms: EncodeHeader, DecodeHeader. -/
namespace Go.Proofs.Ytgonbmcfeehfaaa
open Go.RowKit
set_option linter.unusedVariables false
set_option linter.unusedSimpArgs false
set_option maxRecDepth 20000

theorem dHeader.r (st : St) : ∀ (L : List Value) (s : St), (dHeader st).map (fun y => ([] ++ (y.1.cells ++ []), y.2)) = some (L, s) → L.length = 163 ∧ ∀ v ∈ L, v.oneCell' = true := by
  intro L s h
  obtain ⟨y, hy, h2⟩ := Option.map_eq_some_iff.1 h
  simp only [Prod.mk.injEq, List.nil_append, List.append_nil] at h2
  obtain ⟨rfl, _⟩ := h2
  exact ⟨dHeader_len hy, y.1.one⟩
theorem DecodeHeader_any (w : World) (A : Option Addr) (n c : Nat) (bs : List UInt8) (hn : n = bs.length) (hr : Rd w A bs) (hsz : bs.length ≤ 1000000000) : Calls Try.prog 7 #[.slice A n c] w (Dec w Hd.zero.cells ((whole (dHeader (some bs))).map Hd.cells)) := by
  have hz := dHeader.alloc0 w
  have hzl := dHeader.zlen
  have hrow := dHeader.row
  have hC := (Chg.refl Non w).alloc (.cells Hd.zero.cells.toArray 36)
  have hb := Hb.new w 36 Hd.zero.cells.toArray
  have H := decoded_Header (w.alloc (.cells Hd.zero.cells.toArray 36)) A n c bs ((dHeader (some bs)).map (fun y => ([] ++ (y.1.cells ++ []), y.2))) hn (hr.chg hC (fun _ _ f => f)) hsz (dHeader.r _) (fun w1 g F S => by
    generalize (w.alloc (.cells Hd.zero.cells.toArray 36)).heap.size = tb at *
    generalize Hd.zero.cells = z at *
    have h := header_r w1 g F tb 0 36 [] [] z (some bs) (S.eq (by rw [List.append_nil, List.nil_append])) rfl hzl
    rw [List.append_nil, List.nil_append, hzl] at h
    exact h)
  have hw : whole ((dHeader (some bs)).map (fun y => ([] ++ (y.1.cells ++ []), y.2))) = (whole (dHeader (some bs))).map Hd.cells := by
    cases dHeader (some bs) with
    | none => rfl
    | some y =>
      obtain ⟨y, st⟩ := y
      match st with
      | none => rfl
      | some [] => simp [whole]
      | some (_ :: _) => rfl
  have hone : ∀ L, (whole (dHeader (some bs))).map Hd.cells = some L → L.length = 163 ∧ ∀ v ∈ L, v.oneCell' = true := by
    intro L h
    obtain ⟨y, hy, rfl⟩ := Option.map_eq_some_iff.1 h
    exact ⟨dHeader_len (whole_some hy), y.one⟩
  rw [hw] at H
  generalize (whole (dHeader (some bs))).map Hd.cells = r at *
  have hzone : ∀ v ∈ Hd.zero.cells, v.oneCell' = true := Hd.zero.one
  have HH := Lib.hid H
  have HC := Lib.hid hC
  clear H hC hw hn hr
  generalize Hd.zero.cells = z at *
  go_enter Try.func7, Try.ntmps7
  go_wp2_with (with_reducible refine wpList_alloc_row rfl _ rfl z hz ?_)
  refine HH.out.mono ?_
  rintro e w1 ⟨h1, h2⟩
  clear HH
  have hb1 := hb.chg h1 (fun f => f)
  have h0 := HC.out.trans h1 (fun _ f => f.elim)
  obtain ⟨L, k, rfl, hL1, hL2, hk⟩ : ∃ (L : List Value) (k : Int), e = .returned (.tuple #[.agg L.toArray, .int .i64 k]) ∧ L.length = 163 ∧ (∀ v ∈ L, v.oneCell' = true) ∧ (match r with | some L => Ending.returned (.tuple #[.agg L.toArray, .int .i64 0]) | none => .returned (.tuple #[.agg z.toArray, .int .i64 61])) = .returned (.tuple #[.agg L.toArray, .int .i64 k]) := by
    cases r with
    | some L => exact ⟨L, 0, h2, (hone L rfl).1, (hone L rfl).2, rfl⟩
    | none => exact ⟨z, 61, h2, hzl, hzone, rfl⟩
  have hLs : L.toArray.size = 163 := by rw [List.size_toArray, hL1]
  have hth := hb1.there0
  rw [hzl] at hth
  have hb2 := hb1.sets0 (L' := L) (by rw [hzl, hL1])
  clear hone h2
  go_wp2_with (with_reducible refine wpList_store_mid rfl 36 _ _ rfl w.heap.size 0 L.toArray rfl rfl (by rw [hLs]; exact hth) (by rw [hLs, hrow]) (one_mem hL2) ?_)
  refine bodyPost_ret ((results_cell_tmp rfl _ _ _).trans ?_) rfl (R := Dec w z r) (v := .tuple #[.agg L.toArray, .int .i64 k]) ?_
  · simp only [asAddr, Sem.run_pure, Result.andThen_ok]
    have hl := load_row hb2 Try.underlying36 rfl (by rw [hrow, hL1])
    simp [hl]
  · refine ⟨Chg.trans h0 (Chg.setCells (S := fun j => j = w.heap.size) rfl L _ 0 (Chg.refl _ _)) (fun j hj => .inr (by omega)), ?_⟩
    rw [← hk]
    rfl

end Go.Proofs.Ytgonbmcfeehfaaa

/- Words for the statement on what is decoded: boxes of what was decoded, and proofs' paths out of a reading. -/
namespace Go.Proofs.Ytgonbmcfeehfaaa
open Go.RowKit
set_option linter.unusedVariables false
set_option linter.unusedSimpArgs false
set_option maxRecDepth 20000

/-- A new box, and what is stored there. -/
theorem stored (w : World) (t : TypeId) (Z L : List Value) (h : Z.length = L.length) :
    Chg Non w ((w.alloc (.cells Z.toArray t)).setCells w.heap.size 0 L) ∧ Hb ((w.alloc (.cells Z.toArray t)).setCells w.heap.size 0 L) w.heap.size t L.toArray ∧ (w.alloc (.cells Z.toArray t)).there w.heap.size 0 L.length := by
  have hb := Hb.new w t Z.toArray
  have ht := hb.there0
  rw [h] at ht
  exact ⟨((Chg.refl Non w).alloc (.cells Z.toArray t)).trans (Chg.setCells (S := fun j => j = w.heap.size) rfl L _ 0 (Chg.refl _ _)) (fun j hj => .inr (by omega)), hb.sets0 (L' := L) h, ht⟩
theorem flat_get' {α : Type} {cells : α → List Value} {sz : Nat} : ∀ (l : List α) (hc : ∀ x ∈ l, (cells x).length = sz) (i : Nat) (x : α), l[i]? = some x → ∀ (j : Nat) (u : Value), (cells x)[j]? = some u → (l.flatMap cells)[i * sz + j]? = some u
  | [], _, i, x, h, _, _, _ => by simp at h
  | y :: l, hc, 0, x, h, j, u, hu => by
    simp only [List.getElem?_cons_zero, Option.some.injEq] at h
    subst h
    rw [Nat.zero_mul, Nat.zero_add, List.flatMap_cons, List.getElem?_append_left (List.getElem?_eq_some_iff.1 hu).1]
    exact hu
  | y :: l, hc, i + 1, x, h, j, u, hu => by
    have hy := hc y (by simp)
    rw [List.flatMap_cons, List.getElem?_append_right (by rw [hy, Nat.succ_mul]; omega), hy]
    have e : (i + 1) * sz + j - sz = i * sz + j := by rw [Nat.succ_mul]; omega
    rw [e]
    exact flat_get' l (fun x hx => hc x (by simp [hx])) i x (by simpa using h) j u hu
theorem lstM_new' {α : Type} {w : World} {n : Nat} {t : TypeId} {l : List α} {cells : α → List Value} {sz : Nat} (hc : ∀ x ∈ l, (cells x).length = sz) (h : Hb w n t (l.flatMap cells).toArray) : LstM w (some ⟨n, 0, none⟩) l cells sz := by
  intro i x hx
  refine ⟨n, 0, rfl, h.lt, fun j u hu => ?_⟩
  rw [Nat.zero_add, h.cell]
  simpa using flat_get' l hc i x hx j u hu
theorem PathIn.in_ {n : Nat} {w : World} {m : Pm} (h : PathIn n w m) (ok : m.part.Ok) (hr : m.part.path.length ≤ 4096) : m.In w := by
  obtain ⟨pb, hA, hc, hn, hb⟩ := h
  refine ⟨ok, by unfold maxLen; omega, ?_⟩
  rw [hA]
  exact lstM_new' (fun x hx => by rw [bv_length]; exact ok.path x hx) hb
theorem Ins.chg {w w' : World} {ms : List Pm} (h : ∀ m ∈ ms, m.In w) (k : Chg Non w w') : ∀ m ∈ ms, m.In w' := fun m hm => ⟨(h m hm).1, (h m hm).2.1, (h m hm).2.2.chg k⟩
theorem Lt.cells_len (x : Lt) (ox : x.Ok) (a b c : Value) : (x.cells a b c).length = 200 := by
  unfold Lt.cells
  simp [x.header.cells_len ox.header, x.commit.cells_len ox.commit]
end Go.Proofs.Ytgonbmcfeehfaaa

/- The document's own reader: texts and counts. -/
namespace Go.Proofs.Ytgonbmcfeehfaaa
open Go.RowKit
set_option linter.unusedVariables false
set_option maxRecDepth 20000

theorem text_big (st : Option (List UInt8)) (h : 4096 < ofbe (takeB st 2)) : vT st = [] ∧ nT st = none := by
  unfold vT nT fText
  unfold takeB at h
  cases st with
  | none => exact ⟨rfl, rfl⟩
  | some l =>
    simp only at h
    simp only [Option.bind_some]
    by_cases hl : l.length < 2
    · rw [if_pos hl]; exact ⟨rfl, rfl⟩
    · rw [if_pos (by omega)] at h
      rw [if_neg hl, if_pos h]; exact ⟨rfl, rfl⟩
theorem text_none (st : Option (List UInt8)) (h : ¬ 4096 < ofbe (takeB st 2)) (h2 : takeS (takeS st 2) (ofbe (takeB st 2)) = none) : vT st = [] ∧ nT st = none := by
  unfold vT nT fText
  unfold takeB takeS at h2
  unfold takeB at h
  cases st with
  | none => exact ⟨rfl, rfl⟩
  | some l =>
    simp only at h h2
    simp only [Option.bind_some]
    by_cases hl : l.length < 2
    · rw [if_pos hl]; exact ⟨rfl, rfl⟩
    · rw [if_pos (by omega)] at h
      rw [if_pos (by omega), if_pos (by omega)] at h2
      rw [if_neg hl, if_neg h]
      by_cases h3 : ofbe (l.take 2) ≤ (l.drop 2).length
      · simp only at h2; rw [if_pos h3] at h2; cases h2
      · rw [if_pos (by omega)]; exact ⟨rfl, rfl⟩
theorem text_some (st : Option (List UInt8)) (r : List UInt8) (h : ¬ 4096 < ofbe (takeB st 2)) (h2 : takeS (takeS st 2) (ofbe (takeB st 2)) = some r) : vT st = takeB (takeS st 2) (ofbe (takeB st 2)) ∧ nT st = some r := by
  unfold vT nT fText
  unfold takeS at h2
  cases st with
  | none => cases h2
  | some l =>
    simp only at h2
    by_cases hl : l.length < 2
    · rw [if_neg (by omega)] at h2; cases h2
    · have e1 : takeB (some l) 2 = l.take 2 := by unfold takeB; simp only; rw [if_pos (by omega)]
      have e2 : takeS (some l) 2 = some (l.drop 2) := by unfold takeS; simp only; rw [if_pos (by omega)]
      rw [e1] at h h2 ⊢
      rw [e2]
      rw [if_pos (by omega)] at h2
      simp only at h2
      simp only [Option.bind_some]
      rw [if_neg hl, if_neg h]
      by_cases h3 : ofbe (l.take 2) ≤ (l.drop 2).length
      · rw [if_pos h3] at h2
        injection h2 with h2
        rw [if_neg (by omega)]
        unfold takeB
        simp only
        rw [if_pos h3]
        exact ⟨rfl, congrArg some h2⟩
      · rw [if_neg h3] at h2; cases h2

theorem RdF.blk {w : World} {g : Nat} {F : Nat → Prop} {st : Option (List UInt8)} (h : RdF w g F st) : ∃ A m c, Hb w g 56 #[.slice A m c, .bool st.isNone] := by
  cases st with
  | none => obtain ⟨_, A, m, c, hb⟩ := h; exact ⟨A, m, c, hb⟩
  | some l => obtain ⟨_, A, c, hb, _⟩ := h; exact ⟨A, _, c, hb⟩
theorem RdF.drewN {w : World} {g : Nat} {F : Nat → Prop} {st : Option (List UInt8)} (h : RdF w g F st) (n : Nat) : RdF (w.drewN n) g F st := h.chg ((Chg.refl Non w).drewN n) (fun f => f) (fun _ _ f => f)

set_option maxHeartbeats 1600000 in
theorem refRText (w : World) (g : Nat) (F : Nat → Prop) (st : Option (List UInt8)) (h : RdF w g F st) (hFs : ∀ j, F j → j < w.heap.size) :
    Calls Try.prog 27 #[.pointer (some ⟨g, 0, none⟩)] w (Gotf w g F (.string ⟨(vT st).toArray⟩) (nT st)) := by
  have HK : Calls Try.prog 59 #[.pointer (some ⟨g, 0, none⟩), .int .i64 2] w (Tk w g F st 2) := take_any w g F st 2 h hFs (by omega)
  have hl := takeB_length st 2
  have TB := text_big st
  have TN := text_none st
  have TSM := text_some st
  unfold Tk at HK
  generalize takeB st 2 = bs at *
  generalize takeS st 2 = s2 at *
  obtain ⟨x, y, rfl⟩ : ∃ x y, bs = [x, y] := by
    match bs, hl with
    | [x, y], _ => exact ⟨x, y, rfl⟩
  have ho : ofbe [x, y] = x.toNat * 256 + y.toNat := by simp [ofbe]
  rw [ho] at TB TN TSM
  have hx := x.toNat_lt
  have hy := y.toNat_lt
  have TB' := Lib.hid TB
  have TN' := Lib.hid TN
  have TS' := Lib.hid TSM
  clear hl h ho TB TN TSM
  have hcv : IntKind.i64.wrap (x.toNat : Int) = (x.toNat : Int) := by rw [IntKind.wrap_i64]; omega
  have hcy : IntKind.i64.wrap (y.toNat : Int) = (y.toNat : Int) := by rw [IntKind.wrap_i64]; omega
  have hcm : IntKind.i64.wrap ((x.toNat : Int) * 256) = (x.toNat : Int) * 256 := by rw [IntKind.wrap_i64]; omega
  have hca : IntKind.i64.wrap ((x.toNat : Int) * 256 + (y.toNat : Int)) = (x.toNat : Int) * 256 + (y.toNat : Int) := by rw [IntKind.wrap_i64]; omega
  have CV := Lib.hid hcv
  have CY := Lib.hid hcy
  have CM := Lib.hid hcm
  have CA := Lib.hid hca
  clear hcv hcy hcm hca
  by_cases hbig : 4096 < x.toNat * 256 + y.toNat
  · rw [(TB'.out hbig).1, (TB'.out hbig).2]
    go_enter Try.func27, Try.ntmps27
    go_wp2_with fail
    refine HK.mono ?_
    rintro e w1 ⟨A, c, rfl, hc, hr, hR, hC, _⟩
    obtain ⟨ad, rfl, _⟩ := hr.blk_lt (by simp)
    have d0 : w1.cell? ad = some (.int .u8 (x.toNat : Int)) := hr.at_ (j := 0) (by simp)
    have d1 : w1.cell? ⟨ad.block, ad.off + 1, none⟩ = some (.int .u8 (y.toNat : Int)) := hr.at_ (j := 1) (by simp)
    have hcv := CV.out
    have hcy := CY.out
    have hcm := CM.out
    have hca := CA.out
    go_wp2_with fail
    go_quiet (fail)
    clear hcv hcy hcm hca
    have hbi : (4096 : Int) < (x.toNat : Int) * 256 + (y.toNat : Int) := by omega
    obtain ⟨A2, m2, c2, hb2⟩ := hR.blk
    have b1 : w1.cell? ⟨g, 1, none⟩ = some (.bool s2.isNone) := hb2.cell 1
    have b2 : w1.frozen? ⟨g, 1, none⟩ = false := hb2.frozen 1
    go_wp2
    go_ret
    exact ⟨rfl, ⟨hR.nF, A2, m2, c2, (hb2.drewN _).set 1 _⟩, (hC.drewN _).setCell (p := ⟨g, 1, none⟩) (.inl rfl) _⟩
  · obtain ⟨N, hN⟩ : ∃ N : Nat, N = x.toNat * 256 + y.toNat := ⟨_, rfl⟩
    rw [← hN] at hbig TN' TS'
    have HN : ∀ w' : World, RdF w' g F s2 → (∀ j, F j → j < w'.heap.size) → Calls Try.prog 59 #[.pointer (some ⟨g, 0, none⟩), .int .i64 ((x.toNat : Int) * 256 + (y.toNat : Int))] w' (Tk w' g F s2 N) := by
      intro w' h1 h2
      have := take_any w' g F s2 N h1 h2 (by omega)
      rwa [show (N : Int) = (x.toNat : Int) * 256 + (y.toNat : Int) by omega] at this
    have hNI : ¬ (4096 : Int) < (x.toNat : Int) * 256 + (y.toNat : Int) := by omega
    have hlN := takeB_length s2 N
    have HLN := Lib.hid hlN
    have HHN := Lib.hid hN
    clear hN hlN
    cases hs3 : takeS s2 N with
    | none =>
      rw [(TN'.out hbig hs3).1, (TN'.out hbig hs3).2]
      have HS3 := Lib.hid hs3
      clear hs3
      go_enter Try.func27, Try.ntmps27
      go_wp2_with fail
      refine HK.mono ?_
      rintro e w1 ⟨A, c, rfl, hc, hr, hR, hC, _⟩
      obtain ⟨ad, rfl, _⟩ := hr.blk_lt (by simp)
      have d0 : w1.cell? ad = some (.int .u8 (x.toNat : Int)) := hr.at_ (j := 0) (by simp)
      have d1 : w1.cell? ⟨ad.block, ad.off + 1, none⟩ = some (.int .u8 (y.toNat : Int)) := hr.at_ (j := 1) (by simp)
      have hcv := CV.out
      have hcy := CY.out
      have hcm := CM.out
      have hca := CA.out
      go_wp2_with fail
      go_quiet (fail)
      clear hcv hcy hcm hca d0 d1
      go_wp2_with fail
      refine (HN _ (hR.drewN _) (fun j hj => Nat.lt_of_lt_of_le (hFs j hj) hC.size)).mono ?_
      rintro e w3 ⟨A3, c3, rfl, hc3, hr3, hR3, hC3, _⟩
      rw [HS3.out] at hR3
      obtain ⟨A2, m2, c2, hb2⟩ := hR3.blk
      have b1 : w3.cell? ⟨g, 1, none⟩ = some (.bool true) := hb2.cell 1
      go_wp2
      go_ret
      exact ⟨rfl, hR3, (hC.drewN _).trans hC3 (fun _ hj => .inl hj)⟩
    | some r =>
      rw [(TS'.out r hbig hs3).1, (TS'.out r hbig hs3).2]
      have HS3 := Lib.hid hs3
      clear hs3
      go_enter Try.func27, Try.ntmps27
      go_wp2_with fail
      refine HK.mono ?_
      rintro e w1 ⟨A, c, rfl, hc, hr, hR, hC, _⟩
      obtain ⟨ad, rfl, _⟩ := hr.blk_lt (by simp)
      have d0 : w1.cell? ad = some (.int .u8 (x.toNat : Int)) := hr.at_ (j := 0) (by simp)
      have d1 : w1.cell? ⟨ad.block, ad.off + 1, none⟩ = some (.int .u8 (y.toNat : Int)) := hr.at_ (j := 1) (by simp)
      have hcv := CV.out
      have hcy := CY.out
      have hcm := CM.out
      have hca := CA.out
      go_wp2_with fail
      go_quiet (fail)
      clear hcv hcy hcm hca d0 d1
      go_wp2_with fail
      refine (HN _ (hR.drewN _) (fun j hj => Nat.lt_of_lt_of_le (hFs j hj) hC.size)).mono ?_
      rintro e w3 ⟨A3, c3, rfl, hc3, hr3, hR3, hC3, _⟩
      rw [HS3.out] at hR3
      obtain ⟨A2, m2, c2, hb2⟩ := hR3.blk
      have b1 : w3.cell? ⟨g, 1, none⟩ = some (.bool false) := hb2.cell 1
      have hst := run_str byt w3 hr3 c3
      rw [HLN.out] at hst
      go_wp2
      go_ret
      exact ⟨rfl, hR3, (hC.drewN _).trans hC3 (fun _ hj => .inl hj)⟩

theorem refRCount (w : World) (g : Nat) (F : Nat → Prop) (st : Option (List UInt8)) (most : Int) (h : RdF w g F st) (hFs : ∀ j, F j → j < w.heap.size) :
    Calls Try.prog 31 #[.pointer (some ⟨g, 0, none⟩), .int .i64 most] w (Gotf w g F (.int .i64 (vC most st)) (nC most st)) := by
  have H := refRNumber w g F st h hFs
  have hv : vN st = ((st.bind fNumber).map (·.1)).getD 0 := rfl
  have hn : nW st = (st.bind fNumber).map (·.2) := by
    unfold nW fNumber
    cases st with
    | none => rfl
    | some l => simp only [Option.bind_some]; cases fWord l <;> rfl
  have hc : vC most st = (((st.bind fNumber).bind fun x => if 0 ≤ x.1 ∧ x.1 ≤ most then some x else none).map (·.1)).getD 0 := by
    unfold vC fCount
    cases st <;> rfl
  have hd : nC most st = (((st.bind fNumber).bind fun x => if 0 ≤ x.1 ∧ x.1 ≤ most then some x else none).map (·.2)) := by
    unfold nC fCount
    cases st <;> rfl
  rw [hc, hd]
  unfold Gotf at H
  rw [hv, hn] at H
  clear hc hd hv hn h
  cases hf : st.bind fNumber with
  | none =>
    rw [hf] at H
    clear hf
    have H' : Calls Try.prog 26 #[.pointer (some ⟨g, 0, none⟩)] w fun e w' => e = .returned (.int .i64 0) ∧ RdF w' g F none ∧ Chg (Eqg g) w w' := H
    clear H
    by_cases hm : most < 0
    · go_enter Try.func31, Try.ntmps31
      go_wp2_with fail
      refine H'.mono ?_
      rintro e w1 ⟨rfl, hR, hC⟩
      obtain ⟨A2, m2, c2, hb2⟩ := hR.blk
      have b1 : w1.cell? ⟨g, 1, none⟩ = some (.bool true) := hb2.cell 1
      have b2 : w1.frozen? ⟨g, 1, none⟩ = false := hb2.frozen 1
      go_wp2
      go_ret
      exact ⟨rfl, ⟨hR.nF, A2, m2, c2, hb2.set 1 _⟩, hC.setCell (p := ⟨g, 1, none⟩) (.inl rfl) _⟩
    · go_enter Try.func31, Try.ntmps31
      go_wp2_with fail
      refine H'.mono ?_
      rintro e w1 ⟨rfl, hR, hC⟩
      go_wp2
      go_ret
      exact ⟨rfl, hR, hC⟩
  | some x =>
    obtain ⟨n, r⟩ := x
    rw [hf] at H
    clear hf
    have H' : Calls Try.prog 26 #[.pointer (some ⟨g, 0, none⟩)] w fun e w' => e = .returned (.int .i64 n) ∧ RdF w' g F (some r) ∧ Chg (Eqg g) w w' := H
    clear H
    rw [Option.bind_some]
    by_cases h0 : n < 0
    · rw [if_neg (by omega)]
      go_enter Try.func31, Try.ntmps31
      go_wp2_with fail
      refine H'.mono ?_
      rintro e w1 ⟨rfl, hR, hC⟩
      obtain ⟨A2, m2, c2, hb2⟩ := hR.blk
      have b1 : w1.cell? ⟨g, 1, none⟩ = some (.bool false) := hb2.cell 1
      have b2 : w1.frozen? ⟨g, 1, none⟩ = false := hb2.frozen 1
      go_wp2
      go_ret
      exact ⟨rfl, ⟨hR.nF, A2, m2, c2, hb2.set 1 _⟩, hC.setCell (p := ⟨g, 1, none⟩) (.inl rfl) _⟩
    · by_cases h1 : most < n
      · rw [if_neg (by omega)]
        go_enter Try.func31, Try.ntmps31
        go_wp2_with fail
        refine H'.mono ?_
        rintro e w1 ⟨rfl, hR, hC⟩
        obtain ⟨A2, m2, c2, hb2⟩ := hR.blk
        have b1 : w1.cell? ⟨g, 1, none⟩ = some (.bool false) := hb2.cell 1
        have b2 : w1.frozen? ⟨g, 1, none⟩ = false := hb2.frozen 1
        go_wp2
        go_ret
        exact ⟨rfl, ⟨hR.nF, A2, m2, c2, hb2.set 1 _⟩, hC.setCell (p := ⟨g, 1, none⟩) (.inl rfl) _⟩
      · rw [if_pos (by omega)]
        go_enter Try.func31, Try.ntmps31
        go_wp2_with fail
        refine H'.mono ?_
        rintro e w1 ⟨rfl, hR, hC⟩
        go_wp2
        go_ret
        exact ⟨rfl, hR, hC⟩
end Go.Proofs.Ytgonbmcfeehfaaa

/- What the document's reader reads of things, right or not: plain mathematics. -/
namespace Go.Proofs.Ytgonbmcfeehfaaa
open Go.RowKit
set_option linter.unusedVariables false
set_option linter.unusedSimpArgs false
set_option maxRecDepth 20000

/-- Behind a thing's number: broken, if it is another one. -/
def rBeg (k : Int) (st : St) : St := if vN st = k then nW st else none
theorem nW_none : nW none = none := rfl
theorem nH_none : nH none = none := rfl
theorem nT_none : nT none = none := rfl
def rVote (st : St) : Vt × St :=
  (⟨⟨(vT (rBeg 1 st)).toArray⟩, vN (nT (rBeg 1 st)), vN (nW (nT (rBeg 1 st))), vN (nW (nW (nT (rBeg 1 st)))), vH (nW (nW (nW (nT (rBeg 1 st))))), vW (nH (nW (nW (nW (nT (rBeg 1 st)))))), vW (nW (nH (nW (nW (nW (nT (rBeg 1 st))))))), vW (nW (nW (nH (nW (nW (nW (nT (rBeg 1 st))))))))⟩,
    nW (nW (nW (nH (nW (nW (nW (nT (rBeg 1 st)))))))))
theorem rVote_is (st : St) : whole (dVote st) = if (rVote st).2 = some [] ∧ (rVote st).1.right = true then some (rVote st).1 else none := by
  unfold dVote rVote rBeg dBegin
  by_cases h0 : vN st = 1
  · simp only [h0, if_true, Option.bind_some]
    generalize nW st = s1
    unfold dName dNum Vt.right
    by_cases h1 : nameOk ⟨(vT s1).toArray⟩ = true
    · simp only [h1, if_true, Option.bind_some, Bool.true_and]
      by_cases h2 : inR 1 1099511627776 (vN (nT s1)) = true
      · simp only [h2, if_true, Option.bind_some, Bool.true_and]
        by_cases h3 : inR 0 1048576 (vN (nW (nT s1))) = true
        · simp only [h3, if_true, Option.bind_some, Bool.true_and]
          by_cases h4 : inR 1 2 (vN (nW (nW (nT s1)))) = true
          · simp only [h4, if_true, Option.bind_some, and_true]
            match nW (nW (nW (nH (nW (nW (nW (nT s1))))))) with
            | none => rfl
            | some [] => rfl
            | some (_ :: _) => simp [whole]
          · simp [h4, whole]
        · simp [h3, whole]
      · simp [h2, whole]
    · simp [h1, whole]
  · simp [h0, whole, nW_none, nH_none, nT_none]
def rHeader (st : St) : Hd × St :=
  (⟨⟨(vT (rBeg 2 st)).toArray⟩, vN (nT (rBeg 2 st)), vN (nW (nT (rBeg 2 st))), vH (nW (nW (nT (rBeg 2 st)))), vH (nH (nW (nW (nT (rBeg 2 st))))), vH (nH (nH (nW (nW (nT (rBeg 2 st)))))), vH (nH (nH (nH (nW (nW (nT (rBeg 2 st))))))), vH (nH (nH (nH (nH (nW (nW (nT (rBeg 2 st))))))))⟩,
    nH (nH (nH (nH (nH (nW (nW (nT (rBeg 2 st)))))))))
theorem rHeader_is (st : St) : whole (dHeader st) = if (rHeader st).2 = some [] ∧ (rHeader st).1.right = true then some (rHeader st).1 else none := by
  unfold dHeader rHeader rBeg dBegin
  by_cases h0 : vN st = 2
  · simp only [h0, if_true, Option.bind_some]
    generalize nW st = s1
    unfold dName dNum Hd.right
    by_cases h1 : nameOk ⟨(vT s1).toArray⟩ = true
    · simp only [h1, if_true, Option.bind_some, Bool.true_and]
      by_cases h2 : inR 1 1099511627776 (vN (nT s1)) = true
      · simp only [h2, if_true, Option.bind_some, Bool.true_and]
        by_cases h3 : inR 0 1099511627776 (vN (nW (nT s1))) = true
        · simp only [h3, if_true, Option.bind_some, and_true]
          match nH (nH (nH (nH (nH (nW (nW (nT s1))))))) with
          | none => rfl
          | some [] => rfl
          | some (_ :: _) => simp [whole]
        · simp [h3, whole]
      · simp [h2, whole]
    · simp [h1, whole]
  · simp [h0, whole, nW_none, nH_none, nT_none]
def rPacket (st : St) : Pk × St :=
  (⟨vN (rBeg 6 st), ⟨(vT (nW (rBeg 6 st))).toArray⟩, ⟨(vT (nT (nW (rBeg 6 st)))).toArray⟩, vN (nT (nT (nW (rBeg 6 st))))⟩, nW (nT (nT (nW (rBeg 6 st)))))
theorem rPacket_is (st : St) : whole (dPacket st) = if (rPacket st).2 = some [] ∧ (rPacket st).1.right = true then some (rPacket st).1 else none := by
  unfold dPacket rPacket rBeg dBegin
  by_cases h0 : vN st = 6
  · simp only [h0, if_true, Option.bind_some]
    generalize nW st = s1
    unfold dName dNum dText Pk.right
    have e : ∀ l : List UInt8, (⟨l.toArray⟩ : ByteArray).size = l.length := fun l => List.size_toArray
    by_cases h1 : inR 1 1099511627776 (vN s1) = true
    · simp only [h1, if_true, Option.bind_some, Bool.true_and]
      by_cases h2 : nameOk ⟨(vT (nW s1)).toArray⟩ = true
      · simp only [h2, if_true, Option.bind_some, Bool.true_and]
        by_cases h3 : (vT (nT (nW s1))).length ≤ 256
        · simp only [h3, e, if_true, Option.bind_some, decide_true, Bool.true_and]
          by_cases h4 : inR 1 1099511627776 (vN (nT (nT (nW s1)))) = true
          · simp only [h4, if_true, Option.bind_some, and_true]
            match nW (nT (nT (nW s1))) with
            | none => rfl
            | some [] => rfl
            | some (_ :: _) => simp [whole]
          · simp [h4, whole]
        · simp [h3, e, whole]
      · simp [h2, whole]
    · simp [h1, whole]
  · simp [h0, whole, nW_none, nH_none, nT_none]
end Go.Proofs.Ytgonbmcfeehfaaa

/- The document's reader, and a thing that is read with it, field by field: words. -/
namespace Go.Proofs.Ytgonbmcfeehfaaa
open Go.RowKit
set_option linter.unusedVariables false
set_option linter.unusedSimpArgs false
set_option maxRecDepth 20000

theorem RdF.same {w : World} {g : Nat} {F : Nat → Prop} {st : St} (h : RdF w g F st) : RdF (w.setCell ⟨g, 1, none⟩ (.bool st.isNone)) g F st := by
  have k := (Chg.refl (Eqg g) w).setCell (p := ⟨g, 1, none⟩) (.inl rfl) (.bool st.isNone)
  cases st with
  | none =>
    obtain ⟨h1, A, n, c, hb⟩ := h
    exact ⟨h1, A, n, c, hb.set 1 (.bool true)⟩
  | some l =>
    obtain ⟨h1, A, c, hb, hr, hc, hm, hA⟩ := h
    exact ⟨h1, A, c, hb.set 1 (.bool false), hr.chg' k (fun hl j hj e => h1 (by unfold Eqg at e; rw [← e]; exact hA hl j hj)), hc, hm, hA⟩
theorem RdF.brk {w : World} {g : Nat} {F : Nat → Prop} {st : St} (h : RdF w g F st) : RdF (w.setCell ⟨g, 1, none⟩ (.bool true)) g F none := by
  obtain ⟨A, m, c, hb⟩ := h.blk
  exact ⟨h.nF, A, m, c, hb.set 1 _⟩
/-- The document's reader, a new block that is read into, and the result's block, behind what was done since the world W. -/
structure Rfs (W : World) (g : Nat) (F : Nat → Prop) (tb : Nat) (t : TypeId) (L : List Value) (rb : Nat) (Z : List Value) (st : St) (w : World) : Prop where
  rdr : RdF w g F st
  row : Hb w tb t L.toArray
  res : Hb w rb t Z.toArray
  chg : Chg (fun j => j = g ∨ j = tb ∨ j = rb) W w
  tg : tb ≠ g
  rg : rb ≠ g
  ne : tb ≠ rb
  nt : ¬ F tb
  nr : ¬ F rb
  fsw : ∀ j, F j → j < w.heap.size
section
variable {W w w' : World} {g : Nat} {F : Nat → Prop} {tb : Nat} {t : TypeId} {L : List Value} {rb : Nat} {Z : List Value} {st st' : St}
theorem Rfs.read (S : Rfs W g F tb t L rb Z st w) (h : RdF w' g F st') (k : Chg (Eqg g) w w') : Rfs W g F tb t L rb Z st' w' :=
  ⟨h, S.row.chg k S.tg, S.res.chg k S.rg, S.chg.trans k (fun j hj => .inl (.inl hj)), S.tg, S.rg, S.ne, S.nt, S.nr, fun j hj => Nat.lt_of_lt_of_le (S.fsw j hj) k.size⟩
theorem Rfs.non (S : Rfs W g F tb t L rb Z st w) (k : Chg Non w w') : Rfs W g F tb t L rb Z st w' :=
  ⟨S.rdr.chg k (fun f => f) (fun _ _ f => f), S.row.chg k (fun f => f), S.res.chg k (fun f => f), S.chg.trans k (fun _ f => f.elim), S.tg, S.rg, S.ne, S.nt, S.nr, fun j hj => Nat.lt_of_lt_of_le (S.fsw j hj) k.size⟩
theorem Rfs.eq {L' : List Value} (S : Rfs W g F tb t L rb Z st w) (h : L = L') : Rfs W g F tb t L' rb Z st w := h ▸ S
theorem Rfs.set {p q : List Value} {x : Value} (S : Rfs W g F tb t (p ++ x :: q) rb Z st w) {o : Nat} (ho : o = p.length) (u : Value) : Rfs W g F tb t (p ++ u :: q) rb Z st (w.setCell ⟨tb, o, none⟩ u) := by
  subst ho
  have k := (Chg.refl (fun j => j = tb) w).setCell (p := ⟨tb, p.length, none⟩) (.inl rfl) u
  refine ⟨S.rdr.chg k (fun e => S.tg e.symm) (fun j hj e => S.nt (e ▸ hj)), ?_, S.res.chg k (fun e => S.ne e.symm), S.chg.trans k (fun j hj => .inl (.inr (.inl hj))), S.tg, S.rg, S.ne, S.nt, S.nr, fun j hj => Nat.lt_of_lt_of_le (S.fsw j hj) k.size⟩
  rw [← row_set p x u q]
  exact S.row.set _ _
theorem Rfs.sets {p q old : List Value} (S : Rfs W g F tb t (p ++ (old ++ q)) rb Z st w) {o : Nat} (ho : o = p.length) (new : List Value) (hl : old.length = new.length) : Rfs W g F tb t (p ++ (new ++ q)) rb Z st (w.setCells tb o new) := by
  subst ho
  have k := Chg.setCells (S := fun j => j = tb) rfl new w p.length (Chg.refl (fun j => j = tb) w)
  exact ⟨S.rdr.chg k (fun e => S.tg e.symm) (fun j hj e => S.nt (e ▸ hj)), S.row.setCells new old p q w hl, S.res.chg k (fun e => S.ne e.symm), S.chg.trans k (fun j hj => .inl (.inr (.inl hj))), S.tg, S.rg, S.ne, S.nt, S.nr, fun j hj => Nat.lt_of_lt_of_le (S.fsw j hj) k.size⟩
theorem Rfs.cell {p q : List Value} {x : Value} (S : Rfs W g F tb t (p ++ x :: q) rb Z st w) {o : Nat} (ho : o = p.length) : w.cell? ⟨tb, o, none⟩ = some x ∧ w.frozen? ⟨tb, o, none⟩ = false := by
  subst ho
  refine ⟨?_, S.row.frozen _⟩
  rw [S.row.cell]
  simp
theorem Rfs.there {p q old : List Value} (S : Rfs W g F tb t (p ++ (old ++ q)) rb Z st w) {o : Nat} (ho : o = p.length) : w.there tb o old.length := by
  subst ho
  intro j hj
  refine ⟨?_, S.row.frozen _⟩
  rw [S.row.cell, List.getElem?_toArray, List.getElem?_append_right (by omega), Nat.add_sub_cancel_left, List.getElem?_append_left hj, List.getElem?_eq_getElem hj]
  rfl
/-- What the reading of a thing leaves: its cells, and the reader behind it. -/
def Gotr (w : World) (g : Nat) (F : Nat → Prop) (L : List Value) (st : St) (e : Ending) (w' : World) : Prop := e = .returned (.agg L.toArray) ∧ RdF w' g F st ∧ Chg (Eqg g) w w'
/-- The end: the whole row goes into the result. -/
theorem Rfs.done (S : Rfs W g F tb t L rb Z st w) (hz : Z.length = L.length) : RdF (w.setCells rb 0 L) g F st ∧ Chg (fun j => j = g ∨ j = tb ∨ j = rb) W (w.setCells rb 0 L) ∧ Hb (w.setCells rb 0 L) rb t L.toArray := by
  have k := Chg.setCells (S := fun j => j = rb) rfl L w 0 (Chg.refl (fun j => j = rb) w)
  exact ⟨S.rdr.chg k (fun e => S.rg e.symm) (fun j hj e => S.nr (e ▸ hj)), S.chg.trans k (fun j hj => .inl (.inr (.inr hj))), S.res.sets0 hz⟩
end
/-- A struct's value is built. -/
theorem wpList_build_row {ops : Array Oper} {rest : List Oper} {o : Oper} {a : Act} {w : World} {Q : Exit → Act → World → Prop} (hgd : o.guard = none) (ty : TypeId) (x : Operand) (ho : o.op = .build ty #[(0, x)]) {v : Value} (hx : a.eval x = v) {cs : Array Value} (hb : Try.prog.built ty [(0, v)] = some cs)
    (h : wpList Try.prog ops Q rest (a.put o.dst (.agg cs)) w) : wpList Try.prog ops Q (o :: rest) a w := by
  have e : (#[((0 : Nat), x)].map fun (i, x) => (i, a.eval x)).toList = [(0, v)] := by simp [hx]
  refine wpList_build hgd ty #[(0, x)] ho ?_ ?_
  · rw [e, hb]; rfl
  · rw [e, hb]; exact h
/-- A new box, and what is stored there. -/
theorem storedU (w : World) (t : TypeId) (Z L : List Value) (h : Z.length = L.length) :
    Chg Non w ((w.alloc (.cells Z.toArray t)).setCells w.heap.size 0 L) ∧ Hb ((w.alloc (.cells Z.toArray t)).setCells w.heap.size 0 L) w.heap.size t L.toArray ∧ (w.alloc (.cells Z.toArray t)).there w.heap.size 0 L.length := by
  have hb := Hb.new w t Z.toArray
  have ht := hb.there0
  rw [h] at ht
  exact ⟨((Chg.refl Non w).alloc (.cells Z.toArray t)).trans (Chg.setCells (S := fun j => j = w.heap.size) rfl L _ 0 (Chg.refl _ _)) (fun j hj => .inr (by omega)), hb.sets0 (L' := L) h, ht⟩
end Go.Proofs.Ytgonbmcfeehfaaa

/- The document's answers for forms: ends; what is read is in order. -/
namespace Go.Proofs.Ytgonbmcfeehfaaa
open Go.RowKit
set_option linter.unusedVariables false
set_option linter.unusedSimpArgs false
set_option maxRecDepth 20000

theorem ends_any (w : World) (g : Nat) (F : Nat → Prop) (st : St) (ok : Bool) (h : RdF w g F st) :
    Calls Try.prog 19 #[.pointer (some ⟨g, 0, none⟩), .bool ok] w fun e w' => e = .returned (.int .i64 (if st = some [] ∧ ok = true then 0 else 61)) ∧ w' = w := by
  have H := refREnd w g F st h
  unfold endv at H
  by_cases hs : st = some []
  · rw [if_pos hs] at H
    cases ok with
    | true =>
      rw [if_pos ⟨hs, rfl⟩]
      clear hs h
      go_enter Try.func19, Try.ntmps19
      go_wp2_with fail
      refine H.mono ?_
      rintro e w1 ⟨rfl, rfl⟩
      go_wp2_with fail
      go_ret
      exact ⟨rfl, rfl⟩
    | false =>
      rw [if_neg (by simp)]
      clear hs h
      go_enter Try.func19, Try.ntmps19
      go_wp2_with fail
      refine H.mono ?_
      rintro e w1 ⟨rfl, rfl⟩
      go_wp2_with fail
      go_ret
      exact ⟨rfl, rfl⟩
  · rw [if_neg hs] at H
    rw [if_neg (by simp [hs])]
    clear hs h
    go_enter Try.func19, Try.ntmps19
    go_wp2_with fail
    refine H.mono ?_
    rintro e w1 ⟨rfl, rfl⟩
    go_wp2_with fail
    go_ret
    exact ⟨rfl, rfl⟩
theorem vT_le (st : St) : (vT st).length ≤ 4096 := by
  unfold vT fText
  cases st with
  | none => simp
  | some l =>
    simp only [Option.bind_some]
    split
    · simp
    · split
      · simp
      · split
        · simp
        · simp only [Option.map_some, Option.getD_some]
          rw [List.length_take]
          omega
theorem vT_size (st : St) : (⟨(vT st).toArray⟩ : ByteArray).size ≤ 4096 := by
  show (vT st).toArray.size ≤ 4096
  rw [List.size_toArray]
  exact vT_le st
theorem vT_max (st : St) : (⟨(vT st).toArray⟩ : ByteArray).size ≤ maxLen := by have := vT_size st; unfold maxLen; omega
theorem vN_64 (st : St) : I64 (vN st) := ⟨(vN_bounds st).1, (vN_bounds st).2⟩
theorem rVote_ok (st : St) : (rVote st).1.Ok := ⟨vT_max _, vN_64 _, vN_64 _, vN_64 _, vH_length _, vW_lt _, vW_lt _, vW_lt _⟩
theorem rHeader_ok (st : St) : (rHeader st).1.Ok := ⟨vT_max _, vN_64 _, vN_64 _, vH_length _, vH_length _, vH_length _, vH_length _, vH_length _⟩
theorem rPacket_ok (st : St) : (rPacket st).1.Ok := ⟨vN_64 _, vT_max _, vT_max _, vN_64 _⟩
/-- A struct's zero value is built. -/
theorem wpList_build_zero {ops : Array Oper} {rest : List Oper} {o : Oper} {a : Act} {w : World} {Q : Exit → Act → World → Prop} (hgd : o.guard = none) (ty : TypeId) (ho : o.op = .build ty #[]) {cs : Array Value} (hb : Try.prog.built ty [] = some cs)
    (h : wpList Try.prog ops Q rest (a.put o.dst (.agg cs)) w) : wpList Try.prog ops Q (o :: rest) a w := by
  have e : ((#[] : Array (Nat × Operand)).map fun (i, x) => (i, a.eval x)).toList = [] := by simp
  refine wpList_build hgd ty #[] ho ?_ ?_
  · rw [e, hb]; rfl
  · rw [e, hb]; exact h
/-- The document's reader over bytes, in a new block behind a result's. -/
theorem rdF_new (w : World) (t : TypeId) (Z : List Value) (A : Option Addr) (c : Nat) (bs : List UInt8) (hr : Rd w A bs) (hc : bs.length ≤ c) (hcm : c ≤ maxLen) (hA : bs ≠ [] → ∀ j, abl A j → j < w.heap.size) :
    RdF ((w.alloc (.cells Z.toArray t)).alloc (.cells #[.slice A bs.length c, .bool false] 56)) (w.heap.size + 1) (fun j => j < w.heap.size) (some bs) ∧ Hb ((w.alloc (.cells Z.toArray t)).alloc (.cells #[.slice A bs.length c, .bool false] 56)) w.heap.size t Z.toArray ∧
    Chg Non w ((w.alloc (.cells Z.toArray t)).alloc (.cells #[.slice A bs.length c, .bool false] 56)) ∧ ((w.alloc (.cells Z.toArray t)).alloc (.cells #[.slice A bs.length c, .bool false] 56)).heap.size = w.heap.size + 2 := by
  have k := ((Chg.refl Non w).alloc (.cells Z.toArray t)).alloc (.cells #[.slice A bs.length c, .bool false] 56)
  have hs : (w.alloc (.cells Z.toArray t)).heap.size = w.heap.size + 1 := by simp
  have hb := Hb.new (w.alloc (.cells Z.toArray t)) 56 #[.slice A bs.length c, .bool false]
  rw [hs] at hb
  exact ⟨⟨by omega, A, c, hb, hr.chg k (fun _ _ f => f), hc, hcm, hA⟩, (Hb.new w t Z.toArray).alloc _, k, by simp⟩
end Go.Proofs.Ytgonbmcfeehfaaa
