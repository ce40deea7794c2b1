import Derived.Test.YtinbjbfgfknpaaaChecked
import Derived.WalkKit
import Derived.WalkLawsBesides
import Derived.Lib.Hide
import Derived.Recover
import Derived.Test.YtinbjbfgfknpaaaMFormOnly5
import Derived.Test.YtinbjbfgfknpaaaMFormOnly6
import Derived.Test.YtinbjbfgfknpaaaMFormOnly8
import Derived.Test.YtinbjbfgfknpaaaMFormOnly10
import Derived.Test.YtinbjbfgfknpaaaMFormOnly11
import Derived.Test.YtinbjbfgfknpaaaMFormOnly12
import Derived.Test.YtinbjbfgfknpaaaMFormOnly13
/- Package forms: decoded[nuncio/api.Header]. -/
namespace Go.Proofs.Ytinbjbfgfknpaaa
open Go.RowKit
set_option linter.unusedVariables false
set_option linter.unusedSimpArgs false
set_option maxRecDepth 20000


theorem dHeader.row : (Try.prog.info? 39).map (·.size) = some 163 := by kernel_rfl
theorem dHeader.alloc0 (w : World) : (Instr.alloc 39 true (.tuple #[])).run Try.prog w = .ok (.pointer (some ⟨w.heap.size, 0, none⟩)) (w.alloc (.cells (Hd.zero.cells).toArray 39)) := by kernel_rfl
theorem dHeader.zlen : (Hd.zero.cells).length = 163 := by rfl

theorem catchDP_Header (w : World) (p q : Nat) (L : List Value) (y : Value) (v : Value) (u : TypeId) (older : List PanicEntry) (hp : Hb w p 39 L.toArray) (hL : L.length = 163) (hq : Hb w q 32 #[y]) (hpq : q ≠ p) :
    CallsD Try.prog 46 #[.pointer (some ⟨p, 0, none⟩), .pointer (some ⟨q, 0, none⟩)] (.panicking ({ v := .iface u v, recovered := false } :: older)) w fun e u' w' =>
      e = .returned (.tuple #[]) ∧ u' = .panicking ({ v := .iface u v, recovered := true } :: older) ∧ w' = (((w.alloc (.cells (Hd.zero.cells).toArray 39)).setCells p 0 (Hd.zero.cells)).setCell ⟨q, 0, none⟩ (.int .i64 61)) := by
  have hz := dHeader.alloc0 w
  have hzl := dHeader.zlen
  have hrow := dHeader.row
  have hn := Hb.new w 39 (Hd.zero.cells).toArray
  have hp1 := hp.alloc (.cells (Hd.zero.cells).toArray 39)
  have hth := hp1.there0
  rw [hL] at hth
  have hq1 := (hq.alloc (.cells (Hd.zero.cells).toArray 39)).farCells hpq (Hd.zero.cells) 0
  have c1 : _ = some y := hq1.cell 0
  have f1 : _ = false := hq1.frozen 0
  refine callsD_of_wpS Try.func46 rfl fun c₀ cs hu => ?_
  apply wpS_seq
  apply wpS_region
  simp [wpOpsS, go_sem, recoverD, hu, Try.ntmps46, Exit.thenS]
  refine wpS_cond (t := true) (by simp [Act.eval, Array.replicate]) ?_
  simp only [if_true]
  refine wpS_of_wp ?_
  have hone : ∀ v ∈ (Hd.zero.cells), v.oneCell' = true := Hd.one _
  generalize Hd.zero.cells = z at *
  go_wp2_with (first | (with_reducible refine wpList_alloc_row rfl _ rfl z hz ?_) | (with_reducible refine wpList_load_mid rfl 39 _ rfl w.heap.size 0 rfl z _ hn.range0 Try.underlying39 rfl (by rw [hrow, hzl]) ?_) | (with_reducible refine wpList_store_mid rfl 39 _ _ rfl p 0 z.toArray rfl rfl (by rw [List.size_toArray, hzl]; exact hth) (by rw [List.size_toArray, hrow, hzl]) (one_mem hone) ?_))
  exact ⟨rfl, _, rfl, .tuple #[], by simp [results, Try.results46], rfl, rfl, rfl⟩

theorem catchDI_Header (w : World) (p q : Addr) : CallsD Try.prog 46 #[.pointer (some p), .pointer (some q)] .returning w fun e u' w' => e = .returned (.tuple #[]) ∧ u' = .returning ∧ w' = w := by
  refine callsD_of_wpS Try.func46 rfl fun c₀ cs hu => ?_
  apply wpS_seq
  apply wpS_region
  simp [wpOpsS, go_sem, recoverD, hu, Try.ntmps46, Exit.thenS]
  refine wpS_cond (t := false) (by simp [Act.eval, Array.replicate]) ?_
  simp only [Bool.false_eq_true, if_false]
  refine wpS_of_wp (wp_skip ?_)
  cases c₀
  simp_all [bodyPostS, results, Try.results46]

/-- The error's way. -/
theorem decErr_Header (w w2 : World) (h : Chg Non w w2) (L : List Value) (y : Value) (hp : Hb w2 w.heap.size 39 L.toArray) (hL : L.length = 163) (hq : Hb w2 (w.heap.size + 1) 32 #[y]) (r : Option (List Value)) (hr : r = none) (tmps : Array Value)
    (h4 : tmps.getD 4 undef = .pointer (some ⟨w.heap.size, 0, none⟩)) (h5 : tmps.getD 5 undef = .pointer (some ⟨w.heap.size + 1, 0, none⟩)) :
    Leaves Try.prog Try.f19 tmps (Dec w (Hd.zero.cells) r) [{ target := .fn (.func 46) #[.pointer (some ⟨w.heap.size, 0, none⟩), .pointer (some ⟨w.heap.size + 1, 0, none⟩)], args := #[] }] (.panicking bad) w2 := by
  subst hr
  refine leaves_cons (f := 46) (args := #[.pointer (some ⟨w.heap.size, 0, none⟩), .pointer (some ⟨w.heap.size + 1, 0, none⟩)]) (by simp) (by simp [go_sem]) ?_
  refine (catchDP_Header w2 w.heap.size (w.heap.size + 1) L _ _ _ _ hp hL hq (by omega)).mono ?_
  rintro e u' w'' ⟨rfl, rfl, rfl⟩
  have hz : (Hd.zero.cells).length = 163 := dHeader.zlen
  have hb3 := ((hp.alloc (.cells (Hd.zero.cells).toArray 39)).sets0 (L' := Hd.zero.cells) (by rw [hL, hz])).far (p := ⟨w.heap.size + 1, 0, none⟩) (by simp) (.int .i64 61)
  have he3 := ((hq.alloc (.cells (Hd.zero.cells).toArray 39)).farCells (tb := w.heap.size) (by omega) (Hd.zero.cells) 0).set 0 (.int .i64 61)
  refine ⟨_, results_two rfl _ _ _ ⟨w.heap.size, 0, none⟩ ⟨w.heap.size + 1, 0, none⟩ _ _ h4 h5 (load_row hb3 Try.underlying39 rfl (by rw [dHeader.row, hz])) (load_errno (he3.cell 0)), ?_, rfl⟩
  have K := (Chg.setCells (S := fun k => k = w.heap.size ∨ k = w.heap.size + 1) (.inl rfl) (Hd.zero.cells) _ 0 ((Chg.refl _ w2).alloc (.cells (Hd.zero.cells).toArray 39))).setCell (p := ⟨w.heap.size + 1, 0, none⟩) (.inl (.inr rfl)) (.int .i64 61)
  exact h.trans K (fun j hj => .inr (by omega))

theorem decoded_Header (w : World) (A : Option Addr) (n c : Nat) (bs : List UInt8) (r : Option (List Value × St)) (hn : n = bs.length) (hr : Rd w A bs) (hsz : bs.length ≤ 1000000000) (hlen : ∀ L s, r = some (L, s) → L.length = 163 ∧ ∀ v ∈ L, v.oneCell' = true)
    (H : ∀ (w1 : World) (g : Nat) (F : Nat → Prop), Rst w1 g F w.heap.size 39 (Hd.zero.cells) (some bs) w1 → Calls Try.prog 20 #[.agg #[.pointer none, .pointer (some ⟨g, 0, none⟩)], .pointer (some ⟨w.heap.size, 0, none⟩)] w1 (RO w1 g F w.heap.size 39 163 r)) :
    Calls Try.prog 19 #[.slice A n c, .func (.func 20) #[] #[]] w (Dec w (Hd.zero.cells) (whole r)) := by
  have hmf := mkf
  have hC0 := dw_chg w (Hd.zero.cells) 39
  have hb0 := dw_b w (Hd.zero.cells) 39
  have he0 := dw_e w (Hd.zero.cells) 39
  have hz := dHeader.alloc0 w
  have hrow := dHeader.row
  have HN := newReader_any (dw w (Hd.zero.cells) 39) A n c bs hn (hr.chg hC0 (fun _ _ f => f)) hsz
  generalize hR : whole r = R
  have HR := Lib.hid hR
  have HLE := Lib.hid hlen
  have HH := Lib.hid H
  have HNN := Lib.hid HN
  clear hR hlen H HN hn hr
  have hzz := dHeader.zlen
  go_enter_defers Try.func19, Try.ntmps19
  go_wp2_with (first | (with_reducible refine wpList_alloc_row rfl _ rfl (Hd.zero.cells) hz ?_))
  have hdw : dw w (Hd.zero.cells) 39 = (w.alloc (.cells (Hd.zero.cells).toArray 39)).alloc (.cells #[.int .i64 0] 32) := rfl
  rw [← hdw]
  have hds : (dw w (Hd.zero.cells) 39).heap.size = w.heap.size + 2 := by rw [hdw]; simp
  clear hdw
  generalize dw w (Hd.zero.cells) 39 = w0 at *
  refine HNN.out.mono ?_
  rintro e w1 ⟨g, F, rfl, hR1, hg, hF, hC1⟩
  have hb1 := hb0.chg hC1 (fun f => f)
  have he1 := he0.chg hC1 (fun f => f)
  have S1 : Rst w1 g F w.heap.size 39 (Hd.zero.cells) (some bs) w1 := ⟨hR1, hb1, Chg.refl _ _, by omega, fun h => by have := hF _ h; omega⟩
  have H1 := HH.out w1 g F S1
  have hne : ¬ Two g w.heap.size (w.heap.size + 1) := by rintro (h | h) <;> omega
  have hn01 : Chg Non w w1 := hC0.trans hC1 (fun _ f => f.elim)
  clear HNN hb0 he0 hC0 hC1 HH S1
  go_wp2_with fail
  refine H1.mono ?_
  rintro e w2 h2
  have he2 := he1.chg h2.chg hne
  have hn02 : Chg Non w w2 := hn01.trans h2.chg (fun j hj => .inr (by rcases hj with rfl | rfl <;> omega))
  clear H1 he1 hb1
  rcases h2.cases with ⟨k, rfl, _, L', hL1, hL2⟩ | ⟨⟨L, s⟩, k, rfl, T⟩
  · have hRn : R = none := HR.out.symm.trans (by rw [k]; rfl)
    go_wp2
    refine decErr_Header w w2 hn02 L' _ hL2 hL1 he2 _ rfl _ ?_ ?_ <;> rfl
  · obtain ⟨hLn, hL1⟩ := HLE.out L s k
    clear HLE h2
    go_wp2_with fail
    refine (endR_any _ g F s T.rdr).mono ?_
    rintro e w3 ⟨rfl, rfl⟩
    have hb2 : Hb _ w.heap.size 39 L.toArray := T.row
    by_cases hs : s = some []
    · have hRs : R = some L := HR.out.symm.trans (by rw [k, hs]; rfl)
      have hev : endv s = 0 := by unfold endv; rw [if_pos hs]
      have hth := hb2.there0
      rw [hLn] at hth
      have hLs : L.toArray.size = 163 := by rw [List.size_toArray, hLn]
      rw [hev]
      have hb3 := hb2.sets0 (L' := L) rfl
      have he3 := he2.farCells (tb := w.heap.size) (by omega) L 0
      have c3 : _ = some (Value.int .i64 0) := he3.cell 0
      have f3 : _ = false := he3.frozen 0
      have hrg := hb2.range0
      clear hev hs HR
      go_wp2_with (first | (go_at_call 33; refine (insist_yes _).mono ?_; rintro e w5 ⟨rfl, rfl⟩) | (with_reducible refine wpList_load_mid rfl 39 _ rfl w.heap.size 0 rfl L _ hrg Try.underlying39 rfl (by rw [hrow, hLn]) ?_; refine wpList_store_mid rfl 39 _ _ rfl w.heap.size 0 L.toArray rfl rfl (by rw [hLs]; exact hth) (by rw [hLs, hrow]) (one_mem hL1) ?_) | (with_reducible refine wpList_store_mid rfl 39 _ _ rfl w.heap.size 0 L.toArray rfl rfl (by rw [hLs]; exact hth) (by rw [hLs, hrow]) (one_mem hL1) ?_))
      refine leaves_cons (f := 46) (args := #[.pointer (some ⟨w.heap.size, 0, none⟩), .pointer (some ⟨w.heap.size + 1, 0, none⟩)]) (by simp) (by simp [go_sem]) ?_
      refine (catchDI_Header _ ⟨w.heap.size, 0, none⟩ ⟨w.heap.size + 1, 0, none⟩).mono ?_
      rintro e u' w'' ⟨rfl, rfl, rfl⟩
      have hb4 := hb3.far (p := ⟨w.heap.size + 1, 0, none⟩) (by simp) (.int .i64 0)
      have he4 := he3.set 0 (.int .i64 0)
      refine ⟨_, results_two rfl _ _ _ ⟨w.heap.size, 0, none⟩ ⟨w.heap.size + 1, 0, none⟩ _ _ rfl rfl (load_row hb4 Try.underlying39 rfl (by rw [hrow, hLn])) (load_errno (he4.cell 0)), ?_, by rw [hRs]; rfl⟩
      exact hn02.trans ((Chg.setCells (S := fun k => k = w.heap.size ∨ k = w.heap.size + 1) (.inl rfl) L _ 0 (Chg.refl _ _)).setCell (p := ⟨w.heap.size + 1, 0, none⟩) (.inl (.inr rfl)) (.int .i64 0)) (fun j hj => .inr (by omega))
    · have hRn : R = none := HR.out.symm.trans (by
        rw [k]
        match s, hs with
        | none, _ => rfl
        | some (_ :: _), _ => rfl)
      have hev : endv s = 21 := by unfold endv; rw [if_neg hs]
      rw [hev]
      clear hev hs HR
      go_wp2_with (go_at_call 33; refine (insist_no _).mono ?_; rintro e w5 ⟨rfl, rfl⟩)
      refine decErr_Header w _ hn02 L _ hb2 hLn he2 _ rfl _ ?_ ?_ <;> rfl
end Go.Proofs.Ytinbjbfgfknpaaa

/- Package forms: EncodeHeader, DecodeHeader. -/
namespace Go.Proofs.Ytinbjbfgfknpaaa
open Go.RowKit
set_option linter.unusedVariables false
set_option linter.unusedSimpArgs false
set_option maxRecDepth 20000

theorem dHeader.r (st : St) : ∀ (L : List Value) (s : St), (dHeader st).map (fun y => ([] ++ (y.1.cells ++ []), y.2)) = some (L, s) → L.length = 163 ∧ ∀ v ∈ L, v.oneCell' = true := by
  intro L s h
  obtain ⟨y, hy, h2⟩ := Option.map_eq_some_iff.1 h
  simp only [Prod.mk.injEq, List.nil_append, List.append_nil] at h2
  obtain ⟨rfl, _⟩ := h2
  exact ⟨dHeader_len hy, y.1.one⟩
theorem DecodeHeader_any (w : World) (A : Option Addr) (n c : Nat) (bs : List UInt8) (hn : n = bs.length) (hr : Rd w A bs) (hsz : bs.length ≤ 1000000000) : Calls Try.prog 8 #[.slice A n c] w (Dec w Hd.zero.cells ((whole (dHeader (some bs))).map Hd.cells)) := by
  have hz := dHeader.alloc0 w
  have hzl := dHeader.zlen
  have hrow := dHeader.row
  have hC := (Chg.refl Non w).alloc (.cells Hd.zero.cells.toArray 39)
  have hb := Hb.new w 39 Hd.zero.cells.toArray
  have H := decoded_Header (w.alloc (.cells Hd.zero.cells.toArray 39)) A n c bs ((dHeader (some bs)).map (fun y => ([] ++ (y.1.cells ++ []), y.2))) hn (hr.chg hC (fun _ _ f => f)) hsz (dHeader.r _) (fun w1 g F S => by
    generalize (w.alloc (.cells Hd.zero.cells.toArray 39)).heap.size = tb at *
    generalize Hd.zero.cells = z at *
    have h := header_r w1 g F tb 0 39 [] [] z (some bs) (S.eq (by rw [List.append_nil, List.nil_append])) rfl hzl
    rw [List.append_nil, List.nil_append, hzl] at h
    exact h)
  have hw : whole ((dHeader (some bs)).map (fun y => ([] ++ (y.1.cells ++ []), y.2))) = (whole (dHeader (some bs))).map Hd.cells := by
    cases dHeader (some bs) with
    | none => rfl
    | some y =>
      obtain ⟨y, st⟩ := y
      match st with
      | none => rfl
      | some [] => simp [whole]
      | some (_ :: _) => rfl
  have hone : ∀ L, (whole (dHeader (some bs))).map Hd.cells = some L → L.length = 163 ∧ ∀ v ∈ L, v.oneCell' = true := by
    intro L h
    obtain ⟨y, hy, rfl⟩ := Option.map_eq_some_iff.1 h
    exact ⟨dHeader_len (whole_some hy), y.one⟩
  rw [hw] at H
  generalize (whole (dHeader (some bs))).map Hd.cells = r at *
  have hzone : ∀ v ∈ Hd.zero.cells, v.oneCell' = true := Hd.zero.one
  have HH := Lib.hid H
  have HC := Lib.hid hC
  clear H hC hw hn hr
  generalize Hd.zero.cells = z at *
  go_enter Try.func8, Try.ntmps8
  go_wp2_with (with_reducible refine wpList_alloc_row rfl _ rfl z hz ?_)
  refine HH.out.mono ?_
  rintro e w1 ⟨h1, h2⟩
  clear HH
  have hb1 := hb.chg h1 (fun f => f)
  have h0 := HC.out.trans h1 (fun _ f => f.elim)
  obtain ⟨L, k, rfl, hL1, hL2, hk⟩ : ∃ (L : List Value) (k : Int), e = .returned (.tuple #[.agg L.toArray, .int .i64 k]) ∧ L.length = 163 ∧ (∀ v ∈ L, v.oneCell' = true) ∧ (match r with | some L => Ending.returned (.tuple #[.agg L.toArray, .int .i64 0]) | none => .returned (.tuple #[.agg z.toArray, .int .i64 61])) = .returned (.tuple #[.agg L.toArray, .int .i64 k]) := by
    cases r with
    | some L => exact ⟨L, 0, h2, (hone L rfl).1, (hone L rfl).2, rfl⟩
    | none => exact ⟨z, 61, h2, hzl, hzone, rfl⟩
  have hLs : L.toArray.size = 163 := by rw [List.size_toArray, hL1]
  have hth := hb1.there0
  rw [hzl] at hth
  have hb2 := hb1.sets0 (L' := L) (by rw [hzl, hL1])
  clear hone h2
  go_wp2_with (with_reducible refine wpList_store_mid rfl 39 _ _ rfl w.heap.size 0 L.toArray rfl rfl (by rw [hLs]; exact hth) (by rw [hLs, hrow]) (one_mem hL2) ?_)
  refine bodyPost_ret ((results_cell_tmp rfl _ _ _).trans ?_) rfl (R := Dec w z r) (v := .tuple #[.agg L.toArray, .int .i64 k]) ?_
  · simp only [asAddr, Sem.run_pure, Result.andThen_ok]
    have hl := load_row hb2 Try.underlying39 rfl (by rw [hrow, hL1])
    simp [hl]
  · refine ⟨Chg.trans h0 (Chg.setCells (S := fun j => j = w.heap.size) rfl L _ 0 (Chg.refl _ _)) (fun j hj => .inr (by omega)), ?_⟩
    rw [← hk]
    rfl

theorem EncodeHeader_any (w : World) (x : Hd) (ox : x.Ok) : Calls Try.prog 9 #[.agg x.cells.toArray] w (Enc w x.right x.enc) := by
  have hC := (Chg.refl Non w).alloc (.cells x.cells.toArray 39)
  have hb := Hb.new w 39 x.cells.toArray
  have hs : (w.alloc (.cells x.cells.toArray 39)).heap.size = w.heap.size + 1 := by simp
  have H := encoded_Header (w.alloc (.cells x.cells.toArray 39)) ⟨w.heap.size, 0, none⟩ x.right x.enc (fun h => by have := x.enc_len h ox; omega) (fun w1 g k hg hw => by
    have hb1 := hb.chg k (fun f => f)
    exact header_w g [] w1 _ w.heap.size 0 x hw hb1.range0 (by rintro (h | h); omega; cases h) (by have := hb1.lt; omega) ox (by simp))
  have HH := Lib.hid H
  have HC := Lib.hid hC
  clear H hC hb hs
  generalize x.cells = cs at *
  go_enter Try.func9, Try.ntmps9
  go_wp2_with fail
  refine HH.out.mono ?_
  rintro e w1 ⟨h1, h2⟩
  clear HH
  have h0 := HC.out.trans h1 (fun _ f => f.elim)
  generalize x.right = ok at *
  cases ok with
  | true =>
    obtain ⟨v, rfl, ho, hl⟩ := h2
    go_wp2
    go_ret2
    exact ⟨h0, v, rfl, ho, fun k hk => by have := hl k hk; have := HC.out.size; omega⟩
  | false =>
    obtain rfl := h2
    go_wp2
    go_ret2
    exact ⟨h0, rfl⟩
end Go.Proofs.Ytinbjbfgfknpaaa

/- Words for the statement on what is decoded: boxes of what was decoded, and proofs' paths out of a reading. -/
namespace Go.Proofs.Ytinbjbfgfknpaaa
open Go.RowKit
set_option linter.unusedVariables false
set_option linter.unusedSimpArgs false
set_option maxRecDepth 20000

/-- A new box, and what is stored there. -/
theorem stored (w : World) (t : TypeId) (Z L : List Value) (h : Z.length = L.length) :
    Chg Non w ((w.alloc (.cells Z.toArray t)).setCells w.heap.size 0 L) ∧ Hb ((w.alloc (.cells Z.toArray t)).setCells w.heap.size 0 L) w.heap.size t L.toArray ∧ (w.alloc (.cells Z.toArray t)).there w.heap.size 0 L.length := by
  have hb := Hb.new w t Z.toArray
  have ht := hb.there0
  rw [h] at ht
  exact ⟨((Chg.refl Non w).alloc (.cells Z.toArray t)).trans (Chg.setCells (S := fun j => j = w.heap.size) rfl L _ 0 (Chg.refl _ _)) (fun j hj => .inr (by omega)), hb.sets0 (L' := L) h, ht⟩
theorem flat_get' {α : Type} {cells : α → List Value} {sz : Nat} : ∀ (l : List α) (hc : ∀ x ∈ l, (cells x).length = sz) (i : Nat) (x : α), l[i]? = some x → ∀ (j : Nat) (u : Value), (cells x)[j]? = some u → (l.flatMap cells)[i * sz + j]? = some u
  | [], _, i, x, h, _, _, _ => by simp at h
  | y :: l, hc, 0, x, h, j, u, hu => by
    simp only [List.getElem?_cons_zero, Option.some.injEq] at h
    subst h
    rw [Nat.zero_mul, Nat.zero_add, List.flatMap_cons, List.getElem?_append_left (List.getElem?_eq_some_iff.1 hu).1]
    exact hu
  | y :: l, hc, i + 1, x, h, j, u, hu => by
    have hy := hc y (by simp)
    rw [List.flatMap_cons, List.getElem?_append_right (by rw [hy, Nat.succ_mul]; omega), hy]
    have e : (i + 1) * sz + j - sz = i * sz + j := by rw [Nat.succ_mul]; omega
    rw [e]
    exact flat_get' l (fun x hx => hc x (by simp [hx])) i x (by simpa using h) j u hu
theorem lstM_new' {α : Type} {w : World} {n : Nat} {t : TypeId} {l : List α} {cells : α → List Value} {sz : Nat} (hc : ∀ x ∈ l, (cells x).length = sz) (h : Hb w n t (l.flatMap cells).toArray) : LstM w (some ⟨n, 0, none⟩) l cells sz := by
  intro i x hx
  refine ⟨n, 0, rfl, h.lt, fun j u hu => ?_⟩
  rw [Nat.zero_add, h.cell]
  simpa using flat_get' l hc i x hx j u hu
theorem PathIn.in_ {n : Nat} {w : World} {m : Pm} (h : PathIn n w m) (ok : m.part.Ok) (hr : m.part.path.length ≤ 4096) : m.In w := by
  obtain ⟨pb, hA, hc, hn, hb⟩ := h
  refine ⟨ok, by unfold maxLen; omega, ?_⟩
  rw [hA]
  exact lstM_new' (fun x hx => by rw [bv_length]; exact ok.path x hx) hb
theorem Ins.chg {w w' : World} {ms : List Pm} (h : ∀ m ∈ ms, m.In w) (k : Chg Non w w') : ∀ m ∈ ms, m.In w' := fun m hm => ⟨(h m hm).1, (h m hm).2.1, (h m hm).2.2.chg k⟩
theorem Lt.cells_len (x : Lt) (ox : x.Ok) (a b c : Value) : (x.cells a b c).length = 200 := by
  unfold Lt.cells
  simp [x.header.cells_len ox.header, x.commit.cells_len ox.commit]
end Go.Proofs.Ytinbjbfgfknpaaa
