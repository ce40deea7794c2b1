/- Package forms: decoded[nuncio/api.Packet]. -/
import Derived.Test.YtjcfdclgddjaoaaChecked
import Derived.WalkKit
import Derived.WalkLawsBesides
import Derived.Lib.Hide
import Derived.Recover
import Derived.Test.YtjcfdclgddjaoaaFr
import Derived.Test.YtjcfdclgddjaoaaFe
import Derived.Test.YtjcfdclgddjaoaaFd
import Derived.Test.YtjcfdclgddjaoaaFcp
namespace Go.Proofs.Ytjcfdclgddjaoaa
open Go.RowKit
set_option linter.unusedVariables false
set_option maxRecDepth 20000


theorem dPacket.row : (Try.prog.info? 23).map (·.size) = some 4 := by kernel_rfl
theorem dPacket.alloc0 (w : World) : (Instr.alloc 23 true (.tuple #[])).run Try.prog w = .ok (.pointer (some ⟨w.heap.size, 0, none⟩)) (w.alloc (.cells (Pk.zero.cells).toArray 23)) := by kernel_rfl
theorem dPacket.zlen : (Pk.zero.cells).length = 4 := by rfl

theorem catchDP_Packet (w : World) (p q : Nat) (L : List Value) (y : Value) (v : Value) (u : TypeId) (older : List PanicEntry) (hp : Hb w p 23 L.toArray) (hL : L.length = 4) (hq : Hb w q 34 #[y]) (hpq : q ≠ p) :
    CallsD Try.prog 99 #[.pointer (some ⟨p, 0, none⟩), .pointer (some ⟨q, 0, none⟩)] (.panicking ({ v := .iface u v, recovered := false } :: older)) w fun e u' w' =>
      e = .returned (.tuple #[]) ∧ u' = .panicking ({ v := .iface u v, recovered := true } :: older) ∧ w' = (((w.alloc (.cells (Pk.zero.cells).toArray 23)).setCells p 0 (Pk.zero.cells)).setCell ⟨q, 0, none⟩ (.int .i64 61)) := by
  have hz := dPacket.alloc0 w
  have hzl := dPacket.zlen
  have hrow := dPacket.row
  have hn := Hb.new w 23 (Pk.zero.cells).toArray
  have hp1 := hp.alloc (.cells (Pk.zero.cells).toArray 23)
  have hth := hp1.there0
  rw [hL] at hth
  have hq1 := (hq.alloc (.cells (Pk.zero.cells).toArray 23)).farCells hpq (Pk.zero.cells) 0
  have c1 : _ = some y := hq1.cell 0
  have f1 : _ = false := hq1.frozen 0
  refine callsD_of_wpS Try.func99 rfl fun c₀ cs hu => ?_
  apply wpS_seq
  apply wpS_region
  simp [wpOpsS, go_sem, recoverD, hu, Try.ntmps99, Exit.thenS]
  refine wpS_cond (t := true) (by simp [Act.eval, Array.replicate]) ?_
  simp only [if_true]
  refine wpS_of_wp ?_
  have hone : ∀ v ∈ (Pk.zero.cells), v.oneCell' = true := Pk.one _
  generalize Pk.zero.cells = z at *
  go_wp2_with (first | (with_reducible refine wpList_alloc_row rfl _ rfl z hz ?_) | (with_reducible refine wpList_load_mid rfl 23 _ rfl w.heap.size 0 rfl z _ hn.range0 Try.underlying23 rfl (by rw [hrow, hzl]) ?_) | (with_reducible refine wpList_store_mid rfl 23 _ _ rfl p 0 z.toArray rfl rfl (by rw [List.size_toArray, hzl]; exact hth) (by rw [List.size_toArray, hrow, hzl]) (one_mem hone) ?_))
  exact ⟨rfl, _, rfl, .tuple #[], by simp [results, Try.results99], rfl, rfl, rfl⟩

theorem catchDI_Packet (w : World) (p q : Addr) : CallsD Try.prog 99 #[.pointer (some p), .pointer (some q)] .returning w fun e u' w' => e = .returned (.tuple #[]) ∧ u' = .returning ∧ w' = w := by
  refine callsD_of_wpS Try.func99 rfl fun c₀ cs hu => ?_
  apply wpS_seq
  apply wpS_region
  simp [wpOpsS, go_sem, recoverD, hu, Try.ntmps99, Exit.thenS]
  refine wpS_cond (t := false) (by simp [Act.eval, Array.replicate]) ?_
  simp only [Bool.false_eq_true, if_false]
  refine wpS_of_wp (wp_skip ?_)
  cases c₀
  simp_all [bodyPostS, results, Try.results99]

/-- The error's way. -/
theorem decErr_Packet (w w2 : World) (h : Chg Non w w2) (L : List Value) (y : Value) (hp : Hb w2 w.heap.size 23 L.toArray) (hL : L.length = 4) (hq : Hb w2 (w.heap.size + 1) 34 #[y]) (r : Option (List Value)) (hr : r = none) (tmps : Array Value)
    (h4 : tmps.getD 4 undef = .pointer (some ⟨w.heap.size, 0, none⟩)) (h5 : tmps.getD 5 undef = .pointer (some ⟨w.heap.size + 1, 0, none⟩)) :
    Leaves Try.prog Try.f56 tmps (Dec w (Pk.zero.cells) r) [{ target := .fn (.func 99) #[.pointer (some ⟨w.heap.size, 0, none⟩), .pointer (some ⟨w.heap.size + 1, 0, none⟩)], args := #[] }] (.panicking bad) w2 := by
  subst hr
  refine leaves_cons (f := 99) (args := #[.pointer (some ⟨w.heap.size, 0, none⟩), .pointer (some ⟨w.heap.size + 1, 0, none⟩)]) (by simp) (by simp [go_sem]) ?_
  refine (catchDP_Packet w2 w.heap.size (w.heap.size + 1) L _ _ _ _ hp hL hq (by omega)).mono ?_
  rintro e u' w'' ⟨rfl, rfl, rfl⟩
  have hz : (Pk.zero.cells).length = 4 := dPacket.zlen
  have hb3 := ((hp.alloc (.cells (Pk.zero.cells).toArray 23)).sets0 (L' := Pk.zero.cells) (by rw [hL, hz])).far (p := ⟨w.heap.size + 1, 0, none⟩) (by simp) (.int .i64 61)
  have he3 := ((hq.alloc (.cells (Pk.zero.cells).toArray 23)).farCells (tb := w.heap.size) (by omega) (Pk.zero.cells) 0).set 0 (.int .i64 61)
  refine ⟨_, results_two rfl _ _ _ ⟨w.heap.size, 0, none⟩ ⟨w.heap.size + 1, 0, none⟩ _ _ h4 h5 (load_row hb3 Try.underlying23 rfl (by rw [dPacket.row, hz])) (load_errno (he3.cell 0)), ?_, rfl⟩
  have K := (Chg.setCells (S := fun k => k = w.heap.size ∨ k = w.heap.size + 1) (.inl rfl) (Pk.zero.cells) _ 0 ((Chg.refl _ w2).alloc (.cells (Pk.zero.cells).toArray 23))).setCell (p := ⟨w.heap.size + 1, 0, none⟩) (.inl (.inr rfl)) (.int .i64 61)
  exact h.trans K (fun j hj => .inr (by omega))

theorem decoded_Packet (w : World) (A : Option Addr) (n c : Nat) (bs : List UInt8) (r : Option (List Value × St)) (hn : n = bs.length) (hr : Rd w A bs) (hsz : bs.length ≤ 1000000000) (hlen : ∀ L s, r = some (L, s) → L.length = 4 ∧ ∀ v ∈ L, v.oneCell' = true)
    (H : ∀ (w1 : World) (g : Nat) (F : Nat → Prop), Rst w1 g F w.heap.size 23 (Pk.zero.cells) (some bs) w1 → Calls Try.prog 39 #[.agg #[.pointer none, .pointer (some ⟨g, 0, none⟩)], .pointer (some ⟨w.heap.size, 0, none⟩)] w1 (RO w1 g F w.heap.size 23 4 r)) :
    Calls Try.prog 56 #[.slice A n c, .func (.func 39) #[] #[]] w (Dec w (Pk.zero.cells) (whole r)) := by
  have hmf := mkf
  have hC0 := dw_chg w (Pk.zero.cells) 23
  have hb0 := dw_b w (Pk.zero.cells) 23
  have he0 := dw_e w (Pk.zero.cells) 23
  have hz := dPacket.alloc0 w
  have hrow := dPacket.row
  have HN := newReader_any (dw w (Pk.zero.cells) 23) A n c bs hn (hr.chg hC0 (fun _ _ f => f)) hsz
  generalize hR : whole r = R
  have HR := Lib.hid hR
  have HLE := Lib.hid hlen
  have HH := Lib.hid H
  have HNN := Lib.hid HN
  clear hR hlen H HN hn hr
  have hzz := dPacket.zlen
  go_enter_defers Try.func56, Try.ntmps56
  go_wp2_with (first | (with_reducible refine wpList_alloc_row rfl _ rfl (Pk.zero.cells) hz ?_))
  have hdw : dw w (Pk.zero.cells) 23 = (w.alloc (.cells (Pk.zero.cells).toArray 23)).alloc (.cells #[.int .i64 0] 34) := rfl
  rw [← hdw]
  have hds : (dw w (Pk.zero.cells) 23).heap.size = w.heap.size + 2 := by rw [hdw]; simp
  clear hdw
  generalize dw w (Pk.zero.cells) 23 = w0 at *
  refine HNN.out.mono ?_
  rintro e w1 ⟨g, F, rfl, hR1, hg, hF, hC1⟩
  have hb1 := hb0.chg hC1 (fun f => f)
  have he1 := he0.chg hC1 (fun f => f)
  have S1 : Rst w1 g F w.heap.size 23 (Pk.zero.cells) (some bs) w1 := ⟨hR1, hb1, Chg.refl _ _, by omega, fun h => by have := hF _ h; omega⟩
  have H1 := HH.out w1 g F S1
  have hne : ¬ Two g w.heap.size (w.heap.size + 1) := by rintro (h | h) <;> omega
  have hn01 : Chg Non w w1 := hC0.trans hC1 (fun _ f => f.elim)
  clear HNN hb0 he0 hC0 hC1 HH S1
  go_wp2_with fail
  refine H1.mono ?_
  rintro e w2 h2
  have he2 := he1.chg h2.chg hne
  have hn02 : Chg Non w w2 := hn01.trans h2.chg (fun j hj => .inr (by rcases hj with rfl | rfl <;> omega))
  clear H1 he1 hb1
  rcases h2.cases with ⟨k, rfl, _, L', hL1, hL2⟩ | ⟨⟨L, s⟩, k, rfl, T⟩
  · have hRn : R = none := HR.out.symm.trans (by rw [k]; rfl)
    go_wp2
    refine decErr_Packet w w2 hn02 L' _ hL2 hL1 he2 _ rfl _ ?_ ?_ <;> rfl
  · obtain ⟨hLn, hL1⟩ := HLE.out L s k
    clear HLE h2
    go_wp2_with fail
    refine (endR_any _ g F s T.rdr).mono ?_
    rintro e w3 ⟨rfl, rfl⟩
    have hb2 : Hb _ w.heap.size 23 L.toArray := T.row
    by_cases hs : s = some []
    · have hRs : R = some L := HR.out.symm.trans (by rw [k, hs]; rfl)
      have hev : endv s = 0 := by unfold endv; rw [if_pos hs]
      have hth := hb2.there0
      rw [hLn] at hth
      have hLs : L.toArray.size = 4 := by rw [List.size_toArray, hLn]
      rw [hev]
      have hb3 := hb2.sets0 (L' := L) rfl
      have he3 := he2.farCells (tb := w.heap.size) (by omega) L 0
      have c3 : _ = some (Value.int .i64 0) := he3.cell 0
      have f3 : _ = false := he3.frozen 0
      have hrg := hb2.range0
      clear hev hs HR
      go_wp2_with (first | (go_at_call 78; refine (insist_yes _).mono ?_; rintro e w5 ⟨rfl, rfl⟩) | (with_reducible refine wpList_load_mid rfl 23 _ rfl w.heap.size 0 rfl L _ hrg Try.underlying23 rfl (by rw [hrow, hLn]) ?_; refine wpList_store_mid rfl 23 _ _ rfl w.heap.size 0 L.toArray rfl rfl (by rw [hLs]; exact hth) (by rw [hLs, hrow]) (one_mem hL1) ?_) | (with_reducible refine wpList_store_mid rfl 23 _ _ rfl w.heap.size 0 L.toArray rfl rfl (by rw [hLs]; exact hth) (by rw [hLs, hrow]) (one_mem hL1) ?_))
      refine leaves_cons (f := 99) (args := #[.pointer (some ⟨w.heap.size, 0, none⟩), .pointer (some ⟨w.heap.size + 1, 0, none⟩)]) (by simp) (by simp [go_sem]) ?_
      refine (catchDI_Packet _ ⟨w.heap.size, 0, none⟩ ⟨w.heap.size + 1, 0, none⟩).mono ?_
      rintro e u' w'' ⟨rfl, rfl, rfl⟩
      have hb4 := hb3.far (p := ⟨w.heap.size + 1, 0, none⟩) (by simp) (.int .i64 0)
      have he4 := he3.set 0 (.int .i64 0)
      refine ⟨_, results_two rfl _ _ _ ⟨w.heap.size, 0, none⟩ ⟨w.heap.size + 1, 0, none⟩ _ _ rfl rfl (load_row hb4 Try.underlying23 rfl (by rw [hrow, hLn])) (load_errno (he4.cell 0)), ?_, by rw [hRs]; rfl⟩
      exact hn02.trans ((Chg.setCells (S := fun k => k = w.heap.size ∨ k = w.heap.size + 1) (.inl rfl) L _ 0 (Chg.refl _ _)).setCell (p := ⟨w.heap.size + 1, 0, none⟩) (.inl (.inr rfl)) (.int .i64 0)) (fun j hj => .inr (by omega))
    · have hRn : R = none := HR.out.symm.trans (by
        rw [k]
        match s, hs with
        | none, _ => rfl
        | some (_ :: _), _ => rfl)
      have hev : endv s = 21 := by unfold endv; rw [if_neg hs]
      rw [hev]
      clear hev hs HR
      go_wp2_with (go_at_call 78; refine (insist_no _).mono ?_; rintro e w5 ⟨rfl, rfl⟩)
      refine decErr_Packet w _ hn02 L _ hb2 hLn he2 _ rfl _ ?_ ?_ <;> rfl
end Go.Proofs.Ytjcfdclgddjaoaa
