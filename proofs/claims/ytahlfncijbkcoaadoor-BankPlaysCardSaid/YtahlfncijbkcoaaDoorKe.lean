/- take, give. -/
import Derived.Test.YtahlfncijbkcoaaDoorChecked
import Derived.WalkKit
import Derived.WalkLawsBesides
import Derived.Lib.Hide
import Derived.Deep.MidRow
import Derived.Deep.QuietTactic
import Derived.BigQuiet
import Derived.Deep.RegionHeld3
import Derived.Test.YtahlfncijbkcoaaDoorKr
namespace Go.Proofs.YtahlfncijbkcoaaDoor
open Go.RowKit
set_option linter.unusedVariables false
set_option linter.unusedSimpArgs false
set_option maxRecDepth 20000

theorem lookH_run {w : World} {b n : Nat} {F : Key → Nat} (h : MapK holT w b n F) (s d : ByteArray) (hs : s.size ≤ maxLen) (hd : d.size ≤ maxLen) : (Instr.lookup 43 (.map (some b)) (.agg #[.string s, .string d]) false).run Tryd.prog w = .ok (.int .u64 (F (s, d) : Int)) w :=
  h.look map_hol (s, d) ⟨hs, hd⟩
theorem lookS_run {w : World} {b n : Nat} {F : ByteArray → Nat} (h : MapK strT w b n F) (d : ByteArray) (hd : d.size ≤ maxLen) : (Instr.lookup 44 (.map (some b)) (.string d) false).run Tryd.prog w = .ok (.int .u64 (F d : Int)) w :=
  h.look map_str d hd
theorem wrap_sub {f c : Nat} (h : c ≤ f) (hf : f < 18446744073709551616) : IntKind.u64.wrap ((f : Int) - (c : Int)) = ((f - c : Nat) : Int) := by
  simp [IntKind.wrap, IntKind.bits, IntKind.signed]; omega
theorem wrap_add {f c : Nat} (h : f + c < 18446744073709551616) : IntKind.u64.wrap ((f : Int) + (c : Int)) = ((f + c : Nat) : Int) := by
  simp [IntKind.wrap, IntKind.bits, IntKind.signed]; omega
/-- What take leaves. -/
def TakeP (w : World) (g b1 b2 n : Nat) (F : Key → Nat) (S : ByteArray → Nat) (c : Nat) (s d : ByteArray) (e : Ending) (w' : World) : Prop :=
  (F (s, d) < c ∧ e = .returned (.int .i64 181) ∧ Chg Non w w') ∨ (c ≤ F (s, d) ∧ e = .returned (.int .i64 0) ∧ Chg (Bb b1 b2) w w' ∧ Hid (BkP w' g b1 b2 (n + 1) (kupd F (s, d) (F (s, d) - c)) S))
theorem BkP.am_chg {w w' : World} {g b1 b2 n m : Nat} {F F' : Key → Nat} {S : ByteArray → Nat} (h : BkP w g b1 b2 n F S) (k : Chg (· = b1) w w') (hm : MapK holT w' b1 m F') (hn : n ≤ m) : BkP w' g b1 b2 m F' S :=
  ⟨h.box.chg k h.g1, hm, (h.su.chg k (fun e => h.ne e.symm)).mono hn, h.ne, h.g1, h.g2⟩
theorem BkP.su_chg {w w' : World} {g b1 b2 n m : Nat} {F : Key → Nat} {S S' : ByteArray → Nat} (h : BkP w g b1 b2 n F S) (k : Chg (· = b2) w w') (hm : MapK strT w' b2 m S') (hn : n ≤ m) : BkP w' g b1 b2 m F S' :=
  ⟨h.box.chg k h.g2, (h.am.chg k (fun e => h.ne e)).mono hn, hm, h.ne, h.g1, h.g2⟩

set_option maxHeartbeats 1600000 in
theorem take_any (w : World) (g b1 b2 n : Nat) (F : Key → Nat) (S : ByteArray → Nat) (h : BkP w g b1 b2 n F S) (hn : n < 1000000) (s d : ByteArray) (hs : s.size ≤ maxLen) (hd : d.size ≤ maxLen) (c : Nat) (hc : c < 18446744073709551616) (hF : F (s, d) < 18446744073709551616) :
    Calls Tryd.prog 34 #[.pointer (some ⟨g, 0, none⟩), .string s, .string d, .int .u64 (c : Int)] w (TakeP w g b1 b2 n F S c s d) := by
  have k0 : Chg Non w (w.alloc (.cells #[.string s, .string d] 51)) := (Chg.refl _ _).alloc _
  have hb0 := Hb.new w 51 #[.string s, .string d]
  have H1 := h.non k0
  have HN := Lib.hid hn
  have HSD : Hid (s.size ≤ maxLen ∧ d.size ≤ maxLen) := Lib.hid ⟨hs, hd⟩
  have HB : Hid (∀ w', Chg Non (w.alloc (.cells #[.string s, .string d] 51)) w' → Chg Non w w' ∧ Hid (BkP w' g b1 b2 n F S) ∧ w'.cell? ⟨g, 0, none⟩ = some (.map (some b1)) ∧ w'.rangeAt w.heap.size 0 [.string s, .string d] ∧ (Instr.lookup 43 (.map (some b1)) (.agg #[.string s, .string d]) false).run Tryd.prog w' = .ok (.int .u64 (F (s, d) : Int)) w') := Lib.hid fun w' k => by
    have h2 := H1.non k
    have h3 := hb0.chg k (fun f => f)
    exact ⟨k0.trans k (fun _ f => f.elim), Lib.hid h2, h2.c1, h3.range0, lookH_run h2.am s d hs hd⟩
  have hrow : (Tryd.prog.info? 51).map (·.size) = some [Value.string s, .string d].length := by kernel_rfl
  have HLT : Hid (b1 < w.heap.size) := Lib.hid h.lts.2.1
  clear h hn hs hd k0 hb0 H1
  generalize hw1 : w.alloc (.cells #[.string s, .string d] 51) = w1 at *
  generalize hf : F (s, d) = f at *
  have HFE := Lib.hid hf
  clear hf
  have ent : ∀ args w, (callFunc 44 args).run Tryd.prog w = .ok (.enter 44 args) w := enters_of Tryd.func44 (by kernel_rfl) rfl
  go_enter Tryd.func34, Tryd.ntmps34
  go_wp2_with fail
  clear hw1
  rename_i ha
  refine wp_region_heads [0, 1, 2, 3, 4, 5, 6] 0 #[true, true, true, true, true, true, true] (by kernel_rfl) (by kernel_rfl) (by kernel_rfl) (by kernel_rfl) (by kernel_rfl) (fun w' => Chg Non w1 w') ((Chg.refl _ _).drew) ?_
  refine headI_run rfl rfl (fun w' kk => by (skip); go_simp; rfl) ?_
  simp only [Act.put, List.setIfInBounds_toArray, List.set_cons_zero, List.set_cons_succ]
  refine headI_run rfl rfl (fun w' kk => by (skip); go_simp; rfl) ?_
  simp only [Act.put, List.setIfInBounds_toArray, List.set_cons_zero, List.set_cons_succ]
  refine headI_run rfl rfl (fun w' kk => by (skip); go_simp; rfl) ?_
  simp only [Act.put, List.setIfInBounds_toArray, List.set_cons_zero, List.set_cons_succ]
  refine headI_run rfl rfl (fun w' kk => by (have x0 := (HB.out w' kk).2.2.1; skip); go_simp; rfl) ?_
  simp only [Act.put, List.setIfInBounds_toArray, List.set_cons_zero, List.set_cons_succ]
  refine headI_load rfl rfl _ _ rfl w.heap.size 0 rfl [.string s, .string d] _ (fun w' kk => (HB.out w' kk).2.2.2.1) Tryd.underlying51 rfl hrow ?_
  simp only [Act.put, List.setIfInBounds_toArray, List.set_cons_zero, List.set_cons_succ]
  refine headI_look 43 rfl rfl _ _ rfl rfl rfl (fun w' kk => (HB.out w' kk).2.2.2.2) ?_
  simp only [Act.put, List.setIfInBounds_toArray, List.set_cons_zero, List.set_cons_succ]
  refine headI_run rfl rfl (fun w' kk => by (skip); go_simp; rfl) ?_
  simp only [Act.put, List.setIfInBounds_toArray, List.set_cons_zero, List.set_cons_succ]
  refine headI_nil ?_
  refine wpAnyH_done (by kernel_rfl) ?_ _
  refine ha _ _ ?_
  have kd := (Chg.refl Non w1).drew
  have HBD : Hid (∀ w', Chg (· = b1) w1.drew w' → w'.cell? ⟨g, 0, none⟩ = some (.map (some b1)) ∧ w'.rangeAt w.heap.size 0 [.string s, .string d]) := Lib.hid fun w' k => by
    obtain ⟨q1, q2, q3, q4, _⟩ := HB.out w1.drew kd
    exact ⟨k.cell q3 q2.out.g1, k.range' q4 (fun e => by have := HLT.out; omega)⟩
  have HBP : Hid (Chg Non w w1.drew ∧ BkP w1.drew g b1 b2 n F S) := Lib.hid (by
    obtain ⟨q1, q2, _⟩ := HB.out w1.drew kd
    exact ⟨q1, q2.out⟩)
  clear kd HB
  generalize w1.drew = w2 at *
  by_cases hlt : (f : Int) < (c : Int)
  · go_wp2_with fail
    go_ret
    exact .inl ⟨by rw [HFE.out]; omega, rfl, HBP.out.1⟩
  go_wp2_with fail
  rename_i hb
  have hcf : c ≤ f := by omega
  refine wp_region_heads [0, 1, 2, 3, 4, 5, 6, 7] 1 #[true, true, true, true, true, true, true, true, false] (by kernel_rfl) (by kernel_rfl) (by kernel_rfl) (by kernel_rfl) (by kernel_rfl) (fun w' => Chg (· = b1) w2 w') ((Chg.refl _ _).drew) ?_
  refine headI_run rfl rfl (fun w' kk => by (skip); go_simp; rfl) ?_
  simp only [Act.put, List.setIfInBounds_toArray, List.set_cons_zero, List.set_cons_succ]
  refine headI_run rfl rfl (fun w' kk => by (skip); go_simp; rfl) ?_
  simp only [Act.put, List.setIfInBounds_toArray, List.set_cons_zero, List.set_cons_succ]
  refine headI_run rfl rfl (fun w' kk => by (skip); go_simp; rfl) ?_
  simp only [Act.put, List.setIfInBounds_toArray, List.set_cons_zero, List.set_cons_succ]
  refine headI_run rfl rfl (fun w' kk => by (have x0 := (HBD.out w' kk).1; skip); go_simp; rfl) ?_
  simp only [Act.put, List.setIfInBounds_toArray, List.set_cons_zero, List.set_cons_succ]
  refine headI_load rfl rfl _ _ rfl w.heap.size 0 rfl [.string s, .string d] _ (fun w' kk => (HBD.out w' kk).2) Tryd.underlying51 rfl hrow ?_
  simp only [Act.put, List.setIfInBounds_toArray, List.set_cons_zero, List.set_cons_succ]
  refine headI_run rfl rfl (fun w' kk => by (skip); go_simp; rfl) ?_
  simp only [Act.put, List.setIfInBounds_toArray, List.set_cons_zero, List.set_cons_succ]
  refine headI_run rfl rfl (fun w' kk => by (skip); go_simp; rfl) ?_
  simp only [Act.put, List.setIfInBounds_toArray, List.set_cons_zero, List.set_cons_succ]
  refine headI_run (v := .int .u64 ((f - c : Nat) : Int)) rfl rfl (fun w' kk => by go_simp; rw [wrap_sub hcf hF]) ?_
  simp only [Act.put, List.setIfInBounds_toArray, List.set_cons_zero, List.set_cons_succ]
  refine headI_nil ?_
  have HBD2 : Hid (Chg Non w w2.drew ∧ Hid (BkP w2.drew g b1 b2 n F S) ∧ Chg Non w2 w2.drew) := Lib.hid ⟨HBP.out.1.drew, Lib.hid (HBP.out.2.non ((Chg.refl Non w2).drew)), (Chg.refl Non w2).drew⟩
  clear HBD HBP
  generalize w2.drew = w3 at *
  refine held_w (n := 8) (fuel := 0) (L' := #[true, true, true, true, true, true, true, true, true]) rfl (by kernel_rfl) rfl (by kernel_rfl) ?_
  refine wp_call (vl := [.map (some b1), .agg #[.string s, .string d], .int .u64 ((f - c : Nat) : Int)]) 44 _ _ rfl rfl ent (putH_any w3 b1 n F HBD2.out.2.1.out.am HN.out s d HSD.out.1 HSD.out.2 (f - c) (by omega)) ?_
  rintro e w4 ⟨rfl, k4, h4⟩
  refine ⟨_, rfl, ?_⟩
  have HR : Hid (TakeP w g b1 b2 n F S c s d (.returned (.int .i64 0)) w4) := Lib.hid (by
    refine .inr ⟨by rw [HFE.out]; exact hcf, rfl, ?_, Lib.hid ?_⟩
    · exact (HBD2.out.1.mono (fun _ f => f.elim)).trans k4 (fun j e => .inl (.inl e))
    · rw [HFE.out]
      exact HBD2.out.2.1.out.am_chg k4 h4.out (by omega))
  refine ⟨(HBD2.out.2.2.mono (fun _ f => f.elim)).trans k4 (fun j e => .inl e), ?_⟩
  refine wpAnyH_done (by kernel_rfl) ?_ _
  refine hb _ _ ?_
  clear hb ha HBD2 k4 h4
  simp only [Act.put, List.setIfInBounds_toArray, List.set_cons_zero, List.set_cons_succ]
  go_wp2_with fail
  go_ret
  exact HR.out
/-- What give leaves. -/
def GiveP (w : World) (g b1 b2 n : Nat) (F : Key → Nat) (S : ByteArray → Nat) (e : Ending) (w' : World) : Prop :=
  e = .returned (.tuple #[]) ∧ Chg (Bb b1 b2) w w' ∧ Hid (BkP w' g b1 b2 n F S)
set_option maxHeartbeats 1600000 in
theorem give_any (w : World) (g b1 b2 n : Nat) (F : Key → Nat) (S : ByteArray → Nat) (h : BkP w g b1 b2 n F S) (hn : n < 1000000) (s d : ByteArray) (hs : s.size ≤ maxLen) (hd : d.size ≤ maxLen) (c : Nat) (hF : F (s, d) + c < 18446744073709551616) :
    Calls Tryd.prog 33 #[.pointer (some ⟨g, 0, none⟩), .string s, .string d, .int .u64 (c : Int)] w (GiveP w g b1 b2 (n + 1) (kupd F (s, d) (F (s, d) + c)) S) := by
  have k0 : Chg Non w (w.alloc (.cells #[.string s, .string d] 51)) := (Chg.refl _ _).alloc _
  have hb0 := Hb.new w 51 #[.string s, .string d]
  have H1 := h.non k0
  have HN := Lib.hid hn
  have HSD : Hid (s.size ≤ maxLen ∧ d.size ≤ maxLen) := Lib.hid ⟨hs, hd⟩
  have HLT : Hid (b1 < w.heap.size) := Lib.hid h.lts.2.1
  have HB : Hid (∀ w', Chg Non (w.alloc (.cells #[.string s, .string d] 51)) w' → Chg Non w w' ∧ BkP w' g b1 b2 n F S ∧ w'.cell? ⟨g, 0, none⟩ = some (.map (some b1)) ∧ w'.rangeAt w.heap.size 0 [.string s, .string d]) := Lib.hid fun w' k => by
    have h2 := H1.non k
    have h3 := hb0.chg k (fun f => f)
    exact ⟨k0.trans k (fun _ f => f.elim), h2, h2.c1, h3.range0⟩
  have hrow : (Tryd.prog.info? 51).map (·.size) = some [Value.string s, .string d].length := by kernel_rfl
  clear h hn hs hd k0 hb0 H1
  generalize hw1 : w.alloc (.cells #[.string s, .string d] 51) = w1 at *
  have kd := (Chg.refl Non w1).drew
  have HBD : Hid (∀ w', Chg (· = b1) w1.drew w' → w'.cell? ⟨g, 0, none⟩ = some (.map (some b1)) ∧ w'.rangeAt w.heap.size 0 [.string s, .string d]) := Lib.hid fun w' k => by
    obtain ⟨q1, q2, q3, q4⟩ := HB.out w1.drew kd
    exact ⟨k.cell q3 q2.g1, k.range' q4 (fun e => by have := HLT.out; omega)⟩
  have HBP : Hid (Chg Non w w1.drew ∧ BkP w1.drew g b1 b2 n F S) := Lib.hid (by
    obtain ⟨q1, q2, _⟩ := HB.out w1.drew kd
    exact ⟨q1, q2⟩)
  clear HB kd
  have ent : ∀ args w, (callFunc 44 args).run Tryd.prog w = .ok (.enter 44 args) w := enters_of Tryd.func44 (by kernel_rfl) rfl
  go_enter Tryd.func33, Tryd.ntmps33
  go_wp2_with fail
  clear hw1
  try rename_i hb
  refine wp_region_heads [0, 1, 2, 3, 4, 5, 6, 7, 8, 9, 11] 3 #[true, true, true, true, true, true, true, true, true, true, false, true, false, false] (by kernel_rfl) (by kernel_rfl) (by kernel_rfl) (by kernel_rfl) (by kernel_rfl) (fun w' => Chg (· = b1) w1.drew w') (Chg.refl _ _) ?_
  refine headI_run rfl rfl (fun w' kk => by (skip); go_simp; rfl) ?_
  simp only [Act.put, List.setIfInBounds_toArray, List.set_cons_zero, List.set_cons_succ]
  refine headI_run rfl rfl (fun w' kk => by (skip); go_simp; rfl) ?_
  simp only [Act.put, List.setIfInBounds_toArray, List.set_cons_zero, List.set_cons_succ]
  refine headI_run rfl rfl (fun w' kk => by (skip); go_simp; rfl) ?_
  simp only [Act.put, List.setIfInBounds_toArray, List.set_cons_zero, List.set_cons_succ]
  refine headI_run rfl rfl (fun w' kk => by (have x0 := (HBD.out w' kk).1; skip); go_simp; rfl) ?_
  simp only [Act.put, List.setIfInBounds_toArray, List.set_cons_zero, List.set_cons_succ]
  refine headI_load rfl rfl _ _ rfl w.heap.size 0 rfl [.string s, .string d] _ (fun w' kk => (HBD.out w' kk).2) Tryd.underlying51 rfl hrow ?_
  simp only [Act.put, List.setIfInBounds_toArray, List.set_cons_zero, List.set_cons_succ]
  refine headI_run rfl rfl (fun w' kk => by (skip); go_simp; rfl) ?_
  simp only [Act.put, List.setIfInBounds_toArray, List.set_cons_zero, List.set_cons_succ]
  refine headI_run rfl rfl (fun w' kk => by (skip); go_simp; rfl) ?_
  simp only [Act.put, List.setIfInBounds_toArray, List.set_cons_zero, List.set_cons_succ]
  refine headI_run rfl rfl (fun w' kk => by (skip); go_simp; rfl) ?_
  simp only [Act.put, List.setIfInBounds_toArray, List.set_cons_zero, List.set_cons_succ]
  refine headI_run rfl rfl (fun w' kk => by (have x0 := (HBD.out w' kk).1; skip); go_simp; rfl) ?_
  simp only [Act.put, List.setIfInBounds_toArray, List.set_cons_zero, List.set_cons_succ]
  refine headI_load rfl rfl _ _ rfl w.heap.size 0 rfl [.string s, .string d] _ (fun w' kk => (HBD.out w' kk).2) Tryd.underlying51 rfl hrow ?_
  simp only [Act.put, List.setIfInBounds_toArray, List.set_cons_zero, List.set_cons_succ]
  refine headI_run rfl rfl (fun w' kk => by (skip); go_simp; rfl) ?_
  simp only [Act.put, List.setIfInBounds_toArray, List.set_cons_zero, List.set_cons_succ]
  refine headI_nil ?_
  generalize w1.drew = w3 at *
  refine held_w (n := 10) (fuel := 2) (L' := #[true, true, true, true, true, true, true, true, true, true, true, true, false, false]) rfl (by kernel_rfl) rfl (by kernel_rfl) ?_
  refine wp_look 43 _ _ rfl rfl rfl (lookH_run HBP.out.2.am s d HSD.out.1 HSD.out.2) ?_
  simp only [Act.put, List.setIfInBounds_toArray, List.set_cons_zero, List.set_cons_succ]
  refine ⟨Chg.refl _ _, ?_⟩
  refine held_w (n := 12) (fuel := 1) (L' := #[true, true, true, true, true, true, true, true, true, true, true, true, true, false]) rfl (by kernel_rfl) rfl (by kernel_rfl) ?_
  refine wp_val (v := .int .u64 ((F (s, d) + c : Nat) : Int)) (by go_simp; rw [wrap_add hF]; omega) ?_
  simp only [Act.put, List.setIfInBounds_toArray, List.set_cons_zero, List.set_cons_succ]
  refine ⟨Chg.refl _ _, ?_⟩
  refine held_w (n := 13) (fuel := 0) (L' := #[true, true, true, true, true, true, true, true, true, true, true, true, true, true]) rfl (by kernel_rfl) rfl (by kernel_rfl) ?_
  refine wp_call (vl := [.map (some b1), .agg #[.string s, .string d], .int .u64 ((F (s, d) + c : Nat) : Int)]) 44 _ _ rfl rfl ent (putH_any w3 b1 n F HBP.out.2.am HN.out s d HSD.out.1 HSD.out.2 (F (s, d) + c) hF) ?_
  rintro e w4 ⟨rfl, k4, h4⟩
  refine ⟨_, rfl, ?_⟩
  have HR : Hid (GiveP w g b1 b2 (n + 1) (kupd F (s, d) (F (s, d) + c)) S (.returned (.tuple #[])) w4) := Lib.hid (by
    refine ⟨rfl, (HBP.out.1.mono (fun _ f => f.elim)).trans k4 (fun j e => .inl (.inl e)), Lib.hid (HBP.out.2.am_chg k4 h4.out (by omega))⟩)
  refine ⟨k4, ?_⟩
  refine wpAnyH_done (by kernel_rfl) ?_ _
  first
    | (refine hb _ _ ?_
       clear hb HBP k4 h4
       simp only [Act.put, List.setIfInBounds_toArray, List.set_cons_zero, List.set_cons_succ]
       go_wp2_with fail
       go_end0
       exact HR.out)
    | (clear HBP k4 h4
       simp only [Act.put, List.setIfInBounds_toArray, List.set_cons_zero, List.set_cons_succ]
       go_end0
       exact HR.out)
end Go.Proofs.YtahlfncijbkcoaaDoor
