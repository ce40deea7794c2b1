/- A tape as a loss of power leaves it: behind, Cut; all calls on no tape; the live question. -/
import Derived.Deep.QuietTactic
import Derived.BigQuiet
import Derived.Deep.RegionWith
import Derived.Test.YtenhicipgkjckaaJe
namespace Go.Proofs.Ytenhicipgkjckaa
open Go.RowKit
set_option linter.unusedVariables false
set_option linter.unusedSimpArgs false
set_option maxRecDepth 20000

/-- What the tape was behind so many calls. -/
theorem behind_any (w : World) (g : Nat) (F : Nat → Prop) (vp : Value) (h : List Ent) (x : Ent) (t : Tp 45 42 5 w g F vp h x) (k : Nat) (hk : k ≤ h.length) (hl : h.length ≤ 1000) :
    Calls Try.prog 21 #[.pointer (some ⟨g, 0, none⟩), .int .i64 (k : Int)] w fun e w' => ∃ y A c, (h ++ [x])[k]? = some y ∧ y.v = .slice A y.b.length c ∧ y.b.length ≤ c ∧ c ≤ maxLen ∧ Rd w A y.b ∧ e = .returned (.agg #[.slice A y.b.length c, .int .i64 (y.s : Int)]) ∧ Chg Non w w' := by
  have kd := (Chg.refl Non w).alloc (.cells #[.slice none 0 0, .int .i64 0] 42)
  have td := t.chg kd (fun _ _ f => f)
  have hgl := t.box.lt
  obtain ⟨Ap, cp, rfl, hpc, hpb, hpr⟩ := td.row.slice (fun x _ => Ent.cells_len x) (by omega)
  have c2 : w.cell? ⟨g, 2, none⟩ = some (.slice Ap h.length cp) := t.box.cell 2
  by_cases he : k = h.length
  · subst he
    obtain ⟨Ax, cx, hv, h1, h2, h3⟩ := t.nw.sl
    have c0 : w.cell? ⟨g, 0, none⟩ = some (.slice Ax x.b.length cx) := by rw [← hv]; exact t.box.cell 0
    have c1 : w.cell? ⟨g, 1, none⟩ = some (.int .i64 (x.s : Int)) := t.box.cell 1
    generalize hn : h.length = n at *
    have HH : Hid ((h ++ [x])[n]? = some x) := Lib.hid (by rw [← hn]; simp)
    clear td hpb hpr t
    go_enter Try.func21, Try.ntmps21
    go_wp2
    refine bodyPost_ret (results_cell_row rfl _ _ w.heap.size 42 #[.slice Ax x.b.length cx, .int .i64 (x.s : Int)] (0, 0) _ rfl (Hb.new w _ _) Try.underlying42 rfl (by kernel_rfl)) rfl ?_
    exact ⟨x, Ax, cx, HH.out, hv, h1, h2, h3, rfl, (Chg.refl Non w).alloc _⟩
  · have hkl : k < h.length := by omega
    have hke : (h ++ [x])[k]? = some h[k] := by rw [List.getElem?_append_left hkl, List.getElem?_eq_getElem hkl]
    obtain ⟨Ay, cy, hv, h1, h2, h3⟩ := (t.past h[k] (List.getElem_mem hkl)).1
    obtain ⟨eb, eo, rfl, _, hrg⟩ := hpr k h[k] (List.getElem?_eq_getElem hkl)
    generalize h[k] = y at *
    have d0 := (rangeAt_cons hrg).1
    have d1 := (rangeAt_cons (rangeAt_cons hrg).2).1
    rw [hv] at d0
    have hlt : (k : Int) < (h.length : Int) := by omega
    have hne : ((k : Int) == (h.length : Int)) = false := by simp; omega
    generalize h.length = n at *
    have HKE := Lib.hid hke
    clear td hpb hpr t hke hrg
    go_enter Try.func21, Try.ntmps21
    go_wp2
    refine bodyPost_ret (results_cell_row rfl _ _ w.heap.size 42 #[.slice Ay y.b.length cy, .int .i64 (y.s : Int)] (0, 0) _ rfl (Hb.new w _ _) Try.underlying42 rfl (by kernel_rfl)) rfl ?_
    exact ⟨y, Ay, cy, HKE.out, hv, h1, h2, h3, rfl, (Chg.refl Non w).alloc _⟩

/-- A tape as a loss of power leaves it. -/
theorem new_tape {w : World} {v : Value} {l : List UInt8} {w' : World} (ho : Own 5 w v l) (hl : l.length ≤ 1048576) (hb : ∀ j, vbl v j → w'.heap.size ≤ j) (hk : Chg Non w' w) :
    TP (w.alloc (.cells #[v, .int .i64 (l.length : Int), .slice none 0 0] 45)) w.heap.size (fun j => w'.heap.size ≤ j ∧ j < w.heap.size + 1) [(l, l.length)] := by
  have hs := hk.size
  have hlt := own_lt ho
  have ho' := ho.chg ((Chg.refl Non w).alloc (.cells #[v, .int .i64 (l.length : Int), .slice none 0 0] 45)) (fun _ _ f => f)
  refine ⟨.slice none 0 0, [], ⟨v, l, l.length⟩, ⟨Hb.new w _ _, OwnL.nil _, (fun j hj => by cases hj), ⟨hs, by omega⟩, .inl ho', (fun y hy => by cases hy), ?_, ?_, ?_⟩, rfl⟩
  · intro y hy j hj
    rw [List.nil_append, List.mem_singleton] at hy
    subst hy
    have h1 := hb j hj
    have h2 := hlt j hj
    exact ⟨⟨h1, by omega⟩, by omega, fun h => by cases h⟩
  · intro y hy
    rw [List.nil_append, List.mem_singleton] at hy
    subst hy
    exact ⟨Nat.le_refl _, hl, sl_one (Nw.sl (.inl ho))⟩
  · rintro j ⟨h1, h2⟩
    simp
    omega

def cutOf (x : St) (torn : Int) : List St := [(x.1.take (x.2 + pick torn (x.1.length - x.2 + 1)), x.2 + pick torn (x.1.length - x.2 + 1))]
theorem mCut_get {H : List St} {at_ torn : Int} {x : St} (h : H[pick at_ H.length]? = some x) : mCut H at_ torn = cutOf x torn := by
  unfold mCut cutOf
  rw [h]
  rfl
theorem mCut_of {h : List Ent} {x y : Ent} {H : List St} (hH : (h ++ [x]).map Ent.st = H) (torn : Int) {at_ : Int} (hy : (h ++ [x])[pick at_ (h.length + 1)]? = some y) : mCut H at_ torn = cutOf y.st torn := by
  unfold mCut cutOf
  rw [← hH, List.getElem?_map, List.length_map, List.length_append, List.length_singleton, hy]
  rfl

set_option maxHeartbeats 1600000 in
theorem Cut_any (w : World) (g : Nat) (F : Nat → Prop) (H : List St) (t : TP w g F H) (at_ torn : Int) (h1 : -9223372036854775808 ≤ at_) (h2 : at_ ≤ 9223372036854775807) (h3 : -9223372036854775808 ≤ torn) (h4 : torn ≤ 9223372036854775807) (hH : H.length ≤ 1000) :
    Calls Try.prog 12 #[.pointer (some ⟨g, 0, none⟩), .int .i64 at_, .int .i64 torn] w fun e w' => ∃ g' F', e = .returned (.pointer (some ⟨g', 0, none⟩)) ∧ TP w' g' F' (mCut H at_ torn) ∧ (∀ j, F' j → w.heap.size ≤ j) ∧ Chg Non w w' := by
  obtain ⟨vp, h, x, t, hHx⟩ := t
  have hl1000 : h.length ≤ 1000 := by have := len_of hHx; omega
  obtain ⟨Ap, cp, hvp, hpc, _⟩ := t.row.slice (fun x _ => Ent.cells_len x) (by omega)
  subst hvp
  have c2 : w.cell? ⟨g, 2, none⟩ = some (.slice Ap h.length cp) := t.box.cell 2
  have hkl : pick at_ (h.length + 1) ≤ h.length := by have := pick_lt at_ (h.length + 1) (by omega); omega
  have HC1 := counted_any w at_ h.length h1 h2 (by omega)
  have HB := behind_any w g F _ h x t (pick at_ (h.length + 1)) hkl hl1000
  have hm := fun y hy => mCut_of (y := y) hHx torn (at_ := at_) hy
  have hoky := t.ok
  have hokk : ∀ y, (h ++ [x])[pick at_ (h.length + 1)]? = some y → mCut H at_ torn = cutOf y.st torn := hm
  generalize pick at_ (h.length + 1) = k at *
  generalize h.length = hl at *
  have HM := Lib.hid hokk
  have HOK := Lib.hid hoky
  clear t hHx hm hoky hokk hpc
  go_enter Try.func12, Try.ntmps12
  go_wp2_with fail
  refine HC1.mono ?_
  rintro e w0 ⟨rfl, rfl⟩
  go_wp2_with fail
  refine HB.mono ?_
  rintro e w1 ⟨y, A, c, hy, hyv, hbc, hcm, hrd, rfl, k1⟩
  have hm := HM.out y hy
  unfold cutOf Ent.st at hm
  have hok := HOK.out y (List.mem_of_getElem? hy)
  obtain ⟨yv, l, s⟩ := y
  simp only at hm hok hyv hbc hrd ⊢
  have hsl : s ≤ l.length := hok.1
  have hll : l.length ≤ 1048576 := hok.2.1
  have HC2 := fun (u : World) => counted_any u torn (l.length - s) h3 h4 (by omega)
  rw [show ((l.length - s : Nat) : Int) = (l.length : Int) - (s : Int) by omega] at HC2
  have hp2 := pick_lt torn (l.length - s + 1) (by omega)
  generalize pick torn (l.length - s + 1) = q at *
  have hrd1 : Rd w1 A l := hrd.chg k1 (fun _ _ f => f)
  have HHM := Lib.hid hm
  have HR := Lib.hid hrd1
  have HK1 := Lib.hid k1
  clear hm hrd hrd1 k1 HM HOK hy hok hyv
  go_wp2_with fail
  go_quiet ((go_at_call 22; refine Calls.quiet_of_same (HC2 _)))
  go_wp2_with fail
  have hq : s + q ≤ l.length := by omega
  have k2 : Chg Non w0 ((w1.alloc (.cells #[.slice A l.length c, .int .i64 (s : Int)] 42)).drewN nq) := (HK1.out.alloc _).drewN nq
  have k3 : Chg Non w1 ((w1.alloc (.cells #[.slice A l.length c, .int .i64 (s : Int)] 42)).drewN nq) := ((Chg.refl Non w1).alloc _).drewN nq
  refine (clone_any _ A (s + q) c (l.take (s + q)) (by rw [List.length_take]; omega) hcm (by omega) ((HR.out.take _).chg k3 (fun _ _ f => f)) (by rw [List.length_take]; omega)).mono ?_
  rintro e w4 ⟨v, rfl, o4, b4, k4⟩
  obtain ⟨A4, c4, hv, _⟩ := o4.slice
  have hv' : v = .slice A4 (s + q) c4 := by rw [hv, List.length_take]; congr 1; omega
  subst hv'
  have k5 := k2.trans k4 (fun _ f => .inl f)
  have hfin := new_tape (w' := w0) o4 (by rw [List.length_take]; omega) (fun j hj => Nat.le_trans k2.size (b4 j hj)) k5
  have hlt : (l.take (s + q)).length = s + q := by rw [List.length_take]; omega
  rw [hlt] at hfin
  rw [show ((s + q : Nat) : Int) = (s : Int) + (q : Int) by omega] at hfin
  have HF := Lib.hid hfin
  have HK := Lib.hid k5
  clear hfin k5 k2 k3 k4 o4 b4 hv
  go_wp2
  go_ret
  refine ⟨w4.heap.size, fun j => w0.heap.size ≤ j ∧ j < w4.heap.size + 1, rfl, ?_, fun j hj => hj.1, HK.out.alloc _⟩
  rw [HHM.out]
  exact HF.out
end Go.Proofs.Ytenhicipgkjckaa
