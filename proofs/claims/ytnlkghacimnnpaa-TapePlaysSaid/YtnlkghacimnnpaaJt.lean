/- The document's tape as a loss of power leaves it. -/
import Derived.Deep.QuietTactic
import Derived.BigQuiet
import Derived.Test.YtnlkghacimnnpaaJf
import Derived.Test.YtnlkghacimnnpaaJs
namespace Go.Proofs.Ytnlkghacimnnpaa
open Go.RowKit
set_option linter.unusedVariables false
set_option linter.unusedSimpArgs false
set_option maxRecDepth 20000

theorem ent_Pick (args : Array Value) (w : World) : (callFunc 19 args).run Try.prog w = .ok (.enter 19 args) w := enters_of Try.func19 (by kernel_rfl) rfl args w

theorem fin_cut {w wA : World} {nq : Nat} {m : Nat} {G : Nat → Prop} {A : Option Addr} {l : List UInt8} {c n : Nat} {vl : Value} {H' : List St} (k : Chg Non w wA) (hap : ∀ j, vbl (.slice A l.length c) j → G j ∧ j ≠ m ∧ ¬ vbl vl j) (hgl : ∀ j, G j → j < w.heap.size) (hr : Rd w A l) (hc : c ≤ maxLen) (hlc : l.length ≤ c) (hl : l.length ≤ 1048576) (hn : n ≤ l.length) (hH : H' = [(l.take n, n)]) :
    RP (((wA.drewN nq).alloc (.cells #[.slice A n c, .int .i64 (n : Int)] 44)).alloc (.cells #[.slice (some ⟨wA.heap.size, 0, none⟩) 1 1] 47)) (wA.heap.size + 1) (fun j => G j ∨ w.heap.size ≤ j ∧ j < wA.heap.size + 2) H' ∧
      (∀ j, (G j ∨ w.heap.size ≤ j ∧ j < wA.heap.size + 2) → G j ∨ w.heap.size ≤ j) ∧ Chg Non w (((wA.drewN nq).alloc (.cells #[.slice A n c, .int .i64 (n : Int)] 44)).alloc (.cells #[.slice (some ⟨wA.heap.size, 0, none⟩) 1 1] 47)) := by
  have hks := k.size
  have hlt : (l.take n).length = n := by rw [List.length_take]; omega
  have o1 := own_one (wA.drewN nq) ⟨.slice A n c, l.take n, n⟩
  have k1 := (k.drewN nq).alloc (.cells #[.slice A n c, .int .i64 (n : Int)] 44)
  have k2 := k1.alloc (.cells #[.slice (some ⟨wA.heap.size, 0, none⟩) 1 1] 47)
  have hsz : ((wA.drewN nq).alloc (.cells #[.slice A n c, .int .i64 (n : Int)] 44)).heap.size = wA.heap.size + 1 := by simp
  have b2 := Hb.new ((wA.drewN nq).alloc (.cells #[.slice A n c, .int .i64 (n : Int)] 44)) 47 #[.slice (some ⟨wA.heap.size, 0, none⟩) 1 1]
  rw [hsz] at b2
  have o2 := o1.chg ((Chg.refl Non ((wA.drewN nq).alloc (.cells #[.slice A n c, .int .i64 (n : Int)] 44))).alloc (.cells #[.slice (some ⟨wA.heap.size, 0, none⟩) 1 1] 47)) (fun _ _ f => f)
  refine ⟨⟨_, [], ⟨.slice A n c, l.take n, n⟩, ⟨b2, o2, ?_, .inr ⟨by omega, by omega⟩, ?_, ?_, ?_, ?_⟩, hH.symm⟩, ?_, k2⟩
  · intro j hj
    have : some wA.heap.size = some j := hj
    injection this with this
    exact .inr ⟨by omega, by omega⟩
  · intro y hy
    rw [List.nil_append, List.mem_singleton] at hy
    subst hy
    exact ⟨A, c, by rw [hlt], by rw [hlt]; omega, hc, (hr.take n).chg k2 (fun _ _ f => f)⟩
  · intro y hy j hj
    rw [List.nil_append, List.mem_singleton] at hy
    subst hy
    have h1 := (hap j (vbl_to hj)).1
    have h2 := hgl j h1
    refine ⟨.inl h1, by omega, fun h => ?_⟩
    have : some wA.heap.size = some j := h
    injection this with this
    omega
  · intro y hy
    rw [List.nil_append, List.mem_singleton] at hy
    subst hy
    exact ⟨by show n ≤ (l.take n).length; omega, by show (l.take n).length ≤ _; omega⟩
  · rintro j (h | h)
    · have := hgl j h; simp; omega
    · simp; omega
  · rintro j (h | h)
    · exact .inl h
    · exact .inr h.1

set_option maxHeartbeats 1600000 in
theorem rCut_any (w : World) (m : Nat) (G : Nat → Prop) (H : List St) (t : RP w m G H) (at_ torn : Int) (h1 : -9223372036854775808 ≤ at_) (h2 : at_ ≤ 9223372036854775807) (h3 : -9223372036854775808 ≤ torn) (h4 : torn ≤ 9223372036854775807) (hH : H.length ≤ 1000) :
    Calls Try.prog 8 #[.pointer (some ⟨m, 0, none⟩), .int .i64 at_, .int .i64 torn] w fun e w' => ∃ m' G', e = .returned (.pointer (some ⟨m', 0, none⟩)) ∧ RP w' m' G' (mCut H at_ torn) ∧ (∀ j, G' j → G j ∨ w.heap.size ≤ j) ∧ Chg Non w w' := by
  obtain ⟨vl, h, x, t, hHx⟩ := t
  have hlen : (h ++ [x]).length = H.length := by rw [← hHx, List.length_map]
  have hpos : 0 < H.length := by rw [← hlen]; simp
  have hkl := pick_lt at_ H.length hpos
  obtain ⟨y, hy⟩ : ∃ y, (h ++ [x])[pick at_ H.length]? = some y := ⟨_, List.getElem?_eq_getElem (by rw [hlen]; exact hkl)⟩
  have hm : mCut H at_ torn = cutOf y.st torn := mCut_get (by rw [← hHx, List.getElem?_map, hHx, hy]; rfl)
  have hym := List.mem_of_getElem? hy
  obtain ⟨A, c, hv, q1, q2, q3⟩ := t.rd y hym
  have hok := t.ok y hym
  have hap := t.apart y hym
  obtain ⟨Ap, cp, hvl, _, _, hpr⟩ := t.row.slice (fun x _ => Ent.cells_len x) (by omega)
  obtain ⟨eb, eo, e, hlt, hrg⟩ := hpr _ y hy
  subst e
  subst hvl
  have d0 := (rangeAt_cons hrg).1
  have d1 := (rangeAt_cons (rangeAt_cons hrg).2).1
  have c0 := t.box.cell 0
  rw [hlen] at c0
  rw [hv] at d0
  have hml := t.box.lt
  have HC1 := fun (u : World) => rPick_any u at_ H.length h1 h2 hpos (by omega)
  have hke : (pick at_ H.length : Int) < (H.length : Int) := by omega
  generalize pick at_ H.length = k at *
  obtain ⟨yv, l, s⟩ := y
  simp only at hv q1 q3 hok hap d0 d1 hm
  subst hv
  have hgl := t.lt
  have hHl : H.length ≤ 1000 := hH
  generalize H.length = n at *
  have HM := Lib.hid hm
  have HAP := Lib.hid hap
  have HGL := Lib.hid hgl
  have HR := Lib.hid q3
  clear t hHx hm hap hgl q3 hpr hrg hy hym hlen
  go_enter Try.func8, Try.ntmps8
  go_wp2_with fail
  go_region_law (refine step_call _ (by rfl) 19 _ _ (by rfl) (by rfl) ent_Pick (HC1 _) ?_; rintro e wx ⟨rfl, hwx⟩; subst hwx; refine ⟨_, rfl, ?_⟩)
  all_goals
    have kA : Chg Non w (w.alloc (.cells #[.slice A l.length c, .int .i64 (s : Int)] 44)).drew := ((Chg.refl Non w).alloc _).drew
    have bx : Hb (w.alloc (.cells #[.slice A l.length c, .int .i64 (s : Int)] 44)).drew w.heap.size 44 #[.slice A l.length c, .int .i64 (s : Int)] := Hb.new w _ _
    obtain ⟨wA, hA⟩ : ∃ wA, (w.alloc (.cells #[.slice A l.length c, .int .i64 (s : Int)] 44)).drew = wA := ⟨_, rfl⟩
    rw [hA] at kA bx ⊢
    clear hA
    have x0 : wA.cell? ⟨w.heap.size, 0, none⟩ = some (.slice A l.length c) := bx.cell 0
    have x1 : wA.cell? ⟨w.heap.size, 1, none⟩ = some (.int .i64 (s : Int)) := bx.cell 1
    have hnb : w.heap.size < wA.heap.size := bx.lt
    have hsl : s ≤ l.length := hok.1
    have hll : l.length ≤ 1048576 := hok.2
    have HC2 := fun (u : World) => rPick_any u torn (l.length - s + 1) h3 h4 (by omega) (by omega)
    rw [show ((l.length - s + 1 : Nat) : Int) = (l.length : Int) - (s : Int) + 1 by omega] at HC2
    have hp2 := pick_lt torn (l.length - s + 1) (by omega)
    have hm := HM.out
    unfold cutOf Ent.st at hm
    simp only at hm
    generalize pick torn (l.length - s + 1) = q at *
    have hq : s + q ≤ l.length := by omega
    have HHM := Lib.hid hm
    have HKA := Lib.hid kA
    have HSL := Lib.hid hsl
    have HOK := Lib.hid hok
    clear hm kA bx HM hok
    go_wp2_with fail
    go_quiet ((go_at_call 19; refine Calls.quiet_of_same (HC2 _)))
    go_wp2_with fail
    go_ret
    exact ⟨_, _, rfl, fin_cut HKA.out HAP.out HGL.out HR.out q2 q1 hll hq HHM.out⟩
end Go.Proofs.Ytnlkghacimnnpaa
