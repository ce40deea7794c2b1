/- Rows of numbers in memory; take: a turn. -/
import Derived.Test.YtmmacimneaehiaaChecked
import Derived.WalkKit
import Derived.WalkLawsBesides
import Derived.Lib.Hide
import Derived.Deep.QuietTactic
import Derived.BigQuiet
import Derived.Test.YtmmacimneaehiaaRv
import Derived.Test.YtmmacimneaehiaaTm
namespace Go.Proofs.Ytmmacimneaehiaa
open Go.RowKit
set_option linter.unusedVariables false
set_option linter.unusedSimpArgs false
set_option maxRecDepth 20000

def rowI (q : List Int) : Array Value := (q.map (Value.int .i64)).toArray
theorem rowI_get {q : List Int} {i : Nat} {c : Int} (h : q[i]? = some c) : (rowI q)[i]? = some (.int .i64 c) := by simp [rowI, h]
theorem rowI_set (q : List Int) (i : Nat) (c : Int) : (rowI q).setIfInBounds i (.int .i64 c) = rowI (q.set i c) := by simp [rowI, List.map_set]
/-- The block g is the numbers q. -/
def NumR (w : World) (g : Nat) (q : List Int) : Prop := Hb w g 3 (rowI q)
section
variable {w w' : World} {g : Nat} {q : List Int}
theorem NumR.chg {S : Nat → Prop} (h : NumR w g q) (k : Chg S w w') (hg : ¬ S g) : NumR w' g q := Hb.chg h k hg
theorem NumR.get (h : NumR w g q) {i : Nat} {c : Int} (hc : q[i]? = some c) : w.cell? ⟨g, i, none⟩ = some (.int .i64 c) := by rw [Hb.cell h, rowI_get hc]
theorem NumR.froz (h : NumR w g q) (i : Nat) : w.frozen? ⟨g, i, none⟩ = false := Hb.frozen h i
theorem NumR.set (h : NumR w g q) (i : Nat) (c : Int) : NumR (w.setCell ⟨g, i, none⟩ (.int .i64 c)) g (q.set i c) := by
  unfold NumR
  rw [← rowI_set]
  exact Hb.set h i _
theorem NumR.lt (h : NumR w g q) : g < w.heap.size := Hb.lt h
end
theorem LstM.chgS {α : Type} {S : Nat → Prop} {w w' : World} {A : Option Addr} {l : List α} {cells : α → List Value} {sz : Nat} (h : LstM w A l cells sz) (k : Chg S w w') (hS : ∀ j, abl A j → ¬ S j) : LstM w' A l cells sz := by
  intro i x hx
  obtain ⟨eb, eo, e, h2, h3⟩ := h i x hx
  exact ⟨eb, eo, e, Nat.lt_of_lt_of_le h2 k.size, k.range' h3 (hS eb ⟨_, e, rfl⟩)⟩

theorem part_set {l : List Va} {p : List Int} (hp : p.length = l.length) {k : Nat} {x : Va} {c : Int} (hx : l[k]? = some x) (hc : p[k]? = some c) :
    ((adds l p).take k ++ p.drop k)[k]? = some c ∧ ((adds l p).take k ++ p.drop k).set k (c + x.power) = (adds l p).take (k + 1) ++ p.drop (k + 1) := by
  have ha := adds_get hx hc
  have hk : k < (adds l p).length := (List.getElem?_eq_some_iff.1 ha).1
  have hkp : k < p.length := (List.getElem?_eq_some_iff.1 hc).1
  have hlen : ((adds l p).take k).length = k := by rw [List.length_take]; omega
  have hd : p.drop k = c :: p.drop (k + 1) := by
    rw [List.drop_eq_getElem_cons hkp]
    congr 1
    have := List.getElem?_eq_getElem hkp
    rw [hc] at this
    injection this with this
    exact this.symm
  refine ⟨?_, ?_⟩
  · rw [List.getElem?_append_right (by omega), hlen, Nat.sub_self, hd]
    rfl
  · rw [take_next ha, List.set_append_right _ _ (by omega), hlen, Nat.sub_self, hd, List.set_cons_zero, List.append_assoc]
    rfl
theorem part_get {l : List Va} {p : List Int} (hp : p.length = l.length) {k i : Nat} (hi : i < k) (hk : k ≤ l.length) : ((adds l p).take k ++ p.drop k)[i]? = some (nth (adds l p) i) := by
  have hia : i < (adds l p).length := by rw [adds_len hp]; omega
  rw [List.getElem?_append_left (by rw [List.length_take]; omega), List.getElem?_take, if_pos hi, List.getElem?_eq_getElem hia, nth_get (List.getElem?_eq_getElem hia)]

set_option maxHeartbeats 1600000 in
theorem take_any (w : World) (A : Option Addr) (c : Nat) (l : List Va) (h1 : 1 ≤ l.length) (hl : l.length ≤ 64) (ol : ∀ x ∈ l, x.Ok) (M : LstM w A l Va.cells 2)
    (g cap : Nat) (p : List Int) (hp : p.length = l.length) (P : Int) (hs : Sm l P) (t : Nat) (ht : t ≤ 4096) (hb : Bd t p) (R : NumR w g p) (hA : ∀ j, abl A j → ¬ j = g) :
    Calls Try.prog 14 #[.slice A l.length c, .slice (some ⟨g, 0, none⟩) l.length cap, .int .i64 P] w
      fun e w' => Chg (fun k => k = g) w w' ∧ NumR w' g (turn l P p) ∧ e = .returned (.int .i64 (pick l p)) := by
  have HM := Lib.hid M
  have HR := Lib.hid R
  have HB := Lib.hid hb
  have HS := Lib.hid hs
  have HP := Lib.hid hp
  have HA := Lib.hid hA
  have H1 := Lib.hid h1
  have hP1 := hs.1
  have hP2 := hs.2.1
  clear M R hb hs hp hA ol
  generalize hn : l.length = n at *
  have HL := Lib.hid hn
  clear hn
  go_enter Try.func14, Try.ntmps14
  go_wp2_with fail
  go_loopw [7, 12] (fun s i wr => ∃ k : Nat, k ≤ n ∧ i = .int .i64 (k : Int) ∧ s = .int .i64 (bestTo (adds l p) k : Int) ∧ Hid (NumR wr g ((adds l p).take k ++ p.drop k)) ∧ Chg (fun k => k = g) w wr) (fun _ i _ => n - (intOf i).toNat)
  case atStart => exact ⟨0, by omega, rfl, rfl, Lib.hid (by simpa using HR.out), Chg.refl _ _⟩
  case round =>
    obtain ⟨k, hk, rfl, rfl, hR, hC⟩ := hrel
    by_cases hlt : k < n
    · have hkl : k < l.length := by rw [HL.out]; exact hlt
      have hkp : k < p.length := by rw [HP.out]; exact hlt
      have hx := List.getElem?_eq_getElem hkl
      have hc := List.getElem?_eq_getElem hkp
      obtain ⟨a, ao, rfl, hal, r1⟩ := (HM.out.chgS hC HA.out) _ _ hx
      have hag : ¬ a = g := HA.out a ⟨_, rfl, rfl⟩
      have hcb := HB.out _ (List.mem_of_getElem? hc)
      have hxb := HS.out.2.2 _ (List.mem_of_getElem? hx)
      have hpl : p.length = l.length := by rw [HP.out, HL.out]
      obtain ⟨q1, q2⟩ := part_set hpl hx hc
      have HQ := Lib.hid q2
      have HX := Lib.hid hx
      have HC := Lib.hid hc
      have c0 := hR.out.get q1
      have f0 := hR.out.froz k
      have hgl := hR.out.lt
      generalize l[k] = x at *
      generalize p[k] = d at *
      have r0 := r1
      obtain ⟨p0, p1⟩ := rangeAt_cons r1
      obtain ⟨p1, _⟩ := rangeAt_cons p1
      have hki : (k : Int) < (n : Int) := by omega
      clear r1 hx hc hkl hkp q1 q2
      have hxk := nth_get (adds_get HX.out HC.out)
      have hbk : bestTo (adds l p) k < n := by
        rcases bestTo_lt (adds l p) k with h | h <;> omega
      have hbs : bestTo (adds l p) k < k + 1 := by
        rcases bestTo_lt (adds l p) k with h | h <;> omega
      have hnext : bestTo (adds l p) (k + 1) = if nth (adds l p) (bestTo (adds l p) k) < nth (adds l p) k then k else bestTo (adds l p) k := rfl
      have hN := Lib.hid hnext
      have cS := part_get (l := l) (p := p) (k := k + 1) hpl hbs (by rw [HL.out]; omega)
      have cK := part_get (l := l) (p := p) (k := k + 1) (i := k) hpl (by omega) (by rw [HL.out]; omega)
      rw [hxk] at hN cK
      generalize hv : nth (adds l p) (bestTo (adds l p) k) = v at *
      generalize hsl : bestTo (adds l p) k = s at *
      clear hnext
      have hsi : (s : Int) < (n : Int) := by omega
      go_wp2_with fail
      go_region
      obtain ⟨w2, hw2⟩ : ∃ w2, ((wr.setCell ⟨g, k, none⟩ (.int .i64 (d + x.power))).alloc (.cells #[.int .u64 (x.key : Int), .int .i64 x.power] 32)).drew = w2 := ⟨_, rfl⟩
      have hC2 : Chg (fun k => k = g) w w2 := by rw [← hw2]; exact ((hC.setCell (.inl rfl) _).alloc _).drew
      have hR2 : NumR w2 g ((adds l p).take (k + 1) ++ p.drop (k + 1)) := by
        rw [← hw2, ← HQ.out]
        exact (Hb.alloc (hR.out.set k _) _)
      have d1 := hR2.get cS
      have d2 := hR2.get cK
      have HR2 := Lib.hid hR2
      rw [hw2]
      clear hR2 hw2 cS cK c0 f0
      by_cases hgt : v < d + x.power
      · go_wp2_with fail
        go_quiet (fail)
        go_wp2_with fail
        go_roundw
        case rel => exact ⟨k + 1, by omega, by go_num, by rw [hN.out, if_pos hgt], Lib.hid (HR2.out.chg (Chg.drewN (Chg.refl Non _) _) (fun f => f)), hC2.drewN _⟩
        case measure => simp [intOf]; omega
      · go_wp2_with fail
        go_quiet (fail)
        go_wp2_with fail
        go_roundw
        case rel => exact ⟨k + 1, by omega, by go_num, by rw [hN.out, if_neg (by omega)], Lib.hid (HR2.out.chg (Chg.drewN (Chg.refl Non _) _) (fun f => f)), hC2.drewN _⟩
        case measure => simp [intOf]; omega
    · obtain rfl : k = n := by omega
      have hpl : p.length = l.length := by rw [HP.out, HL.out]
      have e1 : (adds l p).take k ++ p.drop k = adds l p := by
        rw [List.take_of_length_le (by rw [adds_len hpl, HL.out]; omega), List.drop_of_length_le (by rw [HP.out]; omega), List.append_nil]
      have hR' := hR.out
      rw [e1] at hR'
      have hpk : pick l p < l.length := pick_lt (by rw [HL.out]; exact H1.out)
      have hpa : pick l p < (adds l p).length := by rw [adds_len hpl]; exact hpk
      have hpe : bestTo (adds l p) k = pick l p := by unfold pick; rw [HL.out]
      have hturn : (adds l p).set (pick l p) (nth (adds l p) (pick l p) - P) = turn l P p := rfl
      have hg := List.getElem?_eq_getElem hpa
      obtain ⟨j, y, f, hy, hf, hyf⟩ := adds_mem (List.getElem_mem hpa)
      have b1 := HB.out f (List.mem_of_getElem? hf)
      have b2 := HS.out.2.2 y (List.mem_of_getElem? hy)
      rw [nth_get hg] at hturn
      rw [hpe]
      rw [HL.out] at hpk
      have hT := Lib.hid hturn
      have c1 := hR'.get hg
      have f1 := hR'.froz (pick l p)
      have HRn := Lib.hid hR'
      have hgl := hR'.lt
      generalize (adds l p)[pick l p] = v at *
      generalize hsp : pick l p = s at *
      clear hR' hg hturn hpa hy hf
      subst hyf
      have hsi : (s : Int) < (k : Int) := by omega
      go_wp2_with fail
      go_ret
      exact ⟨hC.setCell (.inl rfl) _, by rw [← hT.out]; exact HRn.out.set s _, by rw [hsp]; rfl⟩
end Go.Proofs.Ytmmacimneaehiaa
