/- The document's Sorted: entries by rising keys. -/
import Derived.Test.YtahlfncijbkcoaaDoorChecked
import Derived.WalkKit
import Derived.WalkLawsBesides
import Derived.OwnWalk
import Derived.Lib.Hide
import Derived.Deep.MidRow
import Derived.Deep.QuietTactic
import Derived.BigQuiet
import Derived.Test.YtahlfncijbkcoaaDoorKv
namespace Go.Proofs.YtahlfncijbkcoaaDoor
open Go.RowKit
set_option linter.unusedVariables false
set_option linter.unusedSimpArgs false
set_option maxRecDepth 20000

/-! ### Lists -/
def insAt (ss : List En) (k : Nat) (x : En) : List En := ss.take k ++ x :: ss.drop k
theorem insAt_len {ss : List En} {k : Nat} (h : k ≤ ss.length) (x : En) : (insAt ss k x).length = ss.length + 1 := by
  unfold insAt
  rw [List.length_append, List.length_cons, List.length_take, List.length_drop]
  omega
theorem insAt_at {ss : List En} {k : Nat} (h : k ≤ ss.length) (x : En) : (insAt ss k x)[k]? = some x := by
  unfold insAt
  rw [List.getElem?_append_right (by rw [List.length_take]; omega), List.length_take, Nat.min_eq_left h]
  simp
theorem insAt_before {ss : List En} {j : Nat} {y : En} (h : ss[j]? = some y) (x : En) : (insAt ss (j + 1) x)[j]? = some y := by
  have hj := (List.getElem?_eq_some_iff.1 h).1
  unfold insAt
  rw [List.getElem?_append_left (by rw [List.length_take]; omega), List.getElem?_take, if_pos (by omega)]
  exact h
theorem insAt_end (ss : List En) (x : En) : insAt ss ss.length x = ss ++ [x] := by
  unfold insAt
  simp
theorem insAt_perm (ss : List En) (k : Nat) (x : En) : (insAt ss k x).Perm (ss ++ [x]) := by
  unfold insAt
  have h1 : (ss.take k ++ x :: ss.drop k).Perm (x :: (ss.take k ++ ss.drop k)) := List.perm_middle
  rw [List.take_append_drop] at h1
  exact h1.trans (List.perm_append_comm (l₁ := [x]) (l₂ := ss))
theorem insAt_swap {ss : List En} {j : Nat} {y : En} (h : ss[j]? = some y) (x : En) : ((insAt ss (j + 1) x).set (j + 1) y).set j x = insAt ss j x := by
  obtain ⟨hj, e⟩ := List.getElem?_eq_some_iff.1 h
  unfold insAt
  rw [List.set_append_right _ _ (by rw [List.length_take]; omega), List.length_take, Nat.min_eq_left (by omega), Nat.sub_self, List.set_cons_zero]
  rw [List.set_append_left _ _ (by rw [List.length_take]; omega)]
  rw [List.take_succ_eq_append_getElem hj, List.set_append_right _ _ (by rw [List.length_take]; omega), List.length_take, Nat.min_eq_left (by omega), Nat.sub_self, List.set_cons_zero]
  rw [List.append_assoc, List.singleton_append, ← e, List.drop_eq_getElem_cons hj]
theorem insAt_sorted {ss : List En} {k : Nat} {x : En} (hk : k ≤ ss.length) (hs : ss.Pairwise (fun a b => lessB b.key a.key = false)) (h1 : ∀ y ∈ ss.drop k, lessB y.key x.key = false) (h2 : ∀ j y, k = j + 1 → ss[j]? = some y → lessB x.key y.key = false) : (insAt ss k x).Pairwise (fun a b => lessB b.key a.key = false) := by
  unfold insAt
  have hs' := hs
  rw [← List.take_append_drop k ss, List.pairwise_append] at hs'
  rw [List.pairwise_append, List.pairwise_cons]
  refine ⟨hs'.1, ⟨h1, hs'.2.1⟩, fun a ha b hb => ?_⟩
  rcases List.mem_cons.1 hb with rfl | hb
  · cases k with
    | zero => simp at ha
    | succ j =>
      have hj : j < ss.length := by omega
      have hy := List.getElem?_eq_getElem hj
      have hx := h2 j _ rfl hy
      obtain ⟨i, hi⟩ := List.getElem?_of_mem ha
      have hil : i < j + 1 := by have := (List.getElem?_eq_some_iff.1 hi).1; rw [List.length_take] at this; omega
      rw [List.getElem?_take, if_pos hil] at hi
      by_cases e : i = j
      · subst e
        rw [hy] at hi
        injection hi with hi
        rw [← hi]
        exact hx
      · obtain ⟨hi1, hi2⟩ := List.getElem?_eq_some_iff.1 hi
        have := List.pairwise_iff_getElem.1 hs i j hi1 hj (by omega)
        rw [hi2] at this
        exact lessB_ntrans hx this
  · exact hs'.2.2 a ha b hb
theorem flat_set : ∀ (l : List En) (k : Nat) (y : En), (((l.flatMap En.cells).set (k * 2) (.string y.key)).set (k * 2 + 1) (.string y.val)) = (l.set k y).flatMap En.cells
  | [], k, y => by simp
  | x :: l, 0, y => by simp [En.cells]
  | x :: l, k + 1, y => by
    rw [List.set_cons_succ, List.flatMap_cons, List.flatMap_cons, ← flat_set l k y]
    show (((.string x.key :: .string x.val :: l.flatMap En.cells : List Value).set ((k + 1) * 2) (.string y.key)).set ((k + 1) * 2 + 1) (.string y.val)) = _
    rw [show (k + 1) * 2 = k * 2 + 1 + 1 by omega]
    rw [List.set_cons_succ, List.set_cons_succ, List.set_cons_succ, List.set_cons_succ]
    rfl

/-! ### One element put -/
theorem own_put {w : World} {g n cap k : Nat} {l : List En} (h : OwnE w (.slice (some ⟨g, 0, none⟩) n cap) l) (hk : k < l.length) (y : En) :
    OwnE (w.setCells g (k * 2) y.cells) (.slice (some ⟨g, 0, none⟩) n cap) (l.set k y) ∧ Chg (· = g) w (w.setCells g (k * 2) y.cells) := by
  obtain ⟨⟨h1, h2⟩, h3⟩ := h
  rcases h2 with ⟨e, _⟩ | ⟨g', cap', cur, e, hb, hg, hn, hm, hs, ht⟩
  · cases e
  · injection e with e1 e2 e3
    injection e1 with e1
    injection e1 with e1
    subst e1
    subst e3
    have hg0 : Hb w g 54 cur := hg
    have hset : Hb (w.setCells g (k * 2) y.cells) g 54 ((cur.setIfInBounds (k * 2) (.string y.key)).setIfInBounds (k * 2 + 1) (.string y.val)) := (hg0.set (k * 2) _).set (k * 2 + 1) _
    refine ⟨⟨⟨?_, .inr ⟨g, cap, _, ?_, hb, hset, ?_, hm, ?_, ?_⟩⟩, h3⟩, ?_⟩
    · rw [flat_size (cells := En.cells) (sz := 2) (fun x _ => rfl)]
    · rw [List.length_set, e2]
    · rw [List.length_set]; exact hn
    · rw [Array.size_setIfInBounds, Array.size_setIfInBounds]; exact hs
    · rw [List.length_set, Array.toList_setIfInBounds, Array.toList_setIfInBounds, List.take_set, List.take_set, ht]
      exact flat_set l k y
    · exact ((Chg.refl (fun j => j = g) w).setCell (p := ⟨g, k * 2, none⟩) (.inl rfl) _).setCell (p := ⟨g, k * 2 + 1, none⟩) (.inl rfl) _
theorem OwnE.row {w : World} {g n cap : Nat} {l : List En} (h : OwnE w (.slice (some ⟨g, 0, none⟩) n cap) l) : (∀ i x, l[i]? = some x → w.cell? ⟨g, i * 2, none⟩ = some (.string x.key) ∧ w.cell? ⟨g, i * 2 + 1, none⟩ = some (.string x.val)) ∧ ∀ i, i < l.length → w.there g (i * 2) 2 := by
  obtain ⟨g', cap', hv', _, _, _, R⟩ := h.form
  have e1 : (some (⟨g, 0, none⟩ : Addr)) = some ⟨g', 0, none⟩ := by injection hv'
  injection e1 with e1
  injection e1 with e1
  subst e1
  have R' : ∀ i x, l[i]? = some x → w.cell? ⟨g, i * 2, none⟩ = some (.string x.key) ∧ w.cell? ⟨g, i * 2 + 1, none⟩ = some (.string x.val) := fun i x hx => by
    obtain ⟨q0, q1⟩ := rangeAt_cons (R i x hx).1
    obtain ⟨q1, _⟩ := rangeAt_cons q1
    exact ⟨q0, q1⟩
  refine ⟨R', fun i hi j hj => ?_⟩
  have hx := List.getElem?_eq_getElem hi
  obtain ⟨q0, q1⟩ := R' i _ hx
  refine ⟨?_, (R i _ hx).2 _⟩
  rcases j with _ | _ | j
  · rw [Nat.add_zero, q0]; rfl
  · rw [q1]; rfl
  · omega
abbrev OwnN (w : World) (v : Value) (l : List En) : Prop := OwnL 54 2 En.cells w v l
theorem OwnN.own {w : World} {v : Value} {l : List En} {x : En} (h : OwnN w v (l ++ [x])) : OwnE w v (l ++ [x]) := by
  refine ⟨h, ?_⟩
  rcases h.2 with ⟨rfl, h0⟩ | ⟨g, cap, cur, rfl, _⟩
  · simp at h0
  · exact ⟨g, rfl⟩
section
variable {ops : Array Oper} {rest : List Oper} {o : Oper} {a : Act} {Q : Exit → Act → World → Prop} {w : World}
theorem wpList_rowE (hgd : o.guard = none) (x : Operand) (ho : o.op = .buildSlice 38 1 #[(0, x)]) (y : En) (hx : a.eval x = .agg #[.string y.key, .string y.val])
    (h : ∀ w', Hid (w' = w.alloc (.cells y.cells.toArray 54)) → wpList Tryd.prog ops Q rest (a.put o.dst (.slice (some ⟨w.heap.size, 0, none⟩) 1 1)) w') : wpList Tryd.prog ops Q (o :: rest) a w := by
  obtain ⟨i, z, hi, hz, hzs, hs, hb⟩ := entry_parts
  exact wpList_build1 w hgd x ho Tryd.underlying38 hi hz hs (by omega) (by omega) y.cells hx rfl (h _ (Lib.hid rfl))
theorem wpList_appE (hgd : o.guard = none) (sl x : Operand) (ho : o.op = .call { callee := .builtin .append, args := #[sl, x], argTypes := #[38, 38] }) {v : Value} {l : List En} (hv : a.eval sl = v) (hown : OwnN w v l) (y : En) {nb : Nat} (hx : a.eval x = .slice (some ⟨nb, 0, none⟩) 1 1) (hb : Hb w nb 54 y.cells.toArray) (hlen : l.length ≤ 1000)
    (h : ∀ v' w', Hid (OwnN w' v' (l ++ [y])) → Hid (Chg (vbl v) w w') → Hid (∀ j, vbl v' j → vbl v j ∨ w.heap.size ≤ j) → wpList Tryd.prog ops Q rest (a.put o.dst v') w') : wpList Tryd.prog ops Q (o :: rest) a w := by
  obtain ⟨i, z, hi, hz, hzs, hs, hbb⟩ := entry_parts
  refine wpList_app1 w hgd sl x ho Tryd.underlying38 hi hz hs hbb hzs (by omega) (by omega) hv hown y rfl y.one hx hb hlen fun v' w' h1 h2 h3 => h v' w' (Lib.hid h1) (Lib.hid (chg_grown h2)) (Lib.hid fun j hj => ?_)
  rcases h3 with h3 | h3
  · exact .inl (h3.symm.trans hj)
  · right
    have : some w.heap.size = some j := h3.symm.trans hj
    injection this with this
    omega
theorem entry_row : (Tryd.prog.info? 54).map (·.size) = some 2 := by kernel_rfl
theorem entry_alloc (w : World) : (Instr.alloc 54 true (.tuple #[])).run Tryd.prog w = .ok (.pointer (some ⟨w.heap.size, 0, none⟩)) (w.alloc (.cells #[.string ⟨#[]⟩, .string ⟨#[]⟩] 54)) := by kernel_rfl
theorem wpList_allocE (hgd : o.guard = none) (ho : o.op = .alloc 54)
    (hK : ∀ w1, Chg Non w w1 → Hid (Hb w1 w.heap.size 54 #[.string ⟨#[]⟩, .string ⟨#[]⟩]) → wpList Tryd.prog ops Q rest (a.put o.dst (.pointer (some ⟨w.heap.size, 0, none⟩))) w1) : wpList Tryd.prog ops Q (o :: rest) a w := by
  refine wpList_plain hgd fun K hK' => ?_
  unfold Oper.wp execOp
  simp only [ho, Sem.run_bind, Sem.run_pure, Result.andThen_ok, entry_alloc w]
  exact hK' _ _ (hK _ ((Chg.refl _ _).alloc _) (Lib.hid (Hb.new w _ _)))
theorem wpList_boxE (hgd : o.guard = none) (x y : Operand) (ho : o.op = .store 54 x y) (b : Nat) {u1 u2 : Value} (z : En) (hx : a.eval x = .pointer (some ⟨b, 0, none⟩)) (hy : a.eval y = .agg #[.string z.key, .string z.val]) (hb : Hb w b 54 #[u1, u2])
    (hK : ∀ w1, Chg (· = b) w w1 → Hid (Hb w1 b 54 #[.string z.key, .string z.val]) → wpList Tryd.prog ops Q rest (a.put o.dst undef) w1) : wpList Tryd.prog ops Q (o :: rest) a w := by
  refine wpList_store_mid hgd 54 x y ho b 0 #[.string z.key, .string z.val] hx hy ?_ entry_row (all_oneCell_toArray (cs := z.cells) z.one) ?_
  · exact hb.there0 (L := [u1, u2])
  · exact hK _ (((Chg.refl (fun j => j = b) w).setCell (p := ⟨b, 0, none⟩) (.inl rfl) _).setCell (p := ⟨b, 1, none⟩) (.inl rfl) _) (Lib.hid ((hb.set 0 _).set 1 _))
theorem wpList_putE (hgd : o.guard = none) (x y : Operand) (ho : o.op = .store 54 x y) (g k : Nat) {n cap : Nat} {l : List En} (z : En) (hx : a.eval x = .pointer (some ⟨g, k * 2, none⟩)) (hy : a.eval y = .agg #[.string z.key, .string z.val]) (hown : OwnE w (.slice (some ⟨g, 0, none⟩) n cap) l) (hk : k < l.length)
    (hK : ∀ w1, Chg (· = g) w w1 → Hid (OwnE w1 (.slice (some ⟨g, 0, none⟩) n cap) (l.set k z)) → wpList Tryd.prog ops Q rest (a.put o.dst undef) w1) : wpList Tryd.prog ops Q (o :: rest) a w := by
  obtain ⟨h1, h2⟩ := own_put hown hk z
  refine wpList_store_mid hgd 54 x y ho g (k * 2) #[.string z.key, .string z.val] hx hy (hown.row.2 k hk) entry_row (all_oneCell_toArray (cs := z.cells) z.one) ?_
  exact hK _ h2 (Lib.hid h1)
end
theorem after_app {w wr wa wb : World} {v vb : Value} {ss : List En} {x : En} {k : Nat} (hb1 : OwnN wb vb (ss ++ [x])) (hk : ss.length = k) (hC : Chg Non w wr) (g3 : Chg Non wr wa) (hb2 : Chg (vbl v) wa wb) (hb3 : ∀ j, vbl vb j → vbl v j ∨ wa.heap.size ≤ j) (hV : ∀ j, vbl v j → w.heap.size ≤ j) :
    ∃ g cap, vb = .slice (some ⟨g, 0, none⟩) (k + 1) cap ∧ Hid (OwnE wb (.slice (some ⟨g, 0, none⟩) (k + 1) cap) (insAt ss k x)) ∧ Hid (w.heap.size ≤ g) ∧ Hid (Chg Non w wb) := by
  have hE := hb1.own
  obtain ⟨g, cap, hv, hvb, hgs, hcap, _⟩ := hE.form
  rw [List.length_append, List.length_singleton, hk] at hv
  subst hv
  refine ⟨g, cap, rfl, Lib.hid ?_, Lib.hid ?_, Lib.hid ((hC.trans g3 (fun _ f => f.elim)).trans hb2 (fun j hj => .inr (hV j hj)))⟩
  · rw [← hk, insAt_end, hk]
    exact hE
  · rcases hb3 g hvb with e | e
    · exact hV g e
    · exact Nat.le_trans hC.size (Nat.le_trans g3.size e)
/-- What Sorted leaves. -/
def SortP (w : World) (l : List En) (e : Ending) (w' : World) : Prop := Chg Non w w' ∧ ∃ A c ss, e = .returned (.slice A ss.length c) ∧ Hid (LstM w' A ss En.cells 2) ∧ Hid (ss.Perm l) ∧ Hid (ss.Pairwise (fun x y => lessB y.key x.key = false))
theorem lessB_asym {a b : ByteArray} (h : lessB a b = true) : lessB b a = false := by
  cases e : lessB b a with
  | false => rfl
  | true => have := lessB_trans h e; rw [lessB_irrefl] at this; cases this
set_option maxHeartbeats 6400000 in
theorem Sorted_any (w : World) (A : Option Addr) (c : Nat) (l : List En) (hl : l.length ≤ 900) (M : LstM w A l En.cells 2) :
    Calls Tryd.prog 30 #[.slice A l.length c] w (SortP w l) := by
  have HM := Lib.hid M
  clear M
  generalize hm : l.length = m at *
  have HL := Lib.hid hm
  clear hm
  go_enter Tryd.func30, Tryd.ntmps30
  go_wp2_with fail
  go_loopw [3, 4] (fun v i wr => ∃ (k : Nat) (ss : List En), k ≤ m ∧ i = .int .i64 (k : Int) ∧ Hid (OwnN wr v ss) ∧ Hid (ss.Perm (l.take k)) ∧ Hid (ss.Pairwise (fun x y => lessB y.key x.key = false)) ∧ Hid (∀ j, vbl v j → w.heap.size ≤ j) ∧ Hid (Chg Non w wr)) (fun _ i _ => m - (intOf i).toNat)
  case atStart => exact ⟨0, [], by omega, rfl, Lib.hid (OwnL.nil w), Lib.hid (by simp), Lib.hid List.Pairwise.nil, Lib.hid (fun j hj => by cases hj), Lib.hid (Chg.refl _ _)⟩
  case round =>
    obtain ⟨k, ss, hk, rfl, hO, hP, hS, hV, hC⟩ := hrel
    have HSL : Hid (ss.length = k) := Lib.hid (by rw [hP.out.length_eq, List.length_take, HL.out]; omega)
    by_cases hlt : k < m
    · have hki : (k : Int) < (m : Int) := by omega
      have hkl : k < l.length := by rw [HL.out]; exact hlt
      have hx := List.getElem?_eq_getElem hkl
      obtain ⟨a, ao, rfl, _, r1⟩ := (HM.out.chg hC.out) k _ hx
      have HTK : Hid (l.take (k + 1) = l.take k ++ [l[k]]) := Lib.hid (by rw [List.take_succ_eq_append_getElem hkl])
      generalize l[k] = x at *
      have r0 := r1
      obtain ⟨p0, p1⟩ := rangeAt_cons r1
      obtain ⟨p1, _⟩ := rangeAt_cons p1
      have HWA : Hid (∀ w', Hid (w' = wr.alloc (.cells x.cells.toArray 54)) → Hid (OwnN w' u3 ss) ∧ Hid (Hb w' wr.heap.size 54 x.cells.toArray) ∧ Hid (Chg Non wr w')) := Lib.hid fun w' e => by
        rw [e.out]
        exact ⟨Lib.hid (hO.out.chg ((Chg.refl Non wr).alloc _) (fun _ _ f => f)), Lib.hid (Hb.new wr _ _), Lib.hid ((Chg.refl Non wr).alloc _)⟩
      have HLN : Hid (ss.length ≤ 1000) := Lib.hid (by have := HSL.out; omega)
      clear r0 r1 hx hkl hO
      go_wp2_with (first | (with_reducible refine wpList_rowE rfl _ rfl x rfl ?_; intro wa ha; obtain ⟨g1, g2, g3⟩ := HWA.out wa ha) | (at_builtin; refine wpList_appE rfl _ _ rfl rfl g1.out x rfl g2.out HLN.out ?_; intro vb wb hb1 hb2 hb3; obtain ⟨g, cap, rfl, HOE, HGW, HKB⟩ := after_app hb1.out HSL.out hC.out g3.out hb2.out hb3.out hV.out))
      have HPX : Hid ((ss ++ [x]).Perm (l.take (k + 1))) := Lib.hid (by rw [HTK.out]; exact hP.out.append_right [x])
      have HKM : Hid (k < m) := Lib.hid hlt
      clear hP hV hC HTK hki hk p0 p1 hb1 hb2 hb3 g1 g2 g3 ha HWA HLN
      go_loopw [5] (fun i wr2 => ∃ kk : Nat, kk ≤ k ∧ i = .int .i64 (kk : Int) ∧ Hid (OwnE wr2 (.slice (some ⟨g, 0, none⟩) (k + 1) cap) (insAt ss kk x)) ∧ Hid (∀ y ∈ ss.drop kk, lessB y.key x.key = false) ∧ Hid (Chg Non w wr2)) (fun i _ => (intOf i).toNat)
      case atStart => exact ⟨k, by omega, by go_num, HOE, Lib.hid (by rw [← HSL.out, List.drop_length]; intro y hy; cases hy), HKB⟩
      case round =>
        obtain ⟨kk, hkk, rfl, hE, hD, hC⟩ := hrel
        have hkq : kk ≤ ss.length := by rw [HSL.out]; exact hkk
        have HNEXT : Hid ((∀ j y, kk = j + 1 → ss[j]? = some y → lessB x.key y.key = false) → Hid (OwnN wr (.slice (some ⟨g, 0, none⟩) (k + 1) cap) (insAt ss kk x)) ∧ Hid ((insAt ss kk x).Perm (l.take (k + 1))) ∧ Hid ((insAt ss kk x).Pairwise (fun x y => lessB y.key x.key = false)) ∧ Hid (∀ j, vbl (.slice (some ⟨g, 0, none⟩) (k + 1) cap) j → w.heap.size ≤ j)) := Lib.hid fun h => ⟨Lib.hid hE.out.1, Lib.hid ((insAt_perm ss kk x).trans HPX.out), Lib.hid (insAt_sorted hkq hS.out hD.out h), Lib.hid fun j hj => by
          have : some g = some j := hj
          injection this with this
          rw [← this]
          exact HGW.out⟩
        rcases kk with _ | j
        · obtain ⟨n1, n2, n3, n4⟩ := HNEXT.out (fun j y e => by omega)
          have hd : decide ((0 : Int) < ((0 : Nat) : Int)) = false := rfl
          clear HNEXT
          go_wp2_with fail
          go_quiet (fail)
          go_wp2_with fail
          go_roundw
          case rel => exact ⟨k + 1, insAt ss 0 x, by have := HKM.out; omega, by go_num, Lib.hid (n1.out.chg ((Chg.refl Non wr).drewN _) (fun _ _ f => f)), n2, n3, n4, Lib.hid (hC.out.drewN _)⟩
          case measure => have := HKM.out; simp [intOf]; omega
        · have hjs : j < ss.length := by omega
          have hy := List.getElem?_eq_getElem hjs
          generalize ss[j] = y at *
          obtain ⟨p0, p1⟩ := hE.out.row.1 _ _ (insAt_at hkq x)
          obtain ⟨q0, q1⟩ := hE.out.row.1 _ _ (insAt_before hy x)
          have hd : decide ((0 : Int) < ((j + 1 : Nat) : Int)) = true := decide_eq_true (by omega)
          cases hcmp : lessB x.key y.key with
          | false =>
            obtain ⟨n1, n2, n3, n4⟩ := HNEXT.out (fun j' y' e hy' => by
              obtain rfl : j = j' := by omega
              rw [hy] at hy'
              injection hy' with hy'
              rw [← hy']
              exact hcmp)
            unfold lessB at hcmp
            clear HNEXT hE hD
            go_wp2_with fail
            go_quiet (fail)
            go_wp2_with fail
            go_roundw
            case rel => exact ⟨k + 1, insAt ss (j + 1) x, by have := HKM.out; omega, by go_num, Lib.hid (n1.out.chg ((Chg.refl Non wr).drewN _) (fun _ _ f => f)), n2, n3, n4, Lib.hid (hC.out.drewN _)⟩
            case measure => have := HKM.out; simp [intOf]; omega
          | true =>
            have HCP := Lib.hid (lessB_asym hcmp)
            unfold lessB at hcmp
            have HY := Lib.hid hy
            have HFQ : Hid (∀ w', Chg Non wr w' → Hid (Chg Non w w') ∧ Hid (OwnE w' (.slice (some ⟨g, 0, none⟩) (k + 1) cap) (insAt ss (j + 1) x)) ∧ w'.cell? ⟨g, (j + 1) * 2, none⟩ = some (.string x.key) ∧ w'.cell? ⟨g, (j + 1) * 2 + 1, none⟩ = some (.string x.val) ∧ w'.cell? ⟨g, j * 2, none⟩ = some (.string y.key) ∧ w'.cell? ⟨g, j * 2 + 1, none⟩ = some (.string y.val)) := Lib.hid fun w' k1 => by
              have E := hE.out.chg k1 (fun _ _ f => f)
              obtain ⟨p0, p1⟩ := E.row.1 _ _ (insAt_at hkq x)
              obtain ⟨q0, q1⟩ := E.row.1 _ _ (insAt_before HY.out x)
              exact ⟨Lib.hid (hC.out.trans k1 (fun _ f => f.elim)), Lib.hid E, p0, p1, q0, q1⟩
            have HLI : Hid (j + 1 < (insAt ss (j + 1) x).length ∧ j < ((insAt ss (j + 1) x).set (j + 1) y).length) := Lib.hid (by rw [List.length_set, insAt_len hkq]; omega)
            have HDN : Hid (∀ z ∈ ss.drop j, lessB z.key x.key = false) := Lib.hid fun z hz => by
              rw [List.drop_eq_getElem_cons hjs] at hz
              rcases List.mem_cons.1 hz with e | hz
              · have e2 := List.getElem?_eq_getElem hjs
                rw [HY.out] at e2
                injection e2 with e2
                rw [e, ← e2]
                exact HCP.out
              · exact hD.out z hz
            have HKQ : Hid (j + 1 ≤ k) := Lib.hid hkk
            clear HNEXT hy
            go_wp2_with fail
            go_quiet (fail)
            have HKW : Hid (Chg Non wr (wr.drewN nq)) := Lib.hid ((Chg.refl Non wr).drewN nq)
            obtain ⟨_, HEQ, r0, r1, _, _⟩ := HFQ.out _ HKW.out
            have HGL := Lib.hid (HEQ.out.1.lt g rfl)
            clear p0 p1 q0 q1 hcmp HEQ
            generalize wr.drewN nq = wq at *
            go_wp2_with (first | (with_reducible refine wpList_allocE rfl rfl ?_; intro wa ka hA) | (refine wpList_boxE rfl _ _ rfl wq.heap.size x rfl rfl hA.out ?_; intro wb kb hB; have HKB2 := Lib.hid ((HKW.out.trans ka (fun _ f => f.elim)).trans kb (fun i e => .inr (by rw [e]; exact HKW.out.size))); obtain ⟨HC2, HE2, _, _, q0, q1⟩ := HFQ.out wb HKB2.out) | (refine wpList_putE rfl _ _ rfl g (j + 1) y rfl rfl HE2.out HLI.out.1 ?_; intro wc kc hEc; have hBc := Lib.hid (hB.out.chg kc (fun e => Nat.lt_irrefl _ (by have := HGL.out; rwa [e] at this))); have b0 : wc.cell? ⟨wq.heap.size, 0, none⟩ = some (.string x.key) := (by rw [hBc.out.cell]; rfl); have b1 : wc.cell? ⟨wq.heap.size, 1, none⟩ = some (.string x.val) := (by rw [hBc.out.cell]; rfl)) | (refine wpList_putE rfl _ _ rfl g j x rfl rfl hEc.out HLI.out.2 ?_; intro wd kd hEd; have HEF := Lib.hid (show OwnE wd (.slice (some ⟨g, 0, none⟩) (k + 1) cap) (insAt ss j x) from insAt_swap HY.out x ▸ hEd.out); have HCF : Hid (Chg Non w wd) := Lib.hid ((HC2.out.trans kc (fun i e => .inr (by rw [e]; exact HGW.out))).trans kd (fun i e => .inr (by rw [e]; exact HGW.out)))))
            go_roundw
            case rel => exact ⟨j, by have := HKQ.out; omega, by go_num, HEF, HDN, HCF⟩
            case measure => simp [intOf]
    · obtain rfl : k = m := by omega
      have HFIN : Hid (∀ q A2 c2, u3 = .slice A2 q c2 → SortP w l (.returned (.slice A2 q c2)) wr) := Lib.hid fun q A2 c2 e => by
        subst e
        obtain ⟨A3, c3, e3, _, _, hr⟩ := hO.out.slice (fun x _ => rfl) (by omega)
        injection e3 with e31 e32 e33
        subst e31
        subst e32
        refine ⟨hC.out, A2, c2, ss, rfl, Lib.hid hr, Lib.hid ?_, hS⟩
        have := hP.out
        rwa [← HL.out, List.take_length] at this
      obtain ⟨A2, c2, hu, _⟩ := hO.out.slice (fun x _ => rfl) (by omega)
      obtain ⟨q2, hq2⟩ : ∃ q, q = ss.length := ⟨_, rfl⟩
      rw [← hq2] at hu
      have HQ := Lib.hid (HFIN.out q2 A2 c2 hu)
      clear HFIN hO hP hV
      subst hu
      clear hq2
      go_wp2_with fail
      go_ret
      exact HQ.out
end Go.Proofs.YtahlfncijbkcoaaDoor
