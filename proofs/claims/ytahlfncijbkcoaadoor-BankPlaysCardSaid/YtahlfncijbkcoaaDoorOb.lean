/- The document's set: an account has so much. -/
import Derived.Test.YtahlfncijbkcoaaDoorChecked
import Derived.WalkKit
import Derived.WalkLawsBesides
import Derived.Lib.Hide
import Derived.Deep.MidRow
import Derived.Test.YtahlfncijbkcoaaDoorOa
namespace Go.Proofs.YtahlfncijbkcoaaDoor
open Go.RowKit
set_option linter.unusedVariables false
set_option linter.unusedSimpArgs false
set_option maxRecDepth 20000

theorem amount_parts : ∃ i z, Tryd.prog.info? 60 = some i ∧ i.zero = some z ∧ z.cells.size = 3 ∧ i.size = 3 ∧ i.bytes = 40 := by
  have h : (Tryd.prog.info? 60).map (fun i => (i.zero.map (·.cells.size), i.size, i.bytes)) = some (some 3, 3, 40) := by kernel_rfl
  cases hi : Tryd.prog.info? 60 with
  | none => rw [hi] at h; cases h
  | some i =>
    rw [hi] at h
    simp only [Option.map_some, Option.some.injEq, Prod.mk.injEq] at h
    obtain ⟨h1, h2, h3⟩ := h
    cases hz : i.zero with
    | none => rw [hz] at h1; cases h1
    | some z => rw [hz] at h1; exact ⟨i, z, rfl, hz, by simpa using h1, h2, h3⟩
theorem am_one (x : Key × Nat) : ∀ u ∈ am x, u.oneCell' = true := by
  intro u hu
  simp only [am, List.mem_cons, List.not_mem_nil, or_false] at hu
  rcases hu with rfl | rfl | rfl <;> rfl
abbrev OwnA (w : World) (v : Value) (l : List (Key × Nat)) : Prop := OwnL 60 3 am w v l
section
variable {ops : Array Oper} {rest : List Oper} {o : Oper} {a : Act} {Q : Exit → Act → World → Prop} {w : World}
theorem wpList_rowA (hgd : o.guard = none) (x : Operand) (ho : o.op = .buildSlice 26 1 #[(0, x)]) (y : Key × Nat) (hx : a.eval x = .agg #[.string y.1.1, .string y.1.2, .int .u64 (y.2 : Int)])
    (h : ∀ w', Hid (w' = w.alloc (.cells (am y).toArray 60)) → wpList Tryd.prog ops Q rest (a.put o.dst (.slice (some ⟨w.heap.size, 0, none⟩) 1 1)) w') : wpList Tryd.prog ops Q (o :: rest) a w := by
  obtain ⟨i, z, hi, hz, hzs, hs, hb⟩ := amount_parts
  exact wpList_build1 w hgd x ho Tryd.underlying26 hi hz hs (by omega) (by omega) (am y) hx rfl (h _ (Lib.hid rfl))
theorem wpList_appA (hgd : o.guard = none) (sl x : Operand) (ho : o.op = .call { callee := .builtin .append, args := #[sl, x], argTypes := #[26, 26] }) {v : Value} {l : List (Key × Nat)} (hv : a.eval sl = v) (hown : OwnA w v l) (y : Key × Nat) {nb : Nat} (hx : a.eval x = .slice (some ⟨nb, 0, none⟩) 1 1) (hb : Hb w nb 60 (am y).toArray) (hlen : l.length ≤ 1000)
    (h : ∀ v' w', Hid (OwnA w' v' (l ++ [y])) → Hid (Chg (vbl v) w w') → Hid (∀ j, vbl v' j → vbl v j ∨ w.heap.size ≤ j) → wpList Tryd.prog ops Q rest (a.put o.dst v') w') : wpList Tryd.prog ops Q (o :: rest) a w := by
  obtain ⟨i, z, hi, hz, hzs, hs, hbb⟩ := amount_parts
  refine wpList_app1 w hgd sl x ho Tryd.underlying26 hi hz hs hbb hzs (by omega) (by omega) hv hown y rfl (am_one y) hx hb hlen fun v' w' h1 h2 h3 => h v' w' (Lib.hid h1) (Lib.hid (chg_grown h2)) (Lib.hid fun j hj => ?_)
  rcases h3 with h3 | h3
  · exact .inl (h3.symm.trans hj)
  · right
    have : some w.heap.size = some j := h3.symm.trans hj
    injection this with this
    omega
end
theorem own_slice {w : World} {v : Value} {l : List (Key × Nat)} (h : OwnA w v l) : ∃ n A c, v = .slice A n c := by
  obtain ⟨A, c, e, _, _, _⟩ := h.slice (fun x _ => rfl) (by omega)
  exact ⟨_, A, c, e⟩
/-- What set leaves. -/
def SetP (w : World) (G : Nat) (l : List (Key × Nat)) (e : Ending) (w' : World) : Prop := e = .returned (.tuple #[]) ∧ Chg (· = G) w w' ∧ Hid (RbP w' G l)
/-- A new list stored in the document's bank. -/
theorem set_end {w wz : World} {G : Nat} {t : List (Key × Nat)} {l : List (Key × Nat)} {v u : Value} (hG : G < w.heap.size) (k : Chg Non w wz) (hb : Hb wz G 28 #[u]) (hO : OwnA wz v l) (hv : ∀ j, vbl v j → w.heap.size ≤ j) : SetP w G l (.returned (.tuple #[])) (wz.setCell ⟨G, 0, none⟩ v) := by
  have ks : Chg (· = G) wz (wz.setCell ⟨G, 0, none⟩ v) := (Chg.refl (fun x => x = G) wz).setCell (p := ⟨G, 0, none⟩) (.inl rfl) v
  refine ⟨rfl, (k.mono (fun _ f => f.elim)).trans ks (fun j e => .inl e), Lib.hid ⟨?_⟩⟩
  have hO2 : OwnA (wz.setCell ⟨G, 0, none⟩ v) v l := hO.chg ks (fun j hj e => by have := hv j hj; have : j = G := e; omega)
  obtain ⟨A, c, rfl, _, ha, hr⟩ := hO2.slice (fun x _ => rfl) (by omega)
  refine ⟨A, c, hb.set 0 _, hr, fun j hj hl e => ?_⟩
  have := hv j (ha j hj)
  omega
theorem filter_take {κ : Type} [DecidableEq κ] {l : List (κ × Nat)} {k : Nat} {x : κ × Nat} (key : κ) (hx : l[k]? = some x) : (l.take (k + 1)).filter (fun y => decide (y.1 ≠ key)) = (l.take k).filter (fun y => decide (y.1 ≠ key)) ++ (if x.1 ≠ key then [x] else []) := by
  rw [List.take_add_one, hx, List.filter_append]
  congr 1
  by_cases h : x.1 = key
  · simp [h]
  · simp [h]
set_option maxHeartbeats 6400000 in
theorem set_any (w : World) (G : Nat) (l : List (Key × Nat)) (h : RbP w G l) (hl : l.length ≤ 900) (s d : ByteArray) (n : Nat) (hn : n < 18446744073709551616) :
    Calls Tryd.prog 37 #[.pointer (some ⟨G, 0, none⟩), .string s, .string d, .int .u64 (n : Int)] w (SetP w G (kput l (s, d) n)) := by
  have hlt := h.lt
  obtain ⟨A, c, hb, M, _⟩ := h.ex
  have HM := Lib.hid M
  have HB : Hid (∀ w', Chg Non w w' → w'.cell? ⟨G, 0, none⟩ = some (.slice A l.length c) ∧ w'.frozen? ⟨G, 0, none⟩ = false ∧ Hid (Hb w' G 28 #[.slice A l.length c])) := Lib.hid fun w' k => by
    have q := hb.chg k (fun f => f)
    exact ⟨by rw [q.cell]; rfl, q.frozen 0, Lib.hid q⟩
  have HG := Lib.hid hlt
  have HR : Hid (kput l (s, d) n = l.filter (fun y => decide (y.1 ≠ (s, d))) ++ (if 0 < n then [((s, d), n)] else [])) := Lib.hid rfl
  generalize kput l (s, d) n = res at *
  have p0 := (HB.out w (Chg.refl _ _)).1
  clear h hb M hlt
  generalize hm : l.length = m at *
  have HL := Lib.hid hm
  clear hm
  go_enter Tryd.func37, Tryd.ntmps37
  go_wp2_with fail
  clear p0
  go_loopw [8, 9] (fun v i wr => ∃ k : Nat, k ≤ m ∧ i = .int .i64 (k : Int) ∧ Hid (OwnA wr v ((l.take k).filter (fun y => decide (y.1 ≠ (s, d))))) ∧ Hid (∀ j, vbl v j → w.heap.size ≤ j) ∧ Hid (Chg Non w wr)) (fun _ i _ => m - (intOf i).toNat)
  case atStart => exact ⟨0, by omega, rfl, Lib.hid (OwnL.nil w), Lib.hid (fun j hj => by cases hj), Lib.hid (Chg.refl _ _)⟩
  case round =>
    obtain ⟨k, hk, rfl, hO, hV, hC⟩ := hrel
    obtain ⟨p0, p1, pb⟩ := HB.out wr hC.out
    by_cases hltm : k < m
    · have hki : (k : Int) < (m : Int) := by omega
      have hkl : k < l.length := by rw [HL.out]; exact hltm
      have hx := List.getElem?_eq_getElem hkl
      obtain ⟨a, ao, rfl, _, r1⟩ := (HM.out.chg hC.out) k _ hx
      have HFT := Lib.hid (filter_take (s, d) hx)
      have HLN : Hid (((l.take k).filter (fun y => decide (y.1 ≠ (s, d)))).length ≤ 1000) := Lib.hid (by
        have := List.length_filter_le (fun y : Key × Nat => decide (y.1 ≠ (s, d))) (l.take k)
        rw [List.length_take] at this
        have := HL.out
        omega)
      generalize l[k] = x at *
      obtain ⟨⟨xs, xd⟩, xn⟩ := x
      unfold am at r1
      dsimp only at r1
      obtain ⟨c0, r1⟩ := rangeAt_cons r1
      obtain ⟨c1, r1⟩ := rangeAt_cons r1
      obtain ⟨c2, r1⟩ := rangeAt_cons r1
      clear r1 hx hkl
      have HWA : Hid (∀ w', Hid (w' = wr.alloc (.cells (am ((xs, xd), xn)).toArray 60)) → Hid (OwnA w' u8 ((l.take k).filter (fun y => decide (y.1 ≠ (s, d))))) ∧ Hid (Hb w' wr.heap.size 60 (am ((xs, xd), xn)).toArray) ∧ Hid (Chg Non wr w')) := Lib.hid fun w' e => by
        rw [e.out]
        exact ⟨Lib.hid (hO.out.chg ((Chg.refl Non wr).alloc _) (fun _ _ f => f)), Lib.hid (Hb.new wr _ _), Lib.hid ((Chg.refl Non wr).alloc _)⟩
      by_cases e1 : xs = s
      · have f1 : (xs.toList == s.toList) = true := by rw [beqS, decide_eq_true e1]
        by_cases e2 : xd = d
        · have f2 : (xd.toList == d.toList) = true := by rw [beqS, decide_eq_true e2]
          have HO2 : Hid (OwnA wr u8 ((l.take (k + 1)).filter (fun y => decide (y.1 ≠ (s, d))))) := Lib.hid (by rw [HFT.out, if_neg (by rw [e1, e2]; simp), List.append_nil]; exact hO.out)
          clear e1 e2
          go_wp2_with fail
          go_roundw
          case rel => exact ⟨k + 1, by omega, by go_num, HO2, hV, hC⟩
          case measure => simp [intOf]; omega
        · have f2 : (xd.toList == d.toList) = false := by rw [beqS, decide_eq_false e2]
          have HFT2 := Lib.hid (HFT.out.trans (by rw [if_pos (show ((xs, xd) : Key) ≠ (s, d) from fun e => e2 (by injection e))]))
          clear e1 e2 HFT
          go_wp2_with (first | (refine wpList_rowA rfl _ rfl ((xs, xd), xn) rfl ?_; intro wa ha; obtain ⟨g1, g2, g3⟩ := HWA.out wa ha) | (at_builtin; refine wpList_appA rfl _ _ rfl rfl g1.out ((xs, xd), xn) rfl g2.out HLN.out ?_; intro vb wb hb1 hb2 hb3))
          go_roundw
          case rel => exact ⟨k + 1, by omega, by go_num, Lib.hid (by rw [HFT2.out]; exact hb1.out), Lib.hid (fun j hj => by rcases hb3.out j hj with e | e; exact hV.out j e; exact Nat.le_trans hC.out.size (Nat.le_trans g3.out.size e)), Lib.hid ((hC.out.trans g3.out (fun _ f => f.elim)).trans hb2.out (fun j hj => .inr (hV.out j hj)))⟩
          case measure => simp [intOf]; omega
      · have f1 : (xs.toList == s.toList) = false := by rw [beqS, decide_eq_false e1]
        have HFT2 := Lib.hid (HFT.out.trans (by rw [if_pos (show ((xs, xd) : Key) ≠ (s, d) from fun e => e1 (by injection e))]))
        clear e1 HFT
        go_wp2_with (first | (refine wpList_rowA rfl _ rfl ((xs, xd), xn) rfl ?_; intro wa ha; obtain ⟨g1, g2, g3⟩ := HWA.out wa ha) | (at_builtin; refine wpList_appA rfl _ _ rfl rfl g1.out ((xs, xd), xn) rfl g2.out HLN.out ?_; intro vb wb hb1 hb2 hb3))
        go_roundw
        case rel => exact ⟨k + 1, by omega, by go_num, Lib.hid (by rw [HFT2.out]; exact hb1.out), Lib.hid (fun j hj => by rcases hb3.out j hj with e | e; exact hV.out j e; exact Nat.le_trans hC.out.size (Nat.le_trans g3.out.size e)), Lib.hid ((hC.out.trans g3.out (fun _ f => f.elim)).trans hb2.out (fun j hj => .inr (hV.out j hj)))⟩
        case measure => simp [intOf]; omega
    · obtain rfl : k = m := by omega
      have HO2 : Hid (OwnA wr u8 (l.filter (fun y => decide (y.1 ≠ (s, d))))) := Lib.hid (by have := hO.out; rwa [← HL.out, List.take_length] at this)
      have HLN : Hid ((l.filter (fun y => decide (y.1 ≠ (s, d)))).length ≤ 1000) := Lib.hid (by
        have := List.length_filter_le (fun y : Key × Nat => decide (y.1 ≠ (s, d))) l
        have := HL.out
        omega)
      clear hO
      by_cases h0 : 0 < n
      · have h0' : (0 : Int) < (n : Int) := by omega
        have HR2 := Lib.hid (HR.out.trans (by rw [if_pos h0]))
        have HWA : Hid (∀ w', Hid (w' = wr.alloc (.cells (am ((s, d), n)).toArray 60)) → Hid (OwnA w' u8 (l.filter (fun y => decide (y.1 ≠ (s, d))))) ∧ Hid (Hb w' wr.heap.size 60 (am ((s, d), n)).toArray) ∧ Hid (Chg Non wr w')) := Lib.hid fun w' e => by
          rw [e.out]
          exact ⟨Lib.hid (HO2.out.chg ((Chg.refl Non wr).alloc _) (fun _ _ f => f)), Lib.hid (Hb.new wr _ _), Lib.hid ((Chg.refl Non wr).alloc _)⟩
        clear HR p1 pb h0
        go_wp2_with (first | (refine wpList_rowA rfl _ rfl ((s, d), n) rfl ?_; intro wa ha; obtain ⟨g1, g2, g3⟩ := HWA.out wa ha) | (at_builtin; refine wpList_appA rfl _ _ rfl rfl g1.out ((s, d), n) rfl g2.out HLN.out ?_; intro vb wb hb1 hb2 hb3; obtain ⟨q2, A2, c2, rfl⟩ := own_slice hb1.out; have HKZ := Lib.hid ((hC.out.trans g3.out (fun _ f => f.elim)).trans hb2.out (fun j hj => .inr (hV.out j hj))); obtain ⟨p0, p1, pb⟩ := HB.out wb HKZ.out; have HVB := Lib.hid (fun (j : Nat) (hj : vbl (.slice A2 q2 c2) j) => (by rcases hb3.out j hj with e | e; exact hV.out j e; exact Nat.le_trans hC.out.size (Nat.le_trans g3.out.size e) : w.heap.size ≤ j)); have HFIN : Hid (SetP w G res (.returned (.tuple #[])) (wb.setCell ⟨G, 0, none⟩ (.slice A2 q2 c2))) := Lib.hid (by rw [HR2.out]; exact set_end (t := l) HG.out HKZ.out pb.out hb1.out HVB.out)))
        go_end0
        exact HFIN.out
      · have h0' : ¬ (0 : Int) < (n : Int) := by omega
        have HR2 := Lib.hid (HR.out.trans (by rw [if_neg h0, List.append_nil]))
        have HFIN : Hid (SetP w G res (.returned (.tuple #[])) (wr.setCell ⟨G, 0, none⟩ u8)) := Lib.hid (by rw [HR2.out]; exact set_end (t := l) HG.out hC.out pb.out HO2.out hV.out)
        clear HR h0
        obtain ⟨q2, A2, c2, rfl⟩ := own_slice HO2.out
        go_wp2_with fail
        go_end0
        exact HFIN.out
end Go.Proofs.YtahlfncijbkcoaaDoor
