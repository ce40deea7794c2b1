import Derived.Test.YteglpgakikigiaaChecked
import Derived.WalkKit
import Derived.WalkLawsBesides
import Derived.Lib.Hide
import Derived.Deep.RegionHeld3
import Derived.Test.YteglpgakikigiaaMFormLists5
import Derived.Test.YteglpgakikigiaaMFormLists6
/- Package forms: votes, read: contracts. -/
namespace Go.Proofs.Yteglpgakikigiaa
open Go.RowKit
set_option linter.unusedVariables false
set_option linter.unusedSimpArgs false
set_option maxRecDepth 20000

theorem Rst.eq {W w : World} {g : Nat} {F : Nat → Prop} {tb : Nat} {t : TypeId} {L L' : List Value} {st : St} (S : Rst W g F tb t L st w) (h : L = L') : Rst W g F tb t L' st w := h ▸ S

theorem signature_r (w : World) (g : Nat) (F : Nat → Prop) (tb o : Nat) (t : TypeId) (p q : List Value) (x y : Value) (st : St) (S : Rst w g F tb t (p ++ x :: y :: q) st w) (ho : o = p.length) :
    Calls Try.prog 71 #[.agg #[.pointer none, .pointer (some ⟨g, 0, none⟩)], .pointer (some ⟨tb, o, none⟩)] w (RO w g F tb t (p ++ x :: y :: q).length (some (p ++ .int .u64 (vW st : Int) :: .int .u64 (vW (nW st) : Int) :: q, nW (nW st)))) := by
  have HO := Lib.hid ho
  clear ho
  have S0 := S.non ((Chg.refl Non w).alloc (.cells #[.pointer none, .pointer (some ⟨g, 0, none⟩)] 84))
  have hw := S.nw (Nat.le_refl w.heap.size)
  have hx := Hb.new w 84 #[.pointer none, .pointer (some ⟨g, 0, none⟩)]
  have hx0 : (w.alloc (.cells #[.pointer none, .pointer (some ⟨g, 0, none⟩)] 84)).cell? ⟨w.heap.size, 0, none⟩ = some (.pointer none) := hx.cell 0
  have hx1 : (w.alloc (.cells #[.pointer none, .pointer (some ⟨g, 0, none⟩)] 84)).cell? ⟨w.heap.size, 1, none⟩ = some (.pointer (some ⟨g, 0, none⟩)) := hx.cell 1
  have S1 := S0.here
  clear hx S
  go_enter Try.func71, Try.ntmps71
  go_wp2_with fail
  generalize w.alloc (.cells #[.pointer none, .pointer (some ⟨g, 0, none⟩)] 84) = B at *
  have D2 := S1.non ((Chg.refl Non B).drew)
  have x0 := D2.chg.cell hx0 hw
  have x1 := D2.chg.cell hx1 hw
  go_region_held (fun w' => w'.cell? ⟨w.heap.size, 0, none⟩ = some (.pointer none) ∧ w'.cell? ⟨w.heap.size, 1, none⟩ = some (.pointer (some ⟨g, 0, none⟩))) (first | exact ⟨y0, y1⟩ | exact ⟨x0, x1⟩ | assumption) (first | (go_at_call 67; go_loud (refine (word_r _ g F tb o t p (y :: q) x st D2.here HO.out).mono ?_; rintro e w2 h2; have y0 := h2.chg.cell x0 hw; have y1 := h2.chg.cell x1 hw; obtain ⟨rfl, T2⟩ := h2)) | fail)
  have S2 := D2.trans T2
  clear D2 T2 x0 x1 y0 y1
  go_wp2_with fail
  have D3 := S2.non ((Chg.refl Non w2).drew)
  have x0 := D3.chg.cell hx0 hw
  have x1 := D3.chg.cell hx1 hw
  go_region_held (fun w' => w'.cell? ⟨w.heap.size, 0, none⟩ = some (.pointer none) ∧ w'.cell? ⟨w.heap.size, 1, none⟩ = some (.pointer (some ⟨g, 0, none⟩))) (first | exact ⟨y0, y1⟩ | exact ⟨x0, x1⟩ | assumption) (first | (go_at_call 67; go_loud (refine (word_r _ g F tb (o + 1) t (p ++ [.int .u64 (vW st : Int)]) q y (nW st) (D3.here.eq (by simp)) (by rw [HO.out]; simp)).mono ?_; rintro e w3 h3; have y0 := h3.chg.cell x0 hw; have y1 := h3.chg.cell x1 hw; obtain ⟨rfl, T3⟩ := h3)) | fail)
  have S3 := D3.trans T3
  go_wp2
  go_end0
  exact ⟨rfl, (S0.trans S3).eq (by simp)⟩

theorem vote_r_old {old : List Value} (h : old.length = 39) : ∃ (a0 : Value) (a1 : Value) (a2 : Value) (a3 : Value) (o4 : List Value) (a5 : Value) (a6 : Value) (a7 : Value), old = [a0] ++ [a1] ++ [a2] ++ [a3] ++ o4 ++ [a5] ++ [a6] ++ [a7] ∧ o4.length = 32 ∧ True := by
  refine ⟨(old[0]'(by omega)), (old[1]'(by omega)), (old[2]'(by omega)), (old[3]'(by omega)), ((old.drop 4).take 32), (old[36]'(by omega)), (old[37]'(by omega)), (old[38]'(by omega)), ?_, by simp; omega, trivial⟩
  apply List.ext_getElem?
  intro j
  have hone : ∀ (i : Nat) (hi : i < old.length), [old[i]] = (old.drop i).take 1 := by
    intro i hi
    apply List.ext_getElem?
    intro k
    rw [List.getElem?_take, List.getElem?_drop]
    by_cases hk : k < 1
    · obtain rfl : k = 0 := by omega
      simp [List.getElem?_eq_getElem hi]
    · rw [if_neg hk, List.getElem?_eq_none (by simp; omega)]
  simp only [hone]
  have hj : ∀ (a b c : Nat), a + b = c → (old.drop a).take b ++ old.drop c = old.drop a := by
    intro a b c e
    subst e
    rw [← List.drop_drop, List.take_append_drop]
  have he : old.drop 39 = [] := List.drop_of_length_le (by omega)
  have hall : (old.drop 0).take 1 ++ ((old.drop 1).take 1 ++ ((old.drop 2).take 1 ++ ((old.drop 3).take 1 ++ ((old.drop 4).take 32 ++ ((old.drop 36).take 1 ++ ((old.drop 37).take 1 ++ ((old.drop 38).take 1 ++ old.drop 39))))))) = old := by
    rw [hj 38 1 39 rfl, hj 37 1 38 rfl, hj 36 1 37 rfl, hj 4 32 36 rfl, hj 3 1 4 rfl, hj 2 1 3 rfl, hj 1 1 2 rfl, hj 0 1 1 rfl]
    rfl
  rw [he, List.append_nil] at hall
  conv => lhs; rw [← hall]
  try simp only [List.append_assoc]

end Go.Proofs.Yteglpgakikigiaa

/- Package forms: words for lists, read. -/
namespace Go.Proofs.Yteglpgakikigiaa
open Go.RowKit
set_option linter.unusedVariables false
set_option linter.unusedSimpArgs false
set_option maxRecDepth 20000

/-- What the reading of a list leaves: a slice of new memory, in which its elements lie; or the panic. -/
def RLO {α : Type} (w : World) (g : Nat) (F : Nat → Prop) (tb : Nat) (t : TypeId) (n : Nat) (p q : List Value) (et : TypeId) (cells : α → List Value) (r : Option (List α × St)) (e : Ending) (w' : World) : Prop :=
  match r with
  | some x => e = .returned (.tuple #[]) ∧ ∃ nb, w.heap.size ≤ nb ∧ Rst w g F tb t (p ++ .slice (some ⟨nb, 0, none⟩) x.1.length x.1.length :: q) x.2 w' ∧ Hb w' nb et (x.1.flatMap cells).toArray
  | none => e = .panicked bad ∧ Chg (Two g tb) w w' ∧ ∃ L' : List Value, L'.length = n ∧ Hb w' tb t L'.toArray
theorem dK_none {α : Type} {d : St → Option (α × St)} {st : St} {k n : Nat} (h : k ≤ n) (hk : dK d st k = none) : dK d st n = none := by
  induction n with
  | zero =>
    obtain rfl : k = 0 := by omega
    exact hk
  | succ n ih =>
    by_cases e : k = n + 1
    · subst e; exact hk
    · unfold dK
      rw [ih (by omega)]
      rfl
theorem dK_flat {α : Type} {d : St → Option (α × St)} {cells : α → List Value} {sz : Nat} (hc : ∀ st x s, d st = some (x, s) → (cells x).length = sz) {st : St} : ∀ {k : Nat} {l : List α} {s : St}, dK d st k = some (l, s) → (l.flatMap cells).length = k * sz
  | 0, l, s, h => by
    simp only [dK, Option.some.injEq, Prod.mk.injEq] at h
    rw [← h.1]; simp
  | k + 1, l, s, h => by
    simp only [dK, Option.bind_eq_some_iff, Option.some.injEq, Prod.mk.injEq, Prod.exists] at h
    obtain ⟨a, s1, h1, b, s2, h2, rfl, rfl⟩ := h
    rw [List.flatMap_append, List.length_append, dK_flat hc h1]
    simp [hc _ _ _ h2, Nat.succ_mul]
end Go.Proofs.Yteglpgakikigiaa

/- Package forms: validators, and lists of them, read. -/
namespace Go.Proofs.Yteglpgakikigiaa
open Go.RowKit
set_option linter.unusedVariables false
set_option linter.unusedSimpArgs false
set_option maxRecDepth 20000
theorem validator_r_old {old : List Value} (h : old.length = 2) : ∃ (a0 : Value) (a1 : Value), old = [a0] ++ [a1] ∧ True := by
  refine ⟨(old[0]'(by omega)), (old[1]'(by omega)), ?_, trivial⟩
  apply List.ext_getElem?
  intro j
  have hone : ∀ (i : Nat) (hi : i < old.length), [old[i]] = (old.drop i).take 1 := by
    intro i hi
    apply List.ext_getElem?
    intro k
    rw [List.getElem?_take, List.getElem?_drop]
    by_cases hk : k < 1
    · obtain rfl : k = 0 := by omega
      simp [List.getElem?_eq_getElem hi]
    · rw [if_neg hk, List.getElem?_eq_none (by simp; omega)]
  simp only [hone]
  have hj : ∀ (a b c : Nat), a + b = c → (old.drop a).take b ++ old.drop c = old.drop a := by
    intro a b c e
    subst e
    rw [← List.drop_drop, List.take_append_drop]
  have he : old.drop 2 = [] := List.drop_of_length_le (by omega)
  have hall : (old.drop 0).take 1 ++ ((old.drop 1).take 1 ++ old.drop 2) = old := by
    rw [hj 1 1 2 rfl, hj 0 1 1 rfl]
    rfl
  rw [he, List.append_nil] at hall
  conv => lhs; rw [← hall]
  try simp only [List.append_assoc]

set_option maxHeartbeats 1600000 in
theorem validator_r (w : World) (g : Nat) (F : Nat → Prop) (tb o : Nat) (t : TypeId) (p q old : List Value) (st : St) (S : Rst w g F tb t (p ++ (old ++ q)) st w) (ho : o = p.length) (hold : old.length = 2) :
    Calls Try.prog 39 #[.agg #[.pointer none, .pointer (some ⟨g, 0, none⟩)], .pointer (some ⟨tb, o, none⟩)] w (RO w g F tb t (p ++ (old ++ q)).length ((dVa st).map fun y => (p ++ (y.1.cells ++ q), y.2))) := by
  obtain ⟨a0, a1, rfl, _⟩ := validator_r_old hold
  generalize hn : (p ++ (_ ++ q)).length = n
  generalize hr : (dVa st).map _ = r
  have HR := Lib.hid hr
  have HN := Lib.hid hn
  have HO := Lib.hid ho
  clear hr hn ho hold
  have S0 := S.non ((Chg.refl Non w).alloc (.cells #[.pointer none, .pointer (some ⟨g, 0, none⟩)] 84))
  have hw := S.nw (Nat.le_refl w.heap.size)
  have hx := Hb.new w 84 #[.pointer none, .pointer (some ⟨g, 0, none⟩)]
  have hx0 : (w.alloc (.cells #[.pointer none, .pointer (some ⟨g, 0, none⟩)] 84)).cell? ⟨w.heap.size, 0, none⟩ = some (.pointer none) := hx.cell 0
  have hx1 : (w.alloc (.cells #[.pointer none, .pointer (some ⟨g, 0, none⟩)] 84)).cell? ⟨w.heap.size, 1, none⟩ = some (.pointer (some ⟨g, 0, none⟩)) := hx.cell 1
  have S1 := S0.here
  obtain ⟨B, hB⟩ : ∃ B, B = w.alloc (.cells #[.pointer none, .pointer (some ⟨g, 0, none⟩)] 84) := ⟨_, rfl⟩
  clear hx S
  go_enter Try.func39, Try.ntmps39
  go_wp2_with fail
  rw [← hB] at S0 hx0 hx1 S1 ⊢
  clear hB
  have D2 := S1.non ((Chg.refl Non B).drew)
  have x0 := D2.chg.cell hx0 hw
  have x1 := D2.chg.cell hx1 hw
  go_region_held (fun w' => w'.cell? ⟨w.heap.size, 0, none⟩ = some (.pointer none) ∧ w'.cell? ⟨w.heap.size, 1, none⟩ = some (.pointer (some ⟨g, 0, none⟩))) (first | exact ⟨y0, y1⟩ | exact ⟨x0, x1⟩ | assumption) (first | (go_at_call 67; go_loud (refine (word_r _ g F tb o t (p) (a1 :: q) a0 st (D2.here.eq (by simp)) HO.out).mono ?_; rintro e w2 h2; have y0 := h2.chg.cell x0 hw; have y1 := h2.chg.cell x1 hw; obtain ⟨rfl, T2⟩ := h2)) | fail)
  have S2 := D2.trans T2
  clear D2 T2 x0 x1 y0 y1
  go_wp2_with fail
  have D3 := S2.non ((Chg.refl Non w2).drew)
  have x0 := D3.chg.cell hx0 hw
  have x1 := D3.chg.cell hx1 hw
  go_region_held (fun w' => w'.cell? ⟨w.heap.size, 0, none⟩ = some (.pointer none) ∧ w'.cell? ⟨w.heap.size, 1, none⟩ = some (.pointer (some ⟨g, 0, none⟩))) (first | exact ⟨y0, y1⟩ | exact ⟨x0, x1⟩ | assumption) (first | (go_at_call 62; go_loud (refine (number_r _ g F tb (o + 1) t (p ++ (.int .u64 (vW st : Int) :: [])) (q) a1 (nW st) (D3.here.eq (by simp)) (by rw [HO.out]; simp [bv_length, vH_length]) (-9223372036854775808) 9223372036854775807).mono ?_; rintro e w3 h3; have y0 := h3.chg.cell x0 hw; have y1 := h3.chg.cell x1 hw; rcases h3.cases with ⟨k, he, C, L', hL1, hL2⟩ | ⟨y, k, he, T3⟩; (subst he; obtain rfl : r = none := HR.out.symm.trans (by (simp only [Option.map_eq_none_iff] at k) <;> simp [dVa, k]); exact ⟨rfl, rfl, (S0.chg.trans (D3.chg.trans C (fun _ h => .inl h)) (fun _ h => .inl h)), L', by (rw [hL1, ← HN.out]) <;> simp [bv_length, vH_length], hL2⟩); subst he; obtain ⟨z3, k3, rfl⟩ := Option.map_eq_some_iff.1 k; clear k)) | fail)
  have S3 := D3.trans T3
  clear D3 T3 x0 x1 y0 y1
  clear h3
  obtain rfl : r = some (_, z3.2) := HR.out.symm.trans (by simp only [dVa, k3, Option.bind_some, Option.map_some]; rfl)
  go_wp2
  go_end0
  refine ⟨rfl, (S0.trans S3).eq ?_⟩
  simp [Va.cells]


theorem makeValidator (n : Nat) (hn : n ≤ 4096) : ∃ L0 : List Value, L0.length = n * 2 ∧ ∀ w : World, (Instr.makeSlice 24 (.int .i64 (n : Int)) (.int .i64 (n : Int))).run Try.prog w = .ok (.slice (some ⟨w.heap.size, 0, none⟩) n n) (w.alloc (.cells L0.toArray 71)) := by
  have hinfo : (Try.prog.info? 71).map (fun i => (i.zero.isSome, i.size, i.bytes)) = some (true, 2, 16) := by kernel_rfl
  cases hq : Try.prog.info? 71 with
  | none => rw [hq] at hinfo; cases hinfo
  | some i =>
    rw [hq] at hinfo
    simp only [Option.map_some, Option.some.injEq, Prod.mk.injEq] at hinfo
    obtain ⟨hz, hs, hb⟩ := hinfo
    obtain ⟨z, hz⟩ := Option.isSome_iff_exists.1 hz
    refine ⟨(madeCells z.cells (n * 2)).toList, by rw [Array.length_toList, size_madeCells], fun w => ?_⟩
    have h := run_make (P := Try.prog) w 24 71 i z Try.underlying24 hq hz .i64 .i64 (n : Int) (n : Int) (by omega) (by omega) (by rw [hb]; omega) (by omega)
    rw [h, hs, Int.toNat_natCast, Array.toArray_toList]

set_option maxHeartbeats 1600000 in
theorem listValidator_r (w : World) (g : Nat) (F : Nat → Prop) (tb o : Nat) (t : TypeId) (p q : List Value) (A0 : Option Addr) (n0 c0 : Nat) (st : St) (S : Rst w g F tb t (p ++ .slice A0 n0 c0 :: q) st w) (ho : o = p.length) (hn0 : n0 ≤ maxLen) (most : Nat) (hmost : most ≤ 4096) :
    Calls Try.prog 38 #[.agg #[.pointer none, .pointer (some ⟨g, 0, none⟩)], .pointer (some ⟨tb, o, none⟩), .int .i64 (most : Int), .func (.func 39) #[] #[]] w (RLO w g F tb t (p ++ .slice A0 n0 c0 :: q).length p q 71 Va.cells (dList dVa most st)) := by
  unfold maxLen at hn0
  have hC := ((Chg.refl Non w).alloc (.cells #[.pointer none, .pointer (some ⟨g, 0, none⟩)] 84)).alloc (.cells #[.int .i64 (n0 : Int)] 3)
  have S0 := S.non hC
  obtain ⟨k0, _⟩ := S.cell ho
  have hw := S.nw (Nat.le_refl w.heap.size)
  have hx0 := ((Hb.new w 84 #[.pointer none, .pointer (some ⟨g, 0, none⟩)]).alloc (.cells #[.int .i64 (n0 : Int)] 3)).cell 0
  have hx1 := ((Hb.new w 84 #[.pointer none, .pointer (some ⟨g, 0, none⟩)]).alloc (.cells #[.int .i64 (n0 : Int)] 3)).cell 1
  have hn : Hb ((w.alloc (.cells #[.pointer none, .pointer (some ⟨g, 0, none⟩)] 84)).alloc (.cells #[.int .i64 (n0 : Int)] 3)) (w.heap.size + 1) 3 #[.int .i64 (n0 : Int)] := by
    have := Hb.new (w.alloc (.cells #[.pointer none, .pointer (some ⟨g, 0, none⟩)] 84)) 3 #[.int .i64 (n0 : Int)]
    rwa [show (w.alloc (.cells #[.pointer none, .pointer (some ⟨g, 0, none⟩)] 84)).heap.size = w.heap.size + 1 by simp] at this
  have hg := S.rdr.lt
  have ht := S.row.lt
  have SN : Rst _ g F (w.heap.size + 1) 3 ([] ++ .int .i64 (n0 : Int) :: []) st _ := ⟨S0.rdr, hn, Chg.refl _ _, by omega, fun hf => by have := S.rdr.Flt _ hf; omega⟩
  have H := number_r _ g F (w.heap.size + 1) 0 3 [] [] (.int .i64 (n0 : Int)) st SN rfl 0 most
  have hBs : ((w.alloc (.cells #[.pointer none, .pointer (some ⟨g, 0, none⟩)] 84)).alloc (.cells #[.int .i64 (n0 : Int)] 3)).heap.size = w.heap.size + 2 := by simp
  have HH := Lib.hid H
  have HO := Lib.hid ho
  obtain ⟨N, hN⟩ : ∃ N, N = (p ++ Value.slice A0 n0 c0 :: q).length := ⟨_, rfl⟩
  rw [← hN]
  have HN := Lib.hid hN
  generalize hr : dList dVa most st = r
  have HR := Lib.hid hr
  clear H ho SN hn hr hN
  go_enter Try.func38, Try.ntmps38
  go_wp2_with fail
  obtain ⟨B, hB⟩ : ∃ B, B = (w.alloc (.cells #[.pointer none, .pointer (some ⟨g, 0, none⟩)] 84)).alloc (.cells #[.int .i64 (n0 : Int)] 3) := ⟨_, rfl⟩
  rw [← hB] at S0 hx0 hx1 HH hBs hC ⊢
  clear hB
  refine HH.out.mono ?_
  rintro e w2 h2
  clear HH
  have hnt : ¬ Two g (w.heap.size + 1) tb := by rintro (h | h); exact S.ne h; omega
  have hrow2 := S0.row.chg h2.chg hnt
  have hC2 : Chg (Two g tb) w w2 := (hC.mono (S' := Two g tb) (fun _ f => f.elim)).trans h2.chg (fun j hj => by rcases hj with rfl | rfl; exact .inl (.inl rfl); exact .inr (by omega))
  rcases h2.cases with ⟨k, he, _⟩ | ⟨y, k, he, T⟩
  · subst he
    simp only [Option.map_eq_none_iff] at k
    obtain rfl : r = none := HR.out.symm.trans (by unfold dList; rw [k]; rfl)
    go_wp2
    exact ⟨rfl, rfl, hC2, _, HN.out.symm, hrow2⟩
  · subst he
    obtain ⟨z, kz, rfl⟩ := Option.map_eq_some_iff.1 k
    obtain ⟨m, s2⟩ := z
    have hm : inR 0 most m = true ∧ m = vN st := by
      unfold dNum at kz
      split at kz
      · rename_i h; simp only [Option.some.injEq, Prod.mk.injEq] at kz; rw [← kz.1]; exact ⟨h, rfl⟩
      · cases kz
    have hm1 := inR_iff.1 hm.1
    obtain ⟨mn, rfl⟩ : ∃ mn : Nat, m = (mn : Int) := ⟨m.toNat, by omega⟩
    have hmn : mn ≤ 4096 := by omega
    have hRL : r = dK dVa s2 mn := HR.out.symm.trans (by unfold dList; rw [kz, Option.bind_some]; simp)
    have HRL := Lib.hid hRL
    obtain ⟨L0, hL0, HM⟩ := makeValidator mn hmn
    have T' : Rst B g F (w.heap.size + 1) 3 ([] ++ .int .i64 (mn : Int) :: []) s2 w2 := T
    have cn := (T'.cell (o := 0) rfl).1
    have hnx : ¬ Two g (w.heap.size + 1) w.heap.size := by rintro (h | h) <;> omega
    have x0 := T'.chg.cell hx0 hnx
    have x1 := T'.chg.cell hx1 hnx
    have S2 : Rst w g F tb t (p ++ .slice A0 n0 c0 :: q) s2 w2 := ⟨T'.rdr, hrow2, hC2, S.ne, S.nF⟩
    clear hRL h2 kz k T hm hm1 hx0 hx1 S0 hC hrow2 HR
    go_wp2_with fail
    refine (writes_r _ g).mono ?_
    rintro e w3 ⟨rfl, hC3⟩
    have S3 := S2.non hC3
    have cn3 := hC3.cell cn (fun f => f)
    have x03 := hC3.cell x0 (fun f => f)
    have x13 := hC3.cell x1 (fun f => f)
    have HM3 := HM w3
    have S4 := S3.non ((Chg.refl Non w3).alloc (.cells L0.toArray 71))
    have hs3 : w.heap.size + 2 ≤ w3.heap.size := by have := T'.chg.size; have := hC3.size; omega
    obtain ⟨c4, f4⟩ := S4.cell HO.out
    have S5' := S3.set HO.out (.slice (some ⟨w3.heap.size, 0, none⟩) mn mn)
    have hss : (w3.setCell ⟨tb, o, none⟩ (.slice (some ⟨w3.heap.size, 0, none⟩) mn mn)).heap.size = w3.heap.size := by simp [World.setCell]
    have S5B := S5'.non ((Chg.refl Non _).alloc (.cells L0.toArray 71))
    obtain ⟨c5, _⟩ := S5B.cell HO.out
    have S5 := S4.set HO.out (.slice (some ⟨w3.heap.size, 0, none⟩) mn mn)
    have hb5 := (Hb.new w3 71 L0.toArray).far (p := ⟨tb, o, none⟩) (show w3.heap.size ≠ tb by omega) (.slice (some ⟨w3.heap.size, 0, none⟩) mn mn)
    have kk := ((Chg.refl (fun j => j = tb) w3).alloc (.cells L0.toArray 71)).setCell (p := ⟨tb, o, none⟩) (.inl rfl) (.slice (some ⟨w3.heap.size, 0, none⟩) mn mn)
    have x05 := kk.cell x03 (show ¬ w.heap.size = tb by omega)
    have x15 := kk.cell x13 (show ¬ w.heap.size = tb by omega)
    clear cn x0 x1 S2 S3 HM S4 S5' S5B kk
    have hFn : ∀ j, F j → j < w.heap.size := S.rdr.Flt
    have HFN := Lib.hid hFn
    have hcl : ∀ (st : St) (x : _) (s : St), dVa st = some (x, s) → (Va.cells x).length = 2 := fun _ _ _ h => rfl
    clear hFn
    go_wp2_with fail
    clear x03 x13 cn3 c4 f4
    go_loopw [9, 28] (fun x i wr => ∃ (k : Nat) (lk : List _) (sk : St) (rest : List Value), k ≤ mn ∧ i = .int .i64 (k : Int) ∧ dK dVa s2 k = some (lk, sk) ∧ rest.length = (mn - k) * 2 ∧ Rst w g F tb t (p ++ .slice (some ⟨w3.heap.size, 0, none⟩) mn mn :: q) sk wr ∧ Hb wr w3.heap.size 71 (lk.flatMap Va.cells ++ rest).toArray ∧ wr.cell? ⟨w.heap.size, 0, none⟩ = some (.pointer none) ∧ wr.cell? ⟨w.heap.size, 1, none⟩ = some (.pointer (some ⟨g, 0, none⟩))) (fun _ i _ => mn - (intOf i).toNat)
    case atStart => exact ⟨0, [], s2, L0, by omega, rfl, rfl, by rw [hL0, Nat.sub_zero], S5, by simpa using hb5, x05, x15⟩
    case round =>
      obtain ⟨k, lk, sk, rest, hk, rfl, hd, hrest, SK, hbk, a0, a1⟩ := hrel
      obtain ⟨a2, _⟩ := SK.cell HO.out
      have HSK := Lib.hid SK
      by_cases hlt : k < mn
      · have hro : rest = rest.take 2 ++ rest.drop 2 := (List.take_append_drop _ _).symm
        have hrl : (rest.take 2).length = 2 := by rw [List.length_take, hrest]; have : 1 * 2 ≤ (mn - k) * 2 := Nat.mul_le_mul_right _ (by omega); omega
        have hrl2 : (rest.drop 2).length = (mn - (k + 1)) * 2 := by
          have e : mn - k = (mn - (k + 1)) + 1 := by omega
          rw [List.length_drop, hrest, e, Nat.succ_mul]
          omega
        rw [hro] at hbk
        generalize rest.take 2 = old at *
        generalize rest.drop 2 = rest' at *
        have hfl := dK_flat hcl hd
        have hnb := hbk.lt
        have SE : Rst wr.drew g F w3.heap.size 71 (lk.flatMap Va.cells ++ (old ++ rest')) sk wr.drew := ⟨(SK.non ((Chg.refl Non wr).drew)).rdr, hbk.chg ((Chg.refl Non wr).drew) (fun f => f), Chg.refl _ _, by omega, fun hf => by have := HFN.out _ hf; omega⟩
        have HE := validator_r wr.drew g F w3.heap.size (k * 2) 71 (lk.flatMap Va.cells) rest' old sk SE hfl.symm hrl
        have HEE := Lib.hid HE
        have e0 := ((Chg.refl Non wr).drew).cell a0 (fun f => f)
        have e1 := ((Chg.refl Non wr).drew).cell a1 (fun f => f)
        have e2 := ((Chg.refl Non wr).drew).cell a2 (fun f => f)
        have n1 : ¬ Two g w3.heap.size w.heap.size := by rintro (h | h) <;> omega
        have n2 : ¬ Two g w3.heap.size tb := by rintro (h | h); exact SK.ne h; omega
        have hki : (k : Int) < (mn : Int) := by omega
        have hdn : dK dVa s2 (k + 1) = (dVa sk).bind fun y => some (lk ++ [y.1], y.2) := by
          have e : dK dVa s2 (k + 1) = (dK dVa s2 k).bind fun x => (dVa x.2).bind fun y => some (x.1 ++ [y.1], y.2) := rfl
          rw [e, hd, Option.bind_some]
        have HDN := Lib.hid hdn
        have HD := Lib.hid hd
        have HRE := Lib.hid hrl2
        clear SE HE hro hrl hrest hfl hdn hd hrl2 SK hbk a0 a1 a2
        go_wp2_with fail
        go_region_held (fun w' => w'.cell? ⟨w.heap.size, 0, none⟩ = some (.pointer none) ∧ w'.cell? ⟨w.heap.size, 1, none⟩ = some (.pointer (some ⟨g, 0, none⟩)) ∧ w'.cell? ⟨tb, o, none⟩ = some (.slice (some ⟨w3.heap.size, 0, none⟩) mn mn)) (first | exact ⟨f0, f1, f2⟩ | exact ⟨e0, e1, e2⟩ | assumption) (first | (go_at_call 39; go_loud (refine HEE.out.mono ?_; rintro e wz hz; have f0 := hz.chg.cell e0 n1; have f1 := hz.chg.cell e1 n1; have f2 := hz.chg.cell e2 n2; rcases hz.cases with ⟨kn, he, C, _⟩ | ⟨y, ky, he, TZ⟩; (subst he; simp only [Option.map_eq_none_iff] at kn; obtain rfl : r = none := HRL.out.trans (dK_none (k := k + 1) (by omega) (by rw [HDN.out, kn]; rfl)); exact ⟨rfl, rfl, HSK.out.chg.trans (((Chg.refl Non wr).drew.mono (S' := Two g w3.heap.size) (fun _ f => f.elim)).trans C (fun _ h => .inl h)) (fun j hj => by rcases hj with rfl | rfl; exact .inl (.inl rfl); exact .inr (by omega)), _, HN.out.symm ▸ (by simp), (HSK.out.non ((Chg.refl Non wr).drew)).row.chg C n2⟩); subst he; obtain ⟨z, kz, rfl⟩ := Option.map_eq_some_iff.1 ky; clear ky)) | fail)
        have hz2 : dK dVa s2 (k + 1) = some (lk ++ [z.1], z.2) := by rw [HDN.out, kz]; rfl
        have T1 : Rst w g F tb t (p ++ .slice (some ⟨w3.heap.size, 0, none⟩) mn mn :: q) z.2 wz := by
          have b1 := HSK.out.non ((Chg.refl Non wr).drew)
          exact ⟨TZ.rdr, b1.row.chg TZ.chg n2, b1.chg.trans TZ.chg (fun j hj => by rcases hj with rfl | rfl; exact .inl (.inl rfl); exact .inr (by omega)), b1.ne, b1.nF⟩
        have T2 : Hb wz w3.heap.size 71 ((lk ++ [z.1]).flatMap Va.cells ++ rest').toArray := by
          have := TZ.row
          simpa [List.append_assoc] using this
        clear hz HEE TZ kz
        go_wp2_with fail
        go_roundw
        case rel => exact ⟨k + 1, _, _, rest', by omega, by go_num, hz2, HRE.out, T1, T2, f0, f1⟩
        case measure => simp [intOf]; omega
      · obtain rfl : k = mn := by omega
        have hln := dK_len hd
        obtain rfl : rest = [] := List.eq_nil_of_length_eq_zero (by rw [hrest, Nat.sub_self, Nat.zero_mul])
        obtain rfl : r = some (lk, sk) := HRL.out.trans hd
        rw [List.append_nil] at hbk
        go_wp2
        go_end0
        refine ⟨rfl, w3.heap.size, by omega, ?_, hbk⟩
        have e : lk.length = k := hln
        show Rst w g F tb t (p ++ .slice (some ⟨w3.heap.size, 0, none⟩) lk.length lk.length :: q) sk wr
        rw [e]
        exact SK
end Go.Proofs.Yteglpgakikigiaa

/- Package forms: seals, and lists of them; sets and commits, read. -/
namespace Go.Proofs.Yteglpgakikigiaa
open Go.RowKit
set_option linter.unusedVariables false
set_option linter.unusedSimpArgs false
set_option maxRecDepth 20000
theorem seal_r_old {old : List Value} (h : old.length = 3) : ∃ (a0 : Value) (a1 : Value) (a2 : Value), old = [a0] ++ [a1] ++ [a2] ∧ True := by
  refine ⟨(old[0]'(by omega)), (old[1]'(by omega)), (old[2]'(by omega)), ?_, trivial⟩
  apply List.ext_getElem?
  intro j
  have hone : ∀ (i : Nat) (hi : i < old.length), [old[i]] = (old.drop i).take 1 := by
    intro i hi
    apply List.ext_getElem?
    intro k
    rw [List.getElem?_take, List.getElem?_drop]
    by_cases hk : k < 1
    · obtain rfl : k = 0 := by omega
      simp [List.getElem?_eq_getElem hi]
    · rw [if_neg hk, List.getElem?_eq_none (by simp; omega)]
  simp only [hone]
  have hj : ∀ (a b c : Nat), a + b = c → (old.drop a).take b ++ old.drop c = old.drop a := by
    intro a b c e
    subst e
    rw [← List.drop_drop, List.take_append_drop]
  have he : old.drop 3 = [] := List.drop_of_length_le (by omega)
  have hall : (old.drop 0).take 1 ++ ((old.drop 1).take 1 ++ ((old.drop 2).take 1 ++ old.drop 3)) = old := by
    rw [hj 2 1 3 rfl, hj 1 1 2 rfl, hj 0 1 1 rfl]
    rfl
  rw [he, List.append_nil] at hall
  conv => lhs; rw [← hall]
  try simp only [List.append_assoc]

set_option maxHeartbeats 1600000 in
theorem seal_r (w : World) (g : Nat) (F : Nat → Prop) (tb o : Nat) (t : TypeId) (p q old : List Value) (st : St) (S : Rst w g F tb t (p ++ (old ++ q)) st w) (ho : o = p.length) (hold : old.length = 3) :
    Calls Try.prog 48 #[.agg #[.pointer none, .pointer (some ⟨g, 0, none⟩)], .pointer (some ⟨tb, o, none⟩)] w (RO w g F tb t (p ++ (old ++ q)).length ((dSe st).map fun y => (p ++ (y.1.cells ++ q), y.2))) := by
  obtain ⟨a0, a1, a2, rfl, _⟩ := seal_r_old hold
  generalize hn : (p ++ (_ ++ q)).length = n
  generalize hr : (dSe st).map _ = r
  have HR := Lib.hid hr
  have HN := Lib.hid hn
  have HO := Lib.hid ho
  clear hr hn ho hold
  have S0 := S.non ((Chg.refl Non w).alloc (.cells #[.pointer none, .pointer (some ⟨g, 0, none⟩)] 84))
  have hw := S.nw (Nat.le_refl w.heap.size)
  have hx := Hb.new w 84 #[.pointer none, .pointer (some ⟨g, 0, none⟩)]
  have hx0 : (w.alloc (.cells #[.pointer none, .pointer (some ⟨g, 0, none⟩)] 84)).cell? ⟨w.heap.size, 0, none⟩ = some (.pointer none) := hx.cell 0
  have hx1 : (w.alloc (.cells #[.pointer none, .pointer (some ⟨g, 0, none⟩)] 84)).cell? ⟨w.heap.size, 1, none⟩ = some (.pointer (some ⟨g, 0, none⟩)) := hx.cell 1
  have S1 := S0.here
  obtain ⟨B, hB⟩ : ∃ B, B = w.alloc (.cells #[.pointer none, .pointer (some ⟨g, 0, none⟩)] 84) := ⟨_, rfl⟩
  clear hx S
  go_enter Try.func48, Try.ntmps48
  go_wp2_with fail
  rw [← hB] at S0 hx0 hx1 S1 ⊢
  clear hB
  have D2 := S1.non ((Chg.refl Non B).drew)
  have x0 := D2.chg.cell hx0 hw
  have x1 := D2.chg.cell hx1 hw
  go_region_held (fun w' => w'.cell? ⟨w.heap.size, 0, none⟩ = some (.pointer none) ∧ w'.cell? ⟨w.heap.size, 1, none⟩ = some (.pointer (some ⟨g, 0, none⟩))) (first | exact ⟨y0, y1⟩ | exact ⟨x0, x1⟩ | assumption) (first | (go_at_call 67; go_loud (refine (word_r _ g F tb o t (p) (a1 :: a2 :: q) a0 st (D2.here.eq (by simp)) HO.out).mono ?_; rintro e w2 h2; have y0 := h2.chg.cell x0 hw; have y1 := h2.chg.cell x1 hw; obtain ⟨rfl, T2⟩ := h2)) | fail)
  have S2 := D2.trans T2
  clear D2 T2 x0 x1 y0 y1
  go_wp2_with fail
  have D3 := S2.non ((Chg.refl Non w2).drew)
  have x0 := D3.chg.cell hx0 hw
  have x1 := D3.chg.cell hx1 hw
  go_region_held (fun w' => w'.cell? ⟨w.heap.size, 0, none⟩ = some (.pointer none) ∧ w'.cell? ⟨w.heap.size, 1, none⟩ = some (.pointer (some ⟨g, 0, none⟩))) (first | exact ⟨y0, y1⟩ | exact ⟨x0, x1⟩ | assumption) (first | (go_at_call 71; go_loud (refine (signature_r _ g F tb (o + 1) t (p ++ (.int .u64 (vW st : Int) :: [])) (q) a1 a2 (nW st) (D3.here.eq (by simp)) (by rw [HO.out]; simp [bv_length, vH_length])).mono ?_; rintro e w3 h3; have y0 := h3.chg.cell x0 hw; have y1 := h3.chg.cell x1 hw; obtain ⟨rfl, T3⟩ := h3)) | fail)
  have S3 := D3.trans T3
  clear D3 T3 x0 x1 y0 y1
  obtain rfl : r = some (_, (nW (nW (nW st)))) := HR.out.symm.trans (by simp only [dSe, Option.bind_some, Option.map_some]; rfl)
  go_wp2
  go_end0
  refine ⟨rfl, (S0.trans S3).eq ?_⟩
  simp [Se.cells]


theorem makeSeal (n : Nat) (hn : n ≤ 4096) : ∃ L0 : List Value, L0.length = n * 3 ∧ ∀ w : World, (Instr.makeSlice 30 (.int .i64 (n : Int)) (.int .i64 (n : Int))).run Try.prog w = .ok (.slice (some ⟨w.heap.size, 0, none⟩) n n) (w.alloc (.cells L0.toArray 75)) := by
  have hinfo : (Try.prog.info? 75).map (fun i => (i.zero.isSome, i.size, i.bytes)) = some (true, 3, 24) := by kernel_rfl
  cases hq : Try.prog.info? 75 with
  | none => rw [hq] at hinfo; cases hinfo
  | some i =>
    rw [hq] at hinfo
    simp only [Option.map_some, Option.some.injEq, Prod.mk.injEq] at hinfo
    obtain ⟨hz, hs, hb⟩ := hinfo
    obtain ⟨z, hz⟩ := Option.isSome_iff_exists.1 hz
    refine ⟨(madeCells z.cells (n * 3)).toList, by rw [Array.length_toList, size_madeCells], fun w => ?_⟩
    have h := run_make (P := Try.prog) w 30 75 i z Try.underlying30 hq hz .i64 .i64 (n : Int) (n : Int) (by omega) (by omega) (by rw [hb]; omega) (by omega)
    rw [h, hs, Int.toNat_natCast, Array.toArray_toList]

set_option maxHeartbeats 1600000 in
theorem listSeal_r (w : World) (g : Nat) (F : Nat → Prop) (tb o : Nat) (t : TypeId) (p q : List Value) (A0 : Option Addr) (n0 c0 : Nat) (st : St) (S : Rst w g F tb t (p ++ .slice A0 n0 c0 :: q) st w) (ho : o = p.length) (hn0 : n0 ≤ maxLen) (most : Nat) (hmost : most ≤ 4096) :
    Calls Try.prog 47 #[.agg #[.pointer none, .pointer (some ⟨g, 0, none⟩)], .pointer (some ⟨tb, o, none⟩), .int .i64 (most : Int), .func (.func 48) #[] #[]] w (RLO w g F tb t (p ++ .slice A0 n0 c0 :: q).length p q 75 Se.cells (dList dSe most st)) := by
  unfold maxLen at hn0
  have hC := ((Chg.refl Non w).alloc (.cells #[.pointer none, .pointer (some ⟨g, 0, none⟩)] 84)).alloc (.cells #[.int .i64 (n0 : Int)] 3)
  have S0 := S.non hC
  obtain ⟨k0, _⟩ := S.cell ho
  have hw := S.nw (Nat.le_refl w.heap.size)
  have hx0 := ((Hb.new w 84 #[.pointer none, .pointer (some ⟨g, 0, none⟩)]).alloc (.cells #[.int .i64 (n0 : Int)] 3)).cell 0
  have hx1 := ((Hb.new w 84 #[.pointer none, .pointer (some ⟨g, 0, none⟩)]).alloc (.cells #[.int .i64 (n0 : Int)] 3)).cell 1
  have hn : Hb ((w.alloc (.cells #[.pointer none, .pointer (some ⟨g, 0, none⟩)] 84)).alloc (.cells #[.int .i64 (n0 : Int)] 3)) (w.heap.size + 1) 3 #[.int .i64 (n0 : Int)] := by
    have := Hb.new (w.alloc (.cells #[.pointer none, .pointer (some ⟨g, 0, none⟩)] 84)) 3 #[.int .i64 (n0 : Int)]
    rwa [show (w.alloc (.cells #[.pointer none, .pointer (some ⟨g, 0, none⟩)] 84)).heap.size = w.heap.size + 1 by simp] at this
  have hg := S.rdr.lt
  have ht := S.row.lt
  have SN : Rst _ g F (w.heap.size + 1) 3 ([] ++ .int .i64 (n0 : Int) :: []) st _ := ⟨S0.rdr, hn, Chg.refl _ _, by omega, fun hf => by have := S.rdr.Flt _ hf; omega⟩
  have H := number_r _ g F (w.heap.size + 1) 0 3 [] [] (.int .i64 (n0 : Int)) st SN rfl 0 most
  have hBs : ((w.alloc (.cells #[.pointer none, .pointer (some ⟨g, 0, none⟩)] 84)).alloc (.cells #[.int .i64 (n0 : Int)] 3)).heap.size = w.heap.size + 2 := by simp
  have HH := Lib.hid H
  have HO := Lib.hid ho
  obtain ⟨N, hN⟩ : ∃ N, N = (p ++ Value.slice A0 n0 c0 :: q).length := ⟨_, rfl⟩
  rw [← hN]
  have HN := Lib.hid hN
  generalize hr : dList dSe most st = r
  have HR := Lib.hid hr
  clear H ho SN hn hr hN
  go_enter Try.func47, Try.ntmps47
  go_wp2_with fail
  obtain ⟨B, hB⟩ : ∃ B, B = (w.alloc (.cells #[.pointer none, .pointer (some ⟨g, 0, none⟩)] 84)).alloc (.cells #[.int .i64 (n0 : Int)] 3) := ⟨_, rfl⟩
  rw [← hB] at S0 hx0 hx1 HH hBs hC ⊢
  clear hB
  refine HH.out.mono ?_
  rintro e w2 h2
  clear HH
  have hnt : ¬ Two g (w.heap.size + 1) tb := by rintro (h | h); exact S.ne h; omega
  have hrow2 := S0.row.chg h2.chg hnt
  have hC2 : Chg (Two g tb) w w2 := (hC.mono (S' := Two g tb) (fun _ f => f.elim)).trans h2.chg (fun j hj => by rcases hj with rfl | rfl; exact .inl (.inl rfl); exact .inr (by omega))
  rcases h2.cases with ⟨k, he, _⟩ | ⟨y, k, he, T⟩
  · subst he
    simp only [Option.map_eq_none_iff] at k
    obtain rfl : r = none := HR.out.symm.trans (by unfold dList; rw [k]; rfl)
    go_wp2
    exact ⟨rfl, rfl, hC2, _, HN.out.symm, hrow2⟩
  · subst he
    obtain ⟨z, kz, rfl⟩ := Option.map_eq_some_iff.1 k
    obtain ⟨m, s2⟩ := z
    have hm : inR 0 most m = true ∧ m = vN st := by
      unfold dNum at kz
      split at kz
      · rename_i h; simp only [Option.some.injEq, Prod.mk.injEq] at kz; rw [← kz.1]; exact ⟨h, rfl⟩
      · cases kz
    have hm1 := inR_iff.1 hm.1
    obtain ⟨mn, rfl⟩ : ∃ mn : Nat, m = (mn : Int) := ⟨m.toNat, by omega⟩
    have hmn : mn ≤ 4096 := by omega
    have hRL : r = dK dSe s2 mn := HR.out.symm.trans (by unfold dList; rw [kz, Option.bind_some]; simp)
    have HRL := Lib.hid hRL
    obtain ⟨L0, hL0, HM⟩ := makeSeal mn hmn
    have T' : Rst B g F (w.heap.size + 1) 3 ([] ++ .int .i64 (mn : Int) :: []) s2 w2 := T
    have cn := (T'.cell (o := 0) rfl).1
    have hnx : ¬ Two g (w.heap.size + 1) w.heap.size := by rintro (h | h) <;> omega
    have x0 := T'.chg.cell hx0 hnx
    have x1 := T'.chg.cell hx1 hnx
    have S2 : Rst w g F tb t (p ++ .slice A0 n0 c0 :: q) s2 w2 := ⟨T'.rdr, hrow2, hC2, S.ne, S.nF⟩
    clear hRL h2 kz k T hm hm1 hx0 hx1 S0 hC hrow2 HR
    go_wp2_with fail
    refine (writes_r _ g).mono ?_
    rintro e w3 ⟨rfl, hC3⟩
    have S3 := S2.non hC3
    have cn3 := hC3.cell cn (fun f => f)
    have x03 := hC3.cell x0 (fun f => f)
    have x13 := hC3.cell x1 (fun f => f)
    have HM3 := HM w3
    have S4 := S3.non ((Chg.refl Non w3).alloc (.cells L0.toArray 75))
    have hs3 : w.heap.size + 2 ≤ w3.heap.size := by have := T'.chg.size; have := hC3.size; omega
    obtain ⟨c4, f4⟩ := S4.cell HO.out
    have S5' := S3.set HO.out (.slice (some ⟨w3.heap.size, 0, none⟩) mn mn)
    have hss : (w3.setCell ⟨tb, o, none⟩ (.slice (some ⟨w3.heap.size, 0, none⟩) mn mn)).heap.size = w3.heap.size := by simp [World.setCell]
    have S5B := S5'.non ((Chg.refl Non _).alloc (.cells L0.toArray 75))
    obtain ⟨c5, _⟩ := S5B.cell HO.out
    have S5 := S4.set HO.out (.slice (some ⟨w3.heap.size, 0, none⟩) mn mn)
    have hb5 := (Hb.new w3 75 L0.toArray).far (p := ⟨tb, o, none⟩) (show w3.heap.size ≠ tb by omega) (.slice (some ⟨w3.heap.size, 0, none⟩) mn mn)
    have kk := ((Chg.refl (fun j => j = tb) w3).alloc (.cells L0.toArray 75)).setCell (p := ⟨tb, o, none⟩) (.inl rfl) (.slice (some ⟨w3.heap.size, 0, none⟩) mn mn)
    have x05 := kk.cell x03 (show ¬ w.heap.size = tb by omega)
    have x15 := kk.cell x13 (show ¬ w.heap.size = tb by omega)
    clear cn x0 x1 S2 S3 HM S4 S5' S5B kk
    have hFn : ∀ j, F j → j < w.heap.size := S.rdr.Flt
    have HFN := Lib.hid hFn
    have hcl : ∀ (st : St) (x : _) (s : St), dSe st = some (x, s) → (Se.cells x).length = 3 := fun _ _ _ h => rfl
    clear hFn
    go_wp2_with fail
    clear x03 x13 cn3 c4 f4
    go_loopw [9, 28] (fun x i wr => ∃ (k : Nat) (lk : List _) (sk : St) (rest : List Value), k ≤ mn ∧ i = .int .i64 (k : Int) ∧ dK dSe s2 k = some (lk, sk) ∧ rest.length = (mn - k) * 3 ∧ Rst w g F tb t (p ++ .slice (some ⟨w3.heap.size, 0, none⟩) mn mn :: q) sk wr ∧ Hb wr w3.heap.size 75 (lk.flatMap Se.cells ++ rest).toArray ∧ wr.cell? ⟨w.heap.size, 0, none⟩ = some (.pointer none) ∧ wr.cell? ⟨w.heap.size, 1, none⟩ = some (.pointer (some ⟨g, 0, none⟩))) (fun _ i _ => mn - (intOf i).toNat)
    case atStart => exact ⟨0, [], s2, L0, by omega, rfl, rfl, by rw [hL0, Nat.sub_zero], S5, by simpa using hb5, x05, x15⟩
    case round =>
      obtain ⟨k, lk, sk, rest, hk, rfl, hd, hrest, SK, hbk, a0, a1⟩ := hrel
      obtain ⟨a2, _⟩ := SK.cell HO.out
      have HSK := Lib.hid SK
      by_cases hlt : k < mn
      · have hro : rest = rest.take 3 ++ rest.drop 3 := (List.take_append_drop _ _).symm
        have hrl : (rest.take 3).length = 3 := by rw [List.length_take, hrest]; have : 1 * 3 ≤ (mn - k) * 3 := Nat.mul_le_mul_right _ (by omega); omega
        have hrl2 : (rest.drop 3).length = (mn - (k + 1)) * 3 := by
          have e : mn - k = (mn - (k + 1)) + 1 := by omega
          rw [List.length_drop, hrest, e, Nat.succ_mul]
          omega
        rw [hro] at hbk
        generalize rest.take 3 = old at *
        generalize rest.drop 3 = rest' at *
        have hfl := dK_flat hcl hd
        have hnb := hbk.lt
        have SE : Rst wr.drew g F w3.heap.size 75 (lk.flatMap Se.cells ++ (old ++ rest')) sk wr.drew := ⟨(SK.non ((Chg.refl Non wr).drew)).rdr, hbk.chg ((Chg.refl Non wr).drew) (fun f => f), Chg.refl _ _, by omega, fun hf => by have := HFN.out _ hf; omega⟩
        have HE := seal_r wr.drew g F w3.heap.size (k * 3) 75 (lk.flatMap Se.cells) rest' old sk SE hfl.symm hrl
        have HEE := Lib.hid HE
        have e0 := ((Chg.refl Non wr).drew).cell a0 (fun f => f)
        have e1 := ((Chg.refl Non wr).drew).cell a1 (fun f => f)
        have e2 := ((Chg.refl Non wr).drew).cell a2 (fun f => f)
        have n1 : ¬ Two g w3.heap.size w.heap.size := by rintro (h | h) <;> omega
        have n2 : ¬ Two g w3.heap.size tb := by rintro (h | h); exact SK.ne h; omega
        have hki : (k : Int) < (mn : Int) := by omega
        have hdn : dK dSe s2 (k + 1) = (dSe sk).bind fun y => some (lk ++ [y.1], y.2) := by
          have e : dK dSe s2 (k + 1) = (dK dSe s2 k).bind fun x => (dSe x.2).bind fun y => some (x.1 ++ [y.1], y.2) := rfl
          rw [e, hd, Option.bind_some]
        have HDN := Lib.hid hdn
        have HD := Lib.hid hd
        have HRE := Lib.hid hrl2
        clear SE HE hro hrl hrest hfl hdn hd hrl2 SK hbk a0 a1 a2
        go_wp2_with fail
        go_region_held (fun w' => w'.cell? ⟨w.heap.size, 0, none⟩ = some (.pointer none) ∧ w'.cell? ⟨w.heap.size, 1, none⟩ = some (.pointer (some ⟨g, 0, none⟩)) ∧ w'.cell? ⟨tb, o, none⟩ = some (.slice (some ⟨w3.heap.size, 0, none⟩) mn mn)) (first | exact ⟨f0, f1, f2⟩ | exact ⟨e0, e1, e2⟩ | assumption) (first | (go_at_call 48; go_loud (refine HEE.out.mono ?_; rintro e wz hz; have f0 := hz.chg.cell e0 n1; have f1 := hz.chg.cell e1 n1; have f2 := hz.chg.cell e2 n2; rcases hz.cases with ⟨kn, he, C, _⟩ | ⟨y, ky, he, TZ⟩; (subst he; simp only [Option.map_eq_none_iff] at kn; obtain rfl : r = none := HRL.out.trans (dK_none (k := k + 1) (by omega) (by rw [HDN.out, kn]; rfl)); exact ⟨rfl, rfl, HSK.out.chg.trans (((Chg.refl Non wr).drew.mono (S' := Two g w3.heap.size) (fun _ f => f.elim)).trans C (fun _ h => .inl h)) (fun j hj => by rcases hj with rfl | rfl; exact .inl (.inl rfl); exact .inr (by omega)), _, HN.out.symm ▸ (by simp), (HSK.out.non ((Chg.refl Non wr).drew)).row.chg C n2⟩); subst he; obtain ⟨z, kz, rfl⟩ := Option.map_eq_some_iff.1 ky; clear ky)) | fail)
        have hz2 : dK dSe s2 (k + 1) = some (lk ++ [z.1], z.2) := by rw [HDN.out, kz]; rfl
        have T1 : Rst w g F tb t (p ++ .slice (some ⟨w3.heap.size, 0, none⟩) mn mn :: q) z.2 wz := by
          have b1 := HSK.out.non ((Chg.refl Non wr).drew)
          exact ⟨TZ.rdr, b1.row.chg TZ.chg n2, b1.chg.trans TZ.chg (fun j hj => by rcases hj with rfl | rfl; exact .inl (.inl rfl); exact .inr (by omega)), b1.ne, b1.nF⟩
        have T2 : Hb wz w3.heap.size 75 ((lk ++ [z.1]).flatMap Se.cells ++ rest').toArray := by
          have := TZ.row
          simpa [List.append_assoc] using this
        clear hz HEE TZ kz
        go_wp2_with fail
        go_roundw
        case rel => exact ⟨k + 1, _, _, rest', by omega, by go_num, hz2, HRE.out, T1, T2, f0, f1⟩
        case measure => simp [intOf]; omega
      · obtain rfl : k = mn := by omega
        have hln := dK_len hd
        obtain rfl : rest = [] := List.eq_nil_of_length_eq_zero (by rw [hrest, Nat.sub_self, Nat.zero_mul])
        obtain rfl : r = some (lk, sk) := HRL.out.trans hd
        rw [List.append_nil] at hbk
        go_wp2
        go_end0
        refine ⟨rfl, w3.heap.size, by omega, ?_, hbk⟩
        have e : lk.length = k := hln
        show Rst w g F tb t (p ++ .slice (some ⟨w3.heap.size, 0, none⟩) lk.length lk.length :: q) sk wr
        rw [e]
        exact SK
end Go.Proofs.Yteglpgakikigiaa

/- Package forms: sets and commits, read. -/
namespace Go.Proofs.Yteglpgakikigiaa
open Go.RowKit
set_option linter.unusedVariables false
set_option linter.unusedSimpArgs false
set_option maxRecDepth 20000

theorem RLO.cases {α : Type} {w w' : World} {g : Nat} {F : Nat → Prop} {tb : Nat} {t : TypeId} {n : Nat} {p q : List Value} {et : TypeId} {cells : α → List Value} {r : Option (List α × St)} {e : Ending} (h : RLO w g F tb t n p q et cells r e w') : (r = none ∧ e = .panicked bad ∧ Chg (Two g tb) w w' ∧ ∃ L' : List Value, L'.length = n ∧ Hb w' tb t L'.toArray) ∨
    (∃ x, r = some x ∧ e = .returned (.tuple #[]) ∧ ∃ nb, w.heap.size ≤ nb ∧ Rst w g F tb t (p ++ .slice (some ⟨nb, 0, none⟩) x.1.length x.1.length :: q) x.2 w' ∧ Hb w' nb et (x.1.flatMap cells).toArray) := by
  cases r with
  | some x => exact .inr ⟨x, rfl, h.1, h.2⟩
  | none => exact .inl ⟨rfl, h.1, h.2⟩
theorem RLO.chg {α : Type} {w w' : World} {g : Nat} {F : Nat → Prop} {tb : Nat} {t : TypeId} {n : Nat} {p q : List Value} {et : TypeId} {cells : α → List Value} {r : Option (List α × St)} {e : Ending} (h : RLO w g F tb t n p q et cells r e w') : Chg (Two g tb) w w' := by
  cases r with
  | some x => obtain ⟨_, nb, _, h1, _⟩ := h; exact h1.chg
  | none => exact h.2.1
/-- What the reading of a commit leaves. -/
def RCO (w : World) (g : Nat) (F : Nat → Prop) (tb : Nat) (t : TypeId) (n : Nat) (p q : List Value) (r : Option (Cm × St)) (e : Ending) (w' : World) : Prop :=
  match r with
  | some x => e = .returned (.tuple #[]) ∧ ∃ nb, w.heap.size ≤ nb ∧ Rst w g F tb t (p ++ (x.1.cells (.slice (some ⟨nb, 0, none⟩) x.1.seals.length x.1.seals.length) ++ q)) x.2 w' ∧ Hb w' nb 75 (x.1.seals.flatMap Se.cells).toArray
  | none => e = .panicked bad ∧ Chg (Two g tb) w w' ∧ ∃ L' : List Value, L'.length = n ∧ Hb w' tb t L'.toArray
theorem RCO.cases {w w' : World} {g : Nat} {F : Nat → Prop} {tb : Nat} {t : TypeId} {n : Nat} {p q : List Value} {r : Option (Cm × St)} {e : Ending} (h : RCO w g F tb t n p q r e w') : (r = none ∧ e = .panicked bad ∧ Chg (Two g tb) w w' ∧ ∃ L' : List Value, L'.length = n ∧ Hb w' tb t L'.toArray) ∨
    (∃ x, r = some x ∧ e = .returned (.tuple #[]) ∧ ∃ nb, w.heap.size ≤ nb ∧ Rst w g F tb t (p ++ (x.1.cells (.slice (some ⟨nb, 0, none⟩) x.1.seals.length x.1.seals.length) ++ q)) x.2 w' ∧ Hb w' nb 75 (x.1.seals.flatMap Se.cells).toArray) := by
  cases r with
  | some x => exact .inr ⟨x, rfl, h.1, h.2⟩
  | none => exact .inl ⟨rfl, h.1, h.2⟩
theorem RCO.chg {w w' : World} {g : Nat} {F : Nat → Prop} {tb : Nat} {t : TypeId} {n : Nat} {p q : List Value} {r : Option (Cm × St)} {e : Ending} (h : RCO w g F tb t n p q r e w') : Chg (Two g tb) w w' := by
  cases r with
  | some x => obtain ⟨_, nb, _, h1, _⟩ := h; exact h1.chg
  | none => exact h.2.1

theorem listValidatorI_r (w : World) (g : Nat) (F : Nat → Prop) (tb o : Nat) (t : TypeId) (p q : List Value) (st : St) (S : Rst w g F tb t (p ++ .slice none 0 0 :: q) st w) (ho : o = p.length) :
    Calls Try.prog 38 #[.agg #[.pointer none, .pointer (some ⟨g, 0, none⟩)], .pointer (some ⟨tb, o, none⟩), .int .i64 64, .func (.func 39) #[] #[]] w (RLO w g F tb t (p ++ .slice none 0 0 :: q).length p q 71 Va.cells (dList dVa 64 st)) :=
  listValidator_r w g F tb o t p q none 0 0 st S ho (by unfold maxLen; omega) 64 (by omega)

theorem listSealI_r (w : World) (g : Nat) (F : Nat → Prop) (tb o : Nat) (t : TypeId) (p q : List Value) (st : St) (S : Rst w g F tb t (p ++ .slice none 0 0 :: q) st w) (ho : o = p.length) :
    Calls Try.prog 47 #[.agg #[.pointer none, .pointer (some ⟨g, 0, none⟩)], .pointer (some ⟨tb, o, none⟩), .int .i64 64, .func (.func 48) #[] #[]] w (RLO w g F tb t (p ++ .slice none 0 0 :: q).length p q 75 Se.cells (dList dSe 64 st)) :=
  listSeal_r w g F tb o t p q none 0 0 st S ho (by unfold maxLen; omega) 64 (by omega)
set_option maxHeartbeats 1600000 in
theorem set_r (w : World) (g : Nat) (F : Nat → Prop) (tb o : Nat) (t : TypeId) (p q : List Value)  (st : St) (S : Rst w g F tb t (p ++ (.slice none 0 0 :: q)) st w) (ho : o = p.length) :
    Calls Try.prog 18 #[.agg #[.pointer none, .pointer (some ⟨g, 0, none⟩)], .pointer (some ⟨tb, o, none⟩)] w (RLO w g F tb t (p ++ .slice none 0 0 :: q).length p q 71 Va.cells (dSet st)) := by
  generalize hn : (p ++ (.slice none 0 0 :: q)).length = n
  generalize hr : dSet st = r
  have HR := Lib.hid hr
  have HN := Lib.hid hn
  have HO := Lib.hid ho
  clear hr hn ho
  have S0 := S.non ((Chg.refl Non w).alloc (.cells #[.pointer none, .pointer (some ⟨g, 0, none⟩)] 84))
  have hw := S.nw (Nat.le_refl w.heap.size)
  have hx := Hb.new w 84 #[.pointer none, .pointer (some ⟨g, 0, none⟩)]
  have hgl := S.rdr.lt
  have htl := S.row.lt
  have hx0 : (w.alloc (.cells #[.pointer none, .pointer (some ⟨g, 0, none⟩)] 84)).cell? ⟨w.heap.size, 0, none⟩ = some (.pointer none) := hx.cell 0
  have hx1 : (w.alloc (.cells #[.pointer none, .pointer (some ⟨g, 0, none⟩)] 84)).cell? ⟨w.heap.size, 1, none⟩ = some (.pointer (some ⟨g, 0, none⟩)) := hx.cell 1
  have hBs : (w.alloc (.cells #[.pointer none, .pointer (some ⟨g, 0, none⟩)] 84)).heap.size = w.heap.size + 1 := by simp
  have S1 := S0.here
  clear hx S
  go_enter Try.func18, Try.ntmps18
  go_wp2_with fail
  generalize w.alloc (.cells #[.pointer none, .pointer (some ⟨g, 0, none⟩)] 84) = B at *
  have x0 := S1.chg.cell hx0 hw
  have x1 := S1.chg.cell hx1 hw
  refine (begin_r _ g F tb t _ st S1.here 3).mono ?_
  rintro e w2 h2
  rcases h2.cases with ⟨k, he, C, L', hL1, hL2⟩ | ⟨y, k, he, T2⟩
  · subst he; obtain rfl : r = none := HR.out.symm.trans (by (try simp only [Option.map_eq_none_iff] at k); simp [dSet, k]); go_wp2; exact ⟨rfl, rfl, (S0.chg.trans (S1.chg.trans C (fun _ h => .inl h)) (fun _ h => .inl h)), L', by (rw [hL1, ← HN.out]) <;> simp [bv_length, vH_length, hlens] <;> omega, hL2⟩
  subst he
  obtain ⟨z2, k2, rfl⟩ := Option.map_eq_some_iff.1 k
  clear k
  have S2 := S1.trans T2
  clear x0 x1 T2 h2
  have x0 := S2.chg.cell hx0 hw
  have x1 := S2.chg.cell hx1 hw
  go_wp2_with fail
  refine (listValidatorI_r _ g F tb o t p q z2 S2.here HO.out).mono ?_
  rintro e w3 h3
  rcases h3.cases with ⟨k, he, C, L', hL1, hL2⟩ | ⟨z3, k3, he, nb3, N3, T3, B3⟩
  · subst he; obtain rfl : r = none := HR.out.symm.trans (by (try simp only [Option.map_eq_none_iff] at k); simp [dSet, k2, k]); go_wp2; exact ⟨rfl, rfl, (S0.chg.trans (S2.chg.trans C (fun _ h => .inl h)) (fun _ h => .inl h)), L', by (rw [hL1, ← HN.out]) <;> simp [bv_length, vH_length, hlens] <;> omega, hL2⟩
  subst he
  have S3 := S2.trans T3
  have N3 : w.heap.size < nb3 := by have := S2.chg.size; omega
  clear x0 x1 T3 h3
  obtain rfl : r = some (_, z3.2) := HR.out.symm.trans (by simp only [dSet, k2, k3, Option.bind_some, Option.map_some]; rfl)
  go_wp2
  go_end0
  exact ⟨rfl, nb3, by omega, S0.trans S3, B3⟩
set_option maxHeartbeats 1600000 in
theorem commit_r (w : World) (g : Nat) (F : Nat → Prop) (tb o : Nat) (t : TypeId) (p q : List Value) (a0 a1 : Value) (o2 : List Value) (hlens : o2.length = 32) (st : St) (S : Rst w g F tb t (p ++ (a0 :: a1 :: (o2 ++ (.slice none 0 0 :: q)))) st w) (ho : o = p.length) :
    Calls Try.prog 22 #[.agg #[.pointer none, .pointer (some ⟨g, 0, none⟩)], .pointer (some ⟨tb, o, none⟩)] w (RCO w g F tb t (p ++ (a0 :: a1 :: (o2 ++ (.slice none 0 0 :: q)))).length p q (dCommit st)) := by
  generalize hn : (p ++ (a0 :: a1 :: (o2 ++ (.slice none 0 0 :: q)))).length = n
  generalize hr : dCommit st = r
  have HR := Lib.hid hr
  have HN := Lib.hid hn
  have HO := Lib.hid ho
  clear hr hn ho
  have S0 := S.non ((Chg.refl Non w).alloc (.cells #[.pointer none, .pointer (some ⟨g, 0, none⟩)] 84))
  have hw := S.nw (Nat.le_refl w.heap.size)
  have hx := Hb.new w 84 #[.pointer none, .pointer (some ⟨g, 0, none⟩)]
  have hgl := S.rdr.lt
  have htl := S.row.lt
  have hx0 : (w.alloc (.cells #[.pointer none, .pointer (some ⟨g, 0, none⟩)] 84)).cell? ⟨w.heap.size, 0, none⟩ = some (.pointer none) := hx.cell 0
  have hx1 : (w.alloc (.cells #[.pointer none, .pointer (some ⟨g, 0, none⟩)] 84)).cell? ⟨w.heap.size, 1, none⟩ = some (.pointer (some ⟨g, 0, none⟩)) := hx.cell 1
  have hBs : (w.alloc (.cells #[.pointer none, .pointer (some ⟨g, 0, none⟩)] 84)).heap.size = w.heap.size + 1 := by simp
  have S1 := S0.here
  clear hx S
  go_enter Try.func22, Try.ntmps22
  go_wp2_with fail
  generalize w.alloc (.cells #[.pointer none, .pointer (some ⟨g, 0, none⟩)] 84) = B at *
  have x0 := S1.chg.cell hx0 hw
  have x1 := S1.chg.cell hx1 hw
  refine (begin_r _ g F tb t _ st S1.here 4).mono ?_
  rintro e w2 h2
  rcases h2.cases with ⟨k, he, C, L', hL1, hL2⟩ | ⟨y, k, he, T2⟩
  · subst he; obtain rfl : r = none := HR.out.symm.trans (by (try simp only [Option.map_eq_none_iff] at k); simp [dCommit, k]); go_wp2; exact ⟨rfl, rfl, (S0.chg.trans (S1.chg.trans C (fun _ h => .inl h)) (fun _ h => .inl h)), L', by (rw [hL1, ← HN.out]) <;> simp [bv_length, vH_length, hlens] <;> omega, hL2⟩
  subst he
  obtain ⟨z2, k2, rfl⟩ := Option.map_eq_some_iff.1 k
  clear k
  have S2 := S1.trans T2
  clear x0 x1 T2 h2
  go_wp2_with fail
  have D3 := S2.non ((Chg.refl Non w2).drew)
  have x0 := D3.chg.cell hx0 hw
  have x1 := D3.chg.cell hx1 hw
  go_region_held (fun w' => w'.cell? ⟨w.heap.size, 0, none⟩ = some (.pointer none) ∧ w'.cell? ⟨w.heap.size, 1, none⟩ = some (.pointer (some ⟨g, 0, none⟩))) (first | exact ⟨y0, y1⟩ | exact ⟨x0, x1⟩ | assumption) (first | (go_at_call 44; go_loud (refine (height_r _ g F tb o t p (a1 :: (o2 ++ (.slice none 0 0 :: q))) a0 z2 D3.here HO.out).mono ?_; rintro e w3 h3; have y0 := h3.chg.cell x0 hw; have y1 := h3.chg.cell x1 hw; rcases h3.cases with ⟨k, he, C, L', hL1, hL2⟩ | ⟨y, k, he, T3⟩; (subst he; obtain rfl : r = none := HR.out.symm.trans (by (try simp only [Option.map_eq_none_iff] at k); simp [dCommit, k2, k]); exact ⟨rfl, rfl, (S0.chg.trans (D3.chg.trans C (fun _ h => .inl h)) (fun _ h => .inl h)), L', by (rw [hL1, ← HN.out]) <;> simp [bv_length, vH_length, hlens] <;> omega, hL2⟩); subst he; obtain ⟨z3, k3, rfl⟩ := Option.map_eq_some_iff.1 k; clear k)) | fail)
  have S3 := D3.trans T3
  clear x0 x1 T3 D3 y0 y1 h3
  go_wp2_with fail
  have D4 := S3.non ((Chg.refl Non w3).drew)
  have x0 := D4.chg.cell hx0 hw
  have x1 := D4.chg.cell hx1 hw
  go_region_held (fun w' => w'.cell? ⟨w.heap.size, 0, none⟩ = some (.pointer none) ∧ w'.cell? ⟨w.heap.size, 1, none⟩ = some (.pointer (some ⟨g, 0, none⟩))) (first | exact ⟨y0, y1⟩ | exact ⟨x0, x1⟩ | assumption) (first | (go_at_call 45; go_loud (refine (round_r _ g F tb (o + 1) t (p ++ [.int .i64 z3.1]) (o2 ++ (.slice none 0 0 :: q)) a1 z3.2 (D4.here.eq (by simp)) (by rw [HO.out]; simp)).mono ?_; rintro e w4 h4; have y0 := h4.chg.cell x0 hw; have y1 := h4.chg.cell x1 hw; rcases h4.cases with ⟨k, he, C, L', hL1, hL2⟩ | ⟨y, k, he, T4⟩; (subst he; obtain rfl : r = none := HR.out.symm.trans (by (try simp only [Option.map_eq_none_iff] at k); simp [dCommit, k2, k3, k]); exact ⟨rfl, rfl, (S0.chg.trans (D4.chg.trans C (fun _ h => .inl h)) (fun _ h => .inl h)), L', by (rw [hL1, ← HN.out]) <;> simp [bv_length, vH_length, hlens] <;> omega, hL2⟩); subst he; obtain ⟨z4, k4, rfl⟩ := Option.map_eq_some_iff.1 k; clear k)) | fail)
  have S4 := D4.trans T4
  clear x0 x1 T4 D4 y0 y1 h4
  go_wp2_with fail
  have D5 := S4.non ((Chg.refl Non w4).drew)
  have x0 := D5.chg.cell hx0 hw
  have x1 := D5.chg.cell hx1 hw
  go_region_held (fun w' => w'.cell? ⟨w.heap.size, 0, none⟩ = some (.pointer none) ∧ w'.cell? ⟨w.heap.size, 1, none⟩ = some (.pointer (some ⟨g, 0, none⟩))) (first | exact ⟨y0, y1⟩ | exact ⟨x0, x1⟩ | assumption) (first | (go_at_call 46; go_loud (refine (hash_r _ g F tb (o + 2) t (p ++ [.int .i64 z3.1, .int .i64 z4.1]) (.slice none 0 0 :: q) o2 z4.2 (D5.here.eq (by simp)) (by rw [HO.out]; simp) hlens).mono ?_; rintro e w5 h5; have y0 := h5.chg.cell x0 hw; have y1 := h5.chg.cell x1 hw; obtain ⟨rfl, T5⟩ := h5)) | fail)
  have S5 := D5.trans T5
  clear x0 x1 T5 D5 y0 y1
  go_wp2_with fail
  have D6 := S5.non ((Chg.refl Non w5).drew)
  have x0 := D6.chg.cell hx0 hw
  have x1 := D6.chg.cell hx1 hw
  go_region_held (fun w' => w'.cell? ⟨w.heap.size, 0, none⟩ = some (.pointer none) ∧ w'.cell? ⟨w.heap.size, 1, none⟩ = some (.pointer (some ⟨g, 0, none⟩))) (first | exact ⟨y0, y1⟩ | exact ⟨x0, x1⟩ | assumption) (first | (go_at_call 47; go_loud (refine (listSealI_r _ g F tb (o + 34) t (p ++ ([.int .i64 z3.1, .int .i64 z4.1] ++ bv (vH z4.2))) q (nH z4.2) (D6.here.eq (by simp)) (by rw [HO.out]; simp [bv_length, vH_length])).mono ?_; rintro e w6 h6; have y0 := h6.chg.cell x0 hw; have y1 := h6.chg.cell x1 hw; rcases h6.cases with ⟨k, he, C, L', hL1, hL2⟩ | ⟨z6, k6, he, nb6, N6, T6, B6⟩; (subst he; obtain rfl : r = none := HR.out.symm.trans (by (try simp only [Option.map_eq_none_iff] at k); simp [dCommit, k2, k3, k4, k]); exact ⟨rfl, rfl, (S0.chg.trans (D6.chg.trans C (fun _ h => .inl h)) (fun _ h => .inl h)), L', by (rw [hL1, ← HN.out]) <;> simp [bv_length, vH_length, hlens] <;> omega, hL2⟩); subst he)) | fail)
  have S6 := D6.trans T6
  have N6 : w.heap.size < nb6 := by have := D6.chg.size; omega
  clear x0 x1 T6 D6 y0 y1 h6
  obtain rfl : r = some (_, z6.2) := HR.out.symm.trans (by simp only [dCommit, k2, k3, k4, k6, Option.bind_some, Option.map_some]; rfl)
  go_wp2
  go_end0
  exact ⟨rfl, nb6, by omega, (S0.trans S6).eq (by simp [Cm.cells]), B6⟩
end Go.Proofs.Yteglpgakikigiaa
