/- Package forms: validators, and lists of them, read. -/
import Derived.Test.YtjcfdclgddjaoaaChecked
import Derived.WalkKit
import Derived.WalkLawsBesides
import Derived.Lib.Hide
import Derived.Deep.RegionHeld3
import Derived.Test.YtjcfdclgddjaoaaFcv
import Derived.Test.YtjcfdclgddjaoaaFt2
import Derived.Test.YtjcfdclgddjaoaaFqw
namespace Go.Proofs.Ytjcfdclgddjaoaa
open Go.RowKit
set_option linter.unusedVariables false
set_option linter.unusedSimpArgs false
set_option maxRecDepth 20000
theorem validator_r_old {old : List Value} (h : old.length = 2) : ∃ (a0 : Value) (a1 : Value), old = [a0] ++ [a1] ∧ True := by
  refine ⟨(old[0]'(by omega)), (old[1]'(by omega)), ?_, trivial⟩
  apply List.ext_getElem?
  intro j
  have hone : ∀ (i : Nat) (hi : i < old.length), [old[i]] = (old.drop i).take 1 := by
    intro i hi
    apply List.ext_getElem?
    intro k
    rw [List.getElem?_take, List.getElem?_drop]
    by_cases hk : k < 1
    · obtain rfl : k = 0 := by omega
      simp [List.getElem?_eq_getElem hi]
    · rw [if_neg hk, List.getElem?_eq_none (by simp; omega)]
  simp only [hone]
  have hj : ∀ (a b c : Nat), a + b = c → (old.drop a).take b ++ old.drop c = old.drop a := by
    intro a b c e
    subst e
    rw [← List.drop_drop, List.take_append_drop]
  have he : old.drop 2 = [] := List.drop_of_length_le (by omega)
  have hall : (old.drop 0).take 1 ++ ((old.drop 1).take 1 ++ old.drop 2) = old := by
    rw [hj 1 1 2 rfl, hj 0 1 1 rfl]
    rfl
  rw [he, List.append_nil] at hall
  conv => lhs; rw [← hall]
  try simp only [List.append_assoc]

set_option maxHeartbeats 1600000 in
theorem validator_r (w : World) (g : Nat) (F : Nat → Prop) (tb o : Nat) (t : TypeId) (p q old : List Value) (st : St) (S : Rst w g F tb t (p ++ (old ++ q)) st w) (ho : o = p.length) (hold : old.length = 2) :
    Calls Try.prog 104 #[.agg #[.pointer none, .pointer (some ⟨g, 0, none⟩)], .pointer (some ⟨tb, o, none⟩)] w (RO w g F tb t (p ++ (old ++ q)).length ((dVa st).map fun y => (p ++ (y.1.cells ++ q), y.2))) := by
  obtain ⟨a0, a1, rfl, _⟩ := validator_r_old hold
  generalize hn : (p ++ (_ ++ q)).length = n
  generalize hr : (dVa st).map _ = r
  have HR := Lib.hid hr
  have HN := Lib.hid hn
  have HO := Lib.hid ho
  clear hr hn ho hold
  have S0 := S.non ((Chg.refl Non w).alloc (.cells #[.pointer none, .pointer (some ⟨g, 0, none⟩)] 138))
  have hw := S.nw (Nat.le_refl w.heap.size)
  have hx := Hb.new w 138 #[.pointer none, .pointer (some ⟨g, 0, none⟩)]
  have hx0 : (w.alloc (.cells #[.pointer none, .pointer (some ⟨g, 0, none⟩)] 138)).cell? ⟨w.heap.size, 0, none⟩ = some (.pointer none) := hx.cell 0
  have hx1 : (w.alloc (.cells #[.pointer none, .pointer (some ⟨g, 0, none⟩)] 138)).cell? ⟨w.heap.size, 1, none⟩ = some (.pointer (some ⟨g, 0, none⟩)) := hx.cell 1
  have S1 := S0.here
  obtain ⟨B, hB⟩ : ∃ B, B = w.alloc (.cells #[.pointer none, .pointer (some ⟨g, 0, none⟩)] 138) := ⟨_, rfl⟩
  clear hx S
  go_enter Try.func104, Try.ntmps104
  go_wp2_with fail
  rw [← hB] at S0 hx0 hx1 S1 ⊢
  clear hB
  have D2 := S1.non ((Chg.refl Non B).drew)
  have x0 := D2.chg.cell hx0 hw
  have x1 := D2.chg.cell hx1 hw
  go_region_held (fun w' => w'.cell? ⟨w.heap.size, 0, none⟩ = some (.pointer none) ∧ w'.cell? ⟨w.heap.size, 1, none⟩ = some (.pointer (some ⟨g, 0, none⟩))) (first | exact ⟨y0, y1⟩ | exact ⟨x0, x1⟩ | assumption) (first | (go_at_call 94; go_loud (refine (word_r _ g F tb o t (p) (a1 :: q) a0 st (D2.here.eq (by simp)) HO.out).mono ?_; rintro e w2 h2; have y0 := h2.chg.cell x0 hw; have y1 := h2.chg.cell x1 hw; obtain ⟨rfl, T2⟩ := h2)) | fail)
  have S2 := D2.trans T2
  clear D2 T2 x0 x1 y0 y1
  go_wp2_with fail
  have D3 := S2.non ((Chg.refl Non w2).drew)
  have x0 := D3.chg.cell hx0 hw
  have x1 := D3.chg.cell hx1 hw
  go_region_held (fun w' => w'.cell? ⟨w.heap.size, 0, none⟩ = some (.pointer none) ∧ w'.cell? ⟨w.heap.size, 1, none⟩ = some (.pointer (some ⟨g, 0, none⟩))) (first | exact ⟨y0, y1⟩ | exact ⟨x0, x1⟩ | assumption) (first | (go_at_call 80; go_loud (refine (number_r _ g F tb (o + 1) t (p ++ (.int .u64 (vW st : Int) :: [])) (q) a1 (nW st) (D3.here.eq (by simp)) (by rw [HO.out]; simp [bv_length, vH_length]) (-9223372036854775808) 9223372036854775807).mono ?_; rintro e w3 h3; have y0 := h3.chg.cell x0 hw; have y1 := h3.chg.cell x1 hw; rcases h3.cases with ⟨k, he, C, L', hL1, hL2⟩ | ⟨y, k, he, T3⟩; (subst he; obtain rfl : r = none := HR.out.symm.trans (by (simp only [Option.map_eq_none_iff] at k) <;> simp [dVa, k]); exact ⟨rfl, rfl, (S0.chg.trans (D3.chg.trans C (fun _ h => .inl h)) (fun _ h => .inl h)), L', by (rw [hL1, ← HN.out]) <;> simp [bv_length, vH_length], hL2⟩); subst he; obtain ⟨z3, k3, rfl⟩ := Option.map_eq_some_iff.1 k; clear k)) | fail)
  have S3 := D3.trans T3
  clear D3 T3 x0 x1 y0 y1
  clear h3
  obtain rfl : r = some (_, z3.2) := HR.out.symm.trans (by simp only [dVa, k3, Option.bind_some, Option.map_some]; rfl)
  go_wp2
  go_end0
  refine ⟨rfl, (S0.trans S3).eq ?_⟩
  simp [Va.cells]


theorem makeValidator (n : Nat) (hn : n ≤ 4096) : ∃ L0 : List Value, L0.length = n * 2 ∧ ∀ w : World, (Instr.makeSlice 63 (.int .i64 (n : Int)) (.int .i64 (n : Int))).run Try.prog w = .ok (.slice (some ⟨w.heap.size, 0, none⟩) n n) (w.alloc (.cells L0.toArray 125)) := by
  have hinfo : (Try.prog.info? 125).map (fun i => (i.zero.isSome, i.size, i.bytes)) = some (true, 2, 16) := by kernel_rfl
  cases hq : Try.prog.info? 125 with
  | none => rw [hq] at hinfo; cases hinfo
  | some i =>
    rw [hq] at hinfo
    simp only [Option.map_some, Option.some.injEq, Prod.mk.injEq] at hinfo
    obtain ⟨hz, hs, hb⟩ := hinfo
    obtain ⟨z, hz⟩ := Option.isSome_iff_exists.1 hz
    refine ⟨(madeCells z.cells (n * 2)).toList, by rw [Array.length_toList, size_madeCells], fun w => ?_⟩
    have h := run_make (P := Try.prog) w 63 125 i z Try.underlying63 hq hz .i64 .i64 (n : Int) (n : Int) (by omega) (by omega) (by rw [hb]; omega) (by omega)
    rw [h, hs, Int.toNat_natCast, Array.toArray_toList]

set_option maxHeartbeats 1600000 in
theorem listValidator_r (w : World) (g : Nat) (F : Nat → Prop) (tb o : Nat) (t : TypeId) (p q : List Value) (A0 : Option Addr) (n0 c0 : Nat) (st : St) (S : Rst w g F tb t (p ++ .slice A0 n0 c0 :: q) st w) (ho : o = p.length) (hn0 : n0 ≤ maxLen) (most : Nat) (hmost : most ≤ 4096) :
    Calls Try.prog 103 #[.agg #[.pointer none, .pointer (some ⟨g, 0, none⟩)], .pointer (some ⟨tb, o, none⟩), .int .i64 (most : Int), .func (.func 104) #[] #[]] w (RLO w g F tb t (p ++ .slice A0 n0 c0 :: q).length p q 125 Va.cells (dList dVa most st)) := by
  unfold maxLen at hn0
  have hC := ((Chg.refl Non w).alloc (.cells #[.pointer none, .pointer (some ⟨g, 0, none⟩)] 138)).alloc (.cells #[.int .i64 (n0 : Int)] 3)
  have S0 := S.non hC
  obtain ⟨k0, _⟩ := S.cell ho
  have hw := S.nw (Nat.le_refl w.heap.size)
  have hx0 := ((Hb.new w 138 #[.pointer none, .pointer (some ⟨g, 0, none⟩)]).alloc (.cells #[.int .i64 (n0 : Int)] 3)).cell 0
  have hx1 := ((Hb.new w 138 #[.pointer none, .pointer (some ⟨g, 0, none⟩)]).alloc (.cells #[.int .i64 (n0 : Int)] 3)).cell 1
  have hn : Hb ((w.alloc (.cells #[.pointer none, .pointer (some ⟨g, 0, none⟩)] 138)).alloc (.cells #[.int .i64 (n0 : Int)] 3)) (w.heap.size + 1) 3 #[.int .i64 (n0 : Int)] := by
    have := Hb.new (w.alloc (.cells #[.pointer none, .pointer (some ⟨g, 0, none⟩)] 138)) 3 #[.int .i64 (n0 : Int)]
    rwa [show (w.alloc (.cells #[.pointer none, .pointer (some ⟨g, 0, none⟩)] 138)).heap.size = w.heap.size + 1 by simp] at this
  have hg := S.rdr.lt
  have ht := S.row.lt
  have SN : Rst _ g F (w.heap.size + 1) 3 ([] ++ .int .i64 (n0 : Int) :: []) st _ := ⟨S0.rdr, hn, Chg.refl _ _, by omega, fun hf => by have := S.rdr.Flt _ hf; omega⟩
  have H := number_r _ g F (w.heap.size + 1) 0 3 [] [] (.int .i64 (n0 : Int)) st SN rfl 0 most
  have hBs : ((w.alloc (.cells #[.pointer none, .pointer (some ⟨g, 0, none⟩)] 138)).alloc (.cells #[.int .i64 (n0 : Int)] 3)).heap.size = w.heap.size + 2 := by simp
  have HH := Lib.hid H
  have HO := Lib.hid ho
  obtain ⟨N, hN⟩ : ∃ N, N = (p ++ Value.slice A0 n0 c0 :: q).length := ⟨_, rfl⟩
  rw [← hN]
  have HN := Lib.hid hN
  generalize hr : dList dVa most st = r
  have HR := Lib.hid hr
  clear H ho SN hn hr hN
  go_enter Try.func103, Try.ntmps103
  go_wp2_with fail
  obtain ⟨B, hB⟩ : ∃ B, B = (w.alloc (.cells #[.pointer none, .pointer (some ⟨g, 0, none⟩)] 138)).alloc (.cells #[.int .i64 (n0 : Int)] 3) := ⟨_, rfl⟩
  rw [← hB] at S0 hx0 hx1 HH hBs hC ⊢
  clear hB
  refine HH.out.mono ?_
  rintro e w2 h2
  clear HH
  have hnt : ¬ Two g (w.heap.size + 1) tb := by rintro (h | h); exact S.ne h; omega
  have hrow2 := S0.row.chg h2.chg hnt
  have hC2 : Chg (Two g tb) w w2 := (hC.mono (S' := Two g tb) (fun _ f => f.elim)).trans h2.chg (fun j hj => by rcases hj with rfl | rfl; exact .inl (.inl rfl); exact .inr (by omega))
  rcases h2.cases with ⟨k, he, _⟩ | ⟨y, k, he, T⟩
  · subst he
    simp only [Option.map_eq_none_iff] at k
    obtain rfl : r = none := HR.out.symm.trans (by unfold dList; rw [k]; rfl)
    go_wp2
    exact ⟨rfl, rfl, hC2, _, HN.out.symm, hrow2⟩
  · subst he
    obtain ⟨z, kz, rfl⟩ := Option.map_eq_some_iff.1 k
    obtain ⟨m, s2⟩ := z
    have hm : inR 0 most m = true ∧ m = vN st := by
      unfold dNum at kz
      split at kz
      · rename_i h; simp only [Option.some.injEq, Prod.mk.injEq] at kz; rw [← kz.1]; exact ⟨h, rfl⟩
      · cases kz
    have hm1 := inR_iff.1 hm.1
    obtain ⟨mn, rfl⟩ : ∃ mn : Nat, m = (mn : Int) := ⟨m.toNat, by omega⟩
    have hmn : mn ≤ 4096 := by omega
    have hRL : r = dK dVa s2 mn := HR.out.symm.trans (by unfold dList; rw [kz, Option.bind_some]; simp)
    have HRL := Lib.hid hRL
    obtain ⟨L0, hL0, HM⟩ := makeValidator mn hmn
    have T' : Rst B g F (w.heap.size + 1) 3 ([] ++ .int .i64 (mn : Int) :: []) s2 w2 := T
    have cn := (T'.cell (o := 0) rfl).1
    have hnx : ¬ Two g (w.heap.size + 1) w.heap.size := by rintro (h | h) <;> omega
    have x0 := T'.chg.cell hx0 hnx
    have x1 := T'.chg.cell hx1 hnx
    have S2 : Rst w g F tb t (p ++ .slice A0 n0 c0 :: q) s2 w2 := ⟨T'.rdr, hrow2, hC2, S.ne, S.nF⟩
    clear hRL h2 kz k T hm hm1 hx0 hx1 S0 hC hrow2 HR
    go_wp2_with fail
    refine (writes_r _ g).mono ?_
    rintro e w3 ⟨rfl, hC3⟩
    have S3 := S2.non hC3
    have cn3 := hC3.cell cn (fun f => f)
    have x03 := hC3.cell x0 (fun f => f)
    have x13 := hC3.cell x1 (fun f => f)
    have HM3 := HM w3
    have S4 := S3.non ((Chg.refl Non w3).alloc (.cells L0.toArray 125))
    have hs3 : w.heap.size + 2 ≤ w3.heap.size := by have := T'.chg.size; have := hC3.size; omega
    obtain ⟨c4, f4⟩ := S4.cell HO.out
    have S5' := S3.set HO.out (.slice (some ⟨w3.heap.size, 0, none⟩) mn mn)
    have hss : (w3.setCell ⟨tb, o, none⟩ (.slice (some ⟨w3.heap.size, 0, none⟩) mn mn)).heap.size = w3.heap.size := by simp [World.setCell]
    have S5B := S5'.non ((Chg.refl Non _).alloc (.cells L0.toArray 125))
    obtain ⟨c5, _⟩ := S5B.cell HO.out
    have S5 := S4.set HO.out (.slice (some ⟨w3.heap.size, 0, none⟩) mn mn)
    have hb5 := (Hb.new w3 125 L0.toArray).far (p := ⟨tb, o, none⟩) (show w3.heap.size ≠ tb by omega) (.slice (some ⟨w3.heap.size, 0, none⟩) mn mn)
    have kk := ((Chg.refl (fun j => j = tb) w3).alloc (.cells L0.toArray 125)).setCell (p := ⟨tb, o, none⟩) (.inl rfl) (.slice (some ⟨w3.heap.size, 0, none⟩) mn mn)
    have x05 := kk.cell x03 (show ¬ w.heap.size = tb by omega)
    have x15 := kk.cell x13 (show ¬ w.heap.size = tb by omega)
    clear cn x0 x1 S2 S3 HM S4 S5' S5B kk
    have hFn : ∀ j, F j → j < w.heap.size := S.rdr.Flt
    have HFN := Lib.hid hFn
    have hcl : ∀ (st : St) (x : _) (s : St), dVa st = some (x, s) → (Va.cells x).length = 2 := fun _ _ _ h => rfl
    clear hFn
    go_wp2_with fail
    clear x03 x13 cn3 c4 f4
    go_loopw [9, 28] (fun x i wr => ∃ (k : Nat) (lk : List _) (sk : St) (rest : List Value), k ≤ mn ∧ i = .int .i64 (k : Int) ∧ dK dVa s2 k = some (lk, sk) ∧ rest.length = (mn - k) * 2 ∧ Rst w g F tb t (p ++ .slice (some ⟨w3.heap.size, 0, none⟩) mn mn :: q) sk wr ∧ Hb wr w3.heap.size 125 (lk.flatMap Va.cells ++ rest).toArray ∧ wr.cell? ⟨w.heap.size, 0, none⟩ = some (.pointer none) ∧ wr.cell? ⟨w.heap.size, 1, none⟩ = some (.pointer (some ⟨g, 0, none⟩))) (fun _ i _ => mn - (intOf i).toNat)
    case atStart => exact ⟨0, [], s2, L0, by omega, rfl, rfl, by rw [hL0, Nat.sub_zero], S5, by simpa using hb5, x05, x15⟩
    case round =>
      obtain ⟨k, lk, sk, rest, hk, rfl, hd, hrest, SK, hbk, a0, a1⟩ := hrel
      obtain ⟨a2, _⟩ := SK.cell HO.out
      have HSK := Lib.hid SK
      by_cases hlt : k < mn
      · have hro : rest = rest.take 2 ++ rest.drop 2 := (List.take_append_drop _ _).symm
        have hrl : (rest.take 2).length = 2 := by rw [List.length_take, hrest]; have : 1 * 2 ≤ (mn - k) * 2 := Nat.mul_le_mul_right _ (by omega); omega
        have hrl2 : (rest.drop 2).length = (mn - (k + 1)) * 2 := by
          have e : mn - k = (mn - (k + 1)) + 1 := by omega
          rw [List.length_drop, hrest, e, Nat.succ_mul]
          omega
        rw [hro] at hbk
        generalize rest.take 2 = old at *
        generalize rest.drop 2 = rest' at *
        have hfl := dK_flat hcl hd
        have hnb := hbk.lt
        have SE : Rst wr.drew g F w3.heap.size 125 (lk.flatMap Va.cells ++ (old ++ rest')) sk wr.drew := ⟨(SK.non ((Chg.refl Non wr).drew)).rdr, hbk.chg ((Chg.refl Non wr).drew) (fun f => f), Chg.refl _ _, by omega, fun hf => by have := HFN.out _ hf; omega⟩
        have HE := validator_r wr.drew g F w3.heap.size (k * 2) 125 (lk.flatMap Va.cells) rest' old sk SE hfl.symm hrl
        have HEE := Lib.hid HE
        have e0 := ((Chg.refl Non wr).drew).cell a0 (fun f => f)
        have e1 := ((Chg.refl Non wr).drew).cell a1 (fun f => f)
        have e2 := ((Chg.refl Non wr).drew).cell a2 (fun f => f)
        have n1 : ¬ Two g w3.heap.size w.heap.size := by rintro (h | h) <;> omega
        have n2 : ¬ Two g w3.heap.size tb := by rintro (h | h); exact SK.ne h; omega
        have hki : (k : Int) < (mn : Int) := by omega
        have hdn : dK dVa s2 (k + 1) = (dVa sk).bind fun y => some (lk ++ [y.1], y.2) := by
          have e : dK dVa s2 (k + 1) = (dK dVa s2 k).bind fun x => (dVa x.2).bind fun y => some (x.1 ++ [y.1], y.2) := rfl
          rw [e, hd, Option.bind_some]
        have HDN := Lib.hid hdn
        have HD := Lib.hid hd
        have HRE := Lib.hid hrl2
        clear SE HE hro hrl hrest hfl hdn hd hrl2 SK hbk a0 a1 a2
        go_wp2_with fail
        go_region_held (fun w' => w'.cell? ⟨w.heap.size, 0, none⟩ = some (.pointer none) ∧ w'.cell? ⟨w.heap.size, 1, none⟩ = some (.pointer (some ⟨g, 0, none⟩)) ∧ w'.cell? ⟨tb, o, none⟩ = some (.slice (some ⟨w3.heap.size, 0, none⟩) mn mn)) (first | exact ⟨f0, f1, f2⟩ | exact ⟨e0, e1, e2⟩ | assumption) (first | (go_at_call 104; go_loud (refine HEE.out.mono ?_; rintro e wz hz; have f0 := hz.chg.cell e0 n1; have f1 := hz.chg.cell e1 n1; have f2 := hz.chg.cell e2 n2; rcases hz.cases with ⟨kn, he, C, _⟩ | ⟨y, ky, he, TZ⟩; (subst he; simp only [Option.map_eq_none_iff] at kn; obtain rfl : r = none := HRL.out.trans (dK_none (k := k + 1) (by omega) (by rw [HDN.out, kn]; rfl)); exact ⟨rfl, rfl, HSK.out.chg.trans (((Chg.refl Non wr).drew.mono (S' := Two g w3.heap.size) (fun _ f => f.elim)).trans C (fun _ h => .inl h)) (fun j hj => by rcases hj with rfl | rfl; exact .inl (.inl rfl); exact .inr (by omega)), _, HN.out.symm ▸ (by simp), (HSK.out.non ((Chg.refl Non wr).drew)).row.chg C n2⟩); subst he; obtain ⟨z, kz, rfl⟩ := Option.map_eq_some_iff.1 ky; clear ky)) | fail)
        have hz2 : dK dVa s2 (k + 1) = some (lk ++ [z.1], z.2) := by rw [HDN.out, kz]; rfl
        have T1 : Rst w g F tb t (p ++ .slice (some ⟨w3.heap.size, 0, none⟩) mn mn :: q) z.2 wz := by
          have b1 := HSK.out.non ((Chg.refl Non wr).drew)
          exact ⟨TZ.rdr, b1.row.chg TZ.chg n2, b1.chg.trans TZ.chg (fun j hj => by rcases hj with rfl | rfl; exact .inl (.inl rfl); exact .inr (by omega)), b1.ne, b1.nF⟩
        have T2 : Hb wz w3.heap.size 125 ((lk ++ [z.1]).flatMap Va.cells ++ rest').toArray := by
          have := TZ.row
          simpa [List.append_assoc] using this
        clear hz HEE TZ kz
        go_wp2_with fail
        go_roundw
        case rel => exact ⟨k + 1, _, _, rest', by omega, by go_num, hz2, HRE.out, T1, T2, f0, f1⟩
        case measure => simp [intOf]; omega
      · obtain rfl : k = mn := by omega
        have hln := dK_len hd
        obtain rfl : rest = [] := List.eq_nil_of_length_eq_zero (by rw [hrest, Nat.sub_self, Nat.zero_mul])
        obtain rfl : r = some (lk, sk) := HRL.out.trans hd
        rw [List.append_nil] at hbk
        go_wp2
        go_end0
        refine ⟨rfl, w3.heap.size, by omega, ?_, hbk⟩
        have e : lk.length = k := hln
        show Rst w g F tb t (p ++ .slice (some ⟨w3.heap.size, 0, none⟩) lk.length lk.length :: q) sk wr
        rw [e]
        exact SK
end Go.Proofs.Ytjcfdclgddjaoaa
