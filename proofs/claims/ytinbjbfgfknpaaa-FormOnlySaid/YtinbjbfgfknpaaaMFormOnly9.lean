import Derived.Test.YtinbjbfgfknpaaaChecked
import Derived.WalkKit
import Derived.WalkLawsBesides
import Derived.Lib.Hide
import Derived.Deep.RegionHeld3
import Derived.Recover
import Derived.Test.YtinbjbfgfknpaaaMFormOnly5
import Derived.Test.YtinbjbfgfknpaaaMFormOnly6
import Derived.Test.YtinbjbfgfknpaaaMFormOnly7
import Derived.Test.YtinbjbfgfknpaaaMFormOnly8
/- Package forms: lists of hashes, and parts, read. -/
namespace Go.Proofs.Ytinbjbfgfknpaaa
open Go.RowKit
set_option linter.unusedVariables false
set_option linter.unusedSimpArgs false
set_option maxRecDepth 20000

theorem hash1_r (w : World) (g : Nat) (F : Nat → Prop) (tb o : Nat) (t : TypeId) (p q old : List Value) (st : St) (S : Rst w g F tb t (p ++ (old ++ q)) st w) (ho : o = p.length) (hold : old.length = 32) :
    Calls Try.prog 40 #[.agg #[.pointer none, .pointer (some ⟨g, 0, none⟩)], .pointer (some ⟨tb, o, none⟩)] w (RO w g F tb t (p ++ (old ++ q)).length ((dHs st).map fun y => (p ++ (bv y.1 ++ q), y.2))) := hash_r w g F tb o t p q old st S ho hold

theorem makeHash (n : Nat) (hn : n ≤ 4096) : ∃ L0 : List Value, L0.length = n * 32 ∧ ∀ w : World, (Instr.makeSlice 115 (.int .i64 (n : Int)) (.int .i64 (n : Int))).run Try.prog w = .ok (.slice (some ⟨w.heap.size, 0, none⟩) n n) (w.alloc (.cells L0.toArray 26)) := by
  have hinfo : (Try.prog.info? 26).map (fun i => (i.zero.isSome, i.size, i.bytes)) = some (true, 32, 32) := by kernel_rfl
  cases hq : Try.prog.info? 26 with
  | none => rw [hq] at hinfo; cases hinfo
  | some i =>
    rw [hq] at hinfo
    simp only [Option.map_some, Option.some.injEq, Prod.mk.injEq] at hinfo
    obtain ⟨hz, hs, hb⟩ := hinfo
    obtain ⟨z, hz⟩ := Option.isSome_iff_exists.1 hz
    refine ⟨(madeCells z.cells (n * 32)).toList, by rw [Array.length_toList, size_madeCells], fun w => ?_⟩
    have h := run_make (P := Try.prog) w 115 26 i z Try.underlying115 hq hz .i64 .i64 (n : Int) (n : Int) (by omega) (by omega) (by rw [hb]; omega) (by omega)
    rw [h, hs, Int.toNat_natCast, Array.toArray_toList]

set_option maxHeartbeats 1600000 in
theorem listHash_r (w : World) (g : Nat) (F : Nat → Prop) (tb o : Nat) (t : TypeId) (p q : List Value) (A0 : Option Addr) (n0 c0 : Nat) (st : St) (S : Rst w g F tb t (p ++ .slice A0 n0 c0 :: q) st w) (ho : o = p.length) (hn0 : n0 ≤ maxLen) (most : Nat) (hmost : most ≤ 4096) :
    Calls Try.prog 73 #[.agg #[.pointer none, .pointer (some ⟨g, 0, none⟩)], .pointer (some ⟨tb, o, none⟩), .int .i64 (most : Int), .func (.func 40) #[] #[]] w (RLO w g F tb t (p ++ .slice A0 n0 c0 :: q).length p q 26 bv (dList dHs most st)) := by
  unfold maxLen at hn0
  have hC := ((Chg.refl Non w).alloc (.cells #[.pointer none, .pointer (some ⟨g, 0, none⟩)] 88)).alloc (.cells #[.int .i64 (n0 : Int)] 3)
  have S0 := S.non hC
  obtain ⟨k0, _⟩ := S.cell ho
  have hw := S.nw (Nat.le_refl w.heap.size)
  have hx0 := ((Hb.new w 88 #[.pointer none, .pointer (some ⟨g, 0, none⟩)]).alloc (.cells #[.int .i64 (n0 : Int)] 3)).cell 0
  have hx1 := ((Hb.new w 88 #[.pointer none, .pointer (some ⟨g, 0, none⟩)]).alloc (.cells #[.int .i64 (n0 : Int)] 3)).cell 1
  have hn : Hb ((w.alloc (.cells #[.pointer none, .pointer (some ⟨g, 0, none⟩)] 88)).alloc (.cells #[.int .i64 (n0 : Int)] 3)) (w.heap.size + 1) 3 #[.int .i64 (n0 : Int)] := by
    have := Hb.new (w.alloc (.cells #[.pointer none, .pointer (some ⟨g, 0, none⟩)] 88)) 3 #[.int .i64 (n0 : Int)]
    rwa [show (w.alloc (.cells #[.pointer none, .pointer (some ⟨g, 0, none⟩)] 88)).heap.size = w.heap.size + 1 by simp] at this
  have hg := S.rdr.lt
  have ht := S.row.lt
  have SN : Rst _ g F (w.heap.size + 1) 3 ([] ++ .int .i64 (n0 : Int) :: []) st _ := ⟨S0.rdr, hn, Chg.refl _ _, by omega, fun hf => by have := S.rdr.Flt _ hf; omega⟩
  have H := number_r _ g F (w.heap.size + 1) 0 3 [] [] (.int .i64 (n0 : Int)) st SN rfl 0 most
  have hBs : ((w.alloc (.cells #[.pointer none, .pointer (some ⟨g, 0, none⟩)] 88)).alloc (.cells #[.int .i64 (n0 : Int)] 3)).heap.size = w.heap.size + 2 := by simp
  have HH := Lib.hid H
  have HO := Lib.hid ho
  obtain ⟨N, hN⟩ : ∃ N, N = (p ++ Value.slice A0 n0 c0 :: q).length := ⟨_, rfl⟩
  rw [← hN]
  have HN := Lib.hid hN
  generalize hr : dList dHs most st = r
  have HR := Lib.hid hr
  clear H ho SN hn hr hN
  go_enter Try.func73, Try.ntmps73
  go_wp2_with fail
  obtain ⟨B, hB⟩ : ∃ B, B = (w.alloc (.cells #[.pointer none, .pointer (some ⟨g, 0, none⟩)] 88)).alloc (.cells #[.int .i64 (n0 : Int)] 3) := ⟨_, rfl⟩
  rw [← hB] at S0 hx0 hx1 HH hBs hC ⊢
  clear hB
  refine HH.out.mono ?_
  rintro e w2 h2
  clear HH
  have hnt : ¬ Two g (w.heap.size + 1) tb := by rintro (h | h); exact S.ne h; omega
  have hrow2 := S0.row.chg h2.chg hnt
  have hC2 : Chg (Two g tb) w w2 := (hC.mono (S' := Two g tb) (fun _ f => f.elim)).trans h2.chg (fun j hj => by rcases hj with rfl | rfl; exact .inl (.inl rfl); exact .inr (by omega))
  rcases h2.cases with ⟨k, he, _⟩ | ⟨y, k, he, T⟩
  · subst he
    simp only [Option.map_eq_none_iff] at k
    obtain rfl : r = none := HR.out.symm.trans (by unfold dList; rw [k]; rfl)
    go_wp2
    exact ⟨rfl, rfl, hC2, _, HN.out.symm, hrow2⟩
  · subst he
    obtain ⟨z, kz, rfl⟩ := Option.map_eq_some_iff.1 k
    obtain ⟨m, s2⟩ := z
    have hm : inR 0 most m = true ∧ m = vN st := by
      unfold dNum at kz
      split at kz
      · rename_i h; simp only [Option.some.injEq, Prod.mk.injEq] at kz; rw [← kz.1]; exact ⟨h, rfl⟩
      · cases kz
    have hm1 := inR_iff.1 hm.1
    obtain ⟨mn, rfl⟩ : ∃ mn : Nat, m = (mn : Int) := ⟨m.toNat, by omega⟩
    have hmn : mn ≤ 4096 := by omega
    have hRL : r = dK dHs s2 mn := HR.out.symm.trans (by unfold dList; rw [kz, Option.bind_some]; simp)
    have HRL := Lib.hid hRL
    obtain ⟨L0, hL0, HM⟩ := makeHash mn hmn
    have T' : Rst B g F (w.heap.size + 1) 3 ([] ++ .int .i64 (mn : Int) :: []) s2 w2 := T
    have cn := (T'.cell (o := 0) rfl).1
    have hnx : ¬ Two g (w.heap.size + 1) w.heap.size := by rintro (h | h) <;> omega
    have x0 := T'.chg.cell hx0 hnx
    have x1 := T'.chg.cell hx1 hnx
    have S2 : Rst w g F tb t (p ++ .slice A0 n0 c0 :: q) s2 w2 := ⟨T'.rdr, hrow2, hC2, S.ne, S.nF⟩
    clear hRL h2 kz k T hm hm1 hx0 hx1 S0 hC hrow2 HR
    go_wp2_with fail
    refine (writes_r _ g).mono ?_
    rintro e w3 ⟨rfl, hC3⟩
    have S3 := S2.non hC3
    have cn3 := hC3.cell cn (fun f => f)
    have x03 := hC3.cell x0 (fun f => f)
    have x13 := hC3.cell x1 (fun f => f)
    have HM3 := HM w3
    have S4 := S3.non ((Chg.refl Non w3).alloc (.cells L0.toArray 26))
    have hs3 : w.heap.size + 2 ≤ w3.heap.size := by have := T'.chg.size; have := hC3.size; omega
    obtain ⟨c4, f4⟩ := S4.cell HO.out
    have S5' := S3.set HO.out (.slice (some ⟨w3.heap.size, 0, none⟩) mn mn)
    have hss : (w3.setCell ⟨tb, o, none⟩ (.slice (some ⟨w3.heap.size, 0, none⟩) mn mn)).heap.size = w3.heap.size := by simp [World.setCell]
    have S5B := S5'.non ((Chg.refl Non _).alloc (.cells L0.toArray 26))
    obtain ⟨c5, _⟩ := S5B.cell HO.out
    have S5 := S4.set HO.out (.slice (some ⟨w3.heap.size, 0, none⟩) mn mn)
    have hb5 := (Hb.new w3 26 L0.toArray).far (p := ⟨tb, o, none⟩) (show w3.heap.size ≠ tb by omega) (.slice (some ⟨w3.heap.size, 0, none⟩) mn mn)
    have kk := ((Chg.refl (fun j => j = tb) w3).alloc (.cells L0.toArray 26)).setCell (p := ⟨tb, o, none⟩) (.inl rfl) (.slice (some ⟨w3.heap.size, 0, none⟩) mn mn)
    have x05 := kk.cell x03 (show ¬ w.heap.size = tb by omega)
    have x15 := kk.cell x13 (show ¬ w.heap.size = tb by omega)
    clear cn x0 x1 S2 S3 HM S4 S5' S5B kk
    have hFn : ∀ j, F j → j < w.heap.size := S.rdr.Flt
    have HFN := Lib.hid hFn
    have hcl : ∀ (st : St) (x : _) (s : St), dHs st = some (x, s) → (bv x).length = 32 := fun _ _ _ h => (by simp only [dHs, Option.some.injEq, Prod.mk.injEq] at h; rw [← h.1, bv_length, vH_length])
    clear hFn
    go_wp2_with fail
    clear x03 x13 cn3 c4 f4
    go_loopw [9, 28] (fun x i wr => ∃ (k : Nat) (lk : List _) (sk : St) (rest : List Value), k ≤ mn ∧ i = .int .i64 (k : Int) ∧ dK dHs s2 k = some (lk, sk) ∧ rest.length = (mn - k) * 32 ∧ Rst w g F tb t (p ++ .slice (some ⟨w3.heap.size, 0, none⟩) mn mn :: q) sk wr ∧ Hb wr w3.heap.size 26 (lk.flatMap bv ++ rest).toArray ∧ wr.cell? ⟨w.heap.size, 0, none⟩ = some (.pointer none) ∧ wr.cell? ⟨w.heap.size, 1, none⟩ = some (.pointer (some ⟨g, 0, none⟩))) (fun _ i _ => mn - (intOf i).toNat)
    case atStart => exact ⟨0, [], s2, L0, by omega, rfl, rfl, by rw [hL0, Nat.sub_zero], S5, by simpa using hb5, x05, x15⟩
    case round =>
      obtain ⟨k, lk, sk, rest, hk, rfl, hd, hrest, SK, hbk, a0, a1⟩ := hrel
      obtain ⟨a2, _⟩ := SK.cell HO.out
      have HSK := Lib.hid SK
      by_cases hlt : k < mn
      · have hro : rest = rest.take 32 ++ rest.drop 32 := (List.take_append_drop _ _).symm
        have hrl : (rest.take 32).length = 32 := by rw [List.length_take, hrest]; have : 1 * 32 ≤ (mn - k) * 32 := Nat.mul_le_mul_right _ (by omega); omega
        have hrl2 : (rest.drop 32).length = (mn - (k + 1)) * 32 := by
          have e : mn - k = (mn - (k + 1)) + 1 := by omega
          rw [List.length_drop, hrest, e, Nat.succ_mul]
          omega
        rw [hro] at hbk
        generalize rest.take 32 = old at *
        generalize rest.drop 32 = rest' at *
        have hfl := dK_flat hcl hd
        have hnb := hbk.lt
        have SE : Rst wr.drew g F w3.heap.size 26 (lk.flatMap bv ++ (old ++ rest')) sk wr.drew := ⟨(SK.non ((Chg.refl Non wr).drew)).rdr, hbk.chg ((Chg.refl Non wr).drew) (fun f => f), Chg.refl _ _, by omega, fun hf => by have := HFN.out _ hf; omega⟩
        have HE := hash1_r wr.drew g F w3.heap.size (k * 32) 26 (lk.flatMap bv) rest' old sk SE hfl.symm hrl
        have HEE := Lib.hid HE
        have e0 := ((Chg.refl Non wr).drew).cell a0 (fun f => f)
        have e1 := ((Chg.refl Non wr).drew).cell a1 (fun f => f)
        have e2 := ((Chg.refl Non wr).drew).cell a2 (fun f => f)
        have n1 : ¬ Two g w3.heap.size w.heap.size := by rintro (h | h) <;> omega
        have n2 : ¬ Two g w3.heap.size tb := by rintro (h | h); exact SK.ne h; omega
        have hki : (k : Int) < (mn : Int) := by omega
        have hdn : dK dHs s2 (k + 1) = (dHs sk).bind fun y => some (lk ++ [y.1], y.2) := by
          have e : dK dHs s2 (k + 1) = (dK dHs s2 k).bind fun x => (dHs x.2).bind fun y => some (x.1 ++ [y.1], y.2) := rfl
          rw [e, hd, Option.bind_some]
        have HDN := Lib.hid hdn
        have HD := Lib.hid hd
        have HRE := Lib.hid hrl2
        clear SE HE hro hrl hrest hfl hdn hd hrl2 SK hbk a0 a1 a2
        go_wp2_with fail
        go_region_held (fun w' => w'.cell? ⟨w.heap.size, 0, none⟩ = some (.pointer none) ∧ w'.cell? ⟨w.heap.size, 1, none⟩ = some (.pointer (some ⟨g, 0, none⟩)) ∧ w'.cell? ⟨tb, o, none⟩ = some (.slice (some ⟨w3.heap.size, 0, none⟩) mn mn)) (first | exact ⟨f0, f1, f2⟩ | exact ⟨e0, e1, e2⟩ | assumption) (first | (go_at_call 40; go_loud (refine HEE.out.mono ?_; rintro e wz hz; have f0 := hz.chg.cell e0 n1; have f1 := hz.chg.cell e1 n1; have f2 := hz.chg.cell e2 n2; rcases hz.cases with ⟨kn, he, C, _⟩ | ⟨y, ky, he, TZ⟩; (subst he; simp only [Option.map_eq_none_iff] at kn; obtain rfl : r = none := HRL.out.trans (dK_none (k := k + 1) (by omega) (by rw [HDN.out, kn]; rfl)); exact ⟨rfl, rfl, HSK.out.chg.trans (((Chg.refl Non wr).drew.mono (S' := Two g w3.heap.size) (fun _ f => f.elim)).trans C (fun _ h => .inl h)) (fun j hj => by rcases hj with rfl | rfl; exact .inl (.inl rfl); exact .inr (by omega)), _, HN.out.symm ▸ (by simp), (HSK.out.non ((Chg.refl Non wr).drew)).row.chg C n2⟩); subst he; obtain ⟨z, kz, rfl⟩ := Option.map_eq_some_iff.1 ky; clear ky)) | fail)
        have hz2 : dK dHs s2 (k + 1) = some (lk ++ [z.1], z.2) := by rw [HDN.out, kz]; rfl
        have T1 : Rst w g F tb t (p ++ .slice (some ⟨w3.heap.size, 0, none⟩) mn mn :: q) z.2 wz := by
          have b1 := HSK.out.non ((Chg.refl Non wr).drew)
          exact ⟨TZ.rdr, b1.row.chg TZ.chg n2, b1.chg.trans TZ.chg (fun j hj => by rcases hj with rfl | rfl; exact .inl (.inl rfl); exact .inr (by omega)), b1.ne, b1.nF⟩
        have T2 : Hb wz w3.heap.size 26 ((lk ++ [z.1]).flatMap bv ++ rest').toArray := by
          have := TZ.row
          simpa [List.append_assoc] using this
        clear hz HEE TZ kz
        go_wp2_with fail
        go_roundw
        case rel => exact ⟨k + 1, _, _, rest', by omega, by go_num, hz2, HRE.out, T1, T2, f0, f1⟩
        case measure => simp [intOf]; omega
      · obtain rfl : k = mn := by omega
        have hln := dK_len hd
        obtain rfl : rest = [] := List.eq_nil_of_length_eq_zero (by rw [hrest, Nat.sub_self, Nat.zero_mul])
        obtain rfl : r = some (lk, sk) := HRL.out.trans hd
        rw [List.append_nil] at hbk
        go_wp2
        go_end0
        refine ⟨rfl, w3.heap.size, by omega, ?_, hbk⟩
        have e : lk.length = k := hln
        show Rst w g F tb t (p ++ .slice (some ⟨w3.heap.size, 0, none⟩) lk.length lk.length :: q) sk wr
        rw [e]
        exact SK

theorem listHashR_r (w : World) (g : Nat) (F : Nat → Prop) (tb o : Nat) (t : TypeId) (p q : List Value) (st : St) (S : Rst w g F tb t (p ++ .slice none 0 0 :: q) st w) (ho : o = p.length) :
    Calls Try.prog 73 #[.agg #[.pointer none, .pointer (some ⟨g, 0, none⟩)], .pointer (some ⟨tb, o, none⟩), .int .i64 16, .func (.func 40) #[] #[]] w (RLO w g F tb t (p ++ .slice none 0 0 :: q).length p q 26 bv (dList dHs 16 st)) :=
  listHash_r w g F tb o t p q none 0 0 st S ho (by unfold maxLen; omega) 16 (by omega)
/-- What the reading of a part leaves. -/
def RPO (w : World) (g : Nat) (F : Nat → Prop) (tb : Nat) (t : TypeId) (n : Nat) (p q : List Value) (r : Option (Pa × St)) (e : Ending) (w' : World) : Prop :=
  match r with
  | some x => e = .returned (.tuple #[]) ∧ ∃ nb, w.heap.size ≤ nb ∧ Rst w g F tb t (p ++ (Pm.cells ⟨x.1, some ⟨nb, 0, none⟩, x.1.path.length⟩ ++ q)) x.2 w' ∧ Hb w' nb 26 (x.1.path.flatMap bv).toArray
  | none => e = .panicked bad ∧ Chg (Two g tb) w w' ∧ ∃ L' : List Value, L'.length = n ∧ Hb w' tb t L'.toArray
theorem RPO.cases {w w' : World} {g : Nat} {F : Nat → Prop} {tb : Nat} {t : TypeId} {n : Nat} {p q : List Value} {r : Option (Pa × St)} {e : Ending} (h : RPO w g F tb t n p q r e w') : (r = none ∧ e = .panicked bad ∧ Chg (Two g tb) w w' ∧ ∃ L' : List Value, L'.length = n ∧ Hb w' tb t L'.toArray) ∨
    (∃ x, r = some x ∧ e = .returned (.tuple #[]) ∧ ∃ nb, w.heap.size ≤ nb ∧ Rst w g F tb t (p ++ (Pm.cells ⟨x.1, some ⟨nb, 0, none⟩, x.1.path.length⟩ ++ q)) x.2 w' ∧ Hb w' nb 26 (x.1.path.flatMap bv).toArray) := by
  cases r with
  | some x => exact .inr ⟨x, rfl, h.1, h.2⟩
  | none => exact .inl ⟨rfl, h.1, h.2⟩
theorem RPO.chg {w w' : World} {g : Nat} {F : Nat → Prop} {tb : Nat} {t : TypeId} {n : Nat} {p q : List Value} {r : Option (Pa × St)} {e : Ending} (h : RPO w g F tb t n p q r e w') : Chg (Two g tb) w w' := by
  cases r with
  | some x => obtain ⟨_, nb, _, h1, _⟩ := h; exact h1.chg
  | none => exact h.2.1
set_option maxHeartbeats 1600000 in
theorem part_r (w : World) (g : Nat) (F : Nat → Prop) (tb o : Nat) (t : TypeId) (p q : List Value) (a0 a1 a2 : Value) (st : St) (S : Rst w g F tb t (p ++ (a0 :: a1 :: a2 :: .slice none 0 0 :: q)) st w) (ho : o = p.length) :
    Calls Try.prog 58 #[.agg #[.pointer none, .pointer (some ⟨g, 0, none⟩)], .pointer (some ⟨tb, o, none⟩)] w (RPO w g F tb t (p ++ (a0 :: a1 :: a2 :: .slice none 0 0 :: q)).length p q (dPa st)) := by
  generalize hn : (p ++ (a0 :: a1 :: a2 :: .slice none 0 0 :: q)).length = n
  generalize hr : dPa st = r
  have HR := Lib.hid hr
  have HN := Lib.hid hn
  have HO := Lib.hid ho
  clear hr hn ho
  have S0 := S.non ((Chg.refl Non w).alloc (.cells #[.pointer none, .pointer (some ⟨g, 0, none⟩)] 88))
  have hw := S.nw (Nat.le_refl w.heap.size)
  have hx := Hb.new w 88 #[.pointer none, .pointer (some ⟨g, 0, none⟩)]
  have hgl := S.rdr.lt
  have htl := S.row.lt
  have hx0 : (w.alloc (.cells #[.pointer none, .pointer (some ⟨g, 0, none⟩)] 88)).cell? ⟨w.heap.size, 0, none⟩ = some (.pointer none) := hx.cell 0
  have hx1 : (w.alloc (.cells #[.pointer none, .pointer (some ⟨g, 0, none⟩)] 88)).cell? ⟨w.heap.size, 1, none⟩ = some (.pointer (some ⟨g, 0, none⟩)) := hx.cell 1
  have hBs : (w.alloc (.cells #[.pointer none, .pointer (some ⟨g, 0, none⟩)] 88)).heap.size = w.heap.size + 1 := by simp
  have S1 := S0.here
  clear hx S
  go_enter Try.func58, Try.ntmps58
  go_wp2_with fail
  generalize w.alloc (.cells #[.pointer none, .pointer (some ⟨g, 0, none⟩)] 88) = B at *
  have D2 := S1.non ((Chg.refl Non B).drew)
  have x0 := D2.chg.cell hx0 hw
  have x1 := D2.chg.cell hx1 hw
  go_region_held (fun w' => w'.cell? ⟨w.heap.size, 0, none⟩ = some (.pointer none) ∧ w'.cell? ⟨w.heap.size, 1, none⟩ = some (.pointer (some ⟨g, 0, none⟩))) (first | exact ⟨y0, y1⟩ | exact ⟨x0, x1⟩ | assumption) (first | (go_at_call 47; go_loud (refine (number_r _ g F tb o t p (a1 :: a2 :: .slice none 0 0 :: q) a0 st D2.here HO.out 0 4096).mono ?_; rintro e w2 h2; have y0 := h2.chg.cell x0 hw; have y1 := h2.chg.cell x1 hw; rcases h2.cases with ⟨k, he, C, L', hL1, hL2⟩ | ⟨y, k, he, T2⟩; (subst he; obtain rfl : r = none := HR.out.symm.trans (by (try simp only [Option.map_eq_none_iff] at k); simp [dPa, k]); exact ⟨rfl, rfl, (S0.chg.trans (D2.chg.trans C (fun _ h => .inl h)) (fun _ h => .inl h)), L', by (rw [hL1, ← HN.out]) <;> simp [bv_length, vH_length] <;> omega, hL2⟩); subst he; obtain ⟨z2, k2, rfl⟩ := Option.map_eq_some_iff.1 k; clear k)) | fail)
  have S2 := D2.trans T2
  clear x0 x1 T2 D2 y0 y1 h2
  go_wp2_with fail
  have D3 := S2.non ((Chg.refl Non w2).drew)
  have x0 := D3.chg.cell hx0 hw
  have x1 := D3.chg.cell hx1 hw
  go_region_held (fun w' => w'.cell? ⟨w.heap.size, 0, none⟩ = some (.pointer none) ∧ w'.cell? ⟨w.heap.size, 1, none⟩ = some (.pointer (some ⟨g, 0, none⟩))) (first | exact ⟨y0, y1⟩ | exact ⟨x0, x1⟩ | assumption) (first | (go_at_call 54; go_loud (refine (text_r _ g F tb (o + 1) t (p ++ [.int .i64 z2.1]) (a2 :: .slice none 0 0 :: q) a1 z2.2 (D3.here.eq (by simp)) (by rw [HO.out]; simp) 4096 (by omega)).mono ?_; rintro e w3 h3; have y0 := h3.chg.cell x0 hw; have y1 := h3.chg.cell x1 hw; rcases h3.cases with ⟨k, he, C, L', hL1, hL2⟩ | ⟨y, k, he, T3⟩; (subst he; obtain rfl : r = none := HR.out.symm.trans (by (try simp only [Option.map_eq_none_iff] at k); simp [dPa, k2, k]); exact ⟨rfl, rfl, (S0.chg.trans (D3.chg.trans C (fun _ h => .inl h)) (fun _ h => .inl h)), L', by (rw [hL1, ← HN.out]) <;> simp [bv_length, vH_length] <;> omega, hL2⟩); subst he; obtain ⟨z3, k3, rfl⟩ := Option.map_eq_some_iff.1 k; clear k)) | fail)
  have S3 := D3.trans T3
  clear x0 x1 T3 D3 y0 y1 h3
  go_wp2_with fail
  have D4 := S3.non ((Chg.refl Non w3).drew)
  have x0 := D4.chg.cell hx0 hw
  have x1 := D4.chg.cell hx1 hw
  go_region_held (fun w' => w'.cell? ⟨w.heap.size, 0, none⟩ = some (.pointer none) ∧ w'.cell? ⟨w.heap.size, 1, none⟩ = some (.pointer (some ⟨g, 0, none⟩))) (first | exact ⟨y0, y1⟩ | exact ⟨x0, x1⟩ | assumption) (first | (go_at_call 54; go_loud (refine (text_r _ g F tb (o + 2) t (p ++ [.int .i64 z2.1, .string z3.1]) (.slice none 0 0 :: q) a2 z3.2 (D4.here.eq (by simp)) (by rw [HO.out]; simp) 4096 (by omega)).mono ?_; rintro e w4 h4; have y0 := h4.chg.cell x0 hw; have y1 := h4.chg.cell x1 hw; rcases h4.cases with ⟨k, he, C, L', hL1, hL2⟩ | ⟨y, k, he, T4⟩; (subst he; obtain rfl : r = none := HR.out.symm.trans (by (try simp only [Option.map_eq_none_iff] at k); simp [dPa, k2, k3, k]); exact ⟨rfl, rfl, (S0.chg.trans (D4.chg.trans C (fun _ h => .inl h)) (fun _ h => .inl h)), L', by (rw [hL1, ← HN.out]) <;> simp [bv_length, vH_length] <;> omega, hL2⟩); subst he; obtain ⟨z4, k4, rfl⟩ := Option.map_eq_some_iff.1 k; clear k)) | fail)
  have S4 := D4.trans T4
  clear x0 x1 T4 D4 y0 y1 h4
  go_wp2_with fail
  have D5 := S4.non ((Chg.refl Non w4).drew)
  have x0 := D5.chg.cell hx0 hw
  have x1 := D5.chg.cell hx1 hw
  go_region_held (fun w' => w'.cell? ⟨w.heap.size, 0, none⟩ = some (.pointer none) ∧ w'.cell? ⟨w.heap.size, 1, none⟩ = some (.pointer (some ⟨g, 0, none⟩))) (first | exact ⟨y0, y1⟩ | exact ⟨x0, x1⟩ | assumption) (first | (go_at_call 73; go_loud (refine (listHashR_r _ g F tb (o + 3) t (p ++ [.int .i64 z2.1, .string z3.1, .string z4.1]) q z4.2 (D5.here.eq (by simp)) (by rw [HO.out]; simp)).mono ?_; rintro e w5 h5; have y0 := h5.chg.cell x0 hw; have y1 := h5.chg.cell x1 hw; rcases h5.cases with ⟨k, he, C, L', hL1, hL2⟩ | ⟨z5, k5, he, nb5, N5, T5, B5⟩; (subst he; obtain rfl : r = none := HR.out.symm.trans (by (try simp only [Option.map_eq_none_iff] at k); simp [dPa, k2, k3, k4, k]); exact ⟨rfl, rfl, (S0.chg.trans (D5.chg.trans C (fun _ h => .inl h)) (fun _ h => .inl h)), L', by (rw [hL1, ← HN.out]) <;> simp [bv_length, vH_length] <;> omega, hL2⟩); subst he)) | fail)
  have S5 := D5.trans T5
  have N5 : w.heap.size < nb5 := by have := D5.chg.size; omega
  clear x0 x1 T5 D5 y0 y1 h5
  obtain rfl : r = some (_, z5.2) := HR.out.symm.trans (by simp only [dPa, k2, k3, k4, k5, Option.bind_some, Option.map_some]; rfl)
  go_wp2
  go_end0
  exact ⟨rfl, nb5, by omega, (S0.trans S5).eq (by simp [Pm.cells]), B5⟩
end Go.Proofs.Ytinbjbfgfknpaaa

/- Package forms: lists of parts, and proofs, read. -/
namespace Go.Proofs.Ytinbjbfgfknpaaa
open Go.RowKit
set_option linter.unusedVariables false
set_option linter.unusedSimpArgs false
set_option maxRecDepth 20000

/-- A part's path lies in a block of its own. -/
def PathIn (n : Nat) (w : World) (m : Pm) : Prop := ∃ pb, m.A = some ⟨pb, 0, none⟩ ∧ m.c = m.part.path.length ∧ n ≤ pb ∧ Hb w pb 26 (m.part.path.flatMap bv).toArray
theorem PathIn.mono {n n' : Nat} {w : World} {m : Pm} (h : PathIn n w m) (hn : n' ≤ n) : PathIn n' w m := by
  obtain ⟨pb, h1, h2, h3, h4⟩ := h
  exact ⟨pb, h1, h2, Nat.le_trans hn h3, h4⟩
theorem PathIn.chg {n : Nat} {S : Nat → Prop} {w w' : World} {m : Pm} (h : PathIn n w m) (k : Chg S w w') (hS : ∀ j, n ≤ j → ¬ S j) : PathIn n w' m := by
  obtain ⟨pb, h1, h2, h3, h4⟩ := h
  exact ⟨pb, h1, h2, h3, h4.chg k (hS pb h3)⟩
def partZ0 : List Value := [.int .i64 0, .string ⟨#[]⟩, .string ⟨#[]⟩, .slice none 0 0]
theorem makePart (n : Nat) (hn : n ≤ 2) : ∀ w : World, (Instr.makeSlice 57 (.int .i64 (n : Int)) (.int .i64 (n : Int))).run Try.prog w = .ok (.slice (some ⟨w.heap.size, 0, none⟩) n n) (w.alloc (.cells (List.replicate n partZ0).flatten.toArray 117)) := by
  have hinfo : (Try.prog.info? 117).map (fun i => (i.zero.map (·.cells), i.size, i.bytes)) = some (some partZ0.toArray, 4, 64) := by kernel_rfl
  cases hq : Try.prog.info? 117 with
  | none => rw [hq] at hinfo; cases hinfo
  | some i =>
    rw [hq] at hinfo
    simp only [Option.map_some, Option.some.injEq, Prod.mk.injEq] at hinfo
    obtain ⟨hz, hs, hb⟩ := hinfo
    obtain ⟨z, hz, hzc⟩ := Option.map_eq_some_iff.1 hz
    intro w
    have h := run_make (P := Try.prog) w 57 117 i z Try.underlying57 hq hz .i64 .i64 (n : Int) (n : Int) (by omega) (by omega) (by rw [hb]; omega) (by omega)
    rw [h, hs, Int.toNat_natCast, hzc]
    have e : madeCells partZ0.toArray (n * 4) = (List.replicate n partZ0).flatten.toArray := by
      match n, hn with
      | 0, _ => first | kernel_rfl | simp [madeCells, partZ0]
      | 1, _ =>
        have e4 : Array.range 4 = #[0, 1, 2, 3] := by decide +kernel
        simp [madeCells, partZ0, e4]
      | 2, _ =>
        have e8 : Array.range 8 = #[0, 1, 2, 3, 4, 5, 6, 7] := by decide +kernel
        simp [madeCells, partZ0, e8]
    rw [e]
theorem Pm.cells_len (m : Pm) : m.cells.length = 4 := rfl
theorem partFlat_len (l : List Pm) : (l.flatMap Pm.cells).length = l.length * 4 := by
  induction l with
  | nil => rfl
  | cons x l ih => rw [List.flatMap_cons, List.length_append, ih, Pm.cells_len, List.length_cons]; omega
/-- What the reading of a list of parts leaves. -/
def RPL (w : World) (g : Nat) (F : Nat → Prop) (tb : Nat) (t : TypeId) (n : Nat) (p q : List Value) (r : Option (List Pa × St)) (e : Ending) (w' : World) : Prop :=
  match r with
  | some x => e = .returned (.tuple #[]) ∧ ∃ nb, w.heap.size ≤ nb ∧ Rst w g F tb t (p ++ .slice (some ⟨nb, 0, none⟩) x.1.length x.1.length :: q) x.2 w' ∧ ∃ ms : List Pm, ms.map Pm.part = x.1 ∧ Hb w' nb 117 (ms.flatMap Pm.cells).toArray ∧ ∀ m ∈ ms, PathIn w.heap.size w' m
  | none => e = .panicked bad ∧ Chg (Two g tb) w w' ∧ ∃ L' : List Value, L'.length = n ∧ Hb w' tb t L'.toArray
theorem RPL.cases {w w' : World} {g : Nat} {F : Nat → Prop} {tb : Nat} {t : TypeId} {n : Nat} {p q : List Value} {r : Option (List Pa × St)} {e : Ending} (h : RPL w g F tb t n p q r e w') : (r = none ∧ e = .panicked bad ∧ Chg (Two g tb) w w' ∧ ∃ L' : List Value, L'.length = n ∧ Hb w' tb t L'.toArray) ∨
    (∃ x, r = some x ∧ e = .returned (.tuple #[]) ∧ ∃ nb, w.heap.size ≤ nb ∧ Rst w g F tb t (p ++ .slice (some ⟨nb, 0, none⟩) x.1.length x.1.length :: q) x.2 w' ∧ ∃ ms : List Pm, ms.map Pm.part = x.1 ∧ Hb w' nb 117 (ms.flatMap Pm.cells).toArray ∧ ∀ m ∈ ms, PathIn w.heap.size w' m) := by
  cases r with
  | some x => exact .inr ⟨x, rfl, h.1, h.2⟩
  | none => exact .inl ⟨rfl, h.1, h.2⟩
theorem RPL.chg {w w' : World} {g : Nat} {F : Nat → Prop} {tb : Nat} {t : TypeId} {n : Nat} {p q : List Value} {r : Option (List Pa × St)} {e : Ending} (h : RPL w g F tb t n p q r e w') : Chg (Two g tb) w w' := by
  cases r with
  | some x => obtain ⟨_, nb, _, h1, _⟩ := h; exact h1.chg
  | none => exact h.2.1
set_option maxHeartbeats 1600000 in
theorem listPart_r (w : World) (g : Nat) (F : Nat → Prop) (tb o : Nat) (t : TypeId) (p q : List Value) (st : St) (S : Rst w g F tb t (p ++ .slice none 0 0 :: q) st w) (ho : o = p.length) :
    Calls Try.prog 57 #[.agg #[.pointer none, .pointer (some ⟨g, 0, none⟩)], .pointer (some ⟨tb, o, none⟩), .int .i64 2, .func (.func 58) #[] #[]] w (RPL w g F tb t (p ++ .slice none 0 0 :: q).length p q (dList dPa 2 st)) := by
  have hC := ((Chg.refl Non w).alloc (.cells #[.pointer none, .pointer (some ⟨g, 0, none⟩)] 88)).alloc (.cells #[.int .i64 0] 3)
  have S0 := S.non hC
  obtain ⟨k0, _⟩ := S.cell ho
  have hw := S.nw (Nat.le_refl w.heap.size)
  have hx0 := ((Hb.new w 88 #[.pointer none, .pointer (some ⟨g, 0, none⟩)]).alloc (.cells #[.int .i64 0] 3)).cell 0
  have hx1 := ((Hb.new w 88 #[.pointer none, .pointer (some ⟨g, 0, none⟩)]).alloc (.cells #[.int .i64 0] 3)).cell 1
  have hn : Hb ((w.alloc (.cells #[.pointer none, .pointer (some ⟨g, 0, none⟩)] 88)).alloc (.cells #[.int .i64 0] 3)) (w.heap.size + 1) 3 #[.int .i64 0] := by
    have := Hb.new (w.alloc (.cells #[.pointer none, .pointer (some ⟨g, 0, none⟩)] 88)) 3 #[.int .i64 0]
    rwa [show (w.alloc (.cells #[.pointer none, .pointer (some ⟨g, 0, none⟩)] 88)).heap.size = w.heap.size + 1 by simp] at this
  have hg := S.rdr.lt
  have ht := S.row.lt
  have SN : Rst _ g F (w.heap.size + 1) 3 ([] ++ .int .i64 0 :: []) st _ := ⟨S0.rdr, hn, Chg.refl _ _, by omega, fun hf => by have := S.rdr.Flt _ hf; omega⟩
  have H := number_r _ g F (w.heap.size + 1) 0 3 [] [] (.int .i64 0) st SN rfl 0 2
  have hBs : ((w.alloc (.cells #[.pointer none, .pointer (some ⟨g, 0, none⟩)] 88)).alloc (.cells #[.int .i64 0] 3)).heap.size = w.heap.size + 2 := by simp
  have HH := Lib.hid H
  have HO := Lib.hid ho
  obtain ⟨N, hN⟩ : ∃ N, N = (p ++ Value.slice none 0 0 :: q).length := ⟨_, rfl⟩
  rw [← hN]
  have HN := Lib.hid hN
  generalize hr : dList dPa 2 st = r
  have HR := Lib.hid hr
  clear H ho SN hn hr hN
  go_enter Try.func57, Try.ntmps57
  go_wp2_with fail
  obtain ⟨B, hB⟩ : ∃ B, B = (w.alloc (.cells #[.pointer none, .pointer (some ⟨g, 0, none⟩)] 88)).alloc (.cells #[.int .i64 0] 3) := ⟨_, rfl⟩
  rw [← hB] at S0 hx0 hx1 HH hBs hC ⊢
  clear hB
  refine HH.out.mono ?_
  rintro e w2 h2
  clear HH
  have hnt : ¬ Two g (w.heap.size + 1) tb := by rintro (h | h); exact S.ne h; omega
  have hrow2 := S0.row.chg h2.chg hnt
  have hC2 : Chg (Two g tb) w w2 := (hC.mono (S' := Two g tb) (fun _ f => f.elim)).trans h2.chg (fun j hj => by rcases hj with rfl | rfl; exact .inl (.inl rfl); exact .inr (by omega))
  rcases h2.cases with ⟨k, he, _⟩ | ⟨y, k, he, T⟩
  · subst he
    simp only [Option.map_eq_none_iff] at k
    obtain rfl : r = none := HR.out.symm.trans (by unfold dList; rw [k]; rfl)
    go_wp2
    exact ⟨rfl, rfl, hC2, _, HN.out.symm, hrow2⟩
  · subst he
    obtain ⟨z, kz, rfl⟩ := Option.map_eq_some_iff.1 k
    obtain ⟨m, s2⟩ := z
    have hm : inR 0 2 m = true ∧ m = vN st := by
      unfold dNum at kz
      split at kz
      · rename_i h; simp only [Option.some.injEq, Prod.mk.injEq] at kz; rw [← kz.1]; exact ⟨h, rfl⟩
      · cases kz
    have hm1 := inR_iff.1 hm.1
    obtain ⟨mn, rfl⟩ : ∃ mn : Nat, m = (mn : Int) := ⟨m.toNat, by omega⟩
    have hmn : mn ≤ 2 := by omega
    have hRL : r = dK dPa s2 mn := HR.out.symm.trans (by unfold dList; rw [kz, Option.bind_some]; simp)
    have HRL := Lib.hid hRL
    have HM := makePart mn hmn
    have T' : Rst B g F (w.heap.size + 1) 3 ([] ++ .int .i64 (mn : Int) :: []) s2 w2 := T
    have cn := (T'.cell (o := 0) rfl).1
    have hnx : ¬ Two g (w.heap.size + 1) w.heap.size := by rintro (h | h) <;> omega
    have x0 := T'.chg.cell hx0 hnx
    have x1 := T'.chg.cell hx1 hnx
    have S2 : Rst w g F tb t (p ++ .slice none 0 0 :: q) s2 w2 := ⟨T'.rdr, hrow2, hC2, S.ne, S.nF⟩
    clear hRL h2 kz k T hm hm1 hx0 hx1 S0 hC hrow2 HR
    go_wp2_with fail
    refine (writes_r _ g).mono ?_
    rintro e w3 ⟨rfl, hC3⟩
    have S3 := S2.non hC3
    have cn3 := hC3.cell cn (fun f => f)
    have x03 := hC3.cell x0 (fun f => f)
    have x13 := hC3.cell x1 (fun f => f)
    have HM3 := HM w3
    have S4 := S3.non ((Chg.refl Non w3).alloc (.cells (List.replicate mn partZ0).flatten.toArray 117))
    have hs3 : w.heap.size + 2 ≤ w3.heap.size := by have := T'.chg.size; have := hC3.size; omega
    obtain ⟨c4, f4⟩ := S4.cell HO.out
    have S5' := S3.set HO.out (.slice (some ⟨w3.heap.size, 0, none⟩) mn mn)
    have hss : (w3.setCell ⟨tb, o, none⟩ (.slice (some ⟨w3.heap.size, 0, none⟩) mn mn)).heap.size = w3.heap.size := by simp [World.setCell]
    have S5B := S5'.non ((Chg.refl Non _).alloc (.cells (List.replicate mn partZ0).flatten.toArray 117))
    obtain ⟨c5, _⟩ := S5B.cell HO.out
    have S5 := S4.set HO.out (.slice (some ⟨w3.heap.size, 0, none⟩) mn mn)
    have hb5 := (Hb.new w3 117 (List.replicate mn partZ0).flatten.toArray).far (p := ⟨tb, o, none⟩) (show w3.heap.size ≠ tb by omega) (.slice (some ⟨w3.heap.size, 0, none⟩) mn mn)
    have kk := ((Chg.refl (fun j => j = tb) w3).alloc (.cells (List.replicate mn partZ0).flatten.toArray 117)).setCell (p := ⟨tb, o, none⟩) (.inl rfl) (.slice (some ⟨w3.heap.size, 0, none⟩) mn mn)
    have x05 := kk.cell x03 (show ¬ w.heap.size = tb by omega)
    have x15 := kk.cell x13 (show ¬ w.heap.size = tb by omega)
    clear cn x0 x1 S2 S3 HM S4 S5' S5B kk
    have hFn : ∀ j, F j → j < w.heap.size := S.rdr.Flt
    have HFN := Lib.hid hFn
    clear hFn
    go_wp2_with fail
    clear x03 x13 cn3 c4 f4
    go_loopw [9, 28] (fun x i wr => ∃ (k : Nat) (lk : List Pm) (sk : St), k ≤ mn ∧ i = .int .i64 (k : Int) ∧ dK dPa s2 k = some (lk.map Pm.part, sk) ∧ Rst w g F tb t (p ++ .slice (some ⟨w3.heap.size, 0, none⟩) mn mn :: q) sk wr ∧ Hb wr w3.heap.size 117 (lk.flatMap Pm.cells ++ (List.replicate (mn - k) partZ0).flatten).toArray ∧ (∀ m ∈ lk, PathIn (w3.heap.size + 1) wr m) ∧ wr.cell? ⟨w.heap.size, 0, none⟩ = some (.pointer none) ∧ wr.cell? ⟨w.heap.size, 1, none⟩ = some (.pointer (some ⟨g, 0, none⟩))) (fun _ i _ => mn - (intOf i).toNat)
    case atStart => exact ⟨0, [], s2, by omega, rfl, rfl, S5, by simpa using hb5, by simp, x05, x15⟩
    case round =>
      obtain ⟨k, lk, sk, hk, rfl, hd, SK, hbk, hpk, a0, a1⟩ := hrel
      obtain ⟨a2, _⟩ := SK.cell HO.out
      have HSK := Lib.hid SK
      by_cases hlt : k < mn
      · have e : mn - k = (mn - (k + 1)) + 1 := by omega
        rw [e, List.replicate_succ, List.flatten_cons] at hbk
        clear e
        generalize hrr : (List.replicate (mn - (k + 1)) partZ0).flatten = rest' at *
        have HRR := Lib.hid hrr
        clear hrr
        have hlk := dK_len hd
        rw [List.length_map] at hlk
        have hfl := partFlat_len lk
        rw [hlk] at hfl
        have hnb := hbk.lt
        have SE : Rst wr.drew g F w3.heap.size 117 (lk.flatMap Pm.cells ++ (.int .i64 0 :: .string ⟨#[]⟩ :: .string ⟨#[]⟩ :: .slice none 0 0 :: rest')) sk wr.drew := ⟨(SK.non ((Chg.refl Non wr).drew)).rdr, hbk.chg ((Chg.refl Non wr).drew) (fun f => f), Chg.refl _ _, by omega, fun hf => by have := HFN.out _ hf; omega⟩
        have HE := part_r wr.drew g F w3.heap.size (k * 4) 117 (lk.flatMap Pm.cells) rest' (.int .i64 0) (.string ⟨#[]⟩) (.string ⟨#[]⟩) sk SE hfl.symm
        have HEE := Lib.hid HE
        have HPK := Lib.hid hpk
        have e0 := ((Chg.refl Non wr).drew).cell a0 (fun f => f)
        have e1 := ((Chg.refl Non wr).drew).cell a1 (fun f => f)
        have e2 := ((Chg.refl Non wr).drew).cell a2 (fun f => f)
        have n1 : ¬ Two g w3.heap.size w.heap.size := by rintro (h | h) <;> omega
        have n2 : ¬ Two g w3.heap.size tb := by rintro (h | h); exact SK.ne h; omega
        have hki : (k : Int) < (mn : Int) := by omega
        have hdn : dK dPa s2 (k + 1) = (dPa sk).bind fun y => some (lk.map Pm.part ++ [y.1], y.2) := by
          have e : dK dPa s2 (k + 1) = (dK dPa s2 k).bind fun x => (dPa x.2).bind fun y => some (x.1 ++ [y.1], y.2) := rfl
          rw [e, hd, Option.bind_some]
        have HDN := Lib.hid hdn
        have hds : wr.drew.heap.size = wr.heap.size := rfl
        clear SE HE hfl hlk hdn hd SK hbk hpk a0 a1 a2
        go_wp2_with fail
        go_region_held (fun w' => w'.cell? ⟨w.heap.size, 0, none⟩ = some (.pointer none) ∧ w'.cell? ⟨w.heap.size, 1, none⟩ = some (.pointer (some ⟨g, 0, none⟩)) ∧ w'.cell? ⟨tb, o, none⟩ = some (.slice (some ⟨w3.heap.size, 0, none⟩) mn mn)) (first | exact ⟨f0, f1, f2⟩ | exact ⟨e0, e1, e2⟩ | assumption) (first | (go_at_call 58; go_loud (refine HEE.out.mono ?_; rintro e wz hz; have f0 := hz.chg.cell e0 n1; have f1 := hz.chg.cell e1 n1; have f2 := hz.chg.cell e2 n2; rcases hz.cases with ⟨kn, he, C, _⟩ | ⟨z, kz, he, nz, NZ, TZ, BZ⟩; (subst he; obtain rfl : r = none := HRL.out.trans (dK_none (k := k + 1) (by omega) (by rw [HDN.out, kn]; rfl)); exact ⟨rfl, rfl, HSK.out.chg.trans (((Chg.refl Non wr).drew.mono (S' := Two g w3.heap.size) (fun _ f => f.elim)).trans C (fun _ h => .inl h)) (fun j hj => by rcases hj with rfl | rfl; exact .inl (.inl rfl); exact .inr (by omega)), _, HN.out.symm ▸ (by simp), (HSK.out.non ((Chg.refl Non wr).drew)).row.chg C n2⟩); subst he)) | fail)
        have hz2 : dK dPa s2 (k + 1) = some ((lk ++ [(⟨z.1, some ⟨nz, 0, none⟩, z.1.path.length⟩ : Pm)]).map Pm.part, z.2) := by rw [HDN.out, kz, List.map_append]; rfl
        have T1 : Rst w g F tb t (p ++ .slice (some ⟨w3.heap.size, 0, none⟩) mn mn :: q) z.2 wz := by
          have b1 := HSK.out.non ((Chg.refl Non wr).drew)
          exact ⟨TZ.rdr, b1.row.chg TZ.chg n2, b1.chg.trans TZ.chg (fun j hj => by rcases hj with rfl | rfl; exact .inl (.inl rfl); exact .inr (by omega)), b1.ne, b1.nF⟩
        have T2 : Hb wz w3.heap.size 117 ((lk ++ [(⟨z.1, some ⟨nz, 0, none⟩, z.1.path.length⟩ : Pm)]).flatMap Pm.cells ++ rest').toArray := by
          have := TZ.row
          simpa [List.append_assoc] using this
        have T3 : ∀ m ∈ lk ++ [(⟨z.1, some ⟨nz, 0, none⟩, z.1.path.length⟩ : Pm)], PathIn (w3.heap.size + 1) wz m := by
          intro m hm
          rcases List.mem_append.1 hm with hm | hm
          · exact ((HPK.out m hm).chg ((Chg.refl Non wr).drew) (fun _ _ f => f)).chg TZ.chg (fun j hj => by rintro (h | h) <;> omega)
          · simp only [List.mem_singleton] at hm
            subst hm
            exact ⟨nz, rfl, rfl, by omega, BZ⟩
        clear hz HEE TZ kz BZ
        go_wp2_with fail
        go_roundw
        case rel => exact ⟨k + 1, _, _, by omega, by go_num, hz2, T1, by rw [HRR.out]; exact T2, T3, f0, f1⟩
        case measure => simp [intOf]; omega
      · obtain rfl : k = mn := by omega
        have hln := dK_len hd
        rw [List.length_map] at hln
        obtain rfl : r = some (lk.map Pm.part, sk) := HRL.out.trans hd
        rw [Nat.sub_self, List.replicate_zero, List.flatten_nil, List.append_nil] at hbk
        go_wp2
        go_end0
        refine ⟨rfl, w3.heap.size, by omega, ?_, lk, rfl, hbk, fun m hm => (hpk m hm).mono (by omega)⟩
        have e : (lk.map Pm.part).length = k := by rw [List.length_map]; exact hln
        show Rst w g F tb t (p ++ .slice (some ⟨w3.heap.size, 0, none⟩) (lk.map Pm.part).length (lk.map Pm.part).length :: q) sk wr
        rw [e]
        exact SK
/-- What the reading of a proof leaves. -/
def RPF (w : World) (g : Nat) (F : Nat → Prop) (tb : Nat) (t : TypeId) (n : Nat) (p q : List Value) (r : Option (Pf × St)) (e : Ending) (w' : World) : Prop :=
  match r with
  | some x => e = .returned (.tuple #[]) ∧ ∃ nb, w.heap.size ≤ nb ∧ Rst w g F tb t (p ++ ([.int .i64 x.1.size, .slice (some ⟨nb, 0, none⟩) x.1.parts.length x.1.parts.length] ++ q)) x.2 w' ∧ ∃ ms : List Pm, ms.map Pm.part = x.1.parts ∧ Hb w' nb 117 (ms.flatMap Pm.cells).toArray ∧ ∀ m ∈ ms, PathIn w.heap.size w' m
  | none => e = .panicked bad ∧ Chg (Two g tb) w w' ∧ ∃ L' : List Value, L'.length = n ∧ Hb w' tb t L'.toArray
theorem RPF.cases {w w' : World} {g : Nat} {F : Nat → Prop} {tb : Nat} {t : TypeId} {n : Nat} {p q : List Value} {r : Option (Pf × St)} {e : Ending} (h : RPF w g F tb t n p q r e w') : (r = none ∧ e = .panicked bad ∧ Chg (Two g tb) w w' ∧ ∃ L' : List Value, L'.length = n ∧ Hb w' tb t L'.toArray) ∨
    (∃ x, r = some x ∧ e = .returned (.tuple #[]) ∧ ∃ nb, w.heap.size ≤ nb ∧ Rst w g F tb t (p ++ ([.int .i64 x.1.size, .slice (some ⟨nb, 0, none⟩) x.1.parts.length x.1.parts.length] ++ q)) x.2 w' ∧ ∃ ms : List Pm, ms.map Pm.part = x.1.parts ∧ Hb w' nb 117 (ms.flatMap Pm.cells).toArray ∧ ∀ m ∈ ms, PathIn w.heap.size w' m) := by
  cases r with
  | some x => exact .inr ⟨x, rfl, h.1, h.2⟩
  | none => exact .inl ⟨rfl, h.1, h.2⟩
theorem RPF.chg {w w' : World} {g : Nat} {F : Nat → Prop} {tb : Nat} {t : TypeId} {n : Nat} {p q : List Value} {r : Option (Pf × St)} {e : Ending} (h : RPF w g F tb t n p q r e w') : Chg (Two g tb) w w' := by
  cases r with
  | some x => obtain ⟨_, nb, _, h1, _⟩ := h; exact h1.chg
  | none => exact h.2.1
set_option maxHeartbeats 1600000 in
theorem proof_r (w : World) (g : Nat) (F : Nat → Prop) (tb o : Nat) (t : TypeId) (p q : List Value) (a0 : Value) (st : St) (S : Rst w g F tb t (p ++ (a0 :: .slice none 0 0 :: q)) st w) (ho : o = p.length) :
    Calls Try.prog 29 #[.agg #[.pointer none, .pointer (some ⟨g, 0, none⟩)], .pointer (some ⟨tb, o, none⟩)] w (RPF w g F tb t (p ++ (a0 :: .slice none 0 0 :: q)).length p q (dProof st)) := by
  generalize hn : (p ++ (a0 :: .slice none 0 0 :: q)).length = n
  generalize hr : dProof st = r
  have HR := Lib.hid hr
  have HN := Lib.hid hn
  have HO := Lib.hid ho
  clear hr hn ho
  have S0 := S.non ((Chg.refl Non w).alloc (.cells #[.pointer none, .pointer (some ⟨g, 0, none⟩)] 88))
  have hw := S.nw (Nat.le_refl w.heap.size)
  have hx := Hb.new w 88 #[.pointer none, .pointer (some ⟨g, 0, none⟩)]
  have hgl := S.rdr.lt
  have htl := S.row.lt
  have hx0 : (w.alloc (.cells #[.pointer none, .pointer (some ⟨g, 0, none⟩)] 88)).cell? ⟨w.heap.size, 0, none⟩ = some (.pointer none) := hx.cell 0
  have hx1 : (w.alloc (.cells #[.pointer none, .pointer (some ⟨g, 0, none⟩)] 88)).cell? ⟨w.heap.size, 1, none⟩ = some (.pointer (some ⟨g, 0, none⟩)) := hx.cell 1
  have hBs : (w.alloc (.cells #[.pointer none, .pointer (some ⟨g, 0, none⟩)] 88)).heap.size = w.heap.size + 1 := by simp
  have S1 := S0.here
  clear hx S
  go_enter Try.func29, Try.ntmps29
  go_wp2_with fail
  generalize w.alloc (.cells #[.pointer none, .pointer (some ⟨g, 0, none⟩)] 88) = B at *
  have x0 := S1.chg.cell hx0 hw
  have x1 := S1.chg.cell hx1 hw
  refine (begin_r _ g F tb t _ st S1.here 7).mono ?_
  rintro e w2 h2
  rcases h2.cases with ⟨k, he, C, L', hL1, hL2⟩ | ⟨y, k, he, T2⟩
  · subst he; obtain rfl : r = none := HR.out.symm.trans (by (try simp only [Option.map_eq_none_iff] at k); simp [dProof, k]); go_wp2; exact ⟨rfl, rfl, (S0.chg.trans (S1.chg.trans C (fun _ h => .inl h)) (fun _ h => .inl h)), L', by (rw [hL1, ← HN.out]) <;> simp [bv_length, vH_length] <;> omega, hL2⟩
  subst he
  obtain ⟨z2, k2, rfl⟩ := Option.map_eq_some_iff.1 k
  clear k
  have S2 := S1.trans T2
  clear x0 x1 T2 h2
  go_wp2_with fail
  have D3 := S2.non ((Chg.refl Non w2).drew)
  have x0 := D3.chg.cell hx0 hw
  have x1 := D3.chg.cell hx1 hw
  go_region_held (fun w' => w'.cell? ⟨w.heap.size, 0, none⟩ = some (.pointer none) ∧ w'.cell? ⟨w.heap.size, 1, none⟩ = some (.pointer (some ⟨g, 0, none⟩))) (first | exact ⟨y0, y1⟩ | exact ⟨x0, x1⟩ | assumption) (first | (go_at_call 47; go_loud (refine (number_r _ g F tb o t p (.slice none 0 0 :: q) a0 z2 D3.here HO.out 0 4096).mono ?_; rintro e w3 h3; have y0 := h3.chg.cell x0 hw; have y1 := h3.chg.cell x1 hw; rcases h3.cases with ⟨k, he, C, L', hL1, hL2⟩ | ⟨y, k, he, T3⟩; (subst he; obtain rfl : r = none := HR.out.symm.trans (by (try simp only [Option.map_eq_none_iff] at k); simp [dProof, k2, k]); exact ⟨rfl, rfl, (S0.chg.trans (D3.chg.trans C (fun _ h => .inl h)) (fun _ h => .inl h)), L', by (rw [hL1, ← HN.out]) <;> simp [bv_length, vH_length] <;> omega, hL2⟩); subst he; obtain ⟨z3, k3, rfl⟩ := Option.map_eq_some_iff.1 k; clear k)) | fail)
  have S3 := D3.trans T3
  clear x0 x1 T3 D3 y0 y1 h3
  go_wp2_with fail
  have D4 := S3.non ((Chg.refl Non w3).drew)
  have x0 := D4.chg.cell hx0 hw
  have x1 := D4.chg.cell hx1 hw
  go_region_held (fun w' => w'.cell? ⟨w.heap.size, 0, none⟩ = some (.pointer none) ∧ w'.cell? ⟨w.heap.size, 1, none⟩ = some (.pointer (some ⟨g, 0, none⟩))) (first | exact ⟨y0, y1⟩ | exact ⟨x0, x1⟩ | assumption) (first | (go_at_call 57; go_loud (refine (listPart_r _ g F tb (o + 1) t (p ++ [.int .i64 z3.1]) q z3.2 (D4.here.eq (by simp)) (by rw [HO.out]; simp)).mono ?_; rintro e w4 h4; have y0 := h4.chg.cell x0 hw; have y1 := h4.chg.cell x1 hw; rcases h4.cases with ⟨k, he, C, L', hL1, hL2⟩ | ⟨z4, k4, he, nb4, N4, T4, B4⟩; (subst he; obtain rfl : r = none := HR.out.symm.trans (by (try simp only [Option.map_eq_none_iff] at k); simp [dProof, k2, k3, k]); exact ⟨rfl, rfl, (S0.chg.trans (D4.chg.trans C (fun _ h => .inl h)) (fun _ h => .inl h)), L', by (rw [hL1, ← HN.out]) <;> simp [bv_length, vH_length] <;> omega, hL2⟩); subst he)) | fail)
  have S4 := D4.trans T4
  have N4 : w.heap.size < nb4 := by have := D4.chg.size; omega
  clear x0 x1 T4 D4 y0 y1 h4
  obtain rfl : r = some (_, z4.2) := HR.out.symm.trans (by simp only [dProof, k2, k3, k4, Option.bind_some, Option.map_some]; rfl)
  go_wp2
  go_end0
  obtain ⟨ms, m1, m2, m3⟩ := B4
  exact ⟨rfl, nb4, by omega, (S0.trans S4).eq (by simp), ms, m1, m2, fun m hm => (m3 m hm).mono (show w.heap.size ≤ w3.heap.size by have := S3.chg.size; omega)⟩
end Go.Proofs.Ytinbjbfgfknpaaa

/- Package forms: decoded[api.Proof]. -/
namespace Go.Proofs.Ytinbjbfgfknpaaa
open Go.RowKit
set_option linter.unusedVariables false
set_option linter.unusedSimpArgs false
set_option maxRecDepth 20000


def pfz : List Value := [.int .i64 0, .slice none 0 0]
theorem pfz_one : ∀ v ∈ pfz, v.oneCell' = true := by intro v hv; simp [pfz] at hv; rcases hv with rfl | rfl <;> rfl
/-- What decoding a proof leaves. -/
def DecP (w : World) (z : List Value) (r : Option Pf) (e : Ending) (w' : World) : Prop :=
  Chg Non w w' ∧ match r with
    | some x => ∃ nb, ∃ ms : List Pm, ms.map Pm.part = x.parts ∧ w.heap.size ≤ nb ∧ e = .returned (.tuple #[.agg [.int .i64 x.size, sl nb x.parts.length].toArray, .int .i64 0]) ∧
        Hb w' nb 117 (ms.flatMap Pm.cells).toArray ∧ ∀ m ∈ ms, PathIn w.heap.size w' m
    | none => e = .returned (.tuple #[.agg z.toArray, .int .i64 61])

theorem dProof.row : (Try.prog.info? 59).map (·.size) = some 2 := by kernel_rfl
theorem dProof.alloc0 (w : World) : (Instr.alloc 59 true (.tuple #[])).run Try.prog w = .ok (.pointer (some ⟨w.heap.size, 0, none⟩)) (w.alloc (.cells pfz.toArray 59)) := by kernel_rfl
theorem dProof.zlen : pfz.length = 2 := by rfl

theorem catchDP_Proof (w : World) (p q : Nat) (L : List Value) (y : Value) (v : Value) (u : TypeId) (older : List PanicEntry) (hp : Hb w p 59 L.toArray) (hL : L.length = 2) (hq : Hb w q 32 #[y]) (hpq : q ≠ p) :
    CallsD Try.prog 56 #[.pointer (some ⟨p, 0, none⟩), .pointer (some ⟨q, 0, none⟩)] (.panicking ({ v := .iface u v, recovered := false } :: older)) w fun e u' w' =>
      e = .returned (.tuple #[]) ∧ u' = .panicking ({ v := .iface u v, recovered := true } :: older) ∧ w' = (((w.alloc (.cells pfz.toArray 59)).setCells p 0 pfz).setCell ⟨q, 0, none⟩ (.int .i64 61)) := by
  have hz := dProof.alloc0 w
  have hzl := dProof.zlen
  have hrow := dProof.row
  have hn := Hb.new w 59 pfz.toArray
  have hp1 := hp.alloc (.cells pfz.toArray 59)
  have hth := hp1.there0
  rw [hL] at hth
  have hq1 := (hq.alloc (.cells pfz.toArray 59)).farCells hpq pfz 0
  have c1 : _ = some y := hq1.cell 0
  have f1 : _ = false := hq1.frozen 0
  refine callsD_of_wpS Try.func56 rfl fun c₀ cs hu => ?_
  apply wpS_seq
  apply wpS_region
  simp [wpOpsS, go_sem, recoverD, hu, Try.ntmps56, Exit.thenS]
  refine wpS_cond (t := true) (by simp [Act.eval, Array.replicate]) ?_
  simp only [if_true]
  refine wpS_of_wp ?_
  have hone : ∀ v ∈ pfz, v.oneCell' = true := pfz_one
  generalize pfz = z at *
  go_wp2_with (first | (with_reducible refine wpList_alloc_row rfl _ rfl z hz ?_) | (with_reducible refine wpList_load_mid rfl 59 _ rfl w.heap.size 0 rfl z _ hn.range0 Try.underlying59 rfl (by rw [hrow, hzl]) ?_) | (with_reducible refine wpList_store_mid rfl 59 _ _ rfl p 0 z.toArray rfl rfl (by rw [List.size_toArray, hzl]; exact hth) (by rw [List.size_toArray, hrow, hzl]) (one_mem hone) ?_))
  exact ⟨rfl, _, rfl, .tuple #[], by simp [results, Try.results56], rfl, rfl, rfl⟩

theorem catchDI_Proof (w : World) (p q : Addr) : CallsD Try.prog 56 #[.pointer (some p), .pointer (some q)] .returning w fun e u' w' => e = .returned (.tuple #[]) ∧ u' = .returning ∧ w' = w := by
  refine callsD_of_wpS Try.func56 rfl fun c₀ cs hu => ?_
  apply wpS_seq
  apply wpS_region
  simp [wpOpsS, go_sem, recoverD, hu, Try.ntmps56, Exit.thenS]
  refine wpS_cond (t := false) (by simp [Act.eval, Array.replicate]) ?_
  simp only [Bool.false_eq_true, if_false]
  refine wpS_of_wp (wp_skip ?_)
  cases c₀
  simp_all [bodyPostS, results, Try.results56]

/-- The error's way. -/
theorem decErr_Proof (w w2 : World) (h : Chg Non w w2) (L : List Value) (y : Value) (hp : Hb w2 w.heap.size 59 L.toArray) (hL : L.length = 2) (hq : Hb w2 (w.heap.size + 1) 32 #[y]) (r : Option Pf) (hr : r = none) (tmps : Array Value)
    (h4 : tmps.getD 4 undef = .pointer (some ⟨w.heap.size, 0, none⟩)) (h5 : tmps.getD 5 undef = .pointer (some ⟨w.heap.size + 1, 0, none⟩)) :
    Leaves Try.prog Try.f28 tmps (DecP w pfz r) [{ target := .fn (.func 56) #[.pointer (some ⟨w.heap.size, 0, none⟩), .pointer (some ⟨w.heap.size + 1, 0, none⟩)], args := #[] }] (.panicking bad) w2 := by
  subst hr
  refine leaves_cons (f := 56) (args := #[.pointer (some ⟨w.heap.size, 0, none⟩), .pointer (some ⟨w.heap.size + 1, 0, none⟩)]) (by simp) (by simp [go_sem]) ?_
  refine (catchDP_Proof w2 w.heap.size (w.heap.size + 1) L _ _ _ _ hp hL hq (by omega)).mono ?_
  rintro e u' w'' ⟨rfl, rfl, rfl⟩
  have hz : pfz.length = 2 := dProof.zlen
  have hb3 := ((hp.alloc (.cells pfz.toArray 59)).sets0 (L' := pfz) (by rw [hL, hz])).far (p := ⟨w.heap.size + 1, 0, none⟩) (by simp) (.int .i64 61)
  have he3 := ((hq.alloc (.cells pfz.toArray 59)).farCells (tb := w.heap.size) (by omega) pfz 0).set 0 (.int .i64 61)
  refine ⟨_, results_two rfl _ _ _ ⟨w.heap.size, 0, none⟩ ⟨w.heap.size + 1, 0, none⟩ _ _ h4 h5 (load_row hb3 Try.underlying59 rfl (by rw [dProof.row, hz])) (load_errno (he3.cell 0)), ?_, rfl⟩
  have K := (Chg.setCells (S := fun k => k = w.heap.size ∨ k = w.heap.size + 1) (.inl rfl) pfz _ 0 ((Chg.refl _ w2).alloc (.cells pfz.toArray 59))).setCell (p := ⟨w.heap.size + 1, 0, none⟩) (.inl (.inr rfl)) (.int .i64 61)
  exact h.trans K (fun j hj => .inr (by omega))

theorem decoded_Proof (w : World) (A : Option Addr) (n c : Nat) (bs : List UInt8) (r : Option (Pf × St)) (hn : n = bs.length) (hr : Rd w A bs) (hsz : bs.length ≤ 1000000000)
    (H : ∀ (w1 : World) (g : Nat) (F : Nat → Prop), Rst w1 g F w.heap.size 59 pfz (some bs) w1 → Calls Try.prog 29 #[.agg #[.pointer none, .pointer (some ⟨g, 0, none⟩)], .pointer (some ⟨w.heap.size, 0, none⟩)] w1 (RPF w1 g F w.heap.size 59 2 [] [] r)) :
    Calls Try.prog 28 #[.slice A n c, .func (.func 29) #[] #[]] w (DecP w pfz (whole r)) := by
  have hmf := mkf
  have hC0 := dw_chg w pfz 59
  have hb0 := dw_b w pfz 59
  have he0 := dw_e w pfz 59
  have hz := dProof.alloc0 w
  have hrow := dProof.row
  have HN := newReader_any (dw w pfz 59) A n c bs hn (hr.chg hC0 (fun _ _ f => f)) hsz
  generalize hR : whole r = R
  have HR := Lib.hid hR
  have HH := Lib.hid H
  have HNN := Lib.hid HN
  clear hR H HN hn hr
  have hzz := dProof.zlen
  go_enter_defers Try.func28, Try.ntmps28
  go_wp2_with (first | (with_reducible refine wpList_alloc_row rfl _ rfl pfz hz ?_))
  have hdw : dw w pfz 59 = (w.alloc (.cells pfz.toArray 59)).alloc (.cells #[.int .i64 0] 32) := rfl
  rw [← hdw]
  have hds : (dw w pfz 59).heap.size = w.heap.size + 2 := by rw [hdw]; simp
  clear hdw
  generalize dw w pfz 59 = w0 at *
  refine HNN.out.mono ?_
  rintro e w1 ⟨g, F, rfl, hR1, hg, hF, hC1⟩
  have hb1 := hb0.chg hC1 (fun f => f)
  have he1 := he0.chg hC1 (fun f => f)
  have S1 : Rst w1 g F w.heap.size 59 pfz (some bs) w1 := ⟨hR1, hb1, Chg.refl _ _, by omega, fun h => by have := hF _ h; omega⟩
  have H1 := HH.out w1 g F S1
  have hne : ¬ Two g w.heap.size (w.heap.size + 1) := by rintro (h | h) <;> omega
  have hn01 : Chg Non w w1 := hC0.trans hC1 (fun _ f => f.elim)
  have hw1s := hC1.size
  clear HNN hb0 he0 hC0 hC1 HH S1
  go_wp2_with fail
  refine H1.mono ?_
  rintro e w2 h2
  have he2 := he1.chg h2.chg hne
  have hn02 : Chg Non w w2 := hn01.trans h2.chg (fun j hj => .inr (by rcases hj with rfl | rfl <;> omega))
  clear H1 he1 hb1
  rcases h2.cases with ⟨k, rfl, _, L', hL1, hL2⟩ | ⟨⟨x, s⟩, k, rfl, nb, g1, T, ms, hms, B1, B2⟩
  · have hRn : R = none := HR.out.symm.trans (by rw [k]; rfl)
    go_wp2
    refine decErr_Proof w w2 hn02 L' _ hL2 hL1 he2 _ rfl _ ?_ ?_ <;> rfl
  · have hLn : ([.int .i64 x.size, sl nb x.parts.length] : List Value).length = 2 := rfl
    have hL1 : ∀ v ∈ ([.int .i64 x.size, sl nb x.parts.length] : List Value), v.oneCell' = true := by intro v hv; simp at hv; rcases hv with rfl | rfl <;> rfl
    have T := T.eq (L' := [.int .i64 x.size, sl nb x.parts.length]) (by simp)
    have hs1 : w.heap.size + 2 ≤ w1.heap.size := by omega
    have hRx : ∀ h : s = some [], R = some x := fun h => HR.out.symm.trans (by rw [k, h]; rfl)
    simp only at B1 B2 hms
    generalize hL : ([.int .i64 x.size, sl nb x.parts.length] : List Value) = L at *
    have HL := Lib.hid hL
    have HRX := Lib.hid hRx
    clear h2 hL hRx
    go_wp2_with fail
    refine (endR_any _ g F s T.rdr).mono ?_
    rintro e w3 ⟨rfl, rfl⟩
    have hb2 : Hb _ w.heap.size 59 L.toArray := T.row
    by_cases hs : s = some []
    · have hRs : R = some x := HRX.out hs
      have hev : endv s = 0 := by unfold endv; rw [if_pos hs]
      have hth := hb2.there0
      rw [hLn] at hth
      have hLs : L.toArray.size = 2 := by rw [List.size_toArray, hLn]
      rw [hev]
      have hb3 := hb2.sets0 (L' := L) rfl
      have he3 := he2.farCells (tb := w.heap.size) (by omega) L 0
      have c3 : _ = some (Value.int .i64 0) := he3.cell 0
      have f3 : _ = false := he3.frozen 0
      have hrg := hb2.range0
      clear hev hs HR
      go_wp2_with (first | (go_at_call 33; refine (insist_yes _).mono ?_; rintro e w5 ⟨rfl, rfl⟩) | (with_reducible refine wpList_load_mid rfl 59 _ rfl w.heap.size 0 rfl L _ hrg Try.underlying59 rfl (by rw [hrow, hLn]) ?_; refine wpList_store_mid rfl 59 _ _ rfl w.heap.size 0 L.toArray rfl rfl (by rw [hLs]; exact hth) (by rw [hLs, hrow]) (one_mem hL1) ?_) | (with_reducible refine wpList_store_mid rfl 59 _ _ rfl w.heap.size 0 L.toArray rfl rfl (by rw [hLs]; exact hth) (by rw [hLs, hrow]) (one_mem hL1) ?_))
      refine leaves_cons (f := 56) (args := #[.pointer (some ⟨w.heap.size, 0, none⟩), .pointer (some ⟨w.heap.size + 1, 0, none⟩)]) (by simp) (by simp [go_sem]) ?_
      refine (catchDI_Proof _ ⟨w.heap.size, 0, none⟩ ⟨w.heap.size + 1, 0, none⟩).mono ?_
      rintro e u' w'' ⟨rfl, rfl, rfl⟩
      have hb4 := hb3.far (p := ⟨w.heap.size + 1, 0, none⟩) (by simp) (.int .i64 0)
      have he4 := he3.set 0 (.int .i64 0)
      refine ⟨_, results_two rfl _ _ _ ⟨w.heap.size, 0, none⟩ ⟨w.heap.size + 1, 0, none⟩ _ _ rfl rfl (load_row hb4 Try.underlying59 rfl (by rw [hrow, hLn])) (load_errno (he4.cell 0)), ?_, ?_⟩
      · exact hn02.trans ((Chg.setCells (S := fun k => k = w.heap.size ∨ k = w.heap.size + 1) (.inl rfl) L _ 0 (Chg.refl _ _)).setCell (p := ⟨w.heap.size + 1, 0, none⟩) (.inl (.inr rfl)) (.int .i64 0)) (fun j hj => .inr (by omega))
      · rw [hRs]
        exact ⟨nb, ms, hms, by omega, by rw [HL.out]; rfl, (B1.farCells (by omega) L 0).far (p := ⟨w.heap.size + 1, 0, none⟩) (show nb ≠ w.heap.size + 1 by omega) _, fun m hm => ((B2 m hm).chg ((Chg.setCells (S := fun k => k = w.heap.size ∨ k = w.heap.size + 1) (.inl rfl) L _ 0 (Chg.refl _ _)).setCell (p := ⟨w.heap.size + 1, 0, none⟩) (.inl (.inr rfl)) (.int .i64 0)) (fun j hj => by omega)).mono (by omega)⟩
    · have hRn : R = none := HR.out.symm.trans (by
        rw [k]
        match s, hs with
        | none, _ => rfl
        | some (_ :: _), _ => rfl)
      have hev : endv s = 21 := by unfold endv; rw [if_neg hs]
      rw [hev]
      clear hev hs HR
      go_wp2_with (go_at_call 33; refine (insist_no _).mono ?_; rintro e w5 ⟨rfl, rfl⟩)
      refine decErr_Proof w _ hn02 L _ hb2 hLn he2 _ rfl _ ?_ ?_ <;> rfl
end Go.Proofs.Ytinbjbfgfknpaaa
