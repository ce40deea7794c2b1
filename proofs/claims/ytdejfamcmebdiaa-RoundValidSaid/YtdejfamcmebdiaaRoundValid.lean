/- Of the program at this commit: the law RoundValid answers true for every list of inputs (of its first 200: a proposal is of the block for which it came in last, while it was seen to vote, that more than two thirds prevoted, with that round; or of the validator's own, if none was); no condition. -/
import Derived.Test.YtdejfamcmebdiaaRows
import Derived.WalkKit
import Derived.ProofKit
import Derived.Test.YtdejfamcmebdiaaRg
namespace Go.Proofs.Ytdejfamcmebdiaa.roundValid
open Go.ChangeShapes Go.WideShapes Go.ChangeAt Go.RowKit
set_option linter.unusedVariables false

open mach
/-- Ahead of a round of the loop. -/
structure Lp (W wr : World) (b : Nat) (s : State) : Prop where
  hb : Hb wr b 25 s.cells.toArray
  ok : s.Ok
  on : Vl s
  k : Chg Non W wr
  nb : W.heap.size ≤ b
theorem outs_slice {t : TypeId} {w : World} {n : Nat} {v : Value} {l : List Out} (h : Outs t w n v l) : ∃ A c, v = .slice A l.length c ∧ (l = [] ∨ ∃ g o, l = [o] ∧ A = some ⟨g, 0, none⟩ ∧ Hb w g t o.cells.toArray ∧ o.Ok) := by
  match l, h with
  | [], h => exact ⟨none, 0, h, .inl rfl⟩
  | [o], ⟨g, h1, h2, h3, h4⟩ => exact ⟨some ⟨g, 0, none⟩, 1, h1, .inr ⟨g, o, rfl, rfl, h3, h4⟩⟩
set_option maxRecDepth 100000 in
set_option maxHeartbeats 6400000 in
theorem walk (W : World) (v0 : Value) (h0 : Okv Try.prog W 42 v0) :
    Calls Try.prog 7 #[v0] W fun e W' => e = .returned (.bool true) ∧ Below W.heap.size W W' := by
  obtain ⟨A, c, l, rfl, hl, hM, hok⟩ := ins_arg h0
  have HM := Lib.hid hM
  have HOK := Lib.hid hok
  unfold maxLen at hl
  clear h0 hM hok
  go_enter Try.func7, Try.ntmps7
  go_wp2_with (first
    | (go_at_call 15; go_loud (refine (New_any _).mono ?_; rintro e w1 ⟨rfl, k1⟩))
    | (with_reducible refine wpList_alloc_named rfl _ rfl s0.cells z_S ?_; intro w2 hw2; have hb2 : Hb w2 w1.heap.size 25 s0.cells.toArray := (by rw [hw2.out]; exact Hb.new _ _ _); have k2 : Chg Non w1 w2 := (by rw [hw2.out]; exact (Chg.refl _ _).alloc _); clear hw2)
    | ((with_reducible refine wpList_store_S rfl _ _ rfl w1.heap.size mach.start s0 rfl rfl hb2 start_ok s0_ok ?_); go_loud (intro w3 h3 k3; have K3 : Chg Non W w3 := k1.trans (k2.trans k3 (fun j hj => .inr (by have : j = w1.heap.size := hj; omega))) (fun _ f => .inl f); have L0 : Hid (Lp W w3 w1.heap.size mach.start) := Lib.hid ⟨h3, start_ok, vl_start, K3, k1.size⟩; clear k1 k2 k3 hb2 h3 K3)))
  generalize w1.heap.size = b at *
  go_loopw [4] (fun i wr => ∃ (k : Nat) (s : State), k ≤ l.length ∧ k ≤ 200 ∧ i = .int .i64 (k : Int) ∧ Hid (Lp W wr b s)) (fun i _ => 200 - (intOf i).toNat)
  case atStart => exact ⟨0, _, by omega, by omega, rfl, L0⟩
  case round =>
    obtain ⟨k, s, hkL, hk200, rfl, LP⟩ := hrel
    clear L0
    by_cases hkl : k < l.length
    · have hkl' : (k : Int) < (l.length : Int) := by omega
      by_cases hk : k < 200
      · have hk' : decide ((k : Int) < 200) = true := by simp; omega
        obtain ⟨x, hx⟩ : ∃ x, l[k]? = some x := ⟨_, List.getElem?_eq_getElem hkl⟩
        have OX := Lib.hid (HOK.out x (List.mem_of_getElem? hx))
        obtain ⟨eb, eo, rfl, hlt, hrg⟩ := HM.out k x hx
        have HEB := Lib.hid (Nat.lt_of_lt_of_le hlt LP.out.nb)
        have HB0 := Lib.hid LP.out.hb
        have OK := Lib.hid LP.out.ok
        have HRG0 := Lib.hid hrg
        clear hx hlt hrg
        go_wp2_with (first
          | (with_reducible refine wpList_load_mid rfl 25 _ rfl b 0 rfl s.cells _ HB0.out.range0 Try.underlying25 rfl (rowS OK.out) ?_)
          | (with_reducible refine wpList_alloc_named rfl _ rfl s0.cells z_S ?_; intro wa hwa; have hba : Hb wa wr.heap.size 25 s0.cells.toArray := (by rw [hwa.out]; exact Hb.new _ _ _); have ka : Chg Non wr wa := (by rw [hwa.out]; exact (Chg.refl _ _).alloc _); clear hwa)
          | ((with_reducible refine wpList_store_S rfl _ _ rfl wr.heap.size s s0 rfl rfl hba OK.out s0_ok ?_); go_loud (intro wb hB kb; have kab : Chg Non wr wb := ka.trans kb (fun j hj => .inr (by have : j = wr.heap.size := hj; omega)); have HB := Lib.hid (HB0.out.chg kab (fun f => f)); have HRG := Lib.hid ((LP.out.k.trans kab (fun _ f => .inl f)).range' HRG0.out (fun f => f)); have HW := Lib.hid hB; have KB := Lib.hid (LP.out.k.trans kab (fun _ f => .inl f)); have NW := Lib.hid LP.out.hb.lt; clear ka kb kab hB hba)))
        rename_i ha
        refine wp_region_heads [1, 2, 3, 4] 7 #[false, true, true, true, true, false, false, false, false, false, false] (by kernel_rfl) (by kernel_rfl) (by kernel_rfl) (by kernel_rfl) (by kernel_rfl) (fun w' => Chg (fun j => j = b) (World.drew wb) w') (Chg.refl _ _) ?_
        refine headI_run rfl rfl (fun w' kk => by go_simp; rfl) ?_
        simp only [Act.put, List.setIfInBounds_toArray, List.set_cons_zero, List.set_cons_succ]
        refine headI_run rfl rfl (fun w' kk => by go_simp; rfl) ?_
        simp only [Act.put, List.setIfInBounds_toArray, List.set_cons_zero, List.set_cons_succ]
        refine headI_run rfl rfl (fun w' kk => by go_simp; rfl) ?_
        simp only [Act.put, List.setIfInBounds_toArray, List.set_cons_zero, List.set_cons_succ]
        refine headI_load rfl rfl _ _ rfl eb (eo + k * 68) rfl x.cells _ (fun w' kk => kk.range' (HRG.out) (by have := HEB.out; show ¬ (eb = b); omega)) Try.underlying27 rfl (rowI OX.out) ?_
        simp only [Act.put, List.setIfInBounds_toArray, List.set_cons_zero, List.set_cons_succ]
        refine headI_nil ?_
        refine step_tail (n := 153) (s := s) (i := x) rfl rfl rfl rfl rfl rfl rfl rfl rfl rfl rfl rfl rfl rfl (by kernel_rfl) (by kernel_rfl) (by kernel_rfl) (by kernel_rfl) (by kernel_rfl) (by kernel_rfl) (by kernel_rfl) rfl rfl rfl rfl rfl rfl rfl rfl rfl rfl rfl rfl rfl rfl rfl (by decide) (by decide) rfl rfl HB.out OK.out OX.out ?_
        intro w5 s1 v ol hr k5 ok1 hb1 o1
        refine ha _ _ ?_
        simp only [Act.put, List.setIfInBounds_toArray, List.set_cons_zero, List.set_cons_succ]
        have k5' : Chg (fun j => j = b) wb w5 := ⟨k5.os, k5.tape, k5.output, k5.size, k5.block⟩
        have KW := Lib.hid (KB.out.trans k5' (fun j hj => .inr (by have : j = b := hj; have := LP.out.nb; omega)))
        have W5 := Lib.hid (HW.out.chg k5' (by have := NW.out; show ¬ (wr.heap.size = b); omega))
        have XR := Lib.hid (k5'.range' HRG.out (by have := HEB.out; show ¬ (eb = b); omega))
        have NB := Lib.hid LP.out.nb
        have HB1 := Lib.hid hb1
        have OK1 := Lib.hid ok1
        have HV := vl_step LP.out.on x
        rw [hr] at HV
        obtain ⟨hto, hout⟩ := HV
        simp only at hto hout
        obtain ⟨vto, vv, vl⟩ := hto
        have VTO := Lib.hid vto
        have VV := Lib.hid vv
        have VL := Lib.hid vl
        have HOUT := Lib.hid hout
        obtain ⟨A, cc, rfl, hA⟩ := outs_slice o1
        have HA_ := Lib.hid hA
        have hn1 : ol.length ≤ 1 := by rcases hA with rfl | ⟨g, o, rfl, _⟩ <;> simp
        have hng : decide ((1 : Int) < (ol.length : Int)) = false := by simp; omega
        generalize hn : ol.length = n at *
        have HN := Lib.hid hn
        generalize wr.heap.size = wbox at *
        clear hr k5 k5' hb1 ok1 hout vto vv vl o1 hA LP hn
        go_wp2_with fail
        go_loopw [7] (fun j wi => ∃ jn : Nat, jn ≤ n ∧ j = .int .i64 (jn : Int) ∧ Hid (Chg Non w5 wi)) (fun j _ => n - (intOf j).toNat)
        case atStart => exact ⟨0, by omega, rfl, Lib.hid (Chg.refl _ _)⟩
        case round =>
          obtain ⟨jn, hjn, rfl, KC⟩ := hrel
          have HBr := Lib.hid (HB1.out.chg KC.out (fun f => f))
          have HWr := Lib.hid (W5.out.chg KC.out (fun f => f))
          have HXr := Lib.hid (KC.out.range' XR.out (fun f => f))
          by_cases hj : jn < n
          · obtain rfl : jn = 0 := by omega
            obtain rfl : n = 1 := by omega
            have h2 := HA_.out
            rcases h2 with rfl | ⟨g, o, rfl, rfl, ho5, oko⟩
            · exact absurd HN.out (by simp)
            have HO := Lib.hid (ho5.chg KC.out (fun f => f))
            have OKO := Lib.hid oko
            have h3 := HOUT.out
            clear ho5 oko hn1 hng hjn hj
            cases h3 with
            | other _ h1 =>
              have q1 : (o.kind != 1) = true := by simpa using h1
              clear h1
              go_wp2_with (first
                | (with_reducible refine wpList_load_mid rfl 45 _ rfl g 0 rfl o.cells _ HO.out.range0 Try.underlying45 rfl (rowO OKO.out) ?_)
                | (with_reducible refine wpList_alloc_named rfl _ rfl o0.cells z_O ?_; intro w6 hw6; have hb6 : Hb w6 wr.heap.size 45 o0.cells.toArray := (by rw [hw6.out]; exact Hb.new _ _ _); have k6 : Chg Non wr w6 := (by rw [hw6.out]; exact (Chg.refl _ _).alloc _); clear hw6)
                | ((with_reducible refine wpList_store_R rfl 45 _ _ rfl wr.heap.size o.cells o0.cells 35 rfl rfl hb6 OKO.out.len rfl row_O o.one ?_); go_loud (intro w7 h7 k7; have k57 : Chg Non wr w7 := k6.trans k7 (fun j hj => .inr (by have : j = wr.heap.size := hj; omega)); have d0 : w7.cell? ⟨wr.heap.size, 0, none⟩ = some (.int .i64 o.kind) := ob0 h7.range0; have P8 := Lib.hid (KC.out.trans k57 (fun _ f => .inl f)); clear h7 k7 k57 hb6 k6)))
              go_roundw
              case rel => exact ⟨1, by omega, by go_num, P8⟩
              case measure => simp [intOf]
            | old _ h1 h0 hb2 hv hvr =>
              have HK := Lib.hid h1
              have q1 : decide (0 ≤ s.validR) = true := decide_eq_true h0
              have q2 : decide (s.validR < 0) = false := decide_eq_false (by omega)
              have q3 : (o.valid != s.validR) = false := by simp [hv]
              have q4 : decide (o.round ≤ o.valid) = false := decide_eq_false (by omega)
              have HBL := Lib.hid hb2
              clear h1 h0 hv hvr hb2
              go_wp2_with (first
                | (with_reducible refine wpList_load_mid rfl 45 _ rfl g 0 rfl o.cells _ HO.out.range0 Try.underlying45 rfl (rowO OKO.out) ?_)
                | (with_reducible refine wpList_alloc_named rfl _ rfl o0.cells z_O ?_; intro w6 hw6; have hb6 : Hb w6 wr.heap.size 45 o0.cells.toArray := (by rw [hw6.out]; exact Hb.new _ _ _); have k6 : Chg Non wr w6 := (by rw [hw6.out]; exact (Chg.refl _ _).alloc _); clear hw6)
                | ((with_reducible refine wpList_store_R rfl 45 _ _ rfl wr.heap.size o.cells o0.cells 35 rfl rfl hb6 OKO.out.len rfl row_O o.one ?_); go_loud (intro w7 h7 k7; have k57 : Chg Non wr w7 := k6.trans k7 (fun j hj => .inr (by have : j = wr.heap.size := hj; omega)); have d0 : w7.cell? ⟨wr.heap.size, 0, none⟩ = some (.int .i64 o.kind) := ob0 h7.range0; rw [HK.out] at d0; have P8 : Hid (Chg Non w5 w7.drew) := Lib.hid ((KC.out.trans k57 (fun _ f => .inl f)).drew); have H7 := Lib.hid h7; have HW7 := Lib.hid (HWr.out.chg k57 (fun f => f)); have HX7 := Lib.hid (k57.range' HXr.out (fun f => f)); clear h7 k7 k57 hb6 k6)))
              have D1 : w7.drew.cell? ⟨wr.heap.size, 1, none⟩ = some (.int .i64 o.round) := ob1 H7.out.range0
              have D67 : w7.drew.cell? ⟨wbox, 67, none⟩ = some (.int .i64 s.validR) := sb67 HW7.out OK.out
              have D34 : w7.drew.cell? ⟨wr.heap.size, 34, none⟩ = some (.int .i64 o.valid) := ob34 H7.out.range0 OKO.out
              have R2 : w7.drew.rangeAt wr.heap.size 2 (bv o.block) := ob2 H7.out.range0
              have R35 : w7.drew.rangeAt wbox 35 (bv o.block) := by rw [HBL.out]; exact (sb35 HW7.out OK.out).1
              rename_i ha
              refine wp_region_lexH 37 0 #[true, true, true, true, true, true, true, true, true, true, true, true, true, true, true, true, true, true, true, true, true, true, true, true, true, true, true, true, true, true, true, true, true, true, true, true, true] (by kernel_rfl) (by kernel_rfl) (by kernel_rfl) (by kernel_rfl) (by kernel_rfl) (fun w' => w' = w7.drew) rfl ?_
              first | refine head_run rfl (fun w' kk => by subst kk; go_simp; rfl) ?_ | refine head_skip rfl ?_
              simp only [Act.put, List.setIfInBounds_toArray, List.set_cons_zero, List.set_cons_succ]
              first | refine head_run rfl (fun w' kk => by subst kk; go_simp; rfl) ?_ | refine head_skip rfl ?_
              simp only [Act.put, List.setIfInBounds_toArray, List.set_cons_zero, List.set_cons_succ]
              first | refine head_run rfl (fun w' kk => by subst kk; go_simp; rfl) ?_ | refine head_skip rfl ?_
              simp only [Act.put, List.setIfInBounds_toArray, List.set_cons_zero, List.set_cons_succ]
              first | refine head_run rfl (fun w' kk => by subst kk; go_simp; rfl) ?_ | refine head_skip rfl ?_
              simp only [Act.put, List.setIfInBounds_toArray, List.set_cons_zero, List.set_cons_succ]
              first | refine head_run rfl (fun w' kk => by subst kk; go_simp; rfl) ?_ | refine head_skip rfl ?_
              simp only [Act.put, List.setIfInBounds_toArray, List.set_cons_zero, List.set_cons_succ]
              refine head_load rfl _ _ rfl wr.heap.size 2 rfl (bv o.block) _ (fun w' kk => by subst kk; exact R2) Try.underlying23 rfl (rowH OKO.out.b) ?_
              simp only [Act.put, List.setIfInBounds_toArray, List.set_cons_zero, List.set_cons_succ]
              first | refine head_run rfl (fun w' kk => by subst kk; go_simp; rfl) ?_ | refine head_skip rfl ?_
              simp only [Act.put, List.setIfInBounds_toArray, List.set_cons_zero, List.set_cons_succ]
              refine head_load rfl _ _ rfl wbox 35 rfl (bv o.block) _ (fun w' kk => by subst kk; exact R35) Try.underlying23 rfl (rowH OKO.out.b) ?_
              simp only [Act.put, List.setIfInBounds_toArray, List.set_cons_zero, List.set_cons_succ]
              refine head_neqH rfl _ _ _ rfl o.block o.block rfl rfl OKO.out.b OKO.out.b (b := true) (by simp) ?_
              simp only [Act.put, List.setIfInBounds_toArray, List.set_cons_zero, List.set_cons_succ]
              first | refine head_run rfl (fun w' kk => by subst kk; go_simp; rfl) ?_ | refine head_skip rfl ?_
              simp only [Act.put, List.setIfInBounds_toArray, List.set_cons_zero, List.set_cons_succ]
              first | refine head_run rfl (fun w' kk => by subst kk; go_simp; rfl) ?_ | refine head_skip rfl ?_
              simp only [Act.put, List.setIfInBounds_toArray, List.set_cons_zero, List.set_cons_succ]
              first | refine head_run rfl (fun w' kk => by subst kk; go_simp; rfl) ?_ | refine head_skip rfl ?_
              simp only [Act.put, List.setIfInBounds_toArray, List.set_cons_zero, List.set_cons_succ]
              first | refine head_run rfl (fun w' kk => by subst kk; go_simp; rfl) ?_ | refine head_skip rfl ?_
              simp only [Act.put, List.setIfInBounds_toArray, List.set_cons_zero, List.set_cons_succ]
              first | refine head_run rfl (fun w' kk => by subst kk; go_simp; rfl) ?_ | refine head_skip rfl ?_
              simp only [Act.put, List.setIfInBounds_toArray, List.set_cons_zero, List.set_cons_succ]
              first | refine head_run rfl (fun w' kk => by subst kk; go_simp; rfl) ?_ | refine head_skip rfl ?_
              simp only [Act.put, List.setIfInBounds_toArray, List.set_cons_zero, List.set_cons_succ]
              first | refine head_run rfl (fun w' kk => by subst kk; go_simp; rfl) ?_ | refine head_skip rfl ?_
              simp only [Act.put, List.setIfInBounds_toArray, List.set_cons_zero, List.set_cons_succ]
              first | refine head_run rfl (fun w' kk => by subst kk; go_simp; rfl) ?_ | refine head_skip rfl ?_
              simp only [Act.put, List.setIfInBounds_toArray, List.set_cons_zero, List.set_cons_succ]
              first | refine head_run rfl (fun w' kk => by subst kk; go_simp; rfl) ?_ | refine head_skip rfl ?_
              simp only [Act.put, List.setIfInBounds_toArray, List.set_cons_zero, List.set_cons_succ]
              first | refine head_run rfl (fun w' kk => by subst kk; go_simp; rfl) ?_ | refine head_skip rfl ?_
              simp only [Act.put, List.setIfInBounds_toArray, List.set_cons_zero, List.set_cons_succ]
              first | refine head_run rfl (fun w' kk => by subst kk; go_simp; rfl) ?_ | refine head_skip rfl ?_
              simp only [Act.put, List.setIfInBounds_toArray, List.set_cons_zero, List.set_cons_succ]
              first | refine head_run rfl (fun w' kk => by subst kk; go_simp; rfl) ?_ | refine head_skip rfl ?_
              simp only [Act.put, List.setIfInBounds_toArray, List.set_cons_zero, List.set_cons_succ]
              first | refine head_run rfl (fun w' kk => by subst kk; go_simp; rfl) ?_ | refine head_skip rfl ?_
              simp only [Act.put, List.setIfInBounds_toArray, List.set_cons_zero, List.set_cons_succ]
              first | refine head_run rfl (fun w' kk => by subst kk; go_simp; rfl) ?_ | refine head_skip rfl ?_
              simp only [Act.put, List.setIfInBounds_toArray, List.set_cons_zero, List.set_cons_succ]
              first | refine head_run rfl (fun w' kk => by subst kk; go_simp; rfl) ?_ | refine head_skip rfl ?_
              simp only [Act.put, List.setIfInBounds_toArray, List.set_cons_zero, List.set_cons_succ]
              first | refine head_run rfl (fun w' kk => by subst kk; go_simp; rfl) ?_ | refine head_skip rfl ?_
              simp only [Act.put, List.setIfInBounds_toArray, List.set_cons_zero, List.set_cons_succ]
              first | refine head_run rfl (fun w' kk => by subst kk; go_simp; rfl) ?_ | refine head_skip rfl ?_
              simp only [Act.put, List.setIfInBounds_toArray, List.set_cons_zero, List.set_cons_succ]
              first | refine head_run rfl (fun w' kk => by subst kk; go_simp; rfl) ?_ | refine head_skip rfl ?_
              simp only [Act.put, List.setIfInBounds_toArray, List.set_cons_zero, List.set_cons_succ]
              first | refine head_run rfl (fun w' kk => by subst kk; go_simp; rfl) ?_ | refine head_skip rfl ?_
              simp only [Act.put, List.setIfInBounds_toArray, List.set_cons_zero, List.set_cons_succ]
              first | refine head_run rfl (fun w' kk => by subst kk; go_simp; rfl) ?_ | refine head_skip rfl ?_
              simp only [Act.put, List.setIfInBounds_toArray, List.set_cons_zero, List.set_cons_succ]
              first | refine head_run rfl (fun w' kk => by subst kk; go_simp; rfl) ?_ | refine head_skip rfl ?_
              simp only [Act.put, List.setIfInBounds_toArray, List.set_cons_zero, List.set_cons_succ]
              first | refine head_run rfl (fun w' kk => by subst kk; go_simp; rfl) ?_ | refine head_skip rfl ?_
              simp only [Act.put, List.setIfInBounds_toArray, List.set_cons_zero, List.set_cons_succ]
              first | refine head_run rfl (fun w' kk => by subst kk; go_simp; rfl) ?_ | refine head_skip rfl ?_
              simp only [Act.put, List.setIfInBounds_toArray, List.set_cons_zero, List.set_cons_succ]
              first | refine head_run rfl (fun w' kk => by subst kk; go_simp; rfl) ?_ | refine head_skip rfl ?_
              simp only [Act.put, List.setIfInBounds_toArray, List.set_cons_zero, List.set_cons_succ]
              first | refine head_run rfl (fun w' kk => by subst kk; go_simp; rfl) ?_ | refine head_skip rfl ?_
              simp only [Act.put, List.setIfInBounds_toArray, List.set_cons_zero, List.set_cons_succ]
              first | refine head_run rfl (fun w' kk => by subst kk; go_simp; rfl) ?_ | refine head_skip rfl ?_
              simp only [Act.put, List.setIfInBounds_toArray, List.set_cons_zero, List.set_cons_succ]
              first | refine head_run rfl (fun w' kk => by subst kk; go_simp; rfl) ?_ | refine head_skip rfl ?_
              simp only [Act.put, List.setIfInBounds_toArray, List.set_cons_zero, List.set_cons_succ]
              first | refine head_run rfl (fun w' kk => by subst kk; go_simp; rfl) ?_ | refine head_skip rfl ?_
              simp only [Act.put, List.setIfInBounds_toArray, List.set_cons_zero, List.set_cons_succ]
              refine head_nil ?_
              refine wpAnyH_done (by kernel_rfl) ?_ _
              refine ha _ _ ?_
              by_cases hz : o.block = zero
              · have HZ := Lib.hid (run_eq_hash · OKO.out.b zero_length)
                rw [decide_eq_true hz] at HZ
                clear hz
                go_wp2_with (first
                  | (with_reducible refine wpList_load_w 23 _ rfl ?_ wr.heap.size 2 rfl (bv o.block) _ R2 Try.underlying23 rfl (rowH OKO.out.b) ?_; focus (first | (simp [Region.wanted, yielded]; done) | (go_simp; done) | kernel_rfl))
                  | (with_reducible refine wpList_build_zero_w ?_ 23 rfl built_zero ?_; focus (first | (simp [Region.wanted, yielded]; done) | (go_simp; done) | kernel_rfl))
                  | (with_reducible refine wpList_eql_w 23 _ _ _ rfl ?_ (xs := (bv o.block).toArray) (ys := (bv zero).toArray) rfl rfl hash_guard (HZ.out w7.drew) ?_; focus (first | (simp [Region.wanted, yielded]; done) | (go_simp; done) | kernel_rfl)))
                go_roundw
                case rel => exact ⟨1, by omega, by go_num, P8⟩
                case measure => simp [intOf]
              · have HZ := Lib.hid (run_eq_hash · OKO.out.b zero_length)
                rw [decide_eq_false hz] at HZ
                clear hz
                go_wp2_with (first
                  | (with_reducible refine wpList_load_w 23 _ rfl ?_ wr.heap.size 2 rfl (bv o.block) _ R2 Try.underlying23 rfl (rowH OKO.out.b) ?_; focus (first | (simp [Region.wanted, yielded]; done) | (go_simp; done) | kernel_rfl))
                  | (with_reducible refine wpList_build_zero_w ?_ 23 rfl built_zero ?_; focus (first | (simp [Region.wanted, yielded]; done) | (go_simp; done) | kernel_rfl))
                  | (with_reducible refine wpList_eql_w 23 _ _ _ rfl ?_ (xs := (bv o.block).toArray) (ys := (bv zero).toArray) rfl rfl hash_guard (HZ.out w7.drew) ?_; focus (first | (simp [Region.wanted, yielded]; done) | (go_simp; done) | kernel_rfl)))
                go_roundw
                case rel => exact ⟨1, by omega, by go_num, P8⟩
                case measure => simp [intOf]
            | own _ h1 h0 hb2 hv hvr hz =>
              have HK := Lib.hid h1
              have q1 : decide (0 ≤ s.validR) = false := decide_eq_false (by omega)
              have q2 : decide (s.validR < 0) = true := decide_eq_true h0
              have q4 : decide (o.round ≤ -1) = false := decide_eq_false (by omega)
              have HBL := Lib.hid hb2
              have HVA := Lib.hid hv
              have HZ := Lib.hid (run_eq_hash · OKO.out.b zero_length)
              rw [decide_eq_false hz] at HZ
              clear h1 h0 hv hvr hb2 hz
              go_wp2_with (first
                | (with_reducible refine wpList_load_mid rfl 45 _ rfl g 0 rfl o.cells _ HO.out.range0 Try.underlying45 rfl (rowO OKO.out) ?_)
                | (with_reducible refine wpList_alloc_named rfl _ rfl o0.cells z_O ?_; intro w6 hw6; have hb6 : Hb w6 wr.heap.size 45 o0.cells.toArray := (by rw [hw6.out]; exact Hb.new _ _ _); have k6 : Chg Non wr w6 := (by rw [hw6.out]; exact (Chg.refl _ _).alloc _); clear hw6)
                | ((with_reducible refine wpList_store_R rfl 45 _ _ rfl wr.heap.size o.cells o0.cells 35 rfl rfl hb6 OKO.out.len rfl row_O o.one ?_); go_loud (intro w7 h7 k7; have k57 : Chg Non wr w7 := k6.trans k7 (fun j hj => .inr (by have : j = wr.heap.size := hj; omega)); have d0 : w7.cell? ⟨wr.heap.size, 0, none⟩ = some (.int .i64 o.kind) := ob0 h7.range0; rw [HK.out] at d0; have P8 : Hid (Chg Non w5 w7.drew) := Lib.hid ((KC.out.trans k57 (fun _ f => .inl f)).drew); have H7 := Lib.hid h7; have HW7 := Lib.hid (HWr.out.chg k57 (fun f => f)); have HX7 := Lib.hid (k57.range' HXr.out (fun f => f)); clear h7 k7 k57 hb6 k6)))
              have D1 : w7.drew.cell? ⟨wr.heap.size, 1, none⟩ = some (.int .i64 o.round) := ob1 H7.out.range0
              have D67 : w7.drew.cell? ⟨wbox, 67, none⟩ = some (.int .i64 s.validR) := sb67 HW7.out OK.out
              have D34 : w7.drew.cell? ⟨wr.heap.size, 34, none⟩ = some (.int .i64 (-1)) := by
                have := ob34 H7.out.range0 OKO.out
                rwa [HVA.out] at this
              have R2 : w7.drew.rangeAt wr.heap.size 2 (bv o.block) := ob2 H7.out.range0
              have RX : w7.drew.rangeAt eb (eo + k * 68 + 36) (bv o.block) := by rw [HBL.out]; exact ib36 HX7.out OX.out
              rename_i ha
              refine wp_region_lexH 37 0 #[true, true, true, true, true, true, true, true, true, true, true, true, true, true, true, true, true, true, true, true, true, true, true, true, true, true, true, true, true, true, true, true, true, true, true, true, true] (by kernel_rfl) (by kernel_rfl) (by kernel_rfl) (by kernel_rfl) (by kernel_rfl) (fun w' => w' = w7.drew) rfl ?_
              first | refine head_run rfl (fun w' kk => by subst kk; go_simp; rfl) ?_ | refine head_skip rfl ?_
              simp only [Act.put, List.setIfInBounds_toArray, List.set_cons_zero, List.set_cons_succ]
              first | refine head_run rfl (fun w' kk => by subst kk; go_simp; rfl) ?_ | refine head_skip rfl ?_
              simp only [Act.put, List.setIfInBounds_toArray, List.set_cons_zero, List.set_cons_succ]
              first | refine head_run rfl (fun w' kk => by subst kk; go_simp; rfl) ?_ | refine head_skip rfl ?_
              simp only [Act.put, List.setIfInBounds_toArray, List.set_cons_zero, List.set_cons_succ]
              first | refine head_run rfl (fun w' kk => by subst kk; go_simp; rfl) ?_ | refine head_skip rfl ?_
              simp only [Act.put, List.setIfInBounds_toArray, List.set_cons_zero, List.set_cons_succ]
              first | refine head_run rfl (fun w' kk => by subst kk; go_simp; rfl) ?_ | refine head_skip rfl ?_
              simp only [Act.put, List.setIfInBounds_toArray, List.set_cons_zero, List.set_cons_succ]
              first | refine head_run rfl (fun w' kk => by subst kk; go_simp; rfl) ?_ | refine head_skip rfl ?_
              simp only [Act.put, List.setIfInBounds_toArray, List.set_cons_zero, List.set_cons_succ]
              first | refine head_run rfl (fun w' kk => by subst kk; go_simp; rfl) ?_ | refine head_skip rfl ?_
              simp only [Act.put, List.setIfInBounds_toArray, List.set_cons_zero, List.set_cons_succ]
              first | refine head_run rfl (fun w' kk => by subst kk; go_simp; rfl) ?_ | refine head_skip rfl ?_
              simp only [Act.put, List.setIfInBounds_toArray, List.set_cons_zero, List.set_cons_succ]
              first | refine head_run rfl (fun w' kk => by subst kk; go_simp; rfl) ?_ | refine head_skip rfl ?_
              simp only [Act.put, List.setIfInBounds_toArray, List.set_cons_zero, List.set_cons_succ]
              first | refine head_run rfl (fun w' kk => by subst kk; go_simp; rfl) ?_ | refine head_skip rfl ?_
              simp only [Act.put, List.setIfInBounds_toArray, List.set_cons_zero, List.set_cons_succ]
              first | refine head_run rfl (fun w' kk => by subst kk; go_simp; rfl) ?_ | refine head_skip rfl ?_
              simp only [Act.put, List.setIfInBounds_toArray, List.set_cons_zero, List.set_cons_succ]
              first | refine head_run rfl (fun w' kk => by subst kk; go_simp; rfl) ?_ | refine head_skip rfl ?_
              simp only [Act.put, List.setIfInBounds_toArray, List.set_cons_zero, List.set_cons_succ]
              first | refine head_run rfl (fun w' kk => by subst kk; go_simp; rfl) ?_ | refine head_skip rfl ?_
              simp only [Act.put, List.setIfInBounds_toArray, List.set_cons_zero, List.set_cons_succ]
              first | refine head_run rfl (fun w' kk => by subst kk; go_simp; rfl) ?_ | refine head_skip rfl ?_
              simp only [Act.put, List.setIfInBounds_toArray, List.set_cons_zero, List.set_cons_succ]
              first | refine head_run rfl (fun w' kk => by subst kk; go_simp; rfl) ?_ | refine head_skip rfl ?_
              simp only [Act.put, List.setIfInBounds_toArray, List.set_cons_zero, List.set_cons_succ]
              first | refine head_run rfl (fun w' kk => by subst kk; go_simp; rfl) ?_ | refine head_skip rfl ?_
              simp only [Act.put, List.setIfInBounds_toArray, List.set_cons_zero, List.set_cons_succ]
              first | refine head_run rfl (fun w' kk => by subst kk; go_simp; rfl) ?_ | refine head_skip rfl ?_
              simp only [Act.put, List.setIfInBounds_toArray, List.set_cons_zero, List.set_cons_succ]
              first | refine head_run rfl (fun w' kk => by subst kk; go_simp; rfl) ?_ | refine head_skip rfl ?_
              simp only [Act.put, List.setIfInBounds_toArray, List.set_cons_zero, List.set_cons_succ]
              first | refine head_run rfl (fun w' kk => by subst kk; go_simp; rfl) ?_ | refine head_skip rfl ?_
              simp only [Act.put, List.setIfInBounds_toArray, List.set_cons_zero, List.set_cons_succ]
              first | refine head_run rfl (fun w' kk => by subst kk; go_simp; rfl) ?_ | refine head_skip rfl ?_
              simp only [Act.put, List.setIfInBounds_toArray, List.set_cons_zero, List.set_cons_succ]
              first | refine head_run rfl (fun w' kk => by subst kk; go_simp; rfl) ?_ | refine head_skip rfl ?_
              simp only [Act.put, List.setIfInBounds_toArray, List.set_cons_zero, List.set_cons_succ]
              first | refine head_run rfl (fun w' kk => by subst kk; go_simp; rfl) ?_ | refine head_skip rfl ?_
              simp only [Act.put, List.setIfInBounds_toArray, List.set_cons_zero, List.set_cons_succ]
              first | refine head_run rfl (fun w' kk => by subst kk; go_simp; rfl) ?_ | refine head_skip rfl ?_
              simp only [Act.put, List.setIfInBounds_toArray, List.set_cons_zero, List.set_cons_succ]
              refine head_load rfl _ _ rfl wr.heap.size 2 rfl (bv o.block) _ (fun w' kk => by subst kk; exact R2) Try.underlying23 rfl (rowH OKO.out.b) ?_
              simp only [Act.put, List.setIfInBounds_toArray, List.set_cons_zero, List.set_cons_succ]
              first | refine head_run rfl (fun w' kk => by subst kk; go_simp; rfl) ?_ | refine head_skip rfl ?_
              simp only [Act.put, List.setIfInBounds_toArray, List.set_cons_zero, List.set_cons_succ]
              first | refine head_run rfl (fun w' kk => by subst kk; go_simp; rfl) ?_ | refine head_skip rfl ?_
              simp only [Act.put, List.setIfInBounds_toArray, List.set_cons_zero, List.set_cons_succ]
              first | refine head_run rfl (fun w' kk => by subst kk; go_simp; rfl) ?_ | refine head_skip rfl ?_
              simp only [Act.put, List.setIfInBounds_toArray, List.set_cons_zero, List.set_cons_succ]
              first | refine head_run rfl (fun w' kk => by subst kk; go_simp; rfl) ?_ | refine head_skip rfl ?_
              simp only [Act.put, List.setIfInBounds_toArray, List.set_cons_zero, List.set_cons_succ]
              refine head_load rfl _ _ rfl eb (eo + k * 68 + 36) rfl (bv o.block) _ (fun w' kk => by subst kk; exact RX) Try.underlying23 rfl (rowH OKO.out.b) ?_
              simp only [Act.put, List.setIfInBounds_toArray, List.set_cons_zero, List.set_cons_succ]
              refine head_neqH rfl _ _ _ rfl o.block o.block rfl rfl OKO.out.b OKO.out.b (b := true) (by simp) ?_
              simp only [Act.put, List.setIfInBounds_toArray, List.set_cons_zero, List.set_cons_succ]
              first | refine head_run rfl (fun w' kk => by subst kk; go_simp; rfl) ?_ | refine head_skip rfl ?_
              simp only [Act.put, List.setIfInBounds_toArray, List.set_cons_zero, List.set_cons_succ]
              first | refine head_run rfl (fun w' kk => by subst kk; go_simp; rfl) ?_ | refine head_skip rfl ?_
              simp only [Act.put, List.setIfInBounds_toArray, List.set_cons_zero, List.set_cons_succ]
              first | refine head_run rfl (fun w' kk => by subst kk; go_simp; rfl) ?_ | refine head_skip rfl ?_
              simp only [Act.put, List.setIfInBounds_toArray, List.set_cons_zero, List.set_cons_succ]
              first | refine head_run rfl (fun w' kk => by subst kk; go_simp; rfl) ?_ | refine head_skip rfl ?_
              simp only [Act.put, List.setIfInBounds_toArray, List.set_cons_zero, List.set_cons_succ]
              first | refine head_run rfl (fun w' kk => by subst kk; go_simp; rfl) ?_ | refine head_skip rfl ?_
              simp only [Act.put, List.setIfInBounds_toArray, List.set_cons_zero, List.set_cons_succ]
              first | refine head_run rfl (fun w' kk => by subst kk; go_simp; rfl) ?_ | refine head_skip rfl ?_
              simp only [Act.put, List.setIfInBounds_toArray, List.set_cons_zero, List.set_cons_succ]
              first | refine head_run rfl (fun w' kk => by subst kk; go_simp; rfl) ?_ | refine head_skip rfl ?_
              simp only [Act.put, List.setIfInBounds_toArray, List.set_cons_zero, List.set_cons_succ]
              refine head_nil ?_
              refine wpAnyH_done (by kernel_rfl) ?_ _
              refine ha _ _ ?_
              go_wp2_with (first
                | (with_reducible refine wpList_load_w 23 _ rfl ?_ wr.heap.size 2 rfl (bv o.block) _ R2 Try.underlying23 rfl (rowH OKO.out.b) ?_; focus (first | (simp [Region.wanted, yielded]; done) | (go_simp; done) | kernel_rfl))
                | (with_reducible refine wpList_build_zero_w ?_ 23 rfl built_zero ?_; focus (first | (simp [Region.wanted, yielded]; done) | (go_simp; done) | kernel_rfl))
                | (with_reducible refine wpList_eql_w 23 _ _ _ rfl ?_ (xs := (bv o.block).toArray) (ys := (bv zero).toArray) rfl rfl hash_guard (HZ.out w7.drew) ?_; focus (first | (simp [Region.wanted, yielded]; done) | (go_simp; done) | kernel_rfl)))
              go_roundw
              case rel => exact ⟨1, by omega, by go_num, P8⟩
              case measure => simp [intOf]
          · obtain rfl : jn = n := by omega
            have E67 : wr.drew.cell? ⟨b, 67, none⟩ = some (.int .i64 s1.validR) := sb67 HBr.out OK1.out
            have E34 : wr.drew.cell? ⟨b, 34, none⟩ = some (.int .i64 s1.lockedR) := sb34 HBr.out OK1.out
            have E0 : wr.drew.cell? ⟨b, 0, none⟩ = some (.int .i64 s1.round) := sb0 HBr.out
            have F67 : wr.drew.cell? ⟨wbox, 67, none⟩ = some (.int .i64 s.validR) := sb67 HWr.out OK.out
            have F34 : wr.drew.cell? ⟨wbox, 34, none⟩ = some (.int .i64 s.lockedR) := sb34 HWr.out OK.out
            have p1 : decide (s1.validR < s1.lockedR) = false := decide_eq_false (by have := VTO.out.a; omega)
            have P5 : Hid (Lp W wr.drew b s1) := Lib.hid ⟨HBr.out, OK1.out, VTO.out, (KW.out.trans KC.out (fun _ f => .inl f)).drew, NB.out⟩
            clear hn1 hng hj hjn
            go_wp2_with fail
            by_cases hv1 : s1.validR = s.validR
            · have p3 : (s1.validR != s.validR) = false := by simpa using hv1
              clear hv1
              rename_i ha
              refine wp_region_lexH 37 0 #[true, true, true, true, true, true, true, true, true, true, true, true, true, true, true, true, true, true, true, true, true, true, true, true, true, true, true, true, true, true, true, true, true, true, true, true, true] (by kernel_rfl) (by kernel_rfl) (by kernel_rfl) (by kernel_rfl) (by kernel_rfl) (fun w' => w' = wr.drew) rfl ?_
              first | refine head_run rfl (fun w' kk => by subst kk; go_simp; rfl) ?_ | refine head_skip rfl ?_
              simp only [Act.put, List.setIfInBounds_toArray, List.set_cons_zero, List.set_cons_succ]
              first | refine head_run rfl (fun w' kk => by subst kk; go_simp; rfl) ?_ | refine head_skip rfl ?_
              simp only [Act.put, List.setIfInBounds_toArray, List.set_cons_zero, List.set_cons_succ]
              first | refine head_run rfl (fun w' kk => by subst kk; go_simp; rfl) ?_ | refine head_skip rfl ?_
              simp only [Act.put, List.setIfInBounds_toArray, List.set_cons_zero, List.set_cons_succ]
              first | refine head_run rfl (fun w' kk => by subst kk; go_simp; rfl) ?_ | refine head_skip rfl ?_
              simp only [Act.put, List.setIfInBounds_toArray, List.set_cons_zero, List.set_cons_succ]
              first | refine head_run rfl (fun w' kk => by subst kk; go_simp; rfl) ?_ | refine head_skip rfl ?_
              simp only [Act.put, List.setIfInBounds_toArray, List.set_cons_zero, List.set_cons_succ]
              first | refine head_run rfl (fun w' kk => by subst kk; go_simp; rfl) ?_ | refine head_skip rfl ?_
              simp only [Act.put, List.setIfInBounds_toArray, List.set_cons_zero, List.set_cons_succ]
              first | refine head_run rfl (fun w' kk => by subst kk; go_simp; rfl) ?_ | refine head_skip rfl ?_
              simp only [Act.put, List.setIfInBounds_toArray, List.set_cons_zero, List.set_cons_succ]
              first | refine head_run rfl (fun w' kk => by subst kk; go_simp; rfl) ?_ | refine head_skip rfl ?_
              simp only [Act.put, List.setIfInBounds_toArray, List.set_cons_zero, List.set_cons_succ]
              first | refine head_run rfl (fun w' kk => by subst kk; go_simp; rfl) ?_ | refine head_skip rfl ?_
              simp only [Act.put, List.setIfInBounds_toArray, List.set_cons_zero, List.set_cons_succ]
              first | refine head_run rfl (fun w' kk => by subst kk; go_simp; rfl) ?_ | refine head_skip rfl ?_
              simp only [Act.put, List.setIfInBounds_toArray, List.set_cons_zero, List.set_cons_succ]
              first | refine head_run rfl (fun w' kk => by subst kk; go_simp; rfl) ?_ | refine head_skip rfl ?_
              simp only [Act.put, List.setIfInBounds_toArray, List.set_cons_zero, List.set_cons_succ]
              first | refine head_run rfl (fun w' kk => by subst kk; go_simp; rfl) ?_ | refine head_skip rfl ?_
              simp only [Act.put, List.setIfInBounds_toArray, List.set_cons_zero, List.set_cons_succ]
              first | refine head_run rfl (fun w' kk => by subst kk; go_simp; rfl) ?_ | refine head_skip rfl ?_
              simp only [Act.put, List.setIfInBounds_toArray, List.set_cons_zero, List.set_cons_succ]
              first | refine head_run rfl (fun w' kk => by subst kk; go_simp; rfl) ?_ | refine head_skip rfl ?_
              simp only [Act.put, List.setIfInBounds_toArray, List.set_cons_zero, List.set_cons_succ]
              first | refine head_run rfl (fun w' kk => by subst kk; go_simp; rfl) ?_ | refine head_skip rfl ?_
              simp only [Act.put, List.setIfInBounds_toArray, List.set_cons_zero, List.set_cons_succ]
              first | refine head_run rfl (fun w' kk => by subst kk; go_simp; rfl) ?_ | refine head_skip rfl ?_
              simp only [Act.put, List.setIfInBounds_toArray, List.set_cons_zero, List.set_cons_succ]
              first | refine head_run rfl (fun w' kk => by subst kk; go_simp; rfl) ?_ | refine head_skip rfl ?_
              simp only [Act.put, List.setIfInBounds_toArray, List.set_cons_zero, List.set_cons_succ]
              first | refine head_run rfl (fun w' kk => by subst kk; go_simp; rfl) ?_ | refine head_skip rfl ?_
              simp only [Act.put, List.setIfInBounds_toArray, List.set_cons_zero, List.set_cons_succ]
              first | refine head_run rfl (fun w' kk => by subst kk; go_simp; rfl) ?_ | refine head_skip rfl ?_
              simp only [Act.put, List.setIfInBounds_toArray, List.set_cons_zero, List.set_cons_succ]
              first | refine head_run rfl (fun w' kk => by subst kk; go_simp; rfl) ?_ | refine head_skip rfl ?_
              simp only [Act.put, List.setIfInBounds_toArray, List.set_cons_zero, List.set_cons_succ]
              first | refine head_run rfl (fun w' kk => by subst kk; go_simp; rfl) ?_ | refine head_skip rfl ?_
              simp only [Act.put, List.setIfInBounds_toArray, List.set_cons_zero, List.set_cons_succ]
              first | refine head_run rfl (fun w' kk => by subst kk; go_simp; rfl) ?_ | refine head_skip rfl ?_
              simp only [Act.put, List.setIfInBounds_toArray, List.set_cons_zero, List.set_cons_succ]
              first | refine head_run rfl (fun w' kk => by subst kk; go_simp; rfl) ?_ | refine head_skip rfl ?_
              simp only [Act.put, List.setIfInBounds_toArray, List.set_cons_zero, List.set_cons_succ]
              first | refine head_run rfl (fun w' kk => by subst kk; go_simp; rfl) ?_ | refine head_skip rfl ?_
              simp only [Act.put, List.setIfInBounds_toArray, List.set_cons_zero, List.set_cons_succ]
              first | refine head_run rfl (fun w' kk => by subst kk; go_simp; rfl) ?_ | refine head_skip rfl ?_
              simp only [Act.put, List.setIfInBounds_toArray, List.set_cons_zero, List.set_cons_succ]
              first | refine head_run rfl (fun w' kk => by subst kk; go_simp; rfl) ?_ | refine head_skip rfl ?_
              simp only [Act.put, List.setIfInBounds_toArray, List.set_cons_zero, List.set_cons_succ]
              first | refine head_run rfl (fun w' kk => by subst kk; go_simp; rfl) ?_ | refine head_skip rfl ?_
              simp only [Act.put, List.setIfInBounds_toArray, List.set_cons_zero, List.set_cons_succ]
              first | refine head_run rfl (fun w' kk => by subst kk; go_simp; rfl) ?_ | refine head_skip rfl ?_
              simp only [Act.put, List.setIfInBounds_toArray, List.set_cons_zero, List.set_cons_succ]
              first | refine head_run rfl (fun w' kk => by subst kk; go_simp; rfl) ?_ | refine head_skip rfl ?_
              simp only [Act.put, List.setIfInBounds_toArray, List.set_cons_zero, List.set_cons_succ]
              first | refine head_run rfl (fun w' kk => by subst kk; go_simp; rfl) ?_ | refine head_skip rfl ?_
              simp only [Act.put, List.setIfInBounds_toArray, List.set_cons_zero, List.set_cons_succ]
              first | refine head_run rfl (fun w' kk => by subst kk; go_simp; rfl) ?_ | refine head_skip rfl ?_
              simp only [Act.put, List.setIfInBounds_toArray, List.set_cons_zero, List.set_cons_succ]
              first | refine head_run rfl (fun w' kk => by subst kk; go_simp; rfl) ?_ | refine head_skip rfl ?_
              simp only [Act.put, List.setIfInBounds_toArray, List.set_cons_zero, List.set_cons_succ]
              first | refine head_run rfl (fun w' kk => by subst kk; go_simp; rfl) ?_ | refine head_skip rfl ?_
              simp only [Act.put, List.setIfInBounds_toArray, List.set_cons_zero, List.set_cons_succ]
              first | refine head_run rfl (fun w' kk => by subst kk; go_simp; rfl) ?_ | refine head_skip rfl ?_
              simp only [Act.put, List.setIfInBounds_toArray, List.set_cons_zero, List.set_cons_succ]
              first | refine head_run rfl (fun w' kk => by subst kk; go_simp; rfl) ?_ | refine head_skip rfl ?_
              simp only [Act.put, List.setIfInBounds_toArray, List.set_cons_zero, List.set_cons_succ]
              first | refine head_run rfl (fun w' kk => by subst kk; go_simp; rfl) ?_ | refine head_skip rfl ?_
              simp only [Act.put, List.setIfInBounds_toArray, List.set_cons_zero, List.set_cons_succ]
              first | refine head_run rfl (fun w' kk => by subst kk; go_simp; rfl) ?_ | refine head_skip rfl ?_
              simp only [Act.put, List.setIfInBounds_toArray, List.set_cons_zero, List.set_cons_succ]
              refine head_nil ?_
              refine wpAnyH_done (by kernel_rfl) ?_ _
              refine ha _ _ ?_
              by_cases hl1 : s1.lockedR = s.lockedR
              · have p2 : (s1.lockedR != s.lockedR) = false := by simpa using hl1
                clear hl1
                go_wp2_with fail
                go_roundw
                case rel => exact ⟨k + 1, s1, by omega, by omega, by go_num, P5⟩
                case measure => simp [intOf]; omega
              · have p2 : (s1.lockedR != s.lockedR) = true := by simpa using hl1
                have HQ := Lib.hid (VL.out.resolve_left hl1)
                clear hl1
                have R35 : wr.drew.rangeAt b 35 (bv s1.valid) := (sb35 HBr.out OK1.out).1
                have R2 : wr.drew.rangeAt b 2 (bv s1.valid) := by rw [← HQ.out]; exact (sb2 HBr.out OK1.out).1
                have HE := Lib.hid (run_eq_hash · OK1.out.v OK1.out.v)
                rw [decide_eq_true rfl] at HE
                go_wp2_with (first
                  | (with_reducible refine wpList_load_w 23 _ rfl ?_ b 2 rfl (bv s1.valid) _ R2 Try.underlying23 rfl (rowH OK1.out.v) ?_; focus (first | (simp [Region.wanted, yielded]; done) | (go_simp; done) | kernel_rfl))
                  | (with_reducible refine wpList_load_w 23 _ rfl ?_ b 35 rfl (bv s1.valid) _ R35 Try.underlying23 rfl (rowH OK1.out.v) ?_; focus (first | (simp [Region.wanted, yielded]; done) | (go_simp; done) | kernel_rfl))
                  | (with_reducible refine wpList_neq_w 23 _ _ _ rfl ?_ (xs := (bv s1.valid).toArray) (ys := (bv s1.valid).toArray) rfl rfl hash_guard (HE.out wr.drew) ?_; focus (first | (simp [Region.wanted, yielded]; done) | (go_simp; done) | kernel_rfl)))
                go_roundw
                case rel => exact ⟨k + 1, s1, by omega, by omega, by go_num, P5⟩
                case measure => simp [intOf]; omega
            · have p3 : (s1.validR != s.validR) = true := by simpa using hv1
              obtain ⟨u1, u2, u3, u4⟩ := VV.out.resolve_left hv1
              have p4 : (s1.validR != s1.round) = false := by simpa using u1
              have p5 : decide (s1.validR < s.validR) = false := decide_eq_false (by omega)
              have G0 : wr.drew.cell? ⟨eb, eo + k * 68, none⟩ = some (.int .i64 5) := by
                have := ib0 HXr.out
                rwa [u2] at this
              have GX : wr.drew.rangeAt eb (eo + k * 68 + 2) (bv x.block) := ib2 HXr.out
              have GS : wr.drew.rangeAt b 35 (bv x.block) := by rw [← u3]; exact (sb35 HBr.out OK1.out).1
              clear u1 u2 u3 u4 hv1
              rename_i ha
              refine wp_region_lexH 37 0 #[true, true, true, true, true, true, true, true, true, true, true, true, true, true, true, true, true, true, true, true, true, true, true, true, true, true, true, true, true, true, true, true, true, true, true, true, true] (by kernel_rfl) (by kernel_rfl) (by kernel_rfl) (by kernel_rfl) (by kernel_rfl) (fun w' => w' = wr.drew) rfl ?_
              first | refine head_run rfl (fun w' kk => by subst kk; go_simp; rfl) ?_ | refine head_skip rfl ?_
              simp only [Act.put, List.setIfInBounds_toArray, List.set_cons_zero, List.set_cons_succ]
              first | refine head_run rfl (fun w' kk => by subst kk; go_simp; rfl) ?_ | refine head_skip rfl ?_
              simp only [Act.put, List.setIfInBounds_toArray, List.set_cons_zero, List.set_cons_succ]
              first | refine head_run rfl (fun w' kk => by subst kk; go_simp; rfl) ?_ | refine head_skip rfl ?_
              simp only [Act.put, List.setIfInBounds_toArray, List.set_cons_zero, List.set_cons_succ]
              first | refine head_run rfl (fun w' kk => by subst kk; go_simp; rfl) ?_ | refine head_skip rfl ?_
              simp only [Act.put, List.setIfInBounds_toArray, List.set_cons_zero, List.set_cons_succ]
              first | refine head_run rfl (fun w' kk => by subst kk; go_simp; rfl) ?_ | refine head_skip rfl ?_
              simp only [Act.put, List.setIfInBounds_toArray, List.set_cons_zero, List.set_cons_succ]
              first | refine head_run rfl (fun w' kk => by subst kk; go_simp; rfl) ?_ | refine head_skip rfl ?_
              simp only [Act.put, List.setIfInBounds_toArray, List.set_cons_zero, List.set_cons_succ]
              first | refine head_run rfl (fun w' kk => by subst kk; go_simp; rfl) ?_ | refine head_skip rfl ?_
              simp only [Act.put, List.setIfInBounds_toArray, List.set_cons_zero, List.set_cons_succ]
              first | refine head_run rfl (fun w' kk => by subst kk; go_simp; rfl) ?_ | refine head_skip rfl ?_
              simp only [Act.put, List.setIfInBounds_toArray, List.set_cons_zero, List.set_cons_succ]
              first | refine head_run rfl (fun w' kk => by subst kk; go_simp; rfl) ?_ | refine head_skip rfl ?_
              simp only [Act.put, List.setIfInBounds_toArray, List.set_cons_zero, List.set_cons_succ]
              first | refine head_run rfl (fun w' kk => by subst kk; go_simp; rfl) ?_ | refine head_skip rfl ?_
              simp only [Act.put, List.setIfInBounds_toArray, List.set_cons_zero, List.set_cons_succ]
              first | refine head_run rfl (fun w' kk => by subst kk; go_simp; rfl) ?_ | refine head_skip rfl ?_
              simp only [Act.put, List.setIfInBounds_toArray, List.set_cons_zero, List.set_cons_succ]
              first | refine head_run rfl (fun w' kk => by subst kk; go_simp; rfl) ?_ | refine head_skip rfl ?_
              simp only [Act.put, List.setIfInBounds_toArray, List.set_cons_zero, List.set_cons_succ]
              first | refine head_run rfl (fun w' kk => by subst kk; go_simp; rfl) ?_ | refine head_skip rfl ?_
              simp only [Act.put, List.setIfInBounds_toArray, List.set_cons_zero, List.set_cons_succ]
              first | refine head_run rfl (fun w' kk => by subst kk; go_simp; rfl) ?_ | refine head_skip rfl ?_
              simp only [Act.put, List.setIfInBounds_toArray, List.set_cons_zero, List.set_cons_succ]
              first | refine head_run rfl (fun w' kk => by subst kk; go_simp; rfl) ?_ | refine head_skip rfl ?_
              simp only [Act.put, List.setIfInBounds_toArray, List.set_cons_zero, List.set_cons_succ]
              first | refine head_run rfl (fun w' kk => by subst kk; go_simp; rfl) ?_ | refine head_skip rfl ?_
              simp only [Act.put, List.setIfInBounds_toArray, List.set_cons_zero, List.set_cons_succ]
              first | refine head_run rfl (fun w' kk => by subst kk; go_simp; rfl) ?_ | refine head_skip rfl ?_
              simp only [Act.put, List.setIfInBounds_toArray, List.set_cons_zero, List.set_cons_succ]
              first | refine head_run rfl (fun w' kk => by subst kk; go_simp; rfl) ?_ | refine head_skip rfl ?_
              simp only [Act.put, List.setIfInBounds_toArray, List.set_cons_zero, List.set_cons_succ]
              first | refine head_run rfl (fun w' kk => by subst kk; go_simp; rfl) ?_ | refine head_skip rfl ?_
              simp only [Act.put, List.setIfInBounds_toArray, List.set_cons_zero, List.set_cons_succ]
              first | refine head_run rfl (fun w' kk => by subst kk; go_simp; rfl) ?_ | refine head_skip rfl ?_
              simp only [Act.put, List.setIfInBounds_toArray, List.set_cons_zero, List.set_cons_succ]
              first | refine head_run rfl (fun w' kk => by subst kk; go_simp; rfl) ?_ | refine head_skip rfl ?_
              simp only [Act.put, List.setIfInBounds_toArray, List.set_cons_zero, List.set_cons_succ]
              refine head_load rfl _ _ rfl b 35 rfl (bv x.block) _ (fun w' kk => by subst kk; exact GS) Try.underlying23 rfl (rowH OX.out.b) ?_
              simp only [Act.put, List.setIfInBounds_toArray, List.set_cons_zero, List.set_cons_succ]
              first | refine head_run rfl (fun w' kk => by subst kk; go_simp; rfl) ?_ | refine head_skip rfl ?_
              simp only [Act.put, List.setIfInBounds_toArray, List.set_cons_zero, List.set_cons_succ]
              first | refine head_run rfl (fun w' kk => by subst kk; go_simp; rfl) ?_ | refine head_skip rfl ?_
              simp only [Act.put, List.setIfInBounds_toArray, List.set_cons_zero, List.set_cons_succ]
              first | refine head_run rfl (fun w' kk => by subst kk; go_simp; rfl) ?_ | refine head_skip rfl ?_
              simp only [Act.put, List.setIfInBounds_toArray, List.set_cons_zero, List.set_cons_succ]
              first | refine head_run rfl (fun w' kk => by subst kk; go_simp; rfl) ?_ | refine head_skip rfl ?_
              simp only [Act.put, List.setIfInBounds_toArray, List.set_cons_zero, List.set_cons_succ]
              refine head_load rfl _ _ rfl eb (eo + k * 68 + 2) rfl (bv x.block) _ (fun w' kk => by subst kk; exact GX) Try.underlying23 rfl (rowH OX.out.b) ?_
              simp only [Act.put, List.setIfInBounds_toArray, List.set_cons_zero, List.set_cons_succ]
              refine head_neqH rfl _ _ _ rfl x.block x.block rfl rfl OX.out.b OX.out.b (b := true) (by simp) ?_
              simp only [Act.put, List.setIfInBounds_toArray, List.set_cons_zero, List.set_cons_succ]
              first | refine head_run rfl (fun w' kk => by subst kk; go_simp; rfl) ?_ | refine head_skip rfl ?_
              simp only [Act.put, List.setIfInBounds_toArray, List.set_cons_zero, List.set_cons_succ]
              first | refine head_run rfl (fun w' kk => by subst kk; go_simp; rfl) ?_ | refine head_skip rfl ?_
              simp only [Act.put, List.setIfInBounds_toArray, List.set_cons_zero, List.set_cons_succ]
              first | refine head_run rfl (fun w' kk => by subst kk; go_simp; rfl) ?_ | refine head_skip rfl ?_
              simp only [Act.put, List.setIfInBounds_toArray, List.set_cons_zero, List.set_cons_succ]
              first | refine head_run rfl (fun w' kk => by subst kk; go_simp; rfl) ?_ | refine head_skip rfl ?_
              simp only [Act.put, List.setIfInBounds_toArray, List.set_cons_zero, List.set_cons_succ]
              first | refine head_run rfl (fun w' kk => by subst kk; go_simp; rfl) ?_ | refine head_skip rfl ?_
              simp only [Act.put, List.setIfInBounds_toArray, List.set_cons_zero, List.set_cons_succ]
              first | refine head_run rfl (fun w' kk => by subst kk; go_simp; rfl) ?_ | refine head_skip rfl ?_
              simp only [Act.put, List.setIfInBounds_toArray, List.set_cons_zero, List.set_cons_succ]
              first | refine head_run rfl (fun w' kk => by subst kk; go_simp; rfl) ?_ | refine head_skip rfl ?_
              simp only [Act.put, List.setIfInBounds_toArray, List.set_cons_zero, List.set_cons_succ]
              first | refine head_run rfl (fun w' kk => by subst kk; go_simp; rfl) ?_ | refine head_skip rfl ?_
              simp only [Act.put, List.setIfInBounds_toArray, List.set_cons_zero, List.set_cons_succ]
              first | refine head_run rfl (fun w' kk => by subst kk; go_simp; rfl) ?_ | refine head_skip rfl ?_
              simp only [Act.put, List.setIfInBounds_toArray, List.set_cons_zero, List.set_cons_succ]
              refine head_nil ?_
              refine wpAnyH_done (by kernel_rfl) ?_ _
              refine ha _ _ ?_
              by_cases hl1 : s1.lockedR = s.lockedR
              · have p2 : (s1.lockedR != s.lockedR) = false := by simpa using hl1
                clear hl1
                go_wp2_with fail
                go_roundw
                case rel => exact ⟨k + 1, s1, by omega, by omega, by go_num, P5⟩
                case measure => simp [intOf]; omega
              · have p2 : (s1.lockedR != s.lockedR) = true := by simpa using hl1
                have HQ := Lib.hid (VL.out.resolve_left hl1)
                clear hl1
                have R35 : wr.drew.rangeAt b 35 (bv s1.valid) := (sb35 HBr.out OK1.out).1
                have R2 : wr.drew.rangeAt b 2 (bv s1.valid) := by rw [← HQ.out]; exact (sb2 HBr.out OK1.out).1
                have HE := Lib.hid (run_eq_hash · OK1.out.v OK1.out.v)
                rw [decide_eq_true rfl] at HE
                go_wp2_with (first
                  | (with_reducible refine wpList_load_w 23 _ rfl ?_ b 2 rfl (bv s1.valid) _ R2 Try.underlying23 rfl (rowH OK1.out.v) ?_; focus (first | (simp [Region.wanted, yielded]; done) | (go_simp; done) | kernel_rfl))
                  | (with_reducible refine wpList_load_w 23 _ rfl ?_ b 35 rfl (bv s1.valid) _ R35 Try.underlying23 rfl (rowH OK1.out.v) ?_; focus (first | (simp [Region.wanted, yielded]; done) | (go_simp; done) | kernel_rfl))
                  | (with_reducible refine wpList_neq_w 23 _ _ _ rfl ?_ (xs := (bv s1.valid).toArray) (ys := (bv s1.valid).toArray) rfl rfl hash_guard (HE.out wr.drew) ?_; focus (first | (simp [Region.wanted, yielded]; done) | (go_simp; done) | kernel_rfl)))
                go_roundw
                case rel => exact ⟨k + 1, s1, by omega, by omega, by go_num, P5⟩
                case measure => simp [intOf]; omega
      · have hk' : decide ((k : Int) < 200) = false := by simp; omega
        go_wp2_with fail
        refine (alive_any _).mono ?_
        rintro e w9 ⟨rfl, k9⟩
        go_wp2
        go_ret
        exact ⟨rfl, (LP.out.k.trans k9 (fun _ f => .inl f)).below (Nat.le_refl _) (fun _ f => f.elim)⟩
    · obtain rfl : k = l.length := by omega
      go_wp2_with fail
      refine (alive_any _).mono ?_
      rintro e w9 ⟨rfl, k9⟩
      go_wp2
      go_ret
      exact ⟨rfl, (LP.out.k.trans k9 (fun _ f => .inl f)).below (Nat.le_refl _) (fun _ f => f.elim)⟩

/-! ### The row's frame -/
theorem own : ownKnob Try.prog.godebug = none := by kernel_rfl
theorem walkA (W : World) (args : Array Value) (hsz : args.size = Try.f7.params.size) (hok : ∀ (j : Nat) (t : TypeId) (v : Value), Try.f7.params[j]? = some t → args[j]? = some v → Okv Try.prog W t v) :
    Calls Try.prog 7 args W fun e W' => e = .returned (.bool true) ∧ Below W.heap.size W W' := by
  rw [Try.params7] at hsz hok
  obtain ⟨v0, rfl⟩ : ∃ v0 : Value, args = #[v0] := by
    obtain ⟨l⟩ := args
    match l, hsz with
    | [v0], _ => exact ⟨v0, rfl⟩
  exact walk W v0 (hok 0 42 v0 rfl rfl)
set_option maxRecDepth 100000 in
theorem lifted (os : Os) (started : os.Started) (H : Type) (enc : TypeId × Value → H) :
    ReturnsInHanded {} Try.checked os 7 .any (Rows.roundValidSpec.pre6 enc Try.prog Try.f7 Rows.roundValidRow.domain false) (Rows.roundValidSpec.post enc Try.prog Try.f7 false true false false) :=
  lifted_of_walk (C := Try.checked) (s := Rows.roundValidSpec) (conds := Rows.roundValidRow.domain) (apart := false) (fresh := true) (T := 4) own started (by kernel_rfl) Try.func7
    (ChangeSpec.witness6 (enc := enc) (C := Try.checked) false ⟨#[], #[.slice none 0 0], []⟩ 8 (by kernel_rfl) (by kernel_rfl) (by kernel_rfl) (by kernel_rfl))
    rfl (fun ds hd => by
      rw [Try.params7] at hd
      match ds, hd with
      | [d0], _ => exact ⟨rfl, rfl, rfl⟩)
    (by kernel_rfl) Try.underlying4 (by kernel_rfl) (by rw [Try.params7]; intro t ht; simp only [List.mem_cons, List.not_mem_nil, or_false] at ht; subst ht; exact ⟨by kernel_rfl, of_decide_eq_true (by kernel_rfl)⟩) walkA

theorem holds : Rows.roundValidRow.holds Try.pinned (OpenSpec.ofChange Rows.roundValidSpec) :=
  OpenClaim.holds_of_wide 7 Try.f7 rfl rfl rfl rfl rfl rfl rfl ⟨rfl, rfl, rfl, rfl, rfl⟩ rfl rfl rfl rfl rfl (by kernel_rfl) Try.func7 (by kernel_rfl)
    (of_decide_eq_true (by kernel_rfl)) (by unfold Func.isWrapper; first | (rw [if_pos (by decide +kernel)]; kernel_rfl) | (rw [if_neg (by decide +kernel)]; exact ⟨rfl, rfl⟩))
    (fun os started H enc _ => lifted os started H enc)
end Go.Proofs.Ytdejfamcmebdiaa.roundValid
namespace Go.Proofs.Ytdejfamcmebdiaa
/-- The statement. -/
theorem roundValid_holds : Rows.RoundValidSaid := roundValid.holds
end Go.Proofs.Ytdejfamcmebdiaa
