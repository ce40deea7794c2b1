/- Of the program at this commit: the law RoundOnce answers true for every list of inputs (of its first 200: in each round at most one prevote, one precommit and one proposal is said, and rounds do not fall); no condition. -/
import Derived.Test.YtdejfamcmebdiaaRows
import Derived.WalkKit
import Derived.ProofKit
import Derived.Test.YtdejfamcmebdiaaRg
namespace Go.Proofs.Ytdejfamcmebdiaa.roundOnce
open Go.ChangeShapes Go.WideShapes Go.ChangeAt Go.RowKit
set_option linter.unusedVariables false

open mach
def arr4 (a b c : Int) : List Value := [.int .i64 (-1), .int .i64 a, .int .i64 b, .int .i64 c]
theorem z_A (w : World) : (Instr.alloc 43 true (.tuple #[])).run Try.prog w = .ok (.pointer (some ⟨w.heap.size, 0, none⟩)) (w.alloc (.cells [Value.int .i64 0, .int .i64 0, .int .i64 0, .int .i64 0].toArray 43)) := by kernel_rfl
theorem row_A : (Try.prog.info? 43).map (·.size) = some 4 := by kernel_rfl
theorem built_A : Try.prog.built 43 [(0, .int .i64 (-1)), (1, .int .i64 (-1)), (2, .int .i64 (-1)), (3, .int .i64 (-1))] = some (arr4 (-1) (-1) (-1)).toArray := by kernel_rfl
theorem one_A (a b c : Int) : ∀ v ∈ arr4 a b c, v.oneCell' = true := by
  intro v hv
  simp only [arr4, List.mem_cons, List.not_mem_nil, or_false] at hv
  rcases hv with rfl | rfl | rfl | rfl <;> rfl
/-- Ahead of a round of the loop. -/
structure Lp (W wr : World) (b m : Nat) (s : State) (l1 l2 l3 : Int) : Prop where
  hb : Hb wr b 25 s.cells.toArray
  a : Hb wr m 43 (arr4 l1 l2 l3).toArray
  ok : s.Ok
  on : Once s l1 l2 l3
  k : Chg Non W wr
  nb : W.heap.size ≤ b
  nm : b < m
set_option maxRecDepth 100000 in
set_option maxHeartbeats 6400000 in
theorem walk (W : World) (v0 : Value) (h0 : Okv Try.prog W 42 v0) :
    Calls Try.prog 4 #[v0] W fun e W' => e = .returned (.bool true) ∧ Below W.heap.size W W' := by
  obtain ⟨A, c, l, rfl, hl, hM, hok⟩ := ins_arg h0
  have HM := Lib.hid hM
  have HOK := Lib.hid hok
  unfold maxLen at hl
  clear h0 hM hok
  go_enter Try.func4, Try.ntmps4
  go_wp2_with (first
    | (go_at_call 15; go_loud (refine (New_any _).mono ?_; rintro e w1 ⟨rfl, k1⟩))
    | (with_reducible refine wpList_alloc_named rfl _ rfl s0.cells z_S ?_; intro w2 hw2; have hb2 : Hb w2 w1.heap.size 25 s0.cells.toArray := (by rw [hw2.out]; exact Hb.new _ _ _); have k2 : Chg Non w1 w2 := (by rw [hw2.out]; exact (Chg.refl _ _).alloc _); clear hw2)
    | ((with_reducible refine wpList_store_S rfl _ _ rfl w1.heap.size mach.start s0 rfl rfl hb2 start_ok s0_ok ?_); go_loud (intro w3 h3 k3; have K3 : Chg Non W w3 := k1.trans (k2.trans k3 (fun j hj => .inr (by have : j = w1.heap.size := hj; omega))) (fun _ f => .inl f); clear k2 k3 hb2))
    | (with_reducible refine wpList_build_parts rfl _ _ rfl [(0, .int .i64 (-1)), (1, .int .i64 (-1)), (2, .int .i64 (-1)), (3, .int .i64 (-1))] rfl built_A ?_)
    | (with_reducible refine wpList_alloc_named rfl _ rfl [Value.int .i64 0, .int .i64 0, .int .i64 0, .int .i64 0] z_A ?_; intro w4 hw4; have hb4 : Hb w4 w3.heap.size 43 [Value.int .i64 0, .int .i64 0, .int .i64 0, .int .i64 0].toArray := (by rw [hw4.out]; exact Hb.new _ _ _); have k4 : Chg Non w3 w4 := (by rw [hw4.out]; exact (Chg.refl _ _).alloc _); clear hw4)
    | ((with_reducible refine wpList_store_R rfl 43 _ _ rfl w3.heap.size (arr4 (-1) (-1) (-1)) [Value.int .i64 0, .int .i64 0, .int .i64 0, .int .i64 0] 4 rfl rfl hb4 rfl rfl row_A (one_A _ _ _) ?_); go_loud (intro w5 h5 k5; have k35 : Chg Non w3 w5 := k4.trans k5 (fun j hj => .inr (by have : j = w3.heap.size := hj; omega)); have L0 : Hid (Lp W w5 w1.heap.size w3.heap.size mach.start (-1) (-1) (-1)) := Lib.hid ⟨h3.chg k35 (fun f => f), h5, start_ok, once_start, K3.trans k35 (fun _ f => .inl f), k1.size, h3.lt⟩; clear k1 k4 k5 k35 h3 h5 hb4 K3)))
  generalize w1.heap.size = b at *
  generalize w3.heap.size = m at *
  go_loopw [5] (fun i wr => ∃ (k : Nat) (s : State) (l1 l2 l3 : Int), k ≤ l.length ∧ k ≤ 200 ∧ i = .int .i64 (k : Int) ∧ Hid (Lp W wr b m s l1 l2 l3)) (fun i _ => 200 - (intOf i).toNat)
  case atStart => exact ⟨0, _, _, _, _, by omega, by omega, rfl, L0⟩
  case round =>
    obtain ⟨k, s, l1, l2, l3, hkL, hk200, rfl, LP⟩ := hrel
    clear L0
    by_cases hkl : k < l.length
    · have hkl' : (k : Int) < (l.length : Int) := by omega
      by_cases hk : k < 200
      · have hk' : decide ((k : Int) < 200) = true := by simp; omega
        obtain ⟨x, hx⟩ : ∃ x, l[k]? = some x := ⟨_, List.getElem?_eq_getElem hkl⟩
        have OX := Lib.hid (HOK.out x (List.mem_of_getElem? hx))
        obtain ⟨eb, eo, rfl, hlt, hrg⟩ := HM.out k x hx
        have HEB := Lib.hid (Nat.lt_of_lt_of_le hlt LP.out.nb)
        have HRG := Lib.hid (LP.out.k.range' hrg (fun f => f))
        have HB := Lib.hid LP.out.hb
        have OK := Lib.hid LP.out.ok
        have c0 := sb0 HB.out
        clear hx hlt hrg
        go_wp2_with fail
        rename_i ha
        refine wp_region_heads [1, 2, 3, 4] 7 #[false, true, true, true, true, false, false, false, false, false, false] (by kernel_rfl) (by kernel_rfl) (by kernel_rfl) (by kernel_rfl) (by kernel_rfl) (fun w' => Chg (fun j => j = b) wr.drew w') (Chg.refl _ _) ?_
        refine headI_run rfl rfl (fun w' kk => by go_simp; rfl) ?_
        simp only [Act.put, List.setIfInBounds_toArray, List.set_cons_zero, List.set_cons_succ]
        refine headI_run rfl rfl (fun w' kk => by go_simp; rfl) ?_
        simp only [Act.put, List.setIfInBounds_toArray, List.set_cons_zero, List.set_cons_succ]
        refine headI_run rfl rfl (fun w' kk => by go_simp; rfl) ?_
        simp only [Act.put, List.setIfInBounds_toArray, List.set_cons_zero, List.set_cons_succ]
        refine headI_load rfl rfl _ _ rfl eb (eo + k * 68) rfl x.cells _ (fun w' kk => kk.range' (HRG.out) (by have := HEB.out; show ¬ (eb = b); omega)) Try.underlying27 rfl (rowI OX.out) ?_
        simp only [Act.put, List.setIfInBounds_toArray, List.set_cons_zero, List.set_cons_succ]
        refine headI_nil ?_
        refine step_tail (n := 80) (s := s) (i := x) rfl rfl rfl rfl rfl rfl rfl rfl rfl rfl rfl rfl rfl rfl (by kernel_rfl) (by kernel_rfl) (by kernel_rfl) (by kernel_rfl) (by kernel_rfl) (by kernel_rfl) (by kernel_rfl) rfl rfl rfl rfl rfl rfl rfl rfl rfl rfl rfl rfl rfl rfl rfl (by decide) (by decide) rfl rfl HB.out OK.out OX.out ?_
        intro w5 s1 v ol hr k5 ok1 hb1 o1
        refine ha _ _ ?_
        simp only [Act.put, List.setIfInBounds_toArray, List.set_cons_zero, List.set_cons_succ]
        have HN := once_step LP.out.on x
        rw [hr] at HN
        obtain ⟨hge, hout⟩ := HN
        have k5' : Chg (fun j => j = b) wr w5 := ⟨k5.os, k5.tape, k5.output, k5.size, k5.block⟩
        have KW := Lib.hid (LP.out.k.trans k5' (fun j hj => .inr (by have : j = b := hj; have := LP.out.nb; omega)))
        have A5 := Lib.hid (LP.out.a.chg k5' (by have := LP.out.nm; show ¬ (m = b); omega))
        have NB := Lib.hid LP.out.nb
        have NM := Lib.hid LP.out.nm
        have HB1 := Lib.hid hb1
        have OK1 := Lib.hid ok1
        have c1 : w5.cell? ⟨b, 0, none⟩ = some (.int .i64 s1.round) := sb0 hb1
        have hge' : decide (s1.round < s.round) = false := decide_eq_false (by simp only at hge; omega)
        clear hr k5 k5' hge LP hb1 ok1 c0
        simp only at hout
        cases hout with
        | none hon =>
          obtain rfl : v = .slice none 0 0 := o1
          have P5 : Hid (Lp W w5 b m s1 l1 l2 l3) := Lib.hid ⟨HB1.out, A5.out, OK1.out, hon, KW.out, NB.out, NM.out⟩
          clear hon
          go_wp2_with fail
          go_loopw [8] (fun j wi => j = .int .i64 0 ∧ wi = w5) (fun _ _ => 0)
          case atStart => exact ⟨rfl, rfl⟩
          case round =>
            obtain ⟨rfl, rfl⟩ := hrel
            go_wp2_with fail
            go_roundw
            case rel => exact ⟨k + 1, s1, l1, l2, l3, by omega, by omega, by go_num, P5⟩
            case measure => simp [intOf]; omega
        | k1 o ho1 ho2 ho3 hon =>
          obtain ⟨g, rfl, hg, ho5, oko⟩ := o1
          have HO := Lib.hid ho5
          have OKO := Lib.hid oko
          have HON := Lib.hid hon
          clear ho5 oko hon hg
          go_wp2_with fail
          go_loopw [8] (fun j wi => (j = .int .i64 0 ∧ wi = w5) ∨ (j = .int .i64 1 ∧ Hid (Lp W wi b m s1 o.round l2 l3))) (fun j _ => 1 - (intOf j).toNat)
          case atStart => exact .inl ⟨rfl, rfl⟩
          case round =>
            rcases hrel with ⟨rfl, rfl⟩ | ⟨rfl, P⟩
            · have HK := Lib.hid ho1
              have q1 : decide (o.round ≤ l1) = false := decide_eq_false (by omega)
              have q2 : (o.round != s1.round) = false := by simp [ho2]
              clear ho1 ho2 ho3
              go_wp2_with (first
                | (with_reducible refine wpList_load_mid rfl 45 _ rfl g 0 rfl o.cells _ HO.out.range0 Try.underlying45 rfl (rowO OKO.out) ?_)
                | (with_reducible refine wpList_alloc_named rfl _ rfl o0.cells z_O ?_; intro w6 hw6; have hb6 : Hb w6 wr.heap.size 45 o0.cells.toArray := (by rw [hw6.out]; exact Hb.new _ _ _); have k6 : Chg Non wr w6 := (by rw [hw6.out]; exact (Chg.refl _ _).alloc _); clear hw6)
                | ((with_reducible refine wpList_store_R rfl 45 _ _ rfl wr.heap.size o.cells o0.cells 35 rfl rfl hb6 OKO.out.len rfl row_O o.one ?_); go_loud (intro w7 h7 k7; have k57 : Chg Non wr w7 := k6.trans k7 (fun j hj => .inr (by have : j = wr.heap.size := hj; omega)); have d0 : w7.cell? ⟨wr.heap.size, 0, none⟩ = some (.int .i64 o.kind) := ob0 h7.range0; have d1 : w7.cell? ⟨wr.heap.size, 1, none⟩ = some (.int .i64 o.round) := ob1 h7.range0; rw [HK.out] at d0; have S7 := Lib.hid (HB1.out.chg k57 (fun f => f)); have A7 := Lib.hid (A5.out.chg k57 (fun f => f)); have K7 := Lib.hid (KW.out.trans k57 (fun _ f => .inl f)); clear h7 k7 k57 hb6 k6)))
              have D0 : w7.drew.cell? ⟨wr.heap.size, 0, none⟩ = some (.int .i64 1) := d0
              have D1 : w7.drew.cell? ⟨wr.heap.size, 1, none⟩ = some (.int .i64 o.round) := d1
              have D2 : w7.drew.cell? ⟨m, 1, none⟩ = some (.int .i64 l1) := A7.out.cell 1
              have D3 : w7.drew.frozen? ⟨m, 1, none⟩ = false := A7.out.frozen 1
              have D4 : w7.drew.cell? ⟨b, 0, none⟩ = some (.int .i64 s1.round) := sb0 S7.out
              rename_i ha
              refine wp_region_lexH 14 0 #[true, true, true, true, true, true, true, true, true, true, true, true, true, true] (by kernel_rfl) (by kernel_rfl) (by kernel_rfl) (by kernel_rfl) (by kernel_rfl) (fun w' => w' = w7.drew) rfl ?_
              refine head_run rfl (fun w' kk => by subst kk; go_simp; rfl) ?_
              simp only [Act.put, List.setIfInBounds_toArray, List.set_cons_zero, List.set_cons_succ]
              refine head_run rfl (fun w' kk => by subst kk; go_simp; rfl) ?_
              simp only [Act.put, List.setIfInBounds_toArray, List.set_cons_zero, List.set_cons_succ]
              refine head_run rfl (fun w' kk => by subst kk; go_simp; rfl) ?_
              simp only [Act.put, List.setIfInBounds_toArray, List.set_cons_zero, List.set_cons_succ]
              refine head_run rfl (fun w' kk => by subst kk; go_simp; rfl) ?_
              simp only [Act.put, List.setIfInBounds_toArray, List.set_cons_zero, List.set_cons_succ]
              refine head_run rfl (fun w' kk => by subst kk; go_simp; rfl) ?_
              simp only [Act.put, List.setIfInBounds_toArray, List.set_cons_zero, List.set_cons_succ]
              refine head_run rfl (fun w' kk => by subst kk; go_simp; rfl) ?_
              simp only [Act.put, List.setIfInBounds_toArray, List.set_cons_zero, List.set_cons_succ]
              refine head_run rfl (fun w' kk => by subst kk; go_simp; rfl) ?_
              simp only [Act.put, List.setIfInBounds_toArray, List.set_cons_zero, List.set_cons_succ]
              refine head_run rfl (fun w' kk => by subst kk; go_simp; rfl) ?_
              simp only [Act.put, List.setIfInBounds_toArray, List.set_cons_zero, List.set_cons_succ]
              refine head_run rfl (fun w' kk => by subst kk; go_simp; rfl) ?_
              simp only [Act.put, List.setIfInBounds_toArray, List.set_cons_zero, List.set_cons_succ]
              refine head_run rfl (fun w' kk => by subst kk; go_simp; rfl) ?_
              simp only [Act.put, List.setIfInBounds_toArray, List.set_cons_zero, List.set_cons_succ]
              refine head_run rfl (fun w' kk => by subst kk; go_simp; rfl) ?_
              simp only [Act.put, List.setIfInBounds_toArray, List.set_cons_zero, List.set_cons_succ]
              refine head_run rfl (fun w' kk => by subst kk; go_simp; rfl) ?_
              simp only [Act.put, List.setIfInBounds_toArray, List.set_cons_zero, List.set_cons_succ]
              refine head_run rfl (fun w' kk => by subst kk; go_simp; rfl) ?_
              simp only [Act.put, List.setIfInBounds_toArray, List.set_cons_zero, List.set_cons_succ]
              refine head_run rfl (fun w' kk => by subst kk; go_simp; rfl) ?_
              simp only [Act.put, List.setIfInBounds_toArray, List.set_cons_zero, List.set_cons_succ]
              refine head_nil ?_
              refine wpAnyH_done (by kernel_rfl) ?_ _
              refine ha _ _ ?_
              have P8 : Hid (Lp W (w7.drew.setCell ⟨m, 1, none⟩ (.int .i64 o.round)) b m s1 o.round l2 l3) := Lib.hid ⟨Hb.far (w := w7.drew) S7.out (by have := NM.out; show b ≠ m; omega) _, Hb.set (w := w7.drew) A7.out 1 _, OK1.out, HON.out, (K7.out.drew).setCell (p := ⟨m, 1, none⟩) (.inr (by have := NB.out; have := NM.out; show W.heap.size ≤ m; omega)) _, NB.out, NM.out⟩
              go_wp2_with fail
              go_roundw
              case rel => exact .inr ⟨by go_num, P8⟩
              case measure => simp [intOf]
            · go_wp2_with fail
              go_roundw
              case rel => exact ⟨k + 1, s1, _, _, _, by omega, by omega, by go_num, P⟩
              case measure => simp [intOf]; omega
        | k2 o ho1 ho2 ho3 hon =>
          obtain ⟨g, rfl, hg, ho5, oko⟩ := o1
          have HO := Lib.hid ho5
          have OKO := Lib.hid oko
          have HON := Lib.hid hon
          clear ho5 oko hon hg
          go_wp2_with fail
          go_loopw [8] (fun j wi => (j = .int .i64 0 ∧ wi = w5) ∨ (j = .int .i64 1 ∧ Hid (Lp W wi b m s1 l1 o.round l3))) (fun j _ => 1 - (intOf j).toNat)
          case atStart => exact .inl ⟨rfl, rfl⟩
          case round =>
            rcases hrel with ⟨rfl, rfl⟩ | ⟨rfl, P⟩
            · have HK := Lib.hid ho1
              have q1 : decide (o.round ≤ l2) = false := decide_eq_false (by omega)
              have q2 : (o.round != s1.round) = false := by simp [ho2]
              clear ho1 ho2 ho3
              go_wp2_with (first
                | (with_reducible refine wpList_load_mid rfl 45 _ rfl g 0 rfl o.cells _ HO.out.range0 Try.underlying45 rfl (rowO OKO.out) ?_)
                | (with_reducible refine wpList_alloc_named rfl _ rfl o0.cells z_O ?_; intro w6 hw6; have hb6 : Hb w6 wr.heap.size 45 o0.cells.toArray := (by rw [hw6.out]; exact Hb.new _ _ _); have k6 : Chg Non wr w6 := (by rw [hw6.out]; exact (Chg.refl _ _).alloc _); clear hw6)
                | ((with_reducible refine wpList_store_R rfl 45 _ _ rfl wr.heap.size o.cells o0.cells 35 rfl rfl hb6 OKO.out.len rfl row_O o.one ?_); go_loud (intro w7 h7 k7; have k57 : Chg Non wr w7 := k6.trans k7 (fun j hj => .inr (by have : j = wr.heap.size := hj; omega)); have d0 : w7.cell? ⟨wr.heap.size, 0, none⟩ = some (.int .i64 o.kind) := ob0 h7.range0; have d1 : w7.cell? ⟨wr.heap.size, 1, none⟩ = some (.int .i64 o.round) := ob1 h7.range0; rw [HK.out] at d0; have S7 := Lib.hid (HB1.out.chg k57 (fun f => f)); have A7 := Lib.hid (A5.out.chg k57 (fun f => f)); have K7 := Lib.hid (KW.out.trans k57 (fun _ f => .inl f)); clear h7 k7 k57 hb6 k6)))
              have D0 : w7.drew.cell? ⟨wr.heap.size, 0, none⟩ = some (.int .i64 2) := d0
              have D1 : w7.drew.cell? ⟨wr.heap.size, 1, none⟩ = some (.int .i64 o.round) := d1
              have D2 : w7.drew.cell? ⟨m, 2, none⟩ = some (.int .i64 l2) := A7.out.cell 2
              have D3 : w7.drew.frozen? ⟨m, 2, none⟩ = false := A7.out.frozen 2
              have D4 : w7.drew.cell? ⟨b, 0, none⟩ = some (.int .i64 s1.round) := sb0 S7.out
              rename_i ha
              refine wp_region_lexH 14 0 #[true, true, true, true, true, true, true, true, true, true, true, true, true, true] (by kernel_rfl) (by kernel_rfl) (by kernel_rfl) (by kernel_rfl) (by kernel_rfl) (fun w' => w' = w7.drew) rfl ?_
              refine head_run rfl (fun w' kk => by subst kk; go_simp; rfl) ?_
              simp only [Act.put, List.setIfInBounds_toArray, List.set_cons_zero, List.set_cons_succ]
              refine head_run rfl (fun w' kk => by subst kk; go_simp; rfl) ?_
              simp only [Act.put, List.setIfInBounds_toArray, List.set_cons_zero, List.set_cons_succ]
              refine head_run rfl (fun w' kk => by subst kk; go_simp; rfl) ?_
              simp only [Act.put, List.setIfInBounds_toArray, List.set_cons_zero, List.set_cons_succ]
              refine head_run rfl (fun w' kk => by subst kk; go_simp; rfl) ?_
              simp only [Act.put, List.setIfInBounds_toArray, List.set_cons_zero, List.set_cons_succ]
              refine head_run rfl (fun w' kk => by subst kk; go_simp; rfl) ?_
              simp only [Act.put, List.setIfInBounds_toArray, List.set_cons_zero, List.set_cons_succ]
              refine head_run rfl (fun w' kk => by subst kk; go_simp; rfl) ?_
              simp only [Act.put, List.setIfInBounds_toArray, List.set_cons_zero, List.set_cons_succ]
              refine head_run rfl (fun w' kk => by subst kk; go_simp; rfl) ?_
              simp only [Act.put, List.setIfInBounds_toArray, List.set_cons_zero, List.set_cons_succ]
              refine head_run rfl (fun w' kk => by subst kk; go_simp; rfl) ?_
              simp only [Act.put, List.setIfInBounds_toArray, List.set_cons_zero, List.set_cons_succ]
              refine head_run rfl (fun w' kk => by subst kk; go_simp; rfl) ?_
              simp only [Act.put, List.setIfInBounds_toArray, List.set_cons_zero, List.set_cons_succ]
              refine head_run rfl (fun w' kk => by subst kk; go_simp; rfl) ?_
              simp only [Act.put, List.setIfInBounds_toArray, List.set_cons_zero, List.set_cons_succ]
              refine head_run rfl (fun w' kk => by subst kk; go_simp; rfl) ?_
              simp only [Act.put, List.setIfInBounds_toArray, List.set_cons_zero, List.set_cons_succ]
              refine head_run rfl (fun w' kk => by subst kk; go_simp; rfl) ?_
              simp only [Act.put, List.setIfInBounds_toArray, List.set_cons_zero, List.set_cons_succ]
              refine head_run rfl (fun w' kk => by subst kk; go_simp; rfl) ?_
              simp only [Act.put, List.setIfInBounds_toArray, List.set_cons_zero, List.set_cons_succ]
              refine head_run rfl (fun w' kk => by subst kk; go_simp; rfl) ?_
              simp only [Act.put, List.setIfInBounds_toArray, List.set_cons_zero, List.set_cons_succ]
              refine head_nil ?_
              refine wpAnyH_done (by kernel_rfl) ?_ _
              refine ha _ _ ?_
              have P8 : Hid (Lp W (w7.drew.setCell ⟨m, 2, none⟩ (.int .i64 o.round)) b m s1 l1 o.round l3) := Lib.hid ⟨Hb.far (w := w7.drew) S7.out (by have := NM.out; show b ≠ m; omega) _, Hb.set (w := w7.drew) A7.out 2 _, OK1.out, HON.out, (K7.out.drew).setCell (p := ⟨m, 2, none⟩) (.inr (by have := NB.out; have := NM.out; show W.heap.size ≤ m; omega)) _, NB.out, NM.out⟩
              go_wp2_with fail
              go_roundw
              case rel => exact .inr ⟨by go_num, P8⟩
              case measure => simp [intOf]
            · go_wp2_with fail
              go_roundw
              case rel => exact ⟨k + 1, s1, _, _, _, by omega, by omega, by go_num, P⟩
              case measure => simp [intOf]; omega
        | k3 o ho1 ho2 ho3 hon =>
          obtain ⟨g, rfl, hg, ho5, oko⟩ := o1
          have HO := Lib.hid ho5
          have OKO := Lib.hid oko
          have HON := Lib.hid hon
          clear ho5 oko hon hg
          go_wp2_with fail
          go_loopw [8] (fun j wi => (j = .int .i64 0 ∧ wi = w5) ∨ (j = .int .i64 1 ∧ Hid (Lp W wi b m s1 l1 l2 o.round))) (fun j _ => 1 - (intOf j).toNat)
          case atStart => exact .inl ⟨rfl, rfl⟩
          case round =>
            rcases hrel with ⟨rfl, rfl⟩ | ⟨rfl, P⟩
            · have HK := Lib.hid ho1
              have q1 : decide (o.round ≤ l3) = false := decide_eq_false (by omega)
              have q2 : (o.round != s1.round) = false := by simp [ho2]
              clear ho1 ho2 ho3
              go_wp2_with (first
                | (with_reducible refine wpList_load_mid rfl 45 _ rfl g 0 rfl o.cells _ HO.out.range0 Try.underlying45 rfl (rowO OKO.out) ?_)
                | (with_reducible refine wpList_alloc_named rfl _ rfl o0.cells z_O ?_; intro w6 hw6; have hb6 : Hb w6 wr.heap.size 45 o0.cells.toArray := (by rw [hw6.out]; exact Hb.new _ _ _); have k6 : Chg Non wr w6 := (by rw [hw6.out]; exact (Chg.refl _ _).alloc _); clear hw6)
                | ((with_reducible refine wpList_store_R rfl 45 _ _ rfl wr.heap.size o.cells o0.cells 35 rfl rfl hb6 OKO.out.len rfl row_O o.one ?_); go_loud (intro w7 h7 k7; have k57 : Chg Non wr w7 := k6.trans k7 (fun j hj => .inr (by have : j = wr.heap.size := hj; omega)); have d0 : w7.cell? ⟨wr.heap.size, 0, none⟩ = some (.int .i64 o.kind) := ob0 h7.range0; have d1 : w7.cell? ⟨wr.heap.size, 1, none⟩ = some (.int .i64 o.round) := ob1 h7.range0; rw [HK.out] at d0; have S7 := Lib.hid (HB1.out.chg k57 (fun f => f)); have A7 := Lib.hid (A5.out.chg k57 (fun f => f)); have K7 := Lib.hid (KW.out.trans k57 (fun _ f => .inl f)); clear h7 k7 k57 hb6 k6)))
              have D0 : w7.drew.cell? ⟨wr.heap.size, 0, none⟩ = some (.int .i64 3) := d0
              have D1 : w7.drew.cell? ⟨wr.heap.size, 1, none⟩ = some (.int .i64 o.round) := d1
              have D2 : w7.drew.cell? ⟨m, 3, none⟩ = some (.int .i64 l3) := A7.out.cell 3
              have D3 : w7.drew.frozen? ⟨m, 3, none⟩ = false := A7.out.frozen 3
              have D4 : w7.drew.cell? ⟨b, 0, none⟩ = some (.int .i64 s1.round) := sb0 S7.out
              rename_i ha
              refine wp_region_lexH 14 0 #[true, true, true, true, true, true, true, true, true, true, true, true, true, true] (by kernel_rfl) (by kernel_rfl) (by kernel_rfl) (by kernel_rfl) (by kernel_rfl) (fun w' => w' = w7.drew) rfl ?_
              refine head_run rfl (fun w' kk => by subst kk; go_simp; rfl) ?_
              simp only [Act.put, List.setIfInBounds_toArray, List.set_cons_zero, List.set_cons_succ]
              refine head_run rfl (fun w' kk => by subst kk; go_simp; rfl) ?_
              simp only [Act.put, List.setIfInBounds_toArray, List.set_cons_zero, List.set_cons_succ]
              refine head_run rfl (fun w' kk => by subst kk; go_simp; rfl) ?_
              simp only [Act.put, List.setIfInBounds_toArray, List.set_cons_zero, List.set_cons_succ]
              refine head_run rfl (fun w' kk => by subst kk; go_simp; rfl) ?_
              simp only [Act.put, List.setIfInBounds_toArray, List.set_cons_zero, List.set_cons_succ]
              refine head_run rfl (fun w' kk => by subst kk; go_simp; rfl) ?_
              simp only [Act.put, List.setIfInBounds_toArray, List.set_cons_zero, List.set_cons_succ]
              refine head_run rfl (fun w' kk => by subst kk; go_simp; rfl) ?_
              simp only [Act.put, List.setIfInBounds_toArray, List.set_cons_zero, List.set_cons_succ]
              refine head_run rfl (fun w' kk => by subst kk; go_simp; rfl) ?_
              simp only [Act.put, List.setIfInBounds_toArray, List.set_cons_zero, List.set_cons_succ]
              refine head_run rfl (fun w' kk => by subst kk; go_simp; rfl) ?_
              simp only [Act.put, List.setIfInBounds_toArray, List.set_cons_zero, List.set_cons_succ]
              refine head_run rfl (fun w' kk => by subst kk; go_simp; rfl) ?_
              simp only [Act.put, List.setIfInBounds_toArray, List.set_cons_zero, List.set_cons_succ]
              refine head_run rfl (fun w' kk => by subst kk; go_simp; rfl) ?_
              simp only [Act.put, List.setIfInBounds_toArray, List.set_cons_zero, List.set_cons_succ]
              refine head_run rfl (fun w' kk => by subst kk; go_simp; rfl) ?_
              simp only [Act.put, List.setIfInBounds_toArray, List.set_cons_zero, List.set_cons_succ]
              refine head_run rfl (fun w' kk => by subst kk; go_simp; rfl) ?_
              simp only [Act.put, List.setIfInBounds_toArray, List.set_cons_zero, List.set_cons_succ]
              refine head_run rfl (fun w' kk => by subst kk; go_simp; rfl) ?_
              simp only [Act.put, List.setIfInBounds_toArray, List.set_cons_zero, List.set_cons_succ]
              refine head_run rfl (fun w' kk => by subst kk; go_simp; rfl) ?_
              simp only [Act.put, List.setIfInBounds_toArray, List.set_cons_zero, List.set_cons_succ]
              refine head_nil ?_
              refine wpAnyH_done (by kernel_rfl) ?_ _
              refine ha _ _ ?_
              have P8 : Hid (Lp W (w7.drew.setCell ⟨m, 3, none⟩ (.int .i64 o.round)) b m s1 l1 l2 o.round) := Lib.hid ⟨Hb.far (w := w7.drew) S7.out (by have := NM.out; show b ≠ m; omega) _, Hb.set (w := w7.drew) A7.out 3 _, OK1.out, HON.out, (K7.out.drew).setCell (p := ⟨m, 3, none⟩) (.inr (by have := NB.out; have := NM.out; show W.heap.size ≤ m; omega)) _, NB.out, NM.out⟩
              go_wp2_with fail
              go_roundw
              case rel => exact .inr ⟨by go_num, P8⟩
              case measure => simp [intOf]
            · go_wp2_with fail
              go_roundw
              case rel => exact ⟨k + 1, s1, _, _, _, by omega, by omega, by go_num, P⟩
              case measure => simp [intOf]; omega
        | other o ho1 hon =>
          obtain ⟨g, rfl, hg, ho5, oko⟩ := o1
          have HO := Lib.hid ho5
          have OKO := Lib.hid oko
          have HON := Lib.hid hon
          clear ho5 oko hon hg
          go_wp2_with fail
          go_loopw [8] (fun j wi => (j = .int .i64 0 ∧ wi = w5) ∨ (j = .int .i64 1 ∧ Hid (Lp W wi b m s1 l1 l2 l3))) (fun j _ => 1 - (intOf j).toNat)
          case atStart => exact .inl ⟨rfl, rfl⟩
          case round =>
            rcases hrel with ⟨rfl, rfl⟩ | ⟨rfl, P⟩
            · have q1 : decide (3 < o.kind) = true := decide_eq_true ho1
              clear ho1
              go_wp2_with (first
                | (with_reducible refine wpList_load_mid rfl 45 _ rfl g 0 rfl o.cells _ HO.out.range0 Try.underlying45 rfl (rowO OKO.out) ?_)
                | (with_reducible refine wpList_alloc_named rfl _ rfl o0.cells z_O ?_; intro w6 hw6; have hb6 : Hb w6 wr.heap.size 45 o0.cells.toArray := (by rw [hw6.out]; exact Hb.new _ _ _); have k6 : Chg Non wr w6 := (by rw [hw6.out]; exact (Chg.refl _ _).alloc _); clear hw6)
                | ((with_reducible refine wpList_store_R rfl 45 _ _ rfl wr.heap.size o.cells o0.cells 35 rfl rfl hb6 OKO.out.len rfl row_O o.one ?_); go_loud (intro w7 h7 k7; have k57 : Chg Non wr w7 := k6.trans k7 (fun j hj => .inr (by have : j = wr.heap.size := hj; omega)); have d0 : w7.cell? ⟨wr.heap.size, 0, none⟩ = some (.int .i64 o.kind) := ob0 h7.range0; have d1 : w7.cell? ⟨wr.heap.size, 1, none⟩ = some (.int .i64 o.round) := ob1 h7.range0; have S7 := Lib.hid (HB1.out.chg k57 (fun f => f)); have A7 := Lib.hid (A5.out.chg k57 (fun f => f)); have K7 := Lib.hid (KW.out.trans k57 (fun _ f => .inl f)); clear h7 k7 k57 hb6 k6)))
              have P8 : Hid (Lp W w7 b m s1 l1 l2 l3) := Lib.hid ⟨S7.out, A7.out, OK1.out, HON.out, K7.out, NB.out, NM.out⟩
              go_roundw
              case rel => exact .inr ⟨by go_num, P8⟩
              case measure => simp [intOf]
            · go_wp2_with fail
              go_roundw
              case rel => exact ⟨k + 1, s1, _, _, _, by omega, by omega, by go_num, P⟩
              case measure => simp [intOf]; omega
      · have hk' : decide ((k : Int) < 200) = false := by simp; omega
        go_wp2_with fail
        refine (alive_any _).mono ?_
        rintro e w9 ⟨rfl, k9⟩
        go_wp2
        go_ret
        exact ⟨rfl, (LP.out.k.trans k9 (fun _ f => .inl f)).below (Nat.le_refl _) (fun _ f => f.elim)⟩
    · obtain rfl : k = l.length := by omega
      go_wp2_with fail
      refine (alive_any _).mono ?_
      rintro e w9 ⟨rfl, k9⟩
      go_wp2
      go_ret
      exact ⟨rfl, (LP.out.k.trans k9 (fun _ f => .inl f)).below (Nat.le_refl _) (fun _ f => f.elim)⟩

/-! ### The row's frame -/
theorem own : ownKnob Try.prog.godebug = none := by kernel_rfl
theorem walkA (W : World) (args : Array Value) (hsz : args.size = Try.f4.params.size) (hok : ∀ (j : Nat) (t : TypeId) (v : Value), Try.f4.params[j]? = some t → args[j]? = some v → Okv Try.prog W t v) :
    Calls Try.prog 4 args W fun e W' => e = .returned (.bool true) ∧ Below W.heap.size W W' := by
  rw [Try.params4] at hsz hok
  obtain ⟨v0, rfl⟩ : ∃ v0 : Value, args = #[v0] := by
    obtain ⟨l⟩ := args
    match l, hsz with
    | [v0], _ => exact ⟨v0, rfl⟩
  exact walk W v0 (hok 0 42 v0 rfl rfl)
set_option maxRecDepth 100000 in
theorem lifted (os : Os) (started : os.Started) (H : Type) (enc : TypeId × Value → H) :
    ReturnsInHanded {} Try.checked os 4 .any (Rows.roundOnceSpec.pre6 enc Try.prog Try.f4 Rows.roundOnceRow.domain false) (Rows.roundOnceSpec.post enc Try.prog Try.f4 false true false false) :=
  lifted_of_walk (C := Try.checked) (s := Rows.roundOnceSpec) (conds := Rows.roundOnceRow.domain) (apart := false) (fresh := true) (T := 4) own started (by kernel_rfl) Try.func4
    (ChangeSpec.witness6 (enc := enc) (C := Try.checked) false ⟨#[], #[.slice none 0 0], []⟩ 8 (by kernel_rfl) (by kernel_rfl) (by kernel_rfl) (by kernel_rfl))
    rfl (fun ds hd => by
      rw [Try.params4] at hd
      match ds, hd with
      | [d0], _ => exact ⟨rfl, rfl, rfl⟩)
    (by kernel_rfl) Try.underlying4 (by kernel_rfl) (by rw [Try.params4]; intro t ht; simp only [List.mem_cons, List.not_mem_nil, or_false] at ht; subst ht; exact ⟨by kernel_rfl, of_decide_eq_true (by kernel_rfl)⟩) walkA

theorem holds : Rows.roundOnceRow.holds Try.pinned (OpenSpec.ofChange Rows.roundOnceSpec) :=
  OpenClaim.holds_of_wide 4 Try.f4 rfl rfl rfl rfl rfl rfl rfl ⟨rfl, rfl, rfl, rfl, rfl⟩ rfl rfl rfl rfl rfl (by kernel_rfl) Try.func4 (by kernel_rfl)
    (of_decide_eq_true (by kernel_rfl)) (by unfold Func.isWrapper; first | (rw [if_pos (by decide +kernel)]; kernel_rfl) | (rw [if_neg (by decide +kernel)]; exact ⟨rfl, rfl⟩))
    (fun os started H enc _ => lifted os started H enc)
end Go.Proofs.Ytdejfamcmebdiaa.roundOnce
namespace Go.Proofs.Ytdejfamcmebdiaa
/-- The statement. -/
theorem roundOnce_holds : Rows.RoundOnceSaid := roundOnce.holds
end Go.Proofs.Ytdejfamcmebdiaa
