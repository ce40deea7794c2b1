/- Of the program at this commit: the law RoundEnds answers true for every list of inputs (of its first 200: a block is decided just when it comes in that more than two thirds precommitted it; then nothing is said any more, and the state stays); no condition. -/
import Derived.Test.YtdejfamcmebdiaaRows
import Derived.WalkKit
import Derived.ProofKit
import Derived.Test.YtdejfamcmebdiaaRg
namespace Go.Proofs.Ytdejfamcmebdiaa.roundEnds
open Go.ChangeShapes Go.WideShapes Go.ChangeAt Go.RowKit
set_option linter.unusedVariables false

open mach
/-- Ahead of a round of the loop. -/
structure Lp (W wr : World) (b : Nat) (s : State) (dn : Bool) : Prop where
  hb : Hb wr b 25 s.cells.toArray
  ok : s.Ok
  d1 : dn = true → s.step = 4
  d0 : dn = false → s.step ≠ 4 ∧ s.block = zero
  k : Chg Non W wr
  nb : W.heap.size ≤ b
set_option maxRecDepth 100000 in
set_option maxHeartbeats 6400000 in
theorem walk (W : World) (v0 : Value) (h0 : Okv Try.prog W 42 v0) :
    Calls Try.prog 6 #[v0] W fun e W' => e = .returned (.bool true) ∧ Below W.heap.size W W' := by
  obtain ⟨A, c, l, rfl, hl, hM, hok⟩ := ins_arg h0
  have HM := Lib.hid hM
  have HOK := Lib.hid hok
  unfold maxLen at hl
  clear h0 hM hok
  go_enter Try.func6, Try.ntmps6
  go_wp2_with (first
    | (go_at_call 15; go_loud (refine (New_any _).mono ?_; rintro e w1 ⟨rfl, k1⟩))
    | (with_reducible refine wpList_alloc_named rfl _ rfl s0.cells z_S ?_; intro w2 hw2; have hb2 : Hb w2 w1.heap.size 25 s0.cells.toArray := (by rw [hw2.out]; exact Hb.new _ _ _); have k2 : Chg Non w1 w2 := (by rw [hw2.out]; exact (Chg.refl _ _).alloc _); clear hw2)
    | ((with_reducible refine wpList_store_S rfl _ _ rfl w1.heap.size mach.start s0 rfl rfl hb2 start_ok s0_ok ?_); go_loud (intro w3 h3 k3; have K3 : Chg Non W w3 := k1.trans (k2.trans k3 (fun j hj => .inr (by have : j = w1.heap.size := hj; omega))) (fun _ f => .inl f); have L0 : Hid (Lp W w3 w1.heap.size mach.start false) := Lib.hid ⟨h3, start_ok, fun h => (by cases h), fun _ => ⟨by decide, rfl⟩, K3, k1.size⟩; clear k1 k2 k3 hb2 h3 K3)))
  generalize w1.heap.size = b at *
  go_loopw [4, 5] (fun d i wr => ∃ (k : Nat) (s : State) (dn : Bool), k ≤ l.length ∧ k ≤ 200 ∧ i = .int .i64 (k : Int) ∧ d = .bool dn ∧ Hid (Lp W wr b s dn)) (fun _ i _ => 200 - (intOf i).toNat)
  case atStart => exact ⟨0, _, _, by omega, by omega, rfl, rfl, L0⟩
  case round =>
    obtain ⟨k, s, dn, hkL, hk200, rfl, rfl, LP⟩ := hrel
    clear L0
    by_cases hkl : k < l.length
    · have hkl' : (k : Int) < (l.length : Int) := by omega
      by_cases hk : k < 200
      · have hk' : decide ((k : Int) < 200) = true := by simp; omega
        obtain ⟨x, hx⟩ : ∃ x, l[k]? = some x := ⟨_, List.getElem?_eq_getElem hkl⟩
        have OX := Lib.hid (HOK.out x (List.mem_of_getElem? hx))
        obtain ⟨eb, eo, rfl, hlt, hrg⟩ := HM.out k x hx
        have HEB := Lib.hid (Nat.lt_of_lt_of_le hlt LP.out.nb)
        have HB0 := Lib.hid LP.out.hb
        have OK := Lib.hid LP.out.ok
        have HRG0 := Lib.hid hrg
        clear hx hlt hrg
        go_wp2_with (first
          | (with_reducible refine wpList_load_mid rfl 25 _ rfl b 0 rfl s.cells _ HB0.out.range0 Try.underlying25 rfl (rowS OK.out) ?_)
          | (with_reducible refine wpList_alloc_named rfl _ rfl s0.cells z_S ?_; intro wa hwa; have hba : Hb wa wr.heap.size 25 s0.cells.toArray := (by rw [hwa.out]; exact Hb.new _ _ _); have ka : Chg Non wr wa := (by rw [hwa.out]; exact (Chg.refl _ _).alloc _); clear hwa)
          | ((with_reducible refine wpList_store_S rfl _ _ rfl wr.heap.size s s0 rfl rfl hba OK.out s0_ok ?_); go_loud (intro wb hB kb; have kab : Chg Non wr wb := ka.trans kb (fun j hj => .inr (by have : j = wr.heap.size := hj; omega)); have HB := Lib.hid (HB0.out.chg kab (fun f => f)); have HRG := Lib.hid ((LP.out.k.trans kab (fun _ f => .inl f)).range' HRG0.out (fun f => f)); have HW := Lib.hid hB; have KB := Lib.hid (LP.out.k.trans kab (fun _ f => .inl f)); have NW := Lib.hid LP.out.hb.lt; clear ka kb kab hB hba)))
        rename_i ha
        refine wp_region_heads [1, 2, 3, 4] 7 #[false, true, true, true, true, false, false, false, false, false, false] (by kernel_rfl) (by kernel_rfl) (by kernel_rfl) (by kernel_rfl) (by kernel_rfl) (fun w' => Chg (fun j => j = b) (World.drew wb) w') (Chg.refl _ _) ?_
        refine headI_run rfl rfl (fun w' kk => by go_simp; rfl) ?_
        simp only [Act.put, List.setIfInBounds_toArray, List.set_cons_zero, List.set_cons_succ]
        refine headI_run rfl rfl (fun w' kk => by go_simp; rfl) ?_
        simp only [Act.put, List.setIfInBounds_toArray, List.set_cons_zero, List.set_cons_succ]
        refine headI_run rfl rfl (fun w' kk => by go_simp; rfl) ?_
        simp only [Act.put, List.setIfInBounds_toArray, List.set_cons_zero, List.set_cons_succ]
        refine headI_load rfl rfl _ _ rfl eb (eo + k * 68) rfl x.cells _ (fun w' kk => kk.range' (HRG.out) (by have := HEB.out; show ¬ (eb = b); omega)) Try.underlying27 rfl (rowI OX.out) ?_
        simp only [Act.put, List.setIfInBounds_toArray, List.set_cons_zero, List.set_cons_succ]
        refine headI_nil ?_
        refine step_tail (n := 99) (s := s) (i := x) rfl rfl rfl rfl rfl rfl rfl rfl rfl rfl rfl rfl rfl rfl (by kernel_rfl) (by kernel_rfl) (by kernel_rfl) (by kernel_rfl) (by kernel_rfl) (by kernel_rfl) (by kernel_rfl) rfl rfl rfl rfl rfl rfl rfl rfl rfl rfl rfl rfl rfl rfl rfl (by decide) (by decide) rfl rfl HB.out OK.out OX.out ?_
        intro w5 s1 v ol hr k5 ok1 hb1 o1
        refine ha _ _ ?_
        simp only [Act.put, List.setIfInBounds_toArray, List.set_cons_zero, List.set_cons_succ]
        have k5' : Chg (fun j => j = b) wb w5 := ⟨k5.os, k5.tape, k5.output, k5.size, k5.block⟩
        have KW := Lib.hid (KB.out.trans k5' (fun j hj => .inr (by have : j = b := hj; have := LP.out.nb; omega)))
        have W5 := Lib.hid (HW.out.chg k5' (by have := NW.out; show ¬ (wr.heap.size = b); omega))
        have XR := Lib.hid (k5'.range' HRG.out (by have := HEB.out; show ¬ (eb = b); omega))
        have NB := Lib.hid LP.out.nb
        have HB1 := Lib.hid hb1
        have OK1 := Lib.hid ok1
        generalize wr.heap.size = wbox at *
        clear k5 k5' hb1 ok1
        cases dn with
        | true =>
          have hs4 := LP.out.d1 rfl
          have he := en_done hs4 x
          rw [hr] at he
          obtain ⟨rfl, rfl⟩ : s1 = s ∧ ol = [] := by simpa using he
          obtain rfl : v = .slice none 0 0 := o1
          have P5 : Hid (Lp W w5 b s1 true) := Lib.hid ⟨HB1.out, OK1.out, fun _ => hs4, fun h => (by cases h), KW.out, NB.out⟩
          have EQ := Lib.hid (run_eq_S w5 s1 OK1.out)
          have rb := HB1.out.range0
          have rw_ := W5.out.range0
          clear hr he hs4 LP
          go_wp2_with (first
            | (with_reducible refine wpList_load_w 25 _ rfl ?_ b 0 rfl s1.cells _ rb Try.underlying25 rfl (rowS OK1.out) ?_; focus (first | (simp [Region.wanted, yielded]; done) | (go_simp; done) | kernel_rfl))
            | (with_reducible refine wpList_load_w 25 _ rfl ?_ wbox 0 rfl s1.cells _ rw_ Try.underlying25 rfl (rowS OK1.out) ?_; focus (first | (simp [Region.wanted, yielded]; done) | (go_simp; done) | kernel_rfl))
            | (with_reducible refine wpList_neq_w 25 _ _ _ rfl ?_ (xs := s1.cells.toArray) (ys := s1.cells.toArray) rfl rfl guard_S EQ.out ?_; focus (first | (simp [Region.wanted, yielded]; done) | (go_simp; done) | kernel_rfl)))
          clear rb rw_
          go_loopw [4, 8] (fun d j wi => d = .bool true ∧ j = .int .i64 0 ∧ wi = w5) (fun _ _ _ => 0)
          case atStart => exact ⟨rfl, rfl, rfl⟩
          case round =>
            obtain ⟨rfl, rfl, rfl⟩ := hrel
            go_wp2_with fail
            go_roundw
            case rel => exact ⟨k + 1, s1, true, by omega, by omega, by go_num, rfl, P5⟩
            case measure => simp [intOf]; omega
        | false =>
          obtain ⟨h4, hz⟩ := LP.out.d0 rfl
          have hout := en_step h4 hz x
          rw [hr] at hout
          clear hr h4 hz LP
          simp only at hout
          cases hout with
          | none h4 hz =>
            obtain rfl : v = .slice none 0 0 := o1
            have P5 : Hid (Lp W w5 b s1 false) := Lib.hid ⟨HB1.out, OK1.out, fun h => (by cases h), fun _ => ⟨h4, hz⟩, KW.out, NB.out⟩
            have HZ := Lib.hid (run_eq_hash · zero_length zero_length)
            have rz : w5.rangeAt b 68 (bv zero) := by have := (sb68 HB1.out OK1.out).1; rwa [hz] at this
            clear h4 hz
            go_wp2_with fail
            go_loopw [4, 8] (fun d j wi => d = .bool false ∧ j = .int .i64 0 ∧ wi = w5) (fun _ _ _ => 0)
            case atStart => exact ⟨rfl, rfl, rfl⟩
            case round =>
              obtain ⟨rfl, rfl, rfl⟩ := hrel
              go_wp2_with (first
                | (with_reducible refine wpList_load_w 23 _ rfl ?_ b 68 rfl (bv zero) _ rz Try.underlying23 rfl (rowH zero_length) ?_; focus (first | (simp [Region.wanted, yielded]; done) | (go_simp; done) | kernel_rfl))
                | (with_reducible refine wpList_build_zero_w ?_ 23 rfl built_zero ?_; focus (first | (simp [Region.wanted, yielded]; done) | (go_simp; done) | kernel_rfl))
                | (with_reducible refine wpList_neq_w 23 _ _ _ rfl ?_ (xs := (bv zero).toArray) (ys := (bv zero).toArray) rfl rfl hash_guard (HZ.out wr) ?_; focus (first | (simp [Region.wanted, yielded]; done) | (go_simp; done) | kernel_rfl)))
              go_roundw
              case rel => exact ⟨k + 1, s1, false, by omega, by omega, by go_num, rfl, P5⟩
              case measure => simp [intOf]; omega
          | other o h8 h4 hz =>
            obtain ⟨g, rfl, hg, ho5, oko⟩ := o1
            have P5 : Hid (Lp W w5 b s1 false) := Lib.hid ⟨HB1.out, OK1.out, fun h => (by cases h), fun _ => ⟨h4, hz⟩, KW.out, NB.out⟩
            have HZ := Lib.hid (run_eq_hash · zero_length zero_length)
            have rz : w5.rangeAt b 68 (bv zero) := by have := (sb68 HB1.out OK1.out).1; rwa [hz] at this
            have q0 : w5.cell? ⟨g, 0, none⟩ = some (.int .i64 o.kind) := ob0 ho5.range0
            have q8 : (o.kind == 8) = false := by simpa using h8
            clear h4 hz h8 ho5 hg oko
            go_wp2_with fail
            go_loopw [4, 8] (fun d j wi => d = .bool false ∧ wi = w5 ∧ (j = .int .i64 0 ∨ j = .int .i64 1)) (fun _ j _ => 1 - (intOf j).toNat)
            case atStart => exact ⟨rfl, rfl, .inl rfl⟩
            case round =>
              obtain ⟨rfl, rfl, hj⟩ := hrel
              rcases hj with rfl | rfl
              · go_wp2_with fail
                go_roundw
                case rel => refine ⟨by first | rfl | trivial, by first | rfl | trivial, ?_⟩; first | exact .inr (by go_num) | (simp; done) | trivial
                case measure => simp [intOf]
              · go_wp2_with (first
                  | (with_reducible refine wpList_load_w 23 _ rfl ?_ b 68 rfl (bv zero) _ rz Try.underlying23 rfl (rowH zero_length) ?_; focus (first | (simp [Region.wanted, yielded]; done) | (go_simp; done) | kernel_rfl))
                  | (with_reducible refine wpList_build_zero_w ?_ 23 rfl built_zero ?_; focus (first | (simp [Region.wanted, yielded]; done) | (go_simp; done) | kernel_rfl))
                  | (with_reducible refine wpList_neq_w 23 _ _ _ rfl ?_ (xs := (bv zero).toArray) (ys := (bv zero).toArray) rfl rfl hash_guard (HZ.out wr) ?_; focus (first | (simp [Region.wanted, yielded]; done) | (go_simp; done) | kernel_rfl)))
                go_roundw
                case rel => exact ⟨k + 1, s1, false, by omega, by omega, by go_num, rfl, P5⟩
                case measure => simp [intOf]; omega
          | ends o h8 x8 hob hsb hgood hne h4 =>
            obtain ⟨g, rfl, hg, ho5, oko⟩ := o1
            have HO := Lib.hid ho5
            have OKO := Lib.hid oko
            have q0 : w5.cell? ⟨g, 0, none⟩ = some (.int .i64 8) := by have := ob0 ho5.range0; rwa [h8] at this
            have EX := Lib.hid (And.intro x8 (And.intro hob (And.intro hsb hgood)))
            have P4 := Lib.hid h4
            clear h4 h8 x8 hob hsb hgood hne ho5 hg oko
            go_wp2_with fail
            go_loopw [4, 8] (fun d j wi => (d = .bool false ∧ j = .int .i64 0 ∧ wi = w5) ∨ (d = .bool true ∧ j = .int .i64 1 ∧ Hid (Lp W wi b s1 true))) (fun _ j _ => 1 - (intOf j).toNat)
            case atStart => exact .inl ⟨rfl, rfl, rfl⟩
            case round =>
              rcases hrel with ⟨rfl, rfl, rfl⟩ | ⟨rfl, rfl, P⟩
              · have e0 : wr.drew.cell? ⟨eb, eo + k * 68, none⟩ = some (.int .i64 8) := by
                  have := ib0 XR.out
                  rwa [EX.out.1] at this
                have e35 : wr.drew.cell? ⟨eb, eo + k * 68 + 35, none⟩ = some (.bool true) := by
                  have := ib35 XR.out OX.out
                  rwa [EX.out.2.2.2] at this
                have rO : wr.drew.rangeAt g 2 (bv x.block) := by
                  have := ob2 HO.out.range0
                  rwa [EX.out.2.1] at this
                have rX : wr.drew.rangeAt eb (eo + k * 68 + 2) (bv x.block) := ib2 XR.out
                have rS : wr.drew.rangeAt b 68 (bv x.block) := by
                  have := (sb68 HB1.out OK1.out).1
                  rwa [EX.out.2.2.1] at this
                have P5 : Hid (Lp W wr.drew b s1 true) := Lib.hid ⟨HB1.out, OK1.out, fun _ => P4.out, fun h => (by cases h), KW.out.drew, NB.out⟩
                go_wp2_with fail
                rename_i ha
                refine wp_region_lexH 37 0 #[true, true, true, true, true, true, true, true, true, true, true, true, true, true, true, true, true, true, true, true, true, true, true, true, true, true, true, true, true, true, true, true, true, true, true, true, true] (by kernel_rfl) (by kernel_rfl) (by kernel_rfl) (by kernel_rfl) (by kernel_rfl) (fun w' => w' = wr.drew) rfl ?_
                refine head_run rfl (fun w' kk => by subst kk; go_simp; rfl) ?_
                simp only [Act.put, List.setIfInBounds_toArray, List.set_cons_zero, List.set_cons_succ]
                refine head_run rfl (fun w' kk => by subst kk; go_simp; rfl) ?_
                simp only [Act.put, List.setIfInBounds_toArray, List.set_cons_zero, List.set_cons_succ]
                refine head_run rfl (fun w' kk => by subst kk; go_simp; rfl) ?_
                simp only [Act.put, List.setIfInBounds_toArray, List.set_cons_zero, List.set_cons_succ]
                refine head_run rfl (fun w' kk => by subst kk; go_simp; rfl) ?_
                simp only [Act.put, List.setIfInBounds_toArray, List.set_cons_zero, List.set_cons_succ]
                refine head_run rfl (fun w' kk => by subst kk; go_simp; rfl) ?_
                simp only [Act.put, List.setIfInBounds_toArray, List.set_cons_zero, List.set_cons_succ]
                refine head_run rfl (fun w' kk => by subst kk; go_simp; rfl) ?_
                simp only [Act.put, List.setIfInBounds_toArray, List.set_cons_zero, List.set_cons_succ]
                refine head_run rfl (fun w' kk => by subst kk; go_simp; rfl) ?_
                simp only [Act.put, List.setIfInBounds_toArray, List.set_cons_zero, List.set_cons_succ]
                refine head_run rfl (fun w' kk => by subst kk; go_simp; rfl) ?_
                simp only [Act.put, List.setIfInBounds_toArray, List.set_cons_zero, List.set_cons_succ]
                refine head_run rfl (fun w' kk => by subst kk; go_simp; rfl) ?_
                simp only [Act.put, List.setIfInBounds_toArray, List.set_cons_zero, List.set_cons_succ]
                refine head_run rfl (fun w' kk => by subst kk; go_simp; rfl) ?_
                simp only [Act.put, List.setIfInBounds_toArray, List.set_cons_zero, List.set_cons_succ]
                refine head_run rfl (fun w' kk => by subst kk; go_simp; rfl) ?_
                simp only [Act.put, List.setIfInBounds_toArray, List.set_cons_zero, List.set_cons_succ]
                refine head_load rfl _ _ rfl g 2 rfl (bv x.block) _ (fun w' kk => by subst kk; exact rO) Try.underlying23 rfl (rowH OX.out.b) ?_
                simp only [Act.put, List.setIfInBounds_toArray, List.set_cons_zero, List.set_cons_succ]
                refine head_run rfl (fun w' kk => by subst kk; go_simp; rfl) ?_
                simp only [Act.put, List.setIfInBounds_toArray, List.set_cons_zero, List.set_cons_succ]
                refine head_run rfl (fun w' kk => by subst kk; go_simp; rfl) ?_
                simp only [Act.put, List.setIfInBounds_toArray, List.set_cons_zero, List.set_cons_succ]
                refine head_run rfl (fun w' kk => by subst kk; go_simp; rfl) ?_
                simp only [Act.put, List.setIfInBounds_toArray, List.set_cons_zero, List.set_cons_succ]
                refine head_run rfl (fun w' kk => by subst kk; go_simp; rfl) ?_
                simp only [Act.put, List.setIfInBounds_toArray, List.set_cons_zero, List.set_cons_succ]
                refine head_load rfl _ _ rfl eb (eo + k * 68 + 2) rfl (bv x.block) _ (fun w' kk => by subst kk; exact rX) Try.underlying23 rfl (rowH OX.out.b) ?_
                simp only [Act.put, List.setIfInBounds_toArray, List.set_cons_zero, List.set_cons_succ]
                refine head_neqH rfl _ _ _ rfl x.block x.block rfl rfl OX.out.b OX.out.b (b := true) (by simp) ?_
                simp only [Act.put, List.setIfInBounds_toArray, List.set_cons_zero, List.set_cons_succ]
                refine head_run rfl (fun w' kk => by subst kk; go_simp; rfl) ?_
                simp only [Act.put, List.setIfInBounds_toArray, List.set_cons_zero, List.set_cons_succ]
                refine head_run rfl (fun w' kk => by subst kk; go_simp; rfl) ?_
                simp only [Act.put, List.setIfInBounds_toArray, List.set_cons_zero, List.set_cons_succ]
                refine head_run rfl (fun w' kk => by subst kk; go_simp; rfl) ?_
                simp only [Act.put, List.setIfInBounds_toArray, List.set_cons_zero, List.set_cons_succ]
                refine head_load rfl _ _ rfl b 68 rfl (bv x.block) _ (fun w' kk => by subst kk; exact rS) Try.underlying23 rfl (rowH OX.out.b) ?_
                simp only [Act.put, List.setIfInBounds_toArray, List.set_cons_zero, List.set_cons_succ]
                refine head_run rfl (fun w' kk => by subst kk; go_simp; rfl) ?_
                simp only [Act.put, List.setIfInBounds_toArray, List.set_cons_zero, List.set_cons_succ]
                refine head_run rfl (fun w' kk => by subst kk; go_simp; rfl) ?_
                simp only [Act.put, List.setIfInBounds_toArray, List.set_cons_zero, List.set_cons_succ]
                refine head_run rfl (fun w' kk => by subst kk; go_simp; rfl) ?_
                simp only [Act.put, List.setIfInBounds_toArray, List.set_cons_zero, List.set_cons_succ]
                refine head_run rfl (fun w' kk => by subst kk; go_simp; rfl) ?_
                simp only [Act.put, List.setIfInBounds_toArray, List.set_cons_zero, List.set_cons_succ]
                refine head_load rfl _ _ rfl eb (eo + k * 68 + 2) rfl (bv x.block) _ (fun w' kk => by subst kk; exact rX) Try.underlying23 rfl (rowH OX.out.b) ?_
                simp only [Act.put, List.setIfInBounds_toArray, List.set_cons_zero, List.set_cons_succ]
                refine head_neqH rfl _ _ _ rfl x.block x.block rfl rfl OX.out.b OX.out.b (b := true) (by simp) ?_
                simp only [Act.put, List.setIfInBounds_toArray, List.set_cons_zero, List.set_cons_succ]
                refine head_run rfl (fun w' kk => by subst kk; go_simp; rfl) ?_
                simp only [Act.put, List.setIfInBounds_toArray, List.set_cons_zero, List.set_cons_succ]
                refine head_run rfl (fun w' kk => by subst kk; go_simp; rfl) ?_
                simp only [Act.put, List.setIfInBounds_toArray, List.set_cons_zero, List.set_cons_succ]
                refine head_run rfl (fun w' kk => by subst kk; go_simp; rfl) ?_
                simp only [Act.put, List.setIfInBounds_toArray, List.set_cons_zero, List.set_cons_succ]
                refine head_run rfl (fun w' kk => by subst kk; go_simp; rfl) ?_
                simp only [Act.put, List.setIfInBounds_toArray, List.set_cons_zero, List.set_cons_succ]
                refine head_run rfl (fun w' kk => by subst kk; go_simp; rfl) ?_
                simp only [Act.put, List.setIfInBounds_toArray, List.set_cons_zero, List.set_cons_succ]
                refine head_run rfl (fun w' kk => by subst kk; go_simp; rfl) ?_
                simp only [Act.put, List.setIfInBounds_toArray, List.set_cons_zero, List.set_cons_succ]
                refine head_run rfl (fun w' kk => by subst kk; go_simp; rfl) ?_
                simp only [Act.put, List.setIfInBounds_toArray, List.set_cons_zero, List.set_cons_succ]
                refine head_run rfl (fun w' kk => by subst kk; go_simp; rfl) ?_
                simp only [Act.put, List.setIfInBounds_toArray, List.set_cons_zero, List.set_cons_succ]
                refine head_run rfl (fun w' kk => by subst kk; go_simp; rfl) ?_
                simp only [Act.put, List.setIfInBounds_toArray, List.set_cons_zero, List.set_cons_succ]
                refine head_nil ?_
                refine wpAnyH_done (by kernel_rfl) ?_ _
                refine ha _ _ ?_
                go_wp2_with fail
                go_roundw
                case rel => exact .inr ⟨rfl, by go_num, P5⟩
                case measure => simp [intOf]
              · go_wp2_with fail
                go_roundw
                case rel => exact ⟨k + 1, s1, true, by omega, by omega, by go_num, rfl, P⟩
                case measure => simp [intOf]; omega
      · have hk' : decide ((k : Int) < 200) = false := by simp; omega
        go_wp2_with fail
        refine (alive_any _).mono ?_
        rintro e w9 ⟨rfl, k9⟩
        go_wp2
        go_ret
        exact ⟨rfl, (LP.out.k.trans k9 (fun _ f => .inl f)).below (Nat.le_refl _) (fun _ f => f.elim)⟩
    · obtain rfl : k = l.length := by omega
      go_wp2_with fail
      refine (alive_any _).mono ?_
      rintro e w9 ⟨rfl, k9⟩
      go_wp2
      go_ret
      exact ⟨rfl, (LP.out.k.trans k9 (fun _ f => .inl f)).below (Nat.le_refl _) (fun _ f => f.elim)⟩

/-! ### The row's frame -/
theorem own : ownKnob Try.prog.godebug = none := by kernel_rfl
theorem walkA (W : World) (args : Array Value) (hsz : args.size = Try.f6.params.size) (hok : ∀ (j : Nat) (t : TypeId) (v : Value), Try.f6.params[j]? = some t → args[j]? = some v → Okv Try.prog W t v) :
    Calls Try.prog 6 args W fun e W' => e = .returned (.bool true) ∧ Below W.heap.size W W' := by
  rw [Try.params6] at hsz hok
  obtain ⟨v0, rfl⟩ : ∃ v0 : Value, args = #[v0] := by
    obtain ⟨l⟩ := args
    match l, hsz with
    | [v0], _ => exact ⟨v0, rfl⟩
  exact walk W v0 (hok 0 42 v0 rfl rfl)
set_option maxRecDepth 100000 in
theorem lifted (os : Os) (started : os.Started) (H : Type) (enc : TypeId × Value → H) :
    ReturnsInHanded {} Try.checked os 6 .any (Rows.roundEndsSpec.pre6 enc Try.prog Try.f6 Rows.roundEndsRow.domain false) (Rows.roundEndsSpec.post enc Try.prog Try.f6 false true false false) :=
  lifted_of_walk (C := Try.checked) (s := Rows.roundEndsSpec) (conds := Rows.roundEndsRow.domain) (apart := false) (fresh := true) (T := 4) own started (by kernel_rfl) Try.func6
    (ChangeSpec.witness6 (enc := enc) (C := Try.checked) false ⟨#[], #[.slice none 0 0], []⟩ 8 (by kernel_rfl) (by kernel_rfl) (by kernel_rfl) (by kernel_rfl))
    rfl (fun ds hd => by
      rw [Try.params6] at hd
      match ds, hd with
      | [d0], _ => exact ⟨rfl, rfl, rfl⟩)
    (by kernel_rfl) Try.underlying4 (by kernel_rfl) (by rw [Try.params6]; intro t ht; simp only [List.mem_cons, List.not_mem_nil, or_false] at ht; subst ht; exact ⟨by kernel_rfl, of_decide_eq_true (by kernel_rfl)⟩) walkA

theorem holds : Rows.roundEndsRow.holds Try.pinned (OpenSpec.ofChange Rows.roundEndsSpec) :=
  OpenClaim.holds_of_wide 6 Try.f6 rfl rfl rfl rfl rfl rfl rfl ⟨rfl, rfl, rfl, rfl, rfl⟩ rfl rfl rfl rfl rfl (by kernel_rfl) Try.func6 (by kernel_rfl)
    (of_decide_eq_true (by kernel_rfl)) (by unfold Func.isWrapper; first | (rw [if_pos (by decide +kernel)]; kernel_rfl) | (rw [if_neg (by decide +kernel)]; exact ⟨rfl, rfl⟩))
    (fun os started H enc _ => lifted os started H enc)
end Go.Proofs.Ytdejfamcmebdiaa.roundEnds
namespace Go.Proofs.Ytdejfamcmebdiaa
/-- The statement. -/
theorem roundEnds_holds : Rows.RoundEndsSaid := roundEnds.holds
end Go.Proofs.Ytdejfamcmebdiaa
