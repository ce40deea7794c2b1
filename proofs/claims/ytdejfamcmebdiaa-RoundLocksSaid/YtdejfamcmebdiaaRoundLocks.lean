/- Of the program at this commit: the law RoundLocks answers true for every list of inputs (of its first 200: a precommit for a block is said just for one of which it came in that more than two thirds prevoted for it in that round; who said one prevotes for another one later just if it came in that more than two thirds prevoted for that in a round not earlier); no condition. -/
import Derived.Test.YtdejfamcmebdiaaRows
import Derived.WalkKit
import Derived.ProofKit
import Derived.Test.YtdejfamcmebdiaaRg
namespace Go.Proofs.Ytdejfamcmebdiaa.roundLocks
open Go.ChangeShapes Go.WideShapes Go.ChangeAt Go.RowKit
set_option linter.unusedVariables false

open mach
/-- Ahead of a round of the loop. -/
structure Lp (W wr : World) (b m : Nat) (s : State) (lk : Hash) (at_ : Int) : Prop where
  hb : Hb wr b 25 s.cells.toArray
  a : Hb wr m 23 (bv lk).toArray
  ok : s.Ok
  ll : lk.length = 32
  on : Lk s lk at_
  k : Chg Non W wr
  nb : W.heap.size ≤ b
  nm : b < m
set_option maxRecDepth 100000 in
set_option maxHeartbeats 6400000 in
theorem walk (W : World) (v0 : Value) (h0 : Okv Try.prog W 42 v0) :
    Calls Try.prog 5 #[v0] W fun e W' => e = .returned (.bool true) ∧ Below W.heap.size W W' := by
  obtain ⟨A, c, l, rfl, hl, hM, hok⟩ := ins_arg h0
  have HM := Lib.hid hM
  have HOK := Lib.hid hok
  unfold maxLen at hl
  clear h0 hM hok
  go_enter Try.func5, Try.ntmps5
  go_wp2_with (first
    | (go_at_call 15; go_loud (refine (New_any _).mono ?_; rintro e w1 ⟨rfl, k1⟩))
    | (with_reducible refine wpList_alloc_named rfl _ rfl s0.cells z_S ?_; intro w2 hw2; have hb2 : Hb w2 w1.heap.size 25 s0.cells.toArray := (by rw [hw2.out]; exact Hb.new _ _ _); have k2 : Chg Non w1 w2 := (by rw [hw2.out]; exact (Chg.refl _ _).alloc _); clear hw2)
    | ((with_reducible refine wpList_store_S rfl _ _ rfl w1.heap.size mach.start s0 rfl rfl hb2 start_ok s0_ok ?_); go_loud (intro w3 h3 k3; have K3 : Chg Non W w3 := k1.trans (k2.trans k3 (fun j hj => .inr (by have : j = w1.heap.size := hj; omega))) (fun _ f => .inl f); clear k2 k3 hb2))
    | (with_reducible refine wpList_alloc_named rfl _ rfl (bv zero) z_H ?_; intro w4 hw4; have L0 : Hid (Lp W w4 w1.heap.size w3.heap.size mach.start zero (-1)) := (by rw [hw4.out]; exact Lib.hid ⟨h3.alloc _, Hb.new _ _ _, start_ok, rfl, lk_start, K3.alloc _, k1.size, h3.lt⟩); clear hw4 h3 K3 k1))
  generalize w1.heap.size = b at *
  generalize w3.heap.size = m at *
  go_loopw [5, 6] (fun a i wr => ∃ (k : Nat) (s : State) (lk : Hash) (at_ : Int), k ≤ l.length ∧ k ≤ 200 ∧ i = .int .i64 (k : Int) ∧ a = .int .i64 at_ ∧ Hid (Lp W wr b m s lk at_)) (fun _ i _ => 200 - (intOf i).toNat)
  case atStart => exact ⟨0, _, _, _, by omega, by omega, rfl, rfl, L0⟩
  case round =>
    obtain ⟨k, s, lk, at_, hkL, hk200, rfl, rfl, LP⟩ := hrel
    clear L0
    by_cases hkl : k < l.length
    · have hkl' : (k : Int) < (l.length : Int) := by omega
      by_cases hk : k < 200
      · have hk' : decide ((k : Int) < 200) = true := by simp; omega
        obtain ⟨x, hx⟩ : ∃ x, l[k]? = some x := ⟨_, List.getElem?_eq_getElem hkl⟩
        have OX := Lib.hid (HOK.out x (List.mem_of_getElem? hx))
        obtain ⟨eb, eo, rfl, hlt, hrg⟩ := HM.out k x hx
        have HB0 := Lib.hid LP.out.hb
        have OK := Lib.hid LP.out.ok
        have HRG0 := Lib.hid (LP.out.k.range' hrg (fun f => f))
        have HS := Lib.hid (fun w' => StepM_any w' s x OK.out OX.out)
        have hout := lk_step LP.out.on x
        generalize stepM s x = r at hout HS
        obtain ⟨s1, ol⟩ := r
        simp only at hout
        clear hx hlt hrg
        go_wp2_with (first
          | (with_reducible refine wpList_load_mid rfl 27 _ rfl eb (eo + k * 68) rfl x.cells _ HRG0.out Try.underlying27 rfl (rowI OX.out) ?_)
          | (with_reducible refine wpList_alloc_named rfl _ rfl i0.cells z_I ?_; intro wa hwa; have hba : Hb wa wr.heap.size 27 i0.cells.toArray := (by rw [hwa.out]; exact Hb.new _ _ _); have ka : Chg Non wr wa := (by rw [hwa.out]; exact (Chg.refl _ _).alloc _); clear hwa)
          | ((with_reducible refine wpList_store_R rfl 27 _ _ rfl wr.heap.size x.cells i0.cells 68 rfl rfl hba OX.out.len rfl row_I x.one ?_); go_loud (intro wb hB kb; have kab : Chg Non wr wb := ka.trans kb (fun j hj => .inr (by have : j = wr.heap.size := hj; omega)); have HB := Lib.hid (HB0.out.chg kab (fun f => f)); have HX := Lib.hid hB; have AB := Lib.hid (LP.out.a.chg kab (fun f => f)); have KB := Lib.hid (LP.out.k.trans kab (fun _ f => .inl f)); have NW := Lib.hid LP.out.a.lt; clear ka kb kab hB hba))
          | (with_reducible refine wpList_load_mid rfl 25 _ rfl b 0 rfl s.cells _ HB.out.range0 Try.underlying25 rfl (rowS OK.out) ?_)
          | (with_reducible refine wpList_load_mid rfl 27 _ rfl wr.heap.size 0 rfl x.cells _ HX.out.range0 Try.underlying27 rfl (rowI OX.out) ?_)
          | (go_at_call 10; go_loud (refine (HS.out _).mono ?_; rintro e w4 ⟨k4, okC, v, rfl, oC⟩; have H4 := Lib.hid (HB.out.chg k4 (fun f => f)); have X4 := Lib.hid (HX.out.chg k4 (fun f => f)); have A4 := Lib.hid (AB.out.chg k4 (fun f => f)); have K4 := Lib.hid (KB.out.trans k4 (fun _ f => .inl f)); have O4 := Lib.hid oC; have OK1 := Lib.hid okC; have BL := Lib.hid HB.out.lt; clear oC))
          | ((with_reducible refine wpList_store_S rfl _ _ rfl b s1 s rfl rfl H4.out OK1.out OK.out ?_); go_loud (intro w5 h5 k5; have HB1 := Lib.hid h5; have XI := Lib.hid (X4.out.chg k5 (by have := LP.out.nm; have := NW.out; show ¬ (wr.heap.size = b); omega)); have A5 := Lib.hid (A4.out.chg k5 (by have := LP.out.nm; show ¬ (m = b); omega)); have KW := Lib.hid (K4.out.trans k5 (fun j hj => .inr (by have : j = b := hj; have := LP.out.nb; omega))); have O5 := Lib.hid (Outs.far O4.out k5 (fun j hj => by have : j = b := hj; have := BL.out; omega)); clear h5 k5 O4 A4 X4 H4 K4)))
        have NB := Lib.hid LP.out.nb
        have NM := Lib.hid LP.out.nm
        have LL := Lib.hid LP.out.ll
        have o1 := O5.out
        have NX := Lib.hid NW.out
        generalize wr.heap.size = bi at *
        clear O5 LP
        try simp only at o1
        cases hout with
        | none hon =>
          obtain rfl : v = .slice none 0 0 := o1
          have P5 : Hid (Lp W w5 b m s1 lk at_) := Lib.hid ⟨HB1.out, A5.out, OK1.out, LL.out, hon, KW.out, NB.out, NM.out⟩
          clear hon
          go_wp2_with fail
          go_loopw [5, 9] (fun a j wi => a = .int .i64 at_ ∧ j = .int .i64 0 ∧ wi = w5) (fun _ _ _ => 0)
          case atStart => exact ⟨rfl, rfl, rfl⟩
          case round =>
            obtain ⟨rfl, rfl, rfl⟩ := hrel
            go_wp2_with fail
            go_roundw
            case rel => exact ⟨k + 1, s1, lk, at_, by omega, by omega, by go_num, rfl, P5⟩
            case measure => simp [intOf]; omega
        | empty o hz hon =>
          obtain ⟨g, rfl, hg, ho5, oko⟩ := o1
          have HO := Lib.hid ho5
          have OKO := Lib.hid oko
          have HON := Lib.hid hon
          clear ho5 oko hon hg
          go_wp2_with fail
          go_loopw [5, 9] (fun a j wi => (a = .int .i64 at_ ∧ j = .int .i64 0 ∧ wi = w5) ∨ (a = .int .i64 at_ ∧ j = .int .i64 1 ∧ Hid (Lp W wi b m s1 lk at_))) (fun _ j _ => 1 - (intOf j).toNat)
          case atStart => exact .inl ⟨rfl, rfl, rfl⟩
          case round =>
            rcases hrel with ⟨rfl, rfl, rfl⟩ | ⟨rfl, rfl, P⟩
            · have HZ := Lib.hid (run_eq_hash · OKO.out.b zero_length)
              rw [decide_eq_true hz] at HZ
              clear hz
              go_wp2_with (first
                | (with_reducible refine wpList_load_mid rfl 45 _ rfl g 0 rfl o.cells _ HO.out.range0 Try.underlying45 rfl (rowO OKO.out) ?_)
                | (with_reducible refine wpList_alloc_named rfl _ rfl o0.cells z_O ?_; intro w6 hw6; have hb6 : Hb w6 wr.heap.size 45 o0.cells.toArray := (by rw [hw6.out]; exact Hb.new _ _ _); have k6 : Chg Non wr w6 := (by rw [hw6.out]; exact (Chg.refl _ _).alloc _); clear hw6)
                | ((with_reducible refine wpList_store_R rfl 45 _ _ rfl wr.heap.size o.cells o0.cells 35 rfl rfl hb6 OKO.out.len rfl row_O o.one ?_); go_loud (intro w7 h7 k7; have k57 : Chg Non wr w7 := k6.trans k7 (fun j hj => .inr (by have : j = wr.heap.size := hj; omega)); have d0 : w7.cell? ⟨wr.heap.size, 0, none⟩ = some (.int .i64 o.kind) := ob0 h7.range0; have d1 : w7.cell? ⟨wr.heap.size, 1, none⟩ = some (.int .i64 o.round) := ob1 h7.range0; have ro := ob2 h7.range0; have S7 := Lib.hid (HB1.out.chg k57 (fun f => f)); have A7 := Lib.hid (A5.out.chg k57 (fun f => f)); have X7 := Lib.hid (XI.out.chg k57 (fun f => f)); have K7 := Lib.hid (KW.out.trans k57 (fun _ f => .inl f)); have NO := Lib.hid A5.out.lt; clear h7 k7 k57 hb6 k6))
                | (with_reducible refine wpList_load_mid rfl 23 _ rfl wr.heap.size 2 rfl (bv o.block) _ ro Try.underlying23 rfl (rowH OKO.out.b) ?_)
                | (with_reducible refine wpList_build_zero rfl 23 rfl built_zero ?_)
                | (with_reducible refine wpList_eql_w 23 _ _ _ rfl ?_ (xs := (bv o.block).toArray) (ys := (bv zero).toArray) rfl rfl hash_guard (HZ.out w7) ?_; focus (first | (simp [Region.wanted, yielded]; done) | (go_simp; done) | kernel_rfl)))
              have P8 : Hid (Lp W w7 b m s1 lk at_) := Lib.hid ⟨S7.out, A7.out, OK1.out, LL.out, HON.out, K7.out, NB.out, NM.out⟩
              go_roundw
              case rel => exact .inr ⟨by first | rfl | trivial, by go_num, P8⟩
              case measure => simp [intOf]
            · go_wp2_with fail
              go_roundw
              case rel => exact ⟨k + 1, s1, _, _, by omega, by omega, by go_num, rfl, P⟩
              case measure => simp [intOf]; omega
        | other o h2 h3 hz hon =>
          obtain ⟨g, rfl, hg, ho5, oko⟩ := o1
          have HO := Lib.hid ho5
          have OKO := Lib.hid oko
          have HON := Lib.hid hon
          clear ho5 oko hon hg
          go_wp2_with fail
          go_loopw [5, 9] (fun a j wi => (a = .int .i64 at_ ∧ j = .int .i64 0 ∧ wi = w5) ∨ (a = .int .i64 at_ ∧ j = .int .i64 1 ∧ Hid (Lp W wi b m s1 lk at_))) (fun _ j _ => 1 - (intOf j).toNat)
          case atStart => exact .inl ⟨rfl, rfl, rfl⟩
          case round =>
            rcases hrel with ⟨rfl, rfl, rfl⟩ | ⟨rfl, rfl, P⟩
            · have HZ := Lib.hid (run_eq_hash · OKO.out.b zero_length)
              rw [decide_eq_false hz] at HZ
              have q3 : (o.kind == 3) = false := by simpa using h3
              have q2 : (o.kind == 2) = false := by simpa using h2
              clear hz h2 h3
              go_wp2_with (first
                | (with_reducible refine wpList_load_mid rfl 45 _ rfl g 0 rfl o.cells _ HO.out.range0 Try.underlying45 rfl (rowO OKO.out) ?_)
                | (with_reducible refine wpList_alloc_named rfl _ rfl o0.cells z_O ?_; intro w6 hw6; have hb6 : Hb w6 wr.heap.size 45 o0.cells.toArray := (by rw [hw6.out]; exact Hb.new _ _ _); have k6 : Chg Non wr w6 := (by rw [hw6.out]; exact (Chg.refl _ _).alloc _); clear hw6)
                | ((with_reducible refine wpList_store_R rfl 45 _ _ rfl wr.heap.size o.cells o0.cells 35 rfl rfl hb6 OKO.out.len rfl row_O o.one ?_); go_loud (intro w7 h7 k7; have k57 : Chg Non wr w7 := k6.trans k7 (fun j hj => .inr (by have : j = wr.heap.size := hj; omega)); have d0 : w7.cell? ⟨wr.heap.size, 0, none⟩ = some (.int .i64 o.kind) := ob0 h7.range0; have d1 : w7.cell? ⟨wr.heap.size, 1, none⟩ = some (.int .i64 o.round) := ob1 h7.range0; have ro := ob2 h7.range0; have S7 := Lib.hid (HB1.out.chg k57 (fun f => f)); have A7 := Lib.hid (A5.out.chg k57 (fun f => f)); have X7 := Lib.hid (XI.out.chg k57 (fun f => f)); have K7 := Lib.hid (KW.out.trans k57 (fun _ f => .inl f)); have NO := Lib.hid A5.out.lt; clear h7 k7 k57 hb6 k6))
                | (with_reducible refine wpList_load_mid rfl 23 _ rfl wr.heap.size 2 rfl (bv o.block) _ ro Try.underlying23 rfl (rowH OKO.out.b) ?_)
                | (with_reducible refine wpList_build_zero rfl 23 rfl built_zero ?_)
                | (with_reducible refine wpList_eql_w 23 _ _ _ rfl ?_ (xs := (bv o.block).toArray) (ys := (bv zero).toArray) rfl rfl hash_guard (HZ.out w7) ?_; focus (first | (simp [Region.wanted, yielded]; done) | (go_simp; done) | kernel_rfl)))
              have P8 : Hid (Lp W w7 b m s1 lk at_) := Lib.hid ⟨S7.out, A7.out, OK1.out, LL.out, HON.out, K7.out, NB.out, NM.out⟩
              go_roundw
              case rel => exact .inr ⟨by first | rfl | trivial, by go_num, P8⟩
              case measure => simp [intOf]
            · go_wp2_with fail
              go_roundw
              case rel => exact ⟨k + 1, s1, _, _, by omega, by omega, by go_num, rfl, P⟩
              case measure => simp [intOf]; omega
        | lock o hk3 hz hx5 hxr hxb hxg hon =>
          obtain ⟨g, rfl, hg, ho5, oko⟩ := o1
          have HO := Lib.hid ho5
          have OKO := Lib.hid oko
          have HON := Lib.hid hon
          clear ho5 oko hon hg
          go_wp2_with fail
          go_loopw [5, 9] (fun a j wi => (a = .int .i64 at_ ∧ j = .int .i64 0 ∧ wi = w5) ∨ (a = .int .i64 o.round ∧ j = .int .i64 1 ∧ Hid (Lp W wi b m s1 o.block o.round))) (fun _ j _ => 1 - (intOf j).toNat)
          case atStart => exact .inl ⟨rfl, rfl, rfl⟩
          case round =>
            rcases hrel with ⟨rfl, rfl, rfl⟩ | ⟨rfl, rfl, P⟩
            · have HZ := Lib.hid (run_eq_hash · OKO.out.b zero_length)
              rw [decide_eq_false hz] at HZ
              have HE := Lib.hid (run_eq_hash · OKO.out.b OKO.out.b)
              rw [decide_eq_true rfl] at HE
              have HK := Lib.hid hk3
              have HX5 := Lib.hid (And.intro hx5 (And.intro hxr (And.intro hxb hxg)))
              clear hz hk3 hx5 hxr hxb hxg
              go_wp2_with (first
                | (with_reducible refine wpList_load_mid rfl 45 _ rfl g 0 rfl o.cells _ HO.out.range0 Try.underlying45 rfl (rowO OKO.out) ?_)
                | (with_reducible refine wpList_alloc_named rfl _ rfl o0.cells z_O ?_; intro w6 hw6; have hb6 : Hb w6 wr.heap.size 45 o0.cells.toArray := (by rw [hw6.out]; exact Hb.new _ _ _); have k6 : Chg Non wr w6 := (by rw [hw6.out]; exact (Chg.refl _ _).alloc _); clear hw6)
                | ((with_reducible refine wpList_store_R rfl 45 _ _ rfl wr.heap.size o.cells o0.cells 35 rfl rfl hb6 OKO.out.len rfl row_O o.one ?_); go_loud (intro w7 h7 k7; have k57 : Chg Non wr w7 := k6.trans k7 (fun j hj => .inr (by have : j = wr.heap.size := hj; omega)); have d0 : w7.cell? ⟨wr.heap.size, 0, none⟩ = some (.int .i64 o.kind) := ob0 h7.range0; have d1 : w7.cell? ⟨wr.heap.size, 1, none⟩ = some (.int .i64 o.round) := ob1 h7.range0; have ro := ob2 h7.range0; have S7 := Lib.hid (HB1.out.chg k57 (fun f => f)); have A7 := Lib.hid (A5.out.chg k57 (fun f => f)); have X7 := Lib.hid (XI.out.chg k57 (fun f => f)); have K7 := Lib.hid (KW.out.trans k57 (fun _ f => .inl f)); have NO := Lib.hid A5.out.lt; rw [HK.out] at d0; have e0 : w7.cell? ⟨bi, 0, none⟩ = some (.int .i64 5) := (by have := jb0 X7.out; rwa [HX5.out.1] at this); have e1 : w7.cell? ⟨bi, 1, none⟩ = some (.int .i64 o.round) := (by have := jb1 X7.out; rwa [HX5.out.2.1] at this); have rx : w7.rangeAt bi 2 (bv o.block) := (by have := jb2 X7.out; rwa [HX5.out.2.2.1] at this); have e35 : w7.cell? ⟨bi, 35, none⟩ = some (.bool true) := (by have := jb35 X7.out OX.out; rwa [HX5.out.2.2.2] at this); clear h7 k7 k57 hb6 k6))
                | (with_reducible refine wpList_load_mid rfl 23 _ rfl wr.heap.size 2 rfl (bv o.block) _ ro Try.underlying23 rfl (rowH OKO.out.b) ?_)
                | (with_reducible refine wpList_build_zero rfl 23 rfl built_zero ?_)
                | (with_reducible refine wpList_eql_w 23 _ _ _ rfl ?_ (xs := (bv o.block).toArray) (ys := (bv zero).toArray) rfl rfl hash_guard (HZ.out w7) ?_; focus (first | (simp [Region.wanted, yielded]; done) | (go_simp; done) | kernel_rfl))
                | (with_reducible refine wpList_load_w 23 _ rfl ?_ bi 2 rfl (bv o.block) _ rx Try.underlying23 rfl (rowH OKO.out.b) ?_; focus (first | (simp [Region.wanted, yielded]; done) | (go_simp; done) | kernel_rfl))
                | (with_reducible refine wpList_load_w 23 _ rfl ?_ wr.heap.size 2 rfl (bv o.block) _ ro Try.underlying23 rfl (rowH OKO.out.b) ?_; focus (first | (simp [Region.wanted, yielded]; done) | (go_simp; done) | kernel_rfl))
                | (with_reducible refine wpList_neq_w 23 _ _ _ rfl ?_ (xs := (bv o.block).toArray) (ys := (bv o.block).toArray) rfl rfl hash_guard (HE.out w7) ?_; focus (first | (simp [Region.wanted, yielded]; done) | (go_simp; done) | kernel_rfl))
                | ((with_reducible refine wpList_store_R rfl 23 _ _ rfl m (bv o.block) (bv lk) 32 rfl rfl A7.out (by rw [bv_length, OKO.out.b]) (by rw [bv_length, LL.out]) hash_row (bv_one _) ?_); go_loud (intro w8 h8 k8; have d8 : w8.cell? ⟨wr.heap.size, 1, none⟩ = some (.int .i64 o.round) := k8.cell d1 (by have := NO.out; show ¬ (wr.heap.size = m); omega); have d9 : w8.cell? ⟨wr.heap.size, 0, none⟩ = some (.int .i64 3) := k8.cell d0 (by have := NO.out; show ¬ (wr.heap.size = m); omega))))
              have P8 : Hid (Lp W w8 b m s1 o.block o.round) := Lib.hid ⟨S7.out.chg k8 (by have := NM.out; show ¬ (b = m); omega), h8, OK1.out, OKO.out.b, HON.out, K7.out.trans k8 (fun j hj => .inr (by have : j = m := hj; have := NB.out; have := NM.out; omega)), NB.out, NM.out⟩
              go_roundw
              case rel => exact .inr ⟨by first | rfl | trivial, by go_num, P8⟩
              case measure => simp [intOf]
            · go_wp2_with fail
              go_roundw
              case rel => exact ⟨k + 1, s1, _, _, by omega, by omega, by go_num, rfl, P⟩
              case measure => simp [intOf]; omega
        | vote o hk2 hz hc hon =>
          obtain ⟨g, rfl, hg, ho5, oko⟩ := o1
          have HO := Lib.hid ho5
          have OKO := Lib.hid oko
          have HON := Lib.hid hon
          clear ho5 oko hon hg
          go_wp2_with fail
          go_loopw [5, 9] (fun a j wi => (a = .int .i64 at_ ∧ j = .int .i64 0 ∧ wi = w5) ∨ (a = .int .i64 at_ ∧ j = .int .i64 1 ∧ Hid (Lp W wi b m s1 lk at_))) (fun _ j _ => 1 - (intOf j).toNat)
          case atStart => exact .inl ⟨rfl, rfl, rfl⟩
          case round =>
            rcases hrel with ⟨rfl, rfl, rfl⟩ | ⟨rfl, rfl, P⟩
            · by_cases ha0 : at_ < 0
              · have HZ := Lib.hid (run_eq_hash · OKO.out.b zero_length)
                rw [decide_eq_false hz] at HZ
                have HK := Lib.hid hk2
                have qa : decide (0 ≤ at_) = false := decide_eq_false (by omega)
                clear hz hk2 hc ha0
                go_wp2_with (first
                  | (with_reducible refine wpList_load_mid rfl 45 _ rfl g 0 rfl o.cells _ HO.out.range0 Try.underlying45 rfl (rowO OKO.out) ?_)
                  | (with_reducible refine wpList_alloc_named rfl _ rfl o0.cells z_O ?_; intro w6 hw6; have hb6 : Hb w6 wr.heap.size 45 o0.cells.toArray := (by rw [hw6.out]; exact Hb.new _ _ _); have k6 : Chg Non wr w6 := (by rw [hw6.out]; exact (Chg.refl _ _).alloc _); clear hw6)
                  | ((with_reducible refine wpList_store_R rfl 45 _ _ rfl wr.heap.size o.cells o0.cells 35 rfl rfl hb6 OKO.out.len rfl row_O o.one ?_); go_loud (intro w7 h7 k7; have k57 : Chg Non wr w7 := k6.trans k7 (fun j hj => .inr (by have : j = wr.heap.size := hj; omega)); have d0 : w7.cell? ⟨wr.heap.size, 0, none⟩ = some (.int .i64 o.kind) := ob0 h7.range0; have d1 : w7.cell? ⟨wr.heap.size, 1, none⟩ = some (.int .i64 o.round) := ob1 h7.range0; have ro := ob2 h7.range0; have S7 := Lib.hid (HB1.out.chg k57 (fun f => f)); have A7 := Lib.hid (A5.out.chg k57 (fun f => f)); have X7 := Lib.hid (XI.out.chg k57 (fun f => f)); have K7 := Lib.hid (KW.out.trans k57 (fun _ f => .inl f)); have NO := Lib.hid A5.out.lt; rw [HK.out] at d0; clear h7 k7 k57 hb6 k6))
                  | (with_reducible refine wpList_load_mid rfl 23 _ rfl wr.heap.size 2 rfl (bv o.block) _ ro Try.underlying23 rfl (rowH OKO.out.b) ?_)
                  | (with_reducible refine wpList_build_zero rfl 23 rfl built_zero ?_)
                  | (with_reducible refine wpList_eql_w 23 _ _ _ rfl ?_ (xs := (bv o.block).toArray) (ys := (bv zero).toArray) rfl rfl hash_guard (HZ.out w7) ?_; focus (first | (simp [Region.wanted, yielded]; done) | (go_simp; done) | kernel_rfl)))
                have P8 : Hid (Lp W w7 b m s1 lk at_) := Lib.hid ⟨S7.out, A7.out, OK1.out, LL.out, HON.out, K7.out, NB.out, NM.out⟩
                go_roundw
                case rel => exact .inr ⟨by first | rfl | trivial, by go_num, P8⟩
                case measure => simp [intOf]
              by_cases hbl : o.block = lk
              · have HZ := Lib.hid (run_eq_hash · OKO.out.b zero_length)
                rw [decide_eq_false hz] at HZ
                have HK := Lib.hid hk2
                have qa : decide (0 ≤ at_) = true := decide_eq_true (by omega)
                have HE := Lib.hid (run_eq_hash · OKO.out.b LL.out)
                rw [decide_eq_true hbl] at HE
                clear hz hk2 hc ha0 hbl
                go_wp2_with (first
                  | (with_reducible refine wpList_load_mid rfl 45 _ rfl g 0 rfl o.cells _ HO.out.range0 Try.underlying45 rfl (rowO OKO.out) ?_)
                  | (with_reducible refine wpList_alloc_named rfl _ rfl o0.cells z_O ?_; intro w6 hw6; have hb6 : Hb w6 wr.heap.size 45 o0.cells.toArray := (by rw [hw6.out]; exact Hb.new _ _ _); have k6 : Chg Non wr w6 := (by rw [hw6.out]; exact (Chg.refl _ _).alloc _); clear hw6)
                  | ((with_reducible refine wpList_store_R rfl 45 _ _ rfl wr.heap.size o.cells o0.cells 35 rfl rfl hb6 OKO.out.len rfl row_O o.one ?_); go_loud (intro w7 h7 k7; have k57 : Chg Non wr w7 := k6.trans k7 (fun j hj => .inr (by have : j = wr.heap.size := hj; omega)); have d0 : w7.cell? ⟨wr.heap.size, 0, none⟩ = some (.int .i64 o.kind) := ob0 h7.range0; have d1 : w7.cell? ⟨wr.heap.size, 1, none⟩ = some (.int .i64 o.round) := ob1 h7.range0; have ro := ob2 h7.range0; have S7 := Lib.hid (HB1.out.chg k57 (fun f => f)); have A7 := Lib.hid (A5.out.chg k57 (fun f => f)); have X7 := Lib.hid (XI.out.chg k57 (fun f => f)); have K7 := Lib.hid (KW.out.trans k57 (fun _ f => .inl f)); have NO := Lib.hid A5.out.lt; rw [HK.out] at d0; have rl := A7.out.range0; clear h7 k7 k57 hb6 k6))
                  | (with_reducible refine wpList_load_mid rfl 23 _ rfl wr.heap.size 2 rfl (bv o.block) _ ro Try.underlying23 rfl (rowH OKO.out.b) ?_)
                  | (with_reducible refine wpList_build_zero rfl 23 rfl built_zero ?_)
                  | (with_reducible refine wpList_eql_w 23 _ _ _ rfl ?_ (xs := (bv o.block).toArray) (ys := (bv zero).toArray) rfl rfl hash_guard (HZ.out w7) ?_; focus (first | (simp [Region.wanted, yielded]; done) | (go_simp; done) | kernel_rfl))
                  | (with_reducible refine wpList_load_w 23 _ rfl ?_ wr.heap.size 2 rfl (bv o.block) _ ro Try.underlying23 rfl (rowH OKO.out.b) ?_; focus (first | (simp [Region.wanted, yielded]; done) | (go_simp; done) | kernel_rfl))
                  | (with_reducible refine wpList_load_w 23 _ rfl ?_ m 0 rfl (bv lk) _ rl Try.underlying23 rfl (rowH LL.out) ?_; focus (first | (simp [Region.wanted, yielded]; done) | (go_simp; done) | kernel_rfl))
                  | (with_reducible refine wpList_neq_w 23 _ _ _ rfl ?_ (xs := (bv o.block).toArray) (ys := (bv lk).toArray) rfl rfl hash_guard (HE.out w7) ?_; focus (first | (simp [Region.wanted, yielded]; done) | (go_simp; done) | kernel_rfl)))
                have P8 : Hid (Lp W w7 b m s1 lk at_) := Lib.hid ⟨S7.out, A7.out, OK1.out, LL.out, HON.out, K7.out, NB.out, NM.out⟩
                go_roundw
                case rel => exact .inr ⟨by first | rfl | trivial, by go_num, P8⟩
                case measure => simp [intOf]
              · have HZ := Lib.hid (run_eq_hash · OKO.out.b zero_length)
                rw [decide_eq_false hz] at HZ
                have HK := Lib.hid hk2
                have qa : decide (0 ≤ at_) = true := decide_eq_true (by omega)
                have HE := Lib.hid (run_eq_hash · OKO.out.b LL.out)
                rw [decide_eq_false hbl] at HE
                obtain ⟨c3, ca, cr, cb⟩ := (hc.resolve_left ha0).resolve_left hbl
                have HX5 := Lib.hid (And.intro c3 cb)
                have qv : decide (x.valid < at_) = false := decide_eq_false (by omega)
                have qr : decide (o.round ≤ x.valid) = false := decide_eq_false (by omega)
                have HF := Lib.hid (run_eq_hash · OKO.out.b OKO.out.b)
                rw [decide_eq_true rfl] at HF
                clear hz hk2 hc ha0 hbl c3 ca cr cb
                go_wp2_with (first
                  | (with_reducible refine wpList_load_mid rfl 45 _ rfl g 0 rfl o.cells _ HO.out.range0 Try.underlying45 rfl (rowO OKO.out) ?_)
                  | (with_reducible refine wpList_alloc_named rfl _ rfl o0.cells z_O ?_; intro w6 hw6; have hb6 : Hb w6 wr.heap.size 45 o0.cells.toArray := (by rw [hw6.out]; exact Hb.new _ _ _); have k6 : Chg Non wr w6 := (by rw [hw6.out]; exact (Chg.refl _ _).alloc _); clear hw6)
                  | ((with_reducible refine wpList_store_R rfl 45 _ _ rfl wr.heap.size o.cells o0.cells 35 rfl rfl hb6 OKO.out.len rfl row_O o.one ?_); go_loud (intro w7 h7 k7; have k57 : Chg Non wr w7 := k6.trans k7 (fun j hj => .inr (by have : j = wr.heap.size := hj; omega)); have d0 : w7.cell? ⟨wr.heap.size, 0, none⟩ = some (.int .i64 o.kind) := ob0 h7.range0; have d1 : w7.cell? ⟨wr.heap.size, 1, none⟩ = some (.int .i64 o.round) := ob1 h7.range0; have ro := ob2 h7.range0; have S7 := Lib.hid (HB1.out.chg k57 (fun f => f)); have A7 := Lib.hid (A5.out.chg k57 (fun f => f)); have X7 := Lib.hid (XI.out.chg k57 (fun f => f)); have K7 := Lib.hid (KW.out.trans k57 (fun _ f => .inl f)); have NO := Lib.hid A5.out.lt; rw [HK.out] at d0; have e0 : w7.cell? ⟨bi, 0, none⟩ = some (.int .i64 3) := (by have := jb0 X7.out; rwa [HX5.out.1] at this); have e34 := jb34 X7.out OX.out; have rx : w7.rangeAt bi 2 (bv o.block) := (by have := jb2 X7.out; rwa [HX5.out.2] at this); have rl := A7.out.range0; clear h7 k7 k57 hb6 k6))
                  | (with_reducible refine wpList_load_mid rfl 23 _ rfl wr.heap.size 2 rfl (bv o.block) _ ro Try.underlying23 rfl (rowH OKO.out.b) ?_)
                  | (with_reducible refine wpList_build_zero rfl 23 rfl built_zero ?_)
                  | (with_reducible refine wpList_eql_w 23 _ _ _ rfl ?_ (xs := (bv o.block).toArray) (ys := (bv zero).toArray) rfl rfl hash_guard (HZ.out w7) ?_; focus (first | (simp [Region.wanted, yielded]; done) | (go_simp; done) | kernel_rfl))
                  | (with_reducible refine wpList_load_w 23 _ rfl ?_ wr.heap.size 2 rfl (bv o.block) _ ro Try.underlying23 rfl (rowH OKO.out.b) ?_; focus (first | (simp [Region.wanted, yielded]; done) | (go_simp; done) | kernel_rfl))
                  | (with_reducible refine wpList_load_w 23 _ rfl ?_ m 0 rfl (bv lk) _ rl Try.underlying23 rfl (rowH LL.out) ?_; focus (first | (simp [Region.wanted, yielded]; done) | (go_simp; done) | kernel_rfl))
                  | (with_reducible refine wpList_neq_w 23 _ _ _ rfl ?_ (xs := (bv o.block).toArray) (ys := (bv lk).toArray) rfl rfl hash_guard (HE.out w7) ?_; focus (first | (simp [Region.wanted, yielded]; done) | (go_simp; done) | kernel_rfl))
                  | (with_reducible refine wpList_load_w 23 _ rfl ?_ bi 2 rfl (bv o.block) _ rx Try.underlying23 rfl (rowH OKO.out.b) ?_; focus (first | (simp [Region.wanted, yielded]; done) | (go_simp; done) | kernel_rfl))
                  | (with_reducible refine wpList_neq_w 23 _ _ _ rfl ?_ (xs := (bv o.block).toArray) (ys := (bv o.block).toArray) rfl rfl hash_guard (HF.out w7) ?_; focus (first | (simp [Region.wanted, yielded]; done) | (go_simp; done) | kernel_rfl)))
                have P8 : Hid (Lp W w7 b m s1 lk at_) := Lib.hid ⟨S7.out, A7.out, OK1.out, LL.out, HON.out, K7.out, NB.out, NM.out⟩
                go_roundw
                case rel => exact .inr ⟨by first | rfl | trivial, by go_num, P8⟩
                case measure => simp [intOf]
            · go_wp2_with fail
              go_roundw
              case rel => exact ⟨k + 1, s1, _, _, by omega, by omega, by go_num, rfl, P⟩
              case measure => simp [intOf]; omega
      · have hk' : decide ((k : Int) < 200) = false := by simp; omega
        go_wp2_with fail
        refine (alive_any _).mono ?_
        rintro e w9 ⟨rfl, k9⟩
        go_wp2
        go_ret
        exact ⟨rfl, (LP.out.k.trans k9 (fun _ f => .inl f)).below (Nat.le_refl _) (fun _ f => f.elim)⟩
    · obtain rfl : k = l.length := by omega
      go_wp2_with fail
      refine (alive_any _).mono ?_
      rintro e w9 ⟨rfl, k9⟩
      go_wp2
      go_ret
      exact ⟨rfl, (LP.out.k.trans k9 (fun _ f => .inl f)).below (Nat.le_refl _) (fun _ f => f.elim)⟩

/-! ### The row's frame -/
theorem own : ownKnob Try.prog.godebug = none := by kernel_rfl
theorem walkA (W : World) (args : Array Value) (hsz : args.size = Try.f5.params.size) (hok : ∀ (j : Nat) (t : TypeId) (v : Value), Try.f5.params[j]? = some t → args[j]? = some v → Okv Try.prog W t v) :
    Calls Try.prog 5 args W fun e W' => e = .returned (.bool true) ∧ Below W.heap.size W W' := by
  rw [Try.params5] at hsz hok
  obtain ⟨v0, rfl⟩ : ∃ v0 : Value, args = #[v0] := by
    obtain ⟨l⟩ := args
    match l, hsz with
    | [v0], _ => exact ⟨v0, rfl⟩
  exact walk W v0 (hok 0 42 v0 rfl rfl)
set_option maxRecDepth 100000 in
theorem lifted (os : Os) (started : os.Started) (H : Type) (enc : TypeId × Value → H) :
    ReturnsInHanded {} Try.checked os 5 .any (Rows.roundLocksSpec.pre6 enc Try.prog Try.f5 Rows.roundLocksRow.domain false) (Rows.roundLocksSpec.post enc Try.prog Try.f5 false true false false) :=
  lifted_of_walk (C := Try.checked) (s := Rows.roundLocksSpec) (conds := Rows.roundLocksRow.domain) (apart := false) (fresh := true) (T := 4) own started (by kernel_rfl) Try.func5
    (ChangeSpec.witness6 (enc := enc) (C := Try.checked) false ⟨#[], #[.slice none 0 0], []⟩ 8 (by kernel_rfl) (by kernel_rfl) (by kernel_rfl) (by kernel_rfl))
    rfl (fun ds hd => by
      rw [Try.params5] at hd
      match ds, hd with
      | [d0], _ => exact ⟨rfl, rfl, rfl⟩)
    (by kernel_rfl) Try.underlying4 (by kernel_rfl) (by rw [Try.params5]; intro t ht; simp only [List.mem_cons, List.not_mem_nil, or_false] at ht; subst ht; exact ⟨by kernel_rfl, of_decide_eq_true (by kernel_rfl)⟩) walkA

theorem holds : Rows.roundLocksRow.holds Try.pinned (OpenSpec.ofChange Rows.roundLocksSpec) :=
  OpenClaim.holds_of_wide 5 Try.f5 rfl rfl rfl rfl rfl rfl rfl ⟨rfl, rfl, rfl, rfl, rfl⟩ rfl rfl rfl rfl rfl (by kernel_rfl) Try.func5 (by kernel_rfl)
    (of_decide_eq_true (by kernel_rfl)) (by unfold Func.isWrapper; first | (rw [if_pos (by decide +kernel)]; kernel_rfl) | (rw [if_neg (by decide +kernel)]; exact ⟨rfl, rfl⟩))
    (fun os started H enc _ => lifted os started H enc)
end Go.Proofs.Ytdejfamcmebdiaa.roundLocks
namespace Go.Proofs.Ytdejfamcmebdiaa
/-- The statement. -/
theorem roundLocks_holds : Rows.RoundLocksSaid := roundLocks.holds
end Go.Proofs.Ytdejfamcmebdiaa
