/- Of the program at this commit: the law WireBack answers true for every list of fields and every byte (fields that were written are read, one by one, as they were, and then it is the end; with a byte more it is not); no condition. -/
import Derived.Test.YtjaaaehgggnhbaaRows
import Derived.WalkKit
import Derived.ProofKit
import Derived.Deep.RegionHeld3
import Derived.Test.YtjaaaehgggnhbaaMt
import Derived.Test.YtjaaaehgggnhbaaRw
namespace Go.Proofs.Ytjaaaehgggnhbaa.wireBack
open Go.ChangeShapes Go.WideShapes Go.ChangeAt Go.RowKit
set_option linter.unusedVariables false

/-- A round's head of the first loop: the writer has the first fields' bytes; n of them have some. -/
structure Rel (W : World) (L : Nat → Fd) (g : Nat) (k : Nat) (w : World) (n : Nat) (v : Value) : Prop where
  k40 : k ≤ 40
  wri : Wri w g v (some (encs L k))
  sz : (encs L k).length ≤ k * 5000
  below : Below W.heap.size W w
  new : ∀ j, Wft g v j → W.heap.size ≤ j
  nk : n ≤ k
  n0 : 0 < n ↔ 0 < (encs L k).length

theorem Rel.szb {W : World} {L : Nat → Fd} {g k : Nat} {w : World} {n : Nat} {v : Value} (h : Rel W L g k w n v) : (encs L k).length ≤ 1000000000 := by
  have := h.sz; have := h.k40; omega
theorem Rel.szl {W : World} {L : Nat → Fd} {g k : Nat} {w : World} {n : Nat} {v : Value} (h : Rel W L g k w n v) : ∀ l, some (encs L k) = some l → l.length ≤ 1000000000 := by
  intro l hl; injection hl with hl; subst hl; exact h.szb

theorem Rel.step {W : World} {L : Nat → Fd} {g k : Nat} {w w1 : World} {n : Nat} {v v1 : Value} (h : Rel W L g k w n v) (hk : k < 40) (hy : (enc (L k)).length ≤ 5000) (hy0 : 0 < (enc (L k)).length)
    (h1 : Wri w1 g v1 (some (encs L k ++ enc (L k)))) (hC1 : Chg (Wft g v) w w1) (hl1 : ∀ j, vbl v1 j → vbl v j ∨ w.heap.size ≤ j) : Rel W L g (k + 1) w1 (n + 1) v1 := by
  have hB := h.below.size
  refine ⟨by omega, h1, ?_, h.below.trans (hC1.below hB (fun j hj => h.new j hj)), ?_, by have := h.nk; omega, ?_⟩
  · rw [encs, List.length_append]; have := h.sz; omega
  · rintro j (rfl | h4)
    · exact h.new _ (.inl rfl)
    · rcases hl1 j h4 with h5 | h5
      · exact h.new _ (.inr h5)
      · omega
  · rw [encs, List.length_append]; exact ⟨fun _ => by omega, fun _ => by omega⟩
theorem Rel.next {W : World} {L : Nat → Fd} {g k : Nat} {w : World} {n : Nat} {v : Value} (h : Rel W L g k w n v) (hk : k < 40) (he : enc (L k) = []) : Rel W L g (k + 1) w n v := by
  have e : encs L (k + 1) = encs L k := by rw [encs, he, List.append_nil]
  exact ⟨by omega, by rw [e]; exact h.wri, by rw [e]; exact Nat.le_trans h.sz (Nat.mul_le_mul_right _ (Nat.le_succ k)), h.below, h.new, by have := h.nk; omega, by rw [e]; exact h.n0⟩

/-- A round's head of the second loop: both readers stand ahead of the same fields. -/
structure Rel2 (W : World) (L : Nat → Fd) (m : Nat) (b : UInt8) (g1 g2 : Nat) (F1 F2 : Nat → Prop) (k : Nat) (w : World) : Prop where
  km : k ≤ m
  r1 : Rdr w g1 F1 (some (rests L m k))
  r2 : Rdr w g2 F2 (some (rests L m k ++ [b]))
  ne : g1 ≠ g2
  f1 : ¬ F1 g2
  f2 : ¬ F2 g1
  b1 : W.heap.size ≤ g1
  b2 : W.heap.size ≤ g2
  below : Below W.heap.size W w
  small : ∀ i, i < m → (L i).k = 4 → (L i).s.size ≤ 4096

theorem Rel2.step {W : World} {L : Nat → Fd} {m k : Nat} {b : UInt8} {g1 g2 : Nat} {F1 F2 : Nat → Prop} {w w1 w2 : World} (h : Rel2 W L m b g1 g2 F1 F2 k w) (hk : k < m)
    (h1 : Rdr w1 g1 F1 (some (rests L m (k + 1)))) (hC1 : Chg (Eqg g1) w w1) (h2 : Rdr w2 g2 F2 (some (rests L m (k + 1) ++ [b]))) (hC2 : Chg (Eqg g2) w1 w2) : Rel2 W L m b g1 g2 F1 F2 (k + 1) w2 := by
  refine ⟨hk, h1.chg hC2 h.ne (fun j hj e => h.f1 (by unfold Eqg at e; rw [← e]; exact hj)), h2, h.ne, h.f1, h.f2, h.b1, h.b2, ?_, h.small⟩
  have hB := h.below.size
  have hB1 := hC1.size
  exact (h.below.trans (hC1.below hB (fun j hj => by unfold Eqg at hj; subst hj; exact h.b1))).trans (hC2.below (Nat.le_trans hB hB1) (fun j hj => by unfold Eqg at hj; subst hj; exact h.b2))
theorem Rel2.next {W : World} {L : Nat → Fd} {m k : Nat} {b : UInt8} {g1 g2 : Nat} {F1 F2 : Nat → Prop} {w : World} (h : Rel2 W L m b g1 g2 F1 F2 k w) (hk : k < m) (he : enc (L k) = []) : Rel2 W L m b g1 g2 F1 F2 (k + 1) w := by
  have e : rests L m k = rests L m (k + 1) := by rw [rests_next L m k hk, he, List.nil_append]
  exact ⟨hk, by rw [← e]; exact h.r1, by rw [← e]; exact h.r2, h.ne, h.f1, h.f2, h.b1, h.b2, h.below, h.small⟩

set_option maxRecDepth 100000 in
set_option maxHeartbeats 4000000 in
theorem walk (W : World) (v0 v1 : Value) (h0 : Okv Try.prog W 22 v0) (h1 : Okv Try.prog W 5 v1) :
    Calls Try.prog 5 #[v0, v1] W fun e W' => e = .returned (.bool true) ∧ Below W.heap.size W W' := by
  obtain ⟨A, n, c, L, rfl, hnc, hcm, hL⟩ := fields_of h0
  obtain ⟨b, rfl⟩ := byte_of h1
  have hn63 : n ≤ 9223372036854775807 := by unfold maxLen at hcm; omega
  clear h0 h1
  go_enter Try.func5, Try.ntmps5
  go_wp2_with fail
  refine (newWriter_any _).mono ?_
  rintro e w1 ⟨rfl, rfl⟩
  have hW1 := wri_new W
  have hc0 := (Chg.refl Non W).alloc (.cells #[.slice none 0 0, .bool false] 59)
  generalize W.alloc (.cells #[.slice none 0 0, .bool false] 59) = w1 at *
  go_wp2_with fail
  refine (alive_any _).mono ?_
  rintro e w2 ⟨rfl, hc1⟩
  have hW2 := hW1.chg hc1 (fun _ _ f => f)
  have R0 : Rel W L W.heap.size 0 w2 0 (.slice none 0 0) := by
    refine ⟨by omega, hW2, by simp [encs], (hc0.trans hc1 (fun _ h => .inl h)).below (Nat.le_refl _) (fun _ f => f.elim), ?_, by omega, by simp [encs]⟩
    rintro j (rfl | h6)
    · exact Nat.le_refl _
    · cases h6
  clear hc0 hc1 hW1 hW2
  go_wp2_with fail
  go_loopw [6, 7] (fun x i wr => ∃ (k nn : Nat) (v : Value), Rel W L W.heap.size k wr nn v ∧ k ≤ n ∧ (∀ i, i < k → (L i).k = 4 → (L i).s.size ≤ 4096) ∧ x = .int .i64 (nn : Int) ∧ i = .int .i64 (k : Int)) (fun _ i _ => 40 - (intOf i).toNat)
  case atStart => exact ⟨0, 0, _, R0, by omega, fun i hi => absurd hi (by omega), rfl, rfl⟩
  case round =>
    obtain ⟨k, nn, v, R, hkn', hsm, rfl, rfl⟩ := hrel
    have HSM := Lib.hid hsm
    clear hsm
    have hk40 := R.k40
    have hnk := R.nk
    by_cases hkn : k < n
    · by_cases hk : k < 40
      · obtain ⟨ok, a, hA, hat⟩ := hL k hkn
        subst hA
        have hlt := hat.lt
        have hat' := hat.below R.below hlt
        have ST := fun {w1 v1} => R.step (w1 := w1) (v1 := v1) hk
        have NX := R.next hk
        have SM : ((L k).k = 4 → (L k).s.size ≤ 4096) → ∀ i, i < k + 1 → (L i).k = 4 → (L i).s.size ≤ 4096 := by
          intro h i hi
          rcases Nat.lt_or_ge i k with h2 | h2
          · exact HSM.out i h2
          · obtain rfl : i = k := by omega
            exact h
        have wri := R.wri
        have szl := R.szl
        have szb := R.szb
        have new := R.new
        have bel := R.below
        generalize hf : L k = f at *
        have HF := Lib.hid hf
        clear hf
        have hfk := hat'.k
        have hfn := hat'.n
        have hfw := hat'.wd
        have hfs := hat'.s ok
        have hfh := hat'.h
        have hk' : decide ((k : Int) < 40) = true := by simp; omega
        by_cases h1 : f.k = 1
        · rw [h1] at hfk
          go_wp2_with fail
          refine (number_any _ W.heap.size v _ f.n ok.n1 ok.n2 wri szl).mono ?_
          rintro e w1 ⟨rfl, v1, hw1, hC1, hl1⟩
          have R2 := ST (by rw [enc1 h1]; rw [be_length]; omega) (by rw [enc1 h1]; rw [be_length]; omega) (by rw [enc1 h1]; exact hw1) hC1 hl1
          clear hw1 hC1 hl1
          go_wp2_with fail
          go_roundw
          case rel => exact ⟨k + 1, nn + 1, v1, R2, by omega, SM (fun h => absurd h (by omega)), by go_num, by go_num⟩
          case measure => simp [intOf]; omega
        have k1 : (f.k == 1) = false := by simpa using h1
        by_cases h2 : f.k = 2
        · rw [h2] at hfk
          go_wp2_with fail
          refine (word_any _ W.heap.size v _ f.w ok.w wri szl).mono ?_
          rintro e w1 ⟨rfl, v1, hw1, hC1, hl1⟩
          have R2 := ST (by rw [enc2 h2]; rw [be_length]; omega) (by rw [enc2 h2]; rw [be_length]; omega) (by rw [enc2 h2]; exact hw1) hC1 hl1
          clear hw1 hC1 hl1
          go_wp2_with fail
          go_roundw
          case rel => exact ⟨k + 1, nn + 1, v1, R2, by omega, SM (fun h => absurd h (by omega)), by go_num, by go_num⟩
          case measure => simp [intOf]; omega
        have k2 : (f.k == 2) = false := by simpa using h2
        by_cases h3 : f.k = 3
        · rw [h3] at hfk
          go_wp2_with (with_reducible refine wpList_load_hash rfl _ rfl (h := f.h) rfl ok.h hfh ?_)
          refine (hash_any _ W.heap.size v _ f.h ok.h wri szl).mono ?_
          rintro e w1 ⟨rfl, v1, hw1, hC1, hl1⟩
          have R2 := ST (by rw [enc3 h3]; rw [ok.h]; omega) (by rw [enc3 h3]; rw [ok.h]; omega) (by rw [enc3 h3]; exact hw1) hC1 hl1
          clear hw1 hC1 hl1
          go_wp2_with fail
          go_roundw
          case rel => exact ⟨k + 1, nn + 1, v1, R2, by omega, SM (fun h => absurd h (by omega)), by go_num, by go_num⟩
          case measure => simp [intOf]; omega
        have k3 : (f.k == 3) = false := by simpa using h3
        by_cases h4 : f.k = 4
        · rw [h4] at hfk
          have hsl : f.s.data.toList.length = f.s.size := by rw [Array.length_toList]; rfl
          by_cases hbig : 4096 < f.s.size
          · clear hsl
            go_wp2_with fail
            go_ret
            exact ⟨rfl, bel⟩
          · have ht : txSt (some (encs L k)) f.s.data.toList = some (encs L k ++ tx f.s.data.toList) := by unfold txSt; rw [hsl, if_neg hbig]; rfl
            have hyy : (tx f.s.data.toList).length = 2 + f.s.size := by unfold tx; rw [List.length_append, be_length, hsl]
            have HT := Lib.hid ht
            have HY := Lib.hid hyy
            clear ht hsl hyy
            go_wp2_with fail
            refine (text_any _ W.heap.size v _ f.s wri szl ok.s).mono ?_
            rintro e w1 ⟨rfl, v1, hw1, hC1, hl1⟩
            rw [HT.out] at hw1
            have R2 := ST (by rw [enc4 h4]; rw [HY.out]; omega) (by rw [enc4 h4]; rw [HY.out]; omega) (by rw [enc4 h4]; exact hw1) hC1 hl1
            clear hw1 hC1 hl1
            go_wp2_with fail
            go_roundw
            case rel => exact ⟨k + 1, nn + 1, v1, R2, by omega, SM (fun _ => by omega), by go_num, by go_num⟩
            case measure => simp [intOf]; omega
        have k4 : (f.k == 4) = false := by simpa using h4
        · have R2 := NX (enc5 h1 h2 h3 h4)
          go_wp2_with fail
          go_roundw
          case rel => exact ⟨k + 1, nn, v, R2, by omega, SM (fun h => absurd h h4), rfl, by go_num⟩
          case measure => simp [intOf]; omega
      · have hk' : decide ((k : Int) < 40) = false := by simp; omega
        go_wp2_with fail
        have R' := R
        have hn0' := R.n0
        obtain ⟨m, rfl⟩ : ∃ m, m = k := ⟨_, rfl⟩
        refine (bytes_some _ W.heap.size v _ R.wri R.szb).mono ?_
        rintro e w3 ⟨v3, rfl, ho3, hl3, hC3⟩
        obtain ⟨A3, c3, rfl, hc3, hm3, hr3, hab3, hlt3⟩ := ho3.slice
        have bel3 := R.below.trans (hC3.below R.below.size (fun _ f => f.elim))
        have hszb : (encs L m).length ≤ 200000 := by have := R.sz; omega
        clear hab3 hlt3 ho3 hl3 hC3
        go_wp2_with fail
        refine (newReader_any _ A3 _ c3 (encs L m) rfl hr3 (by omega)).mono ?_
        rintro e w4 ⟨g1, F1, rfl, hR1, hg1, hF1, hC4⟩
        have hr4 := hr3.chg hC4 (fun _ _ f => f)
        go_wp2_with (first
          | (at_builtin; refine wpList_app byt _ rfl _ _ rfl (v := .slice (some ⟨w4.heap.size, 0, none⟩) 0 0) rfl (own_zero w4) rfl rfl (hr4.chg ((Chg.refl Non w4).alloc _) (fun _ _ f => f)) (by simp; omega) ?_; intro v5 w5 ho5 hgr5 hloc5)
          | (at_builtin; refine wpList_app byt _ rfl _ _ rfl (v := v5) rfl (ho5.chg ((Chg.refl Non w5).alloc _) (fun _ _ f => f)) rfl (l2 := [b]) rfl (rd_byte w5 b) (by simp; omega) ?_; intro v6 w6 ho6 hgr6 hloc6))
        have G0 : Grow w4 (w4.alloc (.cells #[] 5)) (.slice (some ⟨w4.heap.size, 0, none⟩) 0 0) [] := ⟨own_zero w4, fun k hk => by have hk' : some w4.heap.size = some k := hk; injection hk' with e; omega, (Chg.refl Non w4).alloc _⟩
        have G6 := (G0.more (Chg.refl _ _) ho5 hgr5 hloc5).more ((Chg.refl Non w5).alloc _) ho6 hgr6 hloc6
        clear G0 ho5 hgr5 hloc5 ho6 hgr6 hloc6 hr4
        obtain ⟨A6, c6, rfl, hc6, hm6, hr6, hab6, hlt6⟩ := G6.own.slice
        have hC6 := G6.chg
        clear hab6 hlt6 G6
        rw [List.nil_append] at hr6 hc6
        refine (newReader_any _ A6 _ c6 (encs L m ++ [b]) (by rw [List.nil_append]) hr6 (by simp; omega)).mono ?_
        rintro e w7 ⟨g2, F2, rfl, hR2, hg2, hF2, hC7⟩
        have hsm' : ∀ i, i < m → (L i).k = 4 → (L i).s.size ≤ 4096 := HSM.out
        have P0 : Rel2 W L m b g1 g2 F1 F2 0 w7 := by
          have e1 := bel3.size
          have e2 := hC4.size
          have e3 := hC6.size
          have e4 := hR1.lt
          refine ⟨by omega, (hR1.chg hC6 (fun f => f) (fun _ _ f => f)).chg hC7 (fun f => f) (fun _ _ f => f), hR2, by omega, fun h => by have := hR1.Flt _ h; omega, fun h => by have := hF2 _ h; omega, by omega, by omega, ?_, hsm'⟩
          exact bel3.trans (((hC4.trans hC6 (fun _ h => .inl h)).trans hC7 (fun _ h => .inl h)).below e1 (fun _ f => f.elim))
        clear hR1 hR2 hC4 hC6 hC7 hg1 hg2 hF1 hF2 hr6 hc6 hm6 hr3 hc3 hm3 bel3 hsm' R R' R0 hnk
        have hb0 : (decide (0 < nn) == decide (0 < (encs L m).length)) = true := by rw [beq_iff_eq, decide_eq_decide]; exact hn0'
        have HB0 := Lib.hid hb0
        clear hb0 hn0'
        go_wp2_with fail
        go_loopw [12] (fun i wr => ∃ k : Nat, i = .int .i64 (k : Int) ∧ Rel2 W L m b g1 g2 F1 F2 k wr) (fun i _ => m - (intOf i).toNat)
        case atStart => exact ⟨0, rfl, P0⟩
        case round =>
          obtain ⟨q, rfl, R⟩ := hrel
          have hqm := R.km
          by_cases hq : q < m
          · have hqn : q < n := by omega
            have hq40 : decide ((q : Int) < 40) = true := by simp; omega
            obtain ⟨ok, a, hA, hat⟩ := hL q hqn
            subst hA
            have hlt := hat.lt
            have hat' := hat.below R.below hlt
            have q1 := R.r1
            have q2 := R.r2
            rw [rests_next L m q hq] at q1 q2
            rw [List.append_assoc] at q2
            have sm := R.small q hq
            have ST := fun {w1 w2} => R.step (w1 := w1) (w2 := w2) hq
            have NX := R.next hq
            have bne := R.ne
            have n1 : ¬ Eqg g1 (a.add (q * 36)).block := by unfold Eqg; have := R.b1; omega
            have n2 : ¬ Eqg g2 (a.add (q * 36)).block := by unfold Eqg; have := R.b2; omega
            have f21 : ∀ j, F2 j → ¬ Eqg g1 j := fun j hj e => R.f2 (by unfold Eqg at e; rw [← e]; exact hj)
            have nE : ¬ Eqg g1 g2 := fun e => bne e.symm
            clear R
            generalize hf : L q = f at *
            have HF := Lib.hid hf
            clear hf
            have hfk := hat'.k
            have hfn := hat'.n
            have hfw := hat'.wd
            have hfs := hat'.s ok
            have hfh := hat'.h
            clear hat'
            by_cases h1 : f.k = 1
            · rw [h1] at hfk
              rw [enc1 h1] at q1 q2
              have D1 := q1.chg ((Chg.refl Non wr).drew) (fun f => f) (fun _ _ f => f)
              have D2 := q2.chg ((Chg.refl Non wr).drew) (fun f => f) (fun _ _ f => f)
              go_wp2_with fail
              go_region_held3 (fun w' => w'.cell? ⟨(a.add (q * 36)).block, (a.add (q * 36)).off + 1, none⟩ = some (.int .i64 f.n)) (first | exact hfn | assumption) (first | (go_at_call 21; refine (got_number _ g1 F1 f.n ok.n1 ok.n2 _ D1).mono ?_; rintro e x1 ⟨rfl, z1, z2⟩; have s1 := z2.cell hfn n1; have D3 := D2.chg z2 nE f21) | (go_at_call 21; refine (got_number _ g2 F2 f.n ok.n1 ok.n2 _ D3).mono ?_; rintro e x2 ⟨rfl, z3, z4⟩; have s2 := z4.cell s1 n2) | fail)
              have R3 := ST z1 (((Chg.refl (Eqg g1) wr).drew).trans z2 (fun _ h => .inl h)) z3 z4
              clear D1 D2 D3 z1 z2 z3 z4 s1 s2
              go_wp2_with fail
              go_roundw
              case rel => exact ⟨q + 1, by go_num, R3⟩
              case measure => simp [intOf]; omega
            have k1 : (f.k == 1) = false := by simpa using h1
            by_cases h2 : f.k = 2
            · rw [h2] at hfk
              rw [enc2 h2] at q1 q2
              have D1 := q1.chg ((Chg.refl Non wr).drew) (fun f => f) (fun _ _ f => f)
              have D2 := q2.chg ((Chg.refl Non wr).drew) (fun f => f) (fun _ _ f => f)
              go_wp2_with fail
              go_region_held3 (fun w' => w'.cell? ⟨(a.add (q * 36)).block, (a.add (q * 36)).off + 2, none⟩ = some (.int .u64 (f.w : Int))) (first | exact hfw | assumption) (first | (go_at_call 23; refine (got_word _ g1 F1 f.w ok.w _ D1).mono ?_; rintro e x1 ⟨rfl, z1, z2⟩; have s1 := z2.cell hfw n1; have D3 := D2.chg z2 nE f21) | (go_at_call 23; refine (got_word _ g2 F2 f.w ok.w _ D3).mono ?_; rintro e x2 ⟨rfl, z3, z4⟩; have s2 := z4.cell s1 n2) | fail)
              have R3 := ST z1 (((Chg.refl (Eqg g1) wr).drew).trans z2 (fun _ h => .inl h)) z3 z4
              clear D1 D2 D3 z1 z2 z3 z4 s1 s2
              go_wp2_with fail
              go_roundw
              case rel => exact ⟨q + 1, by go_num, R3⟩
              case measure => simp [intOf]; omega
            have k2 : (f.k == 2) = false := by simpa using h2
            by_cases h3 : f.k = 3
            · rw [h3] at hfk
              rw [enc3 h3] at q1 q2
              have D1 := q1.chg ((Chg.refl Non wr).drew) (fun f => f) (fun _ _ f => f)
              have D2 := q2.chg ((Chg.refl Non wr).drew) (fun f => f) (fun _ _ f => f)
              have hfr := range_of hfh
              have hu := Try.underlying29
              have hz : (Try.prog.info? 29).map (·.size) = some (bv f.h).length := by rw [hash_row, bv_length, ok.h]
              have HE : ∀ w : World, (Op.equalIn 10000 29 (.agg (bv f.h).toArray) (.agg (bv f.h).toArray)).run Try.prog w = .ok true w := fun w => by rw [run_eq_hash w ok.h ok.h]; simp
              go_wp2_with fail
              refine wp_region_held_drew (S := fun w' => w'.rangeAt (a.add (q * 36)).block ((a.add (q * 36)).off + 3) (bv f.h)) (by kernel_rfl) hfr (fun hHeld => ?_)
              refine wpAnyH_take (i := 0) (oi := { dst := some 159, op := Op.move (Operand.tmp 10), type := 44, pos := "law.go:158", after := #[], guard := none }) (v := ?_) rfl (by kernel_rfl) (by kernel_rfl) (by kernel_rfl) (fun _ _ _ h => h) (Or.inl ⟨by rfl, ?_⟩) (by assumption) ?_
              rotate_left 1
              · (intro w hSw; (try dsimp only at hSw); go_simp)
                all_goals with_reducible rfl
              try simp only [Act.put, List.setIfInBounds_toArray, List.set_cons_zero, List.set_cons_succ]
              refine wpAnyH_take (i := 2) (oi := { dst := some 161, op := Op.move (Operand.tmp 0), type := 22, pos := "law.go:158", after := #[], guard := none }) (v := ?_) rfl (by kernel_rfl) (by kernel_rfl) (by kernel_rfl) (fun _ _ _ h => h) (Or.inl ⟨by rfl, ?_⟩) (by assumption) ?_
              rotate_left 1
              · (intro w hSw; (try dsimp only at hSw); go_simp)
                all_goals with_reducible rfl
              try simp only [Act.put, List.setIfInBounds_toArray, List.set_cons_zero, List.set_cons_succ]
              refine wpAnyH_take (i := 3) (oi := { dst := some 162, op := Op.move (Operand.tmp 12), type := 3, pos := "law.go:158", after := #[], guard := none }) (v := ?_) rfl (by kernel_rfl) (by kernel_rfl) (by kernel_rfl) (fun _ _ _ h => h) (Or.inl ⟨by rfl, ?_⟩) (by assumption) ?_
              rotate_left 1
              · (intro w hSw; (try dsimp only at hSw); go_simp)
                all_goals with_reducible rfl
              try simp only [Act.put, List.setIfInBounds_toArray, List.set_cons_zero, List.set_cons_succ]
              refine wpAnyH_take (i := 4) (oi := { dst := some 163, op := Op.indexAddr 22 (Operand.tmp 161) (Operand.tmp 162), type := 0, pos := "law.go:158", after := #[{ on := 2, ground := Ground.data }, { on := 3, ground := Ground.data }], guard := none }) (v := ?_) rfl (by kernel_rfl) (by kernel_rfl) (by kernel_rfl) (fun _ _ _ h => h) (Or.inl ⟨by rfl, ?_⟩) (by assumption) ?_
              rotate_left 1
              · (intro w hSw; (try dsimp only at hSw); go_simp)
                all_goals with_reducible rfl
              try simp only [Act.put, List.setIfInBounds_toArray, List.set_cons_zero, List.set_cons_succ]
              refine wpAnyH_take (i := 5) (oi := { dst := some 164, op := Op.fieldAddr 31 (Operand.tmp 163) 3, type := 0, pos := "law.go:158", after := #[{ on := 4, ground := Ground.data }], guard := none }) (v := ?_) rfl (by kernel_rfl) (by kernel_rfl) (by kernel_rfl) (fun _ _ _ h => h) (Or.inl ⟨by rfl, ?_⟩) (by assumption) ?_
              rotate_left 1
              · (intro w hSw; (try dsimp only at hSw); go_simp)
                all_goals with_reducible rfl
              try simp only [Act.put, List.setIfInBounds_toArray, List.set_cons_zero, List.set_cons_succ]
              refine wpAnyH_take (i := 6) (oi := { dst := some 165, op := Op.load 29 (Operand.tmp 164), type := 29, pos := "law.go:158", after := #[{ on := 5, ground := Ground.data }], guard := none }) rfl (by kernel_rfl) (by kernel_rfl) (by kernel_rfl) (fun _ _ _ h => h) (yieldsIf_load_mid (by rfl) _ _ rfl _ _ rfl _ _ (fun w hw => hw) hu rfl hz) (by assumption) ?_
              try simp only [Act.put, List.setIfInBounds_toArray, List.set_cons_zero, List.set_cons_succ]
              refine wpAnyH_ready (rs := [1]) (by kernel_rfl) (by simp) ?_
              refine AllReadyH.cons (o := { dst := some 160, op := Op.call { callee := Callee.value (Operand.func 25), args := #[Operand.tmp 159], argTypes := #[44] }, type := 29, pos := "law.go:158", after := #[{ on := 0, ground := Ground.data }], guard := none }) rfl (fun K hK => ?_) AllReadyH.nil
              go_simp
              refine (got_hash _ g1 F1 f.h ok.h _ D1).mono ?_
              rintro e x1 ⟨rfl, z1, z2⟩
              have s1 := Chg.range z2 hfr n1
              have D3 := D2.chg z2 nE f21
              try go_wp2_with fail
              refine hK.out _ _ s1 (fun hHeld => ?_)
              clear hK K
              try simp only [Act.put, List.setIfInBounds_toArray, List.set_cons_zero, List.set_cons_succ]
              refine wpAnyH_take (i := 7) (oi := { dst := some 166, op := Op.binOp BinOp.neq 29 (Operand.tmp 160) (Operand.tmp 165) 29, type := 4, pos := "law.go:158", after := #[{ on := 1, ground := Ground.data }, { on := 6, ground := Ground.data }], guard := none }) (v := ?_) rfl (by kernel_rfl) (by kernel_rfl) (by kernel_rfl) (fun _ _ _ h => h) (Or.inl ⟨by rfl, ?_⟩) (by assumption) ?_
              rotate_left 1
              · (intro w hSw; (try dsimp only at hSw); go_simp)
                all_goals with_reducible rfl
              try simp only [Act.put, List.setIfInBounds_toArray, List.set_cons_zero, List.set_cons_succ]
              refine wpAnyH_take (i := 8) (oi := { dst := some 167, op := Op.move (Operand.tmp 166), type := 4, pos := "law.go:158", after := #[{ on := 7, ground := Ground.data }, { on := 1, ground := Ground.chain }], guard := none }) (v := ?_) rfl (by kernel_rfl) (by kernel_rfl) (by kernel_rfl) (fun _ _ _ h => h) (Or.inl ⟨by rfl, ?_⟩) (by assumption) ?_
              rotate_left 1
              · (intro w hSw; (try dsimp only at hSw); go_simp)
                all_goals with_reducible rfl
              try simp only [Act.put, List.setIfInBounds_toArray, List.set_cons_zero, List.set_cons_succ]
              refine wpAnyH_take (i := 9) (oi := { dst := some 168, op := Op.move (Operand.tmp 11), type := 44, pos := "law.go:158", after := #[{ on := 8, ground := Ground.guard }], guard := some (8, false) }) (v := ?_) rfl (by kernel_rfl) (by kernel_rfl) (by kernel_rfl) (fun _ _ _ h => h) (Or.inl ⟨by rfl, ?_⟩) (by assumption) ?_
              rotate_left 1
              · (intro w hSw; (try dsimp only at hSw); go_simp)
                all_goals with_reducible rfl
              try simp only [Act.put, List.setIfInBounds_toArray, List.set_cons_zero, List.set_cons_succ]
              refine wpAnyH_take (i := 11) (oi := { dst := some 170, op := Op.move (Operand.tmp 0), type := 22, pos := "law.go:158", after := #[{ on := 8, ground := Ground.guard }], guard := some (8, false) }) (v := ?_) rfl (by kernel_rfl) (by kernel_rfl) (by kernel_rfl) (fun _ _ _ h => h) (Or.inl ⟨by rfl, ?_⟩) (by assumption) ?_
              rotate_left 1
              · (intro w hSw; (try dsimp only at hSw); go_simp)
                all_goals with_reducible rfl
              try simp only [Act.put, List.setIfInBounds_toArray, List.set_cons_zero, List.set_cons_succ]
              refine wpAnyH_take (i := 12) (oi := { dst := some 171, op := Op.move (Operand.tmp 12), type := 3, pos := "law.go:158", after := #[{ on := 8, ground := Ground.guard }], guard := some (8, false) }) (v := ?_) rfl (by kernel_rfl) (by kernel_rfl) (by kernel_rfl) (fun _ _ _ h => h) (Or.inl ⟨by rfl, ?_⟩) (by assumption) ?_
              rotate_left 1
              · (intro w hSw; (try dsimp only at hSw); go_simp)
                all_goals with_reducible rfl
              try simp only [Act.put, List.setIfInBounds_toArray, List.set_cons_zero, List.set_cons_succ]
              refine wpAnyH_take (i := 13) (oi := { dst := some 172, op := Op.indexAddr 22 (Operand.tmp 170) (Operand.tmp 171), type := 0, pos := "law.go:158", after := #[{ on := 11, ground := Ground.data }, { on := 12, ground := Ground.data }, { on := 8, ground := Ground.guard }], guard := some (8, false) }) (v := ?_) rfl (by kernel_rfl) (by kernel_rfl) (by kernel_rfl) (fun _ _ _ h => h) (Or.inl ⟨by rfl, ?_⟩) (by assumption) ?_
              rotate_left 1
              · (intro w hSw; (try dsimp only at hSw); go_simp)
                all_goals with_reducible rfl
              try simp only [Act.put, List.setIfInBounds_toArray, List.set_cons_zero, List.set_cons_succ]
              refine wpAnyH_take (i := 14) (oi := { dst := some 173, op := Op.fieldAddr 31 (Operand.tmp 172) 3, type := 0, pos := "law.go:158", after := #[{ on := 13, ground := Ground.data }, { on := 8, ground := Ground.guard }], guard := some (8, false) }) (v := ?_) rfl (by kernel_rfl) (by kernel_rfl) (by kernel_rfl) (fun _ _ _ h => h) (Or.inl ⟨by rfl, ?_⟩) (by assumption) ?_
              rotate_left 1
              · (intro w hSw; (try dsimp only at hSw); go_simp)
                all_goals with_reducible rfl
              try simp only [Act.put, List.setIfInBounds_toArray, List.set_cons_zero, List.set_cons_succ]
              refine wpAnyH_take (i := 15) (oi := { dst := some 174, op := Op.load 29 (Operand.tmp 173), type := 29, pos := "law.go:158", after := #[{ on := 14, ground := Ground.data }, { on := 8, ground := Ground.guard }], guard := some (8, false) }) rfl (by kernel_rfl) (by kernel_rfl) (by kernel_rfl) (fun _ _ _ h => h) (yieldsIf_load_mid (by rfl) _ _ rfl _ _ rfl _ _ (fun w hw => hw) hu rfl hz) (by assumption) ?_
              try simp only [Act.put, List.setIfInBounds_toArray, List.set_cons_zero, List.set_cons_succ]
              refine wpAnyH_ready (rs := [10]) (by kernel_rfl) (by simp) ?_
              refine AllReadyH.cons (o := { dst := some 169, op := Op.call { callee := Callee.value (Operand.func 25), args := #[Operand.tmp 168], argTypes := #[44] }, type := 29, pos := "law.go:158", after := #[{ on := 9, ground := Ground.data }, { on := 8, ground := Ground.chain }, { on := 8, ground := Ground.guard }], guard := some (8, false) }) rfl (fun K hK => ?_) AllReadyH.nil
              go_simp
              refine (got_hash _ g2 F2 f.h ok.h _ D3).mono ?_
              rintro e x2 ⟨rfl, z3, z4⟩
              have s2 := Chg.range z4 s1 n2
              try go_wp2_with fail
              refine hK.out _ _ s2 (fun hHeld => ?_)
              clear hK K
              try simp only [Act.put, List.setIfInBounds_toArray, List.set_cons_zero, List.set_cons_succ]
              refine wpAnyH_take (i := 16) (oi := { dst := some 175, op := Op.binOp BinOp.neq 29 (Operand.tmp 169) (Operand.tmp 174) 29, type := 4, pos := "law.go:158", after := #[{ on := 10, ground := Ground.data }, { on := 15, ground := Ground.data }, { on := 8, ground := Ground.guard }], guard := some (8, false) }) (v := ?_) rfl (by kernel_rfl) (by kernel_rfl) (by kernel_rfl) (fun _ _ _ h => h) (Or.inl ⟨by rfl, ?_⟩) (by assumption) ?_
              rotate_left 1
              · (intro w hSw; (try dsimp only at hSw); go_simp)
                all_goals with_reducible rfl
              try simp only [Act.put, List.setIfInBounds_toArray, List.set_cons_zero, List.set_cons_succ]
              refine wpAnyH_take (i := 17) (oi := { dst := some 176, op := Op.pick (Operand.tmp 167) (Operand.const (Value.bool true)) (Operand.tmp 175), type := 4, pos := "law.go:158", after := #[{ on := 8, ground := Ground.data }, { on := 16, ground := Ground.data }], guard := none }) (v := ?_) rfl (by kernel_rfl) (by kernel_rfl) (by kernel_rfl) (fun _ _ _ h => h) (Or.inl ⟨by rfl, ?_⟩) (by assumption) ?_
              rotate_left 1
              · (intro w hSw; (try dsimp only at hSw); go_simp)
                all_goals with_reducible rfl
              try simp only [Act.put, List.setIfInBounds_toArray, List.set_cons_zero, List.set_cons_succ]
              refine wpAnyH_done (by kernel_rfl) ?_ _
              clear hHeld
              have R3 := ST z1 (((Chg.refl (Eqg g1) wr).drew).trans z2 (fun _ h => .inl h)) z3 z4
              clear D1 D2 D3 z1 z2 z3 z4 s1 s2
              go_wp2_with fail
              go_roundw
              case rel => exact ⟨q + 1, by go_num, R3⟩
              case measure => simp [intOf]; omega
            have k3 : (f.k == 3) = false := by simpa using h3
            by_cases h4 : f.k = 4
            · rw [h4] at hfk
              rw [enc4 h4] at q1 q2
              have D1 := q1.chg ((Chg.refl Non wr).drew) (fun f => f) (fun _ _ f => f)
              have D2 := q2.chg ((Chg.refl Non wr).drew) (fun f => f) (fun _ _ f => f)
              go_wp2_with fail
              go_region_held3 (fun w' => w'.cell? ⟨(a.add (q * 36)).block, (a.add (q * 36)).off + 35, none⟩ = some (.string f.s)) (first | exact hfs | assumption) (first | (go_at_call 27; refine (got_text _ g1 F1 f.s (sm h4) _ D1).mono ?_; rintro e x1 ⟨rfl, z1, z2⟩; have s1 := z2.cell hfs n1; have D3 := D2.chg z2 nE f21) | (go_at_call 27; refine (got_text _ g2 F2 f.s (sm h4) _ D3).mono ?_; rintro e x2 ⟨rfl, z3, z4⟩; have s2 := z4.cell s1 n2) | fail)
              have R3 := ST z1 (((Chg.refl (Eqg g1) wr).drew).trans z2 (fun _ h => .inl h)) z3 z4
              clear D1 D2 D3 z1 z2 z3 z4 s1 s2
              go_wp2_with fail
              go_roundw
              case rel => exact ⟨q + 1, by go_num, R3⟩
              case measure => simp [intOf]; omega
            have k4 : (f.k == 4) = false := by simpa using h4
            · have R3 := NX (enc5 h1 h2 h3 h4)
              go_wp2_with fail
              go_roundw
              case rel => exact ⟨q + 1, by go_num, R3⟩
              case measure => simp [intOf]; omega
          · obtain rfl : q = m := by omega
            have e1 := R.r1
            have e2 := R.r2
            rw [rests_end] at e1 e2
            have H1 : Calls Try.prog 31 #[.pointer (some ⟨g1, 0, none⟩)] wr fun e w' => e = .returned (.int .i64 0) ∧ w' = wr := endR_any wr g1 F1 _ e1
            have H2 : Calls Try.prog 31 #[.pointer (some ⟨g2, 0, none⟩)] wr fun e w' => e = .returned (.int .i64 21) ∧ w' = wr := endR_any wr g2 F2 _ e2
            have bel := R.below
            clear e1 e2 R P0
            have hqn : (q : Int) < (n : Int) := by omega
            have hqf : decide ((q : Int) < 40) = false := by simp; omega
            go_wp2_with fail
            refine H1.mono ?_
            rintro e x1 ⟨rfl, rfl⟩
            go_wp2_with fail
            refine H2.mono ?_
            rintro e x2 ⟨rfl, rfl⟩
            go_wp2
            go_ret
            exact ⟨congrArg (fun x => Ending.returned (Value.bool x)) HB0.out, bel⟩
    · go_wp2_with fail
      have R' := R
      have hn0' := R.n0
      obtain ⟨m, rfl⟩ : ∃ m, m = k := ⟨_, rfl⟩
      refine (bytes_some _ W.heap.size v _ R.wri R.szb).mono ?_
      rintro e w3 ⟨v3, rfl, ho3, hl3, hC3⟩
      obtain ⟨A3, c3, rfl, hc3, hm3, hr3, hab3, hlt3⟩ := ho3.slice
      have bel3 := R.below.trans (hC3.below R.below.size (fun _ f => f.elim))
      have hszb : (encs L m).length ≤ 200000 := by have := R.sz; omega
      clear hab3 hlt3 ho3 hl3 hC3
      go_wp2_with fail
      refine (newReader_any _ A3 _ c3 (encs L m) rfl hr3 (by omega)).mono ?_
      rintro e w4 ⟨g1, F1, rfl, hR1, hg1, hF1, hC4⟩
      have hr4 := hr3.chg hC4 (fun _ _ f => f)
      go_wp2_with (first
        | (at_builtin; refine wpList_app byt _ rfl _ _ rfl (v := .slice (some ⟨w4.heap.size, 0, none⟩) 0 0) rfl (own_zero w4) rfl rfl (hr4.chg ((Chg.refl Non w4).alloc _) (fun _ _ f => f)) (by simp; omega) ?_; intro v5 w5 ho5 hgr5 hloc5)
        | (at_builtin; refine wpList_app byt _ rfl _ _ rfl (v := v5) rfl (ho5.chg ((Chg.refl Non w5).alloc _) (fun _ _ f => f)) rfl (l2 := [b]) rfl (rd_byte w5 b) (by simp; omega) ?_; intro v6 w6 ho6 hgr6 hloc6))
      have G0 : Grow w4 (w4.alloc (.cells #[] 5)) (.slice (some ⟨w4.heap.size, 0, none⟩) 0 0) [] := ⟨own_zero w4, fun k hk => by have hk' : some w4.heap.size = some k := hk; injection hk' with e; omega, (Chg.refl Non w4).alloc _⟩
      have G6 := (G0.more (Chg.refl _ _) ho5 hgr5 hloc5).more ((Chg.refl Non w5).alloc _) ho6 hgr6 hloc6
      clear G0 ho5 hgr5 hloc5 ho6 hgr6 hloc6 hr4
      obtain ⟨A6, c6, rfl, hc6, hm6, hr6, hab6, hlt6⟩ := G6.own.slice
      have hC6 := G6.chg
      clear hab6 hlt6 G6
      rw [List.nil_append] at hr6 hc6
      refine (newReader_any _ A6 _ c6 (encs L m ++ [b]) (by rw [List.nil_append]) hr6 (by simp; omega)).mono ?_
      rintro e w7 ⟨g2, F2, rfl, hR2, hg2, hF2, hC7⟩
      have hsm' : ∀ i, i < m → (L i).k = 4 → (L i).s.size ≤ 4096 := HSM.out
      have P0 : Rel2 W L m b g1 g2 F1 F2 0 w7 := by
        have e1 := bel3.size
        have e2 := hC4.size
        have e3 := hC6.size
        have e4 := hR1.lt
        refine ⟨by omega, (hR1.chg hC6 (fun f => f) (fun _ _ f => f)).chg hC7 (fun f => f) (fun _ _ f => f), hR2, by omega, fun h => by have := hR1.Flt _ h; omega, fun h => by have := hF2 _ h; omega, by omega, by omega, ?_, hsm'⟩
        exact bel3.trans (((hC4.trans hC6 (fun _ h => .inl h)).trans hC7 (fun _ h => .inl h)).below e1 (fun _ f => f.elim))
      clear hR1 hR2 hC4 hC6 hC7 hg1 hg2 hF1 hF2 hr6 hc6 hm6 hr3 hc3 hm3 bel3 hsm' R R' R0 hnk
      have hb0 : (decide (0 < nn) == decide (0 < (encs L m).length)) = true := by rw [beq_iff_eq, decide_eq_decide]; exact hn0'
      have HB0 := Lib.hid hb0
      clear hb0 hn0'
      go_wp2_with fail
      go_loopw [12] (fun i wr => ∃ k : Nat, i = .int .i64 (k : Int) ∧ Rel2 W L m b g1 g2 F1 F2 k wr) (fun i _ => m - (intOf i).toNat)
      case atStart => exact ⟨0, rfl, P0⟩
      case round =>
        obtain ⟨q, rfl, R⟩ := hrel
        have hqm := R.km
        by_cases hq : q < m
        · have hqn : q < n := by omega
          have hq40 : decide ((q : Int) < 40) = true := by simp; omega
          obtain ⟨ok, a, hA, hat⟩ := hL q hqn
          subst hA
          have hlt := hat.lt
          have hat' := hat.below R.below hlt
          have q1 := R.r1
          have q2 := R.r2
          rw [rests_next L m q hq] at q1 q2
          rw [List.append_assoc] at q2
          have sm := R.small q hq
          have ST := fun {w1 w2} => R.step (w1 := w1) (w2 := w2) hq
          have NX := R.next hq
          have bne := R.ne
          have n1 : ¬ Eqg g1 (a.add (q * 36)).block := by unfold Eqg; have := R.b1; omega
          have n2 : ¬ Eqg g2 (a.add (q * 36)).block := by unfold Eqg; have := R.b2; omega
          have f21 : ∀ j, F2 j → ¬ Eqg g1 j := fun j hj e => R.f2 (by unfold Eqg at e; rw [← e]; exact hj)
          have nE : ¬ Eqg g1 g2 := fun e => bne e.symm
          clear R
          generalize hf : L q = f at *
          have HF := Lib.hid hf
          clear hf
          have hfk := hat'.k
          have hfn := hat'.n
          have hfw := hat'.wd
          have hfs := hat'.s ok
          have hfh := hat'.h
          clear hat'
          by_cases h1 : f.k = 1
          · rw [h1] at hfk
            rw [enc1 h1] at q1 q2
            have D1 := q1.chg ((Chg.refl Non wr).drew) (fun f => f) (fun _ _ f => f)
            have D2 := q2.chg ((Chg.refl Non wr).drew) (fun f => f) (fun _ _ f => f)
            go_wp2_with fail
            go_region_held3 (fun w' => w'.cell? ⟨(a.add (q * 36)).block, (a.add (q * 36)).off + 1, none⟩ = some (.int .i64 f.n)) (first | exact hfn | assumption) (first | (go_at_call 21; refine (got_number _ g1 F1 f.n ok.n1 ok.n2 _ D1).mono ?_; rintro e x1 ⟨rfl, z1, z2⟩; have s1 := z2.cell hfn n1; have D3 := D2.chg z2 nE f21) | (go_at_call 21; refine (got_number _ g2 F2 f.n ok.n1 ok.n2 _ D3).mono ?_; rintro e x2 ⟨rfl, z3, z4⟩; have s2 := z4.cell s1 n2) | fail)
            have R3 := ST z1 (((Chg.refl (Eqg g1) wr).drew).trans z2 (fun _ h => .inl h)) z3 z4
            clear D1 D2 D3 z1 z2 z3 z4 s1 s2
            go_wp2_with fail
            go_roundw
            case rel => exact ⟨q + 1, by go_num, R3⟩
            case measure => simp [intOf]; omega
          have k1 : (f.k == 1) = false := by simpa using h1
          by_cases h2 : f.k = 2
          · rw [h2] at hfk
            rw [enc2 h2] at q1 q2
            have D1 := q1.chg ((Chg.refl Non wr).drew) (fun f => f) (fun _ _ f => f)
            have D2 := q2.chg ((Chg.refl Non wr).drew) (fun f => f) (fun _ _ f => f)
            go_wp2_with fail
            go_region_held3 (fun w' => w'.cell? ⟨(a.add (q * 36)).block, (a.add (q * 36)).off + 2, none⟩ = some (.int .u64 (f.w : Int))) (first | exact hfw | assumption) (first | (go_at_call 23; refine (got_word _ g1 F1 f.w ok.w _ D1).mono ?_; rintro e x1 ⟨rfl, z1, z2⟩; have s1 := z2.cell hfw n1; have D3 := D2.chg z2 nE f21) | (go_at_call 23; refine (got_word _ g2 F2 f.w ok.w _ D3).mono ?_; rintro e x2 ⟨rfl, z3, z4⟩; have s2 := z4.cell s1 n2) | fail)
            have R3 := ST z1 (((Chg.refl (Eqg g1) wr).drew).trans z2 (fun _ h => .inl h)) z3 z4
            clear D1 D2 D3 z1 z2 z3 z4 s1 s2
            go_wp2_with fail
            go_roundw
            case rel => exact ⟨q + 1, by go_num, R3⟩
            case measure => simp [intOf]; omega
          have k2 : (f.k == 2) = false := by simpa using h2
          by_cases h3 : f.k = 3
          · rw [h3] at hfk
            rw [enc3 h3] at q1 q2
            have D1 := q1.chg ((Chg.refl Non wr).drew) (fun f => f) (fun _ _ f => f)
            have D2 := q2.chg ((Chg.refl Non wr).drew) (fun f => f) (fun _ _ f => f)
            have hfr := range_of hfh
            have hu := Try.underlying29
            have hz : (Try.prog.info? 29).map (·.size) = some (bv f.h).length := by rw [hash_row, bv_length, ok.h]
            have HE : ∀ w : World, (Op.equalIn 10000 29 (.agg (bv f.h).toArray) (.agg (bv f.h).toArray)).run Try.prog w = .ok true w := fun w => by rw [run_eq_hash w ok.h ok.h]; simp
            go_wp2_with fail
            refine wp_region_held_drew (S := fun w' => w'.rangeAt (a.add (q * 36)).block ((a.add (q * 36)).off + 3) (bv f.h)) (by kernel_rfl) hfr (fun hHeld => ?_)
            refine wpAnyH_take (i := 0) (oi := { dst := some 159, op := Op.move (Operand.tmp 10), type := 44, pos := "law.go:158", after := #[], guard := none }) (v := ?_) rfl (by kernel_rfl) (by kernel_rfl) (by kernel_rfl) (fun _ _ _ h => h) (Or.inl ⟨by rfl, ?_⟩) (by assumption) ?_
            rotate_left 1
            · (intro w hSw; (try dsimp only at hSw); go_simp)
              all_goals with_reducible rfl
            try simp only [Act.put, List.setIfInBounds_toArray, List.set_cons_zero, List.set_cons_succ]
            refine wpAnyH_take (i := 2) (oi := { dst := some 161, op := Op.move (Operand.tmp 0), type := 22, pos := "law.go:158", after := #[], guard := none }) (v := ?_) rfl (by kernel_rfl) (by kernel_rfl) (by kernel_rfl) (fun _ _ _ h => h) (Or.inl ⟨by rfl, ?_⟩) (by assumption) ?_
            rotate_left 1
            · (intro w hSw; (try dsimp only at hSw); go_simp)
              all_goals with_reducible rfl
            try simp only [Act.put, List.setIfInBounds_toArray, List.set_cons_zero, List.set_cons_succ]
            refine wpAnyH_take (i := 3) (oi := { dst := some 162, op := Op.move (Operand.tmp 12), type := 3, pos := "law.go:158", after := #[], guard := none }) (v := ?_) rfl (by kernel_rfl) (by kernel_rfl) (by kernel_rfl) (fun _ _ _ h => h) (Or.inl ⟨by rfl, ?_⟩) (by assumption) ?_
            rotate_left 1
            · (intro w hSw; (try dsimp only at hSw); go_simp)
              all_goals with_reducible rfl
            try simp only [Act.put, List.setIfInBounds_toArray, List.set_cons_zero, List.set_cons_succ]
            refine wpAnyH_take (i := 4) (oi := { dst := some 163, op := Op.indexAddr 22 (Operand.tmp 161) (Operand.tmp 162), type := 0, pos := "law.go:158", after := #[{ on := 2, ground := Ground.data }, { on := 3, ground := Ground.data }], guard := none }) (v := ?_) rfl (by kernel_rfl) (by kernel_rfl) (by kernel_rfl) (fun _ _ _ h => h) (Or.inl ⟨by rfl, ?_⟩) (by assumption) ?_
            rotate_left 1
            · (intro w hSw; (try dsimp only at hSw); go_simp)
              all_goals with_reducible rfl
            try simp only [Act.put, List.setIfInBounds_toArray, List.set_cons_zero, List.set_cons_succ]
            refine wpAnyH_take (i := 5) (oi := { dst := some 164, op := Op.fieldAddr 31 (Operand.tmp 163) 3, type := 0, pos := "law.go:158", after := #[{ on := 4, ground := Ground.data }], guard := none }) (v := ?_) rfl (by kernel_rfl) (by kernel_rfl) (by kernel_rfl) (fun _ _ _ h => h) (Or.inl ⟨by rfl, ?_⟩) (by assumption) ?_
            rotate_left 1
            · (intro w hSw; (try dsimp only at hSw); go_simp)
              all_goals with_reducible rfl
            try simp only [Act.put, List.setIfInBounds_toArray, List.set_cons_zero, List.set_cons_succ]
            refine wpAnyH_take (i := 6) (oi := { dst := some 165, op := Op.load 29 (Operand.tmp 164), type := 29, pos := "law.go:158", after := #[{ on := 5, ground := Ground.data }], guard := none }) rfl (by kernel_rfl) (by kernel_rfl) (by kernel_rfl) (fun _ _ _ h => h) (yieldsIf_load_mid (by rfl) _ _ rfl _ _ rfl _ _ (fun w hw => hw) hu rfl hz) (by assumption) ?_
            try simp only [Act.put, List.setIfInBounds_toArray, List.set_cons_zero, List.set_cons_succ]
            refine wpAnyH_ready (rs := [1]) (by kernel_rfl) (by simp) ?_
            refine AllReadyH.cons (o := { dst := some 160, op := Op.call { callee := Callee.value (Operand.func 25), args := #[Operand.tmp 159], argTypes := #[44] }, type := 29, pos := "law.go:158", after := #[{ on := 0, ground := Ground.data }], guard := none }) rfl (fun K hK => ?_) AllReadyH.nil
            go_simp
            refine (got_hash _ g1 F1 f.h ok.h _ D1).mono ?_
            rintro e x1 ⟨rfl, z1, z2⟩
            have s1 := Chg.range z2 hfr n1
            have D3 := D2.chg z2 nE f21
            try go_wp2_with fail
            refine hK.out _ _ s1 (fun hHeld => ?_)
            clear hK K
            try simp only [Act.put, List.setIfInBounds_toArray, List.set_cons_zero, List.set_cons_succ]
            refine wpAnyH_take (i := 7) (oi := { dst := some 166, op := Op.binOp BinOp.neq 29 (Operand.tmp 160) (Operand.tmp 165) 29, type := 4, pos := "law.go:158", after := #[{ on := 1, ground := Ground.data }, { on := 6, ground := Ground.data }], guard := none }) (v := ?_) rfl (by kernel_rfl) (by kernel_rfl) (by kernel_rfl) (fun _ _ _ h => h) (Or.inl ⟨by rfl, ?_⟩) (by assumption) ?_
            rotate_left 1
            · (intro w hSw; (try dsimp only at hSw); go_simp)
              all_goals with_reducible rfl
            try simp only [Act.put, List.setIfInBounds_toArray, List.set_cons_zero, List.set_cons_succ]
            refine wpAnyH_take (i := 8) (oi := { dst := some 167, op := Op.move (Operand.tmp 166), type := 4, pos := "law.go:158", after := #[{ on := 7, ground := Ground.data }, { on := 1, ground := Ground.chain }], guard := none }) (v := ?_) rfl (by kernel_rfl) (by kernel_rfl) (by kernel_rfl) (fun _ _ _ h => h) (Or.inl ⟨by rfl, ?_⟩) (by assumption) ?_
            rotate_left 1
            · (intro w hSw; (try dsimp only at hSw); go_simp)
              all_goals with_reducible rfl
            try simp only [Act.put, List.setIfInBounds_toArray, List.set_cons_zero, List.set_cons_succ]
            refine wpAnyH_take (i := 9) (oi := { dst := some 168, op := Op.move (Operand.tmp 11), type := 44, pos := "law.go:158", after := #[{ on := 8, ground := Ground.guard }], guard := some (8, false) }) (v := ?_) rfl (by kernel_rfl) (by kernel_rfl) (by kernel_rfl) (fun _ _ _ h => h) (Or.inl ⟨by rfl, ?_⟩) (by assumption) ?_
            rotate_left 1
            · (intro w hSw; (try dsimp only at hSw); go_simp)
              all_goals with_reducible rfl
            try simp only [Act.put, List.setIfInBounds_toArray, List.set_cons_zero, List.set_cons_succ]
            refine wpAnyH_take (i := 11) (oi := { dst := some 170, op := Op.move (Operand.tmp 0), type := 22, pos := "law.go:158", after := #[{ on := 8, ground := Ground.guard }], guard := some (8, false) }) (v := ?_) rfl (by kernel_rfl) (by kernel_rfl) (by kernel_rfl) (fun _ _ _ h => h) (Or.inl ⟨by rfl, ?_⟩) (by assumption) ?_
            rotate_left 1
            · (intro w hSw; (try dsimp only at hSw); go_simp)
              all_goals with_reducible rfl
            try simp only [Act.put, List.setIfInBounds_toArray, List.set_cons_zero, List.set_cons_succ]
            refine wpAnyH_take (i := 12) (oi := { dst := some 171, op := Op.move (Operand.tmp 12), type := 3, pos := "law.go:158", after := #[{ on := 8, ground := Ground.guard }], guard := some (8, false) }) (v := ?_) rfl (by kernel_rfl) (by kernel_rfl) (by kernel_rfl) (fun _ _ _ h => h) (Or.inl ⟨by rfl, ?_⟩) (by assumption) ?_
            rotate_left 1
            · (intro w hSw; (try dsimp only at hSw); go_simp)
              all_goals with_reducible rfl
            try simp only [Act.put, List.setIfInBounds_toArray, List.set_cons_zero, List.set_cons_succ]
            refine wpAnyH_take (i := 13) (oi := { dst := some 172, op := Op.indexAddr 22 (Operand.tmp 170) (Operand.tmp 171), type := 0, pos := "law.go:158", after := #[{ on := 11, ground := Ground.data }, { on := 12, ground := Ground.data }, { on := 8, ground := Ground.guard }], guard := some (8, false) }) (v := ?_) rfl (by kernel_rfl) (by kernel_rfl) (by kernel_rfl) (fun _ _ _ h => h) (Or.inl ⟨by rfl, ?_⟩) (by assumption) ?_
            rotate_left 1
            · (intro w hSw; (try dsimp only at hSw); go_simp)
              all_goals with_reducible rfl
            try simp only [Act.put, List.setIfInBounds_toArray, List.set_cons_zero, List.set_cons_succ]
            refine wpAnyH_take (i := 14) (oi := { dst := some 173, op := Op.fieldAddr 31 (Operand.tmp 172) 3, type := 0, pos := "law.go:158", after := #[{ on := 13, ground := Ground.data }, { on := 8, ground := Ground.guard }], guard := some (8, false) }) (v := ?_) rfl (by kernel_rfl) (by kernel_rfl) (by kernel_rfl) (fun _ _ _ h => h) (Or.inl ⟨by rfl, ?_⟩) (by assumption) ?_
            rotate_left 1
            · (intro w hSw; (try dsimp only at hSw); go_simp)
              all_goals with_reducible rfl
            try simp only [Act.put, List.setIfInBounds_toArray, List.set_cons_zero, List.set_cons_succ]
            refine wpAnyH_take (i := 15) (oi := { dst := some 174, op := Op.load 29 (Operand.tmp 173), type := 29, pos := "law.go:158", after := #[{ on := 14, ground := Ground.data }, { on := 8, ground := Ground.guard }], guard := some (8, false) }) rfl (by kernel_rfl) (by kernel_rfl) (by kernel_rfl) (fun _ _ _ h => h) (yieldsIf_load_mid (by rfl) _ _ rfl _ _ rfl _ _ (fun w hw => hw) hu rfl hz) (by assumption) ?_
            try simp only [Act.put, List.setIfInBounds_toArray, List.set_cons_zero, List.set_cons_succ]
            refine wpAnyH_ready (rs := [10]) (by kernel_rfl) (by simp) ?_
            refine AllReadyH.cons (o := { dst := some 169, op := Op.call { callee := Callee.value (Operand.func 25), args := #[Operand.tmp 168], argTypes := #[44] }, type := 29, pos := "law.go:158", after := #[{ on := 9, ground := Ground.data }, { on := 8, ground := Ground.chain }, { on := 8, ground := Ground.guard }], guard := some (8, false) }) rfl (fun K hK => ?_) AllReadyH.nil
            go_simp
            refine (got_hash _ g2 F2 f.h ok.h _ D3).mono ?_
            rintro e x2 ⟨rfl, z3, z4⟩
            have s2 := Chg.range z4 s1 n2
            try go_wp2_with fail
            refine hK.out _ _ s2 (fun hHeld => ?_)
            clear hK K
            try simp only [Act.put, List.setIfInBounds_toArray, List.set_cons_zero, List.set_cons_succ]
            refine wpAnyH_take (i := 16) (oi := { dst := some 175, op := Op.binOp BinOp.neq 29 (Operand.tmp 169) (Operand.tmp 174) 29, type := 4, pos := "law.go:158", after := #[{ on := 10, ground := Ground.data }, { on := 15, ground := Ground.data }, { on := 8, ground := Ground.guard }], guard := some (8, false) }) (v := ?_) rfl (by kernel_rfl) (by kernel_rfl) (by kernel_rfl) (fun _ _ _ h => h) (Or.inl ⟨by rfl, ?_⟩) (by assumption) ?_
            rotate_left 1
            · (intro w hSw; (try dsimp only at hSw); go_simp)
              all_goals with_reducible rfl
            try simp only [Act.put, List.setIfInBounds_toArray, List.set_cons_zero, List.set_cons_succ]
            refine wpAnyH_take (i := 17) (oi := { dst := some 176, op := Op.pick (Operand.tmp 167) (Operand.const (Value.bool true)) (Operand.tmp 175), type := 4, pos := "law.go:158", after := #[{ on := 8, ground := Ground.data }, { on := 16, ground := Ground.data }], guard := none }) (v := ?_) rfl (by kernel_rfl) (by kernel_rfl) (by kernel_rfl) (fun _ _ _ h => h) (Or.inl ⟨by rfl, ?_⟩) (by assumption) ?_
            rotate_left 1
            · (intro w hSw; (try dsimp only at hSw); go_simp)
              all_goals with_reducible rfl
            try simp only [Act.put, List.setIfInBounds_toArray, List.set_cons_zero, List.set_cons_succ]
            refine wpAnyH_done (by kernel_rfl) ?_ _
            clear hHeld
            have R3 := ST z1 (((Chg.refl (Eqg g1) wr).drew).trans z2 (fun _ h => .inl h)) z3 z4
            clear D1 D2 D3 z1 z2 z3 z4 s1 s2
            go_wp2_with fail
            go_roundw
            case rel => exact ⟨q + 1, by go_num, R3⟩
            case measure => simp [intOf]; omega
          have k3 : (f.k == 3) = false := by simpa using h3
          by_cases h4 : f.k = 4
          · rw [h4] at hfk
            rw [enc4 h4] at q1 q2
            have D1 := q1.chg ((Chg.refl Non wr).drew) (fun f => f) (fun _ _ f => f)
            have D2 := q2.chg ((Chg.refl Non wr).drew) (fun f => f) (fun _ _ f => f)
            go_wp2_with fail
            go_region_held3 (fun w' => w'.cell? ⟨(a.add (q * 36)).block, (a.add (q * 36)).off + 35, none⟩ = some (.string f.s)) (first | exact hfs | assumption) (first | (go_at_call 27; refine (got_text _ g1 F1 f.s (sm h4) _ D1).mono ?_; rintro e x1 ⟨rfl, z1, z2⟩; have s1 := z2.cell hfs n1; have D3 := D2.chg z2 nE f21) | (go_at_call 27; refine (got_text _ g2 F2 f.s (sm h4) _ D3).mono ?_; rintro e x2 ⟨rfl, z3, z4⟩; have s2 := z4.cell s1 n2) | fail)
            have R3 := ST z1 (((Chg.refl (Eqg g1) wr).drew).trans z2 (fun _ h => .inl h)) z3 z4
            clear D1 D2 D3 z1 z2 z3 z4 s1 s2
            go_wp2_with fail
            go_roundw
            case rel => exact ⟨q + 1, by go_num, R3⟩
            case measure => simp [intOf]; omega
          have k4 : (f.k == 4) = false := by simpa using h4
          · have R3 := NX (enc5 h1 h2 h3 h4)
            go_wp2_with fail
            go_roundw
            case rel => exact ⟨q + 1, by go_num, R3⟩
            case measure => simp [intOf]; omega
        · obtain rfl : q = m := by omega
          have e1 := R.r1
          have e2 := R.r2
          rw [rests_end] at e1 e2
          have H1 : Calls Try.prog 31 #[.pointer (some ⟨g1, 0, none⟩)] wr fun e w' => e = .returned (.int .i64 0) ∧ w' = wr := endR_any wr g1 F1 _ e1
          have H2 : Calls Try.prog 31 #[.pointer (some ⟨g2, 0, none⟩)] wr fun e w' => e = .returned (.int .i64 21) ∧ w' = wr := endR_any wr g2 F2 _ e2
          have bel := R.below
          clear e1 e2 R P0
          have hqn : ¬ (q : Int) < (n : Int) := by omega
          go_wp2_with fail
          refine H1.mono ?_
          rintro e x1 ⟨rfl, rfl⟩
          go_wp2_with fail
          refine H2.mono ?_
          rintro e x2 ⟨rfl, rfl⟩
          go_wp2
          go_ret
          exact ⟨congrArg (fun x => Ending.returned (Value.bool x)) HB0.out, bel⟩

/-! ### The row's frame -/
theorem own : ownKnob Try.prog.godebug = none := by kernel_rfl
theorem walkA (W : World) (args : Array Value) (hsz : args.size = Try.f5.params.size) (hok : ∀ (j : Nat) (t : TypeId) (v : Value), Try.f5.params[j]? = some t → args[j]? = some v → Okv Try.prog W t v) :
    Calls Try.prog 5 args W fun e W' => e = .returned (.bool true) ∧ Below W.heap.size W W' := by
  rw [Try.params5] at hsz hok
  obtain ⟨v0, v1, rfl⟩ : ∃ v0 v1 : Value, args = #[v0, v1] := by
    obtain ⟨l⟩ := args
    match l, hsz with
    | [v0, v1], _ => exact ⟨v0, v1, rfl⟩
  exact walk W v0 v1 (hok 0 22 v0 rfl rfl) (hok 1 5 v1 rfl rfl)
set_option maxRecDepth 100000 in
theorem lifted (os : Os) (started : os.Started) (H : Type) (enc : TypeId × Value → H) :
    ReturnsInHanded {} Try.checked os 5 .any (Rows.wireBackSpec.pre6 enc Try.prog Try.f5 Rows.wireBackRow.domain false) (Rows.wireBackSpec.post enc Try.prog Try.f5 false true false false) :=
  lifted_of_walk (C := Try.checked) (s := Rows.wireBackSpec) (conds := Rows.wireBackRow.domain) (apart := false) (fresh := true) (T := 4) own started (by kernel_rfl) Try.func5
    (ChangeSpec.witness6 (enc := enc) (C := Try.checked) false ⟨#[], #[.slice none 0 0, .int .u8 0], []⟩ 8 (by kernel_rfl) (by kernel_rfl) (by kernel_rfl) (by kernel_rfl))
    rfl (fun ds hd => by
      rw [Try.params5] at hd
      match ds, hd with
      | [d0, d1], _ => exact ⟨rfl, rfl, rfl⟩)
    (by kernel_rfl) Try.underlying4 (by kernel_rfl) (by rw [Try.params5]; intro t ht; simp only [List.mem_cons, List.not_mem_nil, or_false] at ht; rcases ht with rfl | rfl <;> exact ⟨by kernel_rfl, of_decide_eq_true (by kernel_rfl)⟩) walkA

theorem holds : Rows.wireBackRow.holds Try.pinned (OpenSpec.ofChange Rows.wireBackSpec) :=
  OpenClaim.holds_of_wide 5 Try.f5 rfl rfl rfl rfl rfl rfl rfl ⟨rfl, rfl, rfl, rfl, rfl⟩ rfl rfl rfl rfl rfl (by kernel_rfl) Try.func5 (by kernel_rfl)
    (of_decide_eq_true (by kernel_rfl)) (by unfold Func.isWrapper; first | (rw [if_pos (by decide +kernel)]; kernel_rfl) | (rw [if_neg (by decide +kernel)]; exact ⟨rfl, rfl⟩))
    (fun os started H enc _ => lifted os started H enc)
end Go.Proofs.Ytjaaaehgggnhbaa.wireBack
namespace Go.Proofs.Ytjaaaehgggnhbaa
/-- The statement. -/
theorem wireBack_holds : Rows.WireBackSaid := wireBack.holds
end Go.Proofs.Ytjaaaehgggnhbaa
