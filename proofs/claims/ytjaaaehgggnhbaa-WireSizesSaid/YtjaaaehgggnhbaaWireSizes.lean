/- Of the program at this commit: the law WireSizes answers true for every list of fields (each field has its size; what is written later stands behind, and what was asked ahead stays as it was); no condition. -/
import Derived.Test.YtjaaaehgggnhbaaRows
import Derived.WalkKit
import Derived.ProofKit
import Derived.Test.YtjaaaehgggnhbaaFi
namespace Go.Proofs.Ytjaaaehgggnhbaa.wireSizes
open Go.ChangeShapes Go.WideShapes Go.ChangeAt Go.RowKit
set_option linter.unusedVariables false

/-- A round's head: the writer has the bytes that were asked for last, and these lie apart from it. -/
structure Rel (W : World) (g : Nat) (k : Nat) (w : World) (A : Option Addr) (c : Nat) (ls : List UInt8) (v : Value) : Prop where
  k40 : k ≤ 40
  rd : Rd w A ls
  hc : ls.length ≤ c
  hm : c ≤ maxLen
  wri : Wri w g v (some ls)
  sz : ls.length ≤ k * 5000
  below : Below W.heap.size W w
  apart : ∀ j, abl A j → ¬ Wft g v j ∧ j < w.heap.size
  new : ∀ j, Wft g v j → W.heap.size ≤ j

theorem Rel.step {W : World} {g k : Nat} {w w1 w2 : World} {A : Option Addr} {c : Nat} {ls ys : List UInt8} {v v1 v2 : Value} (h : Rel W g k w A c ls v) {m : Nat} (hk : k < 40) (hm : ys.length = m) (hy : m ≤ 5000)
    (h1 : Wri w1 g v1 (some (ls ++ ys))) (hC1 : Chg (Wft g v) w w1) (hl1 : ∀ j, vbl v1 j → vbl v j ∨ w.heap.size ≤ j)
    (ho : Own 5 w2 v2 (ls ++ ys)) (hl2 : ∀ j, vbl v2 j → w1.heap.size ≤ j) (hC2 : Chg Non w1 w2) :
    ∃ A2 c2, v2 = .slice A2 (ls.length + m) c2 ∧ ls.length + m ≤ c2 ∧ Rd w2 A2 ls ∧ Rd w2 A ls ∧ (ls ++ ys).length = ls.length + m ∧ Rel W g (k + 1) w2 A2 c2 (ls ++ ys) v1 := by
  obtain ⟨A2, c2, rfl, hc2, hm2, hr2, hab, hlt⟩ := ho.slice
  rw [List.length_append] at hc2
  have hgl := h1.lt
  have hvl := h1.vlt
  have hB := h.below.size
  have hpre : Rd w2 A2 ls := by have := hr2.take ls.length; rwa [List.take_left] at this
  subst hm
  refine ⟨A2, c2, by rw [List.length_append], hc2, hpre, (h.rd.chg hC1 (fun j hj => (h.apart j hj).1)).chg hC2 (fun _ _ f => f), List.length_append, by have := h.k40; omega, hr2, by rw [List.length_append]; exact hc2, hm2, h1.chg hC2 (fun _ _ f => f), ?_, ?_, ?_, ?_⟩
  · rw [List.length_append]; have := h.sz; omega
  · exact h.below.trans ((hC1.below h.below.size (fun j hj => h.new j hj)).trans (hC2.below (Nat.le_trans h.below.size hC1.size) (fun _ f => f.elim)))
  · intro j hj
    have h3 := hl2 j ((hab j).1 hj)
    refine ⟨?_, hlt j hj⟩
    rintro (rfl | h4)
    · omega
    · have := hvl j h4; omega
  · rintro j (rfl | h4)
    · exact h.new _ (.inl rfl)
    · rcases hl1 j h4 with h5 | h5
      · exact h.new _ (.inr h5)
      · omega

set_option maxRecDepth 100000 in
set_option maxHeartbeats 1600000 in
theorem walk (W : World) (v0 : Value) (h0 : Okv Try.prog W 22 v0) :
    Calls Try.prog 8 #[v0] W fun e W' => e = .returned (.bool true) ∧ Below W.heap.size W W' := by
  obtain ⟨A, n, c, L, rfl, hnc, hcm, hL⟩ := fields_of h0
  have hn63 : n ≤ 9223372036854775807 := by unfold maxLen at hcm; omega
  clear h0
  go_enter Try.func8, Try.ntmps8
  go_wp2_with fail
  refine (newWriter_any _).mono ?_
  rintro e w1 ⟨rfl, rfl⟩
  have hW1 := wri_new W
  have hc0 := (Chg.refl Non W).alloc (.cells #[.slice none 0 0, .bool false] 59)
  have hs0 : W.heap.size < (W.alloc (.cells #[.slice none 0 0, .bool false] 59)).heap.size := by simp
  generalize W.alloc (.cells #[.slice none 0 0, .bool false] 59) = w1 at *
  go_wp2_with fail
  refine (alive_any _).mono ?_
  rintro e w2 ⟨rfl, hc1⟩
  have hW2 := hW1.chg hc1 (fun _ _ f => f)
  go_wp2_with fail
  refine (bytes_some _ W.heap.size _ [] hW2 (by simp)).mono ?_
  rintro e w3 ⟨v3, rfl, ho3, hl3, hc3⟩
  obtain ⟨A3, c3, rfl, hc3c, hc3m, hr3, hab3, hlt3⟩ := ho3.slice
  have R0 : Rel W W.heap.size 0 w3 A3 c3 [] (.slice none 0 0) := by
    refine ⟨by omega, hr3, hc3c, hc3m, hW2.chg hc3 (fun _ _ f => f), by simp, ?_, ?_, ?_⟩
    · exact ((hc0.trans hc1 (fun _ h => .inl h)).trans hc3 (fun _ h => .inl h)).below (Nat.le_refl _) (fun _ f => f.elim)
    · intro j hj
      refine ⟨?_, hlt3 j hj⟩
      have h4 := hl3 j ((hab3 j).1 hj)
      have h5 := hc1.size
      rintro (rfl | h6)
      · omega
      · cases h6
    · rintro j (rfl | h6)
      · exact Nat.le_refl _
      · cases h6
  clear hc0 hs0 hc1 hW1 hW2 hl3 hc3 hab3 hlt3 ho3 hr3 hc3c hc3m
  go_wp2_with fail
  go_loopw [4, 6] (fun x i wr => ∃ (k : Nat) (A' : Option Addr) (c' : Nat) (ls : List UInt8) (v : Value), Rel W W.heap.size k wr A' c' ls v ∧ x = .slice A' ls.length c' ∧ i = .int .i64 (k : Int)) (fun _ i _ => 40 - (intOf i).toNat)
  case atStart => exact ⟨0, _, _, [], _, R0, rfl, rfl⟩
  case round =>
    obtain ⟨k, A', c', ls, v, R, rfl, rfl⟩ := hrel
    have hk40 := R.k40
    by_cases hkn : k < n
    · by_cases hk : k < 40
      · obtain ⟨ok, a, rfl, hat⟩ := hL k hkn
        have hat' := hat.below R.below (by have := hat.lt; exact this)
        generalize L k = f at *
        have hfk := hat'.k
        have hfn := hat'.n
        have hfw := hat'.wd
        have hfs := hat'.s ok
        have hfh := hat'.h
        have hk' : decide ((k : Int) < 40) = true := by simp; omega
        have hlb : ls.length ≤ 200000 := by have := R.sz; omega
        by_cases h1 : f.k = 1
        · rw [h1] at hfk
          go_wp2_with fail
          refine (number_any _ W.heap.size v (some ls) f.n ok.n1 ok.n2 R.wri (fun l hl => by injection hl with hl; subst hl; have := R.sz; omega)).mono ?_
          rintro e w1 ⟨rfl, v1, hw1, hC1, hl1⟩
          change Wri w1 W.heap.size v1 (some (ls ++ be 8 (f.n % 18446744073709551616).toNat)) at hw1
          obtain ⟨ys, hyl, hw1⟩ : ∃ ys : List UInt8, ys.length = 8 ∧ Wri w1 W.heap.size v1 (some (ls ++ ys)) := ⟨_, be_length _ _, hw1⟩
          go_wp2_with fail
          refine (bytes_some _ W.heap.size v1 (ls ++ ys) hw1 (by rw [List.length_append, hyl]; have := R.sz; omega)).mono ?_
          rintro e w2 ⟨v2, rfl, ho2, hl2, hC2⟩
          obtain ⟨A2, c2, rfl, hc2, hr2, hr1, hln, R2⟩ := R.step (m := 8) hk hyl (by omega) hw1 hC1 hl1 ho2 hl2 hC2
          have HLN := Lib.hid hln
          clear hln ho2 hl2 hC2 hw1 hC1 hl1 hyl
          go_wp2_with fail
          refine (same_any _ A2 A' ls.length ls.length c2 c' ls ls rfl rfl hr2 hr1).mono ?_
          rintro e w3 ⟨rfl, rfl⟩
          go_wp2
          go_roundw
          case rel => exact ⟨k + 1, A2, c2, _, v1, R2, by rw [HLN.out], by go_num⟩
          case measure => simp [intOf]; omega
        have k1 : (f.k == 1) = false := by simpa using h1
        by_cases h2 : f.k = 2
        · rw [h2] at hfk
          go_wp2_with fail
          refine (word_any _ W.heap.size v (some ls) f.w ok.w R.wri (fun l hl => by injection hl with hl; subst hl; have := R.sz; omega)).mono ?_
          rintro e w1 ⟨rfl, v1, hw1, hC1, hl1⟩
          change Wri w1 W.heap.size v1 (some (ls ++ be 8 f.w)) at hw1
          obtain ⟨ys, hyl, hw1⟩ : ∃ ys : List UInt8, ys.length = 8 ∧ Wri w1 W.heap.size v1 (some (ls ++ ys)) := ⟨_, be_length _ _, hw1⟩
          go_wp2_with fail
          refine (bytes_some _ W.heap.size v1 (ls ++ ys) hw1 (by rw [List.length_append, hyl]; have := R.sz; omega)).mono ?_
          rintro e w2 ⟨v2, rfl, ho2, hl2, hC2⟩
          obtain ⟨A2, c2, rfl, hc2, hr2, hr1, hln, R2⟩ := R.step (m := 8) hk hyl (by omega) hw1 hC1 hl1 ho2 hl2 hC2
          have HLN := Lib.hid hln
          clear hln ho2 hl2 hC2 hw1 hC1 hl1 hyl
          go_wp2_with fail
          refine (same_any _ A2 A' ls.length ls.length c2 c' ls ls rfl rfl hr2 hr1).mono ?_
          rintro e w3 ⟨rfl, rfl⟩
          go_wp2
          go_roundw
          case rel => exact ⟨k + 1, A2, c2, _, v1, R2, by rw [HLN.out], by go_num⟩
          case measure => simp [intOf]; omega
        have k2 : (f.k == 2) = false := by simpa using h2
        by_cases h3 : f.k = 3
        · rw [h3] at hfk
          go_wp2_with (with_reducible refine wpList_load_hash rfl _ rfl (h := f.h) rfl ok.h hfh ?_)
          refine (hash_any _ W.heap.size v (some ls) f.h ok.h R.wri (fun l hl => by injection hl with hl; subst hl; have := R.sz; omega)).mono ?_
          rintro e w1 ⟨rfl, v1, hw1, hC1, hl1⟩
          change Wri w1 W.heap.size v1 (some (ls ++ f.h)) at hw1
          obtain ⟨ys, hyl, hw1⟩ : ∃ ys : List UInt8, ys.length = 32 ∧ Wri w1 W.heap.size v1 (some (ls ++ ys)) := ⟨_, ok.h, hw1⟩
          go_wp2_with fail
          refine (bytes_some _ W.heap.size v1 (ls ++ ys) hw1 (by rw [List.length_append, hyl]; have := R.sz; omega)).mono ?_
          rintro e w2 ⟨v2, rfl, ho2, hl2, hC2⟩
          obtain ⟨A2, c2, rfl, hc2, hr2, hr1, hln, R2⟩ := R.step (m := 32) hk hyl (by omega) hw1 hC1 hl1 ho2 hl2 hC2
          have HLN := Lib.hid hln
          clear hln ho2 hl2 hC2 hw1 hC1 hl1 hyl
          go_wp2_with fail
          refine (same_any _ A2 A' ls.length ls.length c2 c' ls ls rfl rfl hr2 hr1).mono ?_
          rintro e w3 ⟨rfl, rfl⟩
          go_wp2
          go_roundw
          case rel => exact ⟨k + 1, A2, c2, _, v1, R2, by rw [HLN.out], by go_num⟩
          case measure => simp [intOf]; omega
        have k3 : (f.k == 3) = false := by simpa using h3
        by_cases h4 : f.k = 4
        · rw [h4] at hfk
          have hsl : f.s.data.toList.length = f.s.size := by rw [Array.length_toList]; rfl
          by_cases hbig : 4096 < f.s.size
          · have ht : txSt (some ls) f.s.data.toList = none := by unfold txSt; rw [hsl, if_pos hbig]
            have HT := Lib.hid ht
            clear ht hsl
            go_wp2_with fail
            refine (text_any _ W.heap.size v (some ls) f.s R.wri (fun l hl => by injection hl with hl; subst hl; have := R.sz; omega) ok.s).mono ?_
            rintro e w1 ⟨rfl, v1, hw1, hC1, hl1⟩
            rw [HT.out] at hw1
            go_wp2_with fail
            refine (bytes_none _ W.heap.size v1 hw1).mono ?_
            rintro e w2 ⟨rfl, rfl⟩
            go_wp2
            go_ret
            exact ⟨rfl, R.below.trans (hC1.below R.below.size (fun j hj => R.new j hj))⟩
          · have ht : txSt (some ls) f.s.data.toList = some (ls ++ tx f.s.data.toList) := by unfold txSt; rw [hsl, if_neg hbig]; rfl
            have hyy : (tx f.s.data.toList).length = 2 + f.s.size := by unfold tx; rw [List.length_append, be_length, hsl]
            have HT := Lib.hid ht
            have HY := Lib.hid hyy
            have hsm : f.s.size ≤ 4096 := by omega
            clear ht hsl hyy
            go_wp2_with fail
            refine (text_any _ W.heap.size v (some ls) f.s R.wri (fun l hl => by injection hl with hl; subst hl; have := R.sz; omega) ok.s).mono ?_
            rintro e w1 ⟨rfl, v1, hw1, hC1, hl1⟩
            rw [HT.out] at hw1
            obtain ⟨ys, hyl, hw1⟩ : ∃ ys : List UInt8, ys.length = 2 + f.s.size ∧ Wri w1 W.heap.size v1 (some (ls ++ ys)) := ⟨_, HY.out, hw1⟩
            have hs1 := (hat'.chg hC1 (fun hj => by have := R.new _ hj; have := hat.lt; omega)).s ok
            go_wp2_with fail
            refine (bytes_some _ W.heap.size v1 (ls ++ ys) hw1 (by rw [List.length_append, hyl]; have := R.sz; omega)).mono ?_
            rintro e w2 ⟨v2, rfl, ho2, hl2, hC2⟩
            obtain ⟨A2, c2, rfl, hc2, hr2, hr1, hln, R2⟩ := R.step (m := 2 + f.s.size) hk hyl (by omega) hw1 hC1 hl1 ho2 hl2 hC2
            have HLN := Lib.hid hln
            clear hln ho2 hl2 hC2 hw1 hC1 hl1 hyl
            go_wp2_with fail
            refine (same_any _ A2 A' ls.length ls.length c2 c' ls ls rfl rfl hr2 hr1).mono ?_
            rintro e w3 ⟨rfl, rfl⟩
            go_wp2
            go_roundw
            case rel => exact ⟨k + 1, A2, c2, _, v1, R2, by rw [HLN.out], by go_num⟩
            case measure => simp [intOf]; omega
        have k4 : (f.k == 4) = false := by simpa using h4
        · go_wp2_with fail
          refine (bytes_some _ W.heap.size v ls R.wri (by have := R.sz; omega)).mono ?_
          rintro e w2 ⟨v2, rfl, ho2, hl2, hC2⟩
          obtain ⟨A2, c2, rfl, hc2, hr2, hr1, hln, R2⟩ := R.step (ys := []) (m := 0) (v1 := v) hk rfl (by omega) (by rw [List.append_nil]; exact R.wri) (Chg.refl _ _) (fun _ h => .inl h) (by rw [List.append_nil]; exact ho2) hl2 hC2
          have HLN := Lib.hid hln
          clear hln ho2 hl2 hC2
          go_wp2_with fail
          refine (same_any _ A2 A' ls.length ls.length c2 c' ls ls rfl rfl hr2 hr1).mono ?_
          rintro e w3 ⟨rfl, rfl⟩
          go_wp2
          go_roundw
          case rel => exact ⟨k + 1, A2, c2, _, v, R2, by rw [HLN.out]; rfl, by go_num⟩
          case measure => simp [intOf]; omega
      · have hk' : decide ((k : Int) < 40) = false := by simp; omega
        go_wp2
        go_ret
        exact ⟨rfl, R.below⟩
    · go_wp2
      go_ret
      exact ⟨rfl, R.below⟩

/-! ### The row's frame -/
theorem own : ownKnob Try.prog.godebug = none := by kernel_rfl
theorem walkA (W : World) (args : Array Value) (hsz : args.size = Try.f8.params.size) (hok : ∀ (j : Nat) (t : TypeId) (v : Value), Try.f8.params[j]? = some t → args[j]? = some v → Okv Try.prog W t v) :
    Calls Try.prog 8 args W fun e W' => e = .returned (.bool true) ∧ Below W.heap.size W W' := by
  rw [Try.params8] at hsz hok
  obtain ⟨v0, rfl⟩ : ∃ v0 : Value, args = #[v0] := by
    obtain ⟨l⟩ := args
    match l, hsz with
    | [v0], _ => exact ⟨v0, rfl⟩
  exact walk W v0 (hok 0 22 v0 rfl rfl)
set_option maxRecDepth 100000 in
theorem lifted (os : Os) (started : os.Started) (H : Type) (enc : TypeId × Value → H) :
    ReturnsInHanded {} Try.checked os 8 .any (Rows.wireSizesSpec.pre6 enc Try.prog Try.f8 Rows.wireSizesRow.domain false) (Rows.wireSizesSpec.post enc Try.prog Try.f8 false true false false) :=
  lifted_of_walk (C := Try.checked) (s := Rows.wireSizesSpec) (conds := Rows.wireSizesRow.domain) (apart := false) (fresh := true) (T := 4) own started (by kernel_rfl) Try.func8
    (ChangeSpec.witness6 (enc := enc) (C := Try.checked) false ⟨#[], #[.slice none 0 0], []⟩ 8 (by kernel_rfl) (by kernel_rfl) (by kernel_rfl) (by kernel_rfl))
    rfl (fun ds hd => by
      rw [Try.params8] at hd
      match ds, hd with
      | [d0], _ => exact ⟨rfl, rfl, rfl⟩)
    (by kernel_rfl) Try.underlying4 (by kernel_rfl) (by rw [Try.params8]; intro t ht; simp only [List.mem_cons, List.not_mem_nil, or_false] at ht; subst ht; exact ⟨by kernel_rfl, of_decide_eq_true (by kernel_rfl)⟩) walkA

theorem holds : Rows.wireSizesRow.holds Try.pinned (OpenSpec.ofChange Rows.wireSizesSpec) :=
  OpenClaim.holds_of_wide 8 Try.f8 rfl rfl rfl rfl rfl rfl rfl ⟨rfl, rfl, rfl, rfl, rfl⟩ rfl rfl rfl rfl rfl (by kernel_rfl) Try.func8 (by kernel_rfl)
    (of_decide_eq_true (by kernel_rfl)) (by unfold Func.isWrapper; first | (rw [if_pos (by decide +kernel)]; kernel_rfl) | (rw [if_neg (by decide +kernel)]; exact ⟨rfl, rfl⟩))
    (fun os started H enc _ => lifted os started H enc)
end Go.Proofs.Ytjaaaehgggnhbaa.wireSizes
namespace Go.Proofs.Ytjaaaehgggnhbaa
/-- The statement. -/
theorem wireSizes_holds : Rows.WireSizesSaid := wireSizes.holds
end Go.Proofs.Ytjaaaehgggnhbaa
