/- Of the program at this commit: the law WireWrites answers true for every list of fields (any fields are the bytes that the document says, or the error); no condition. -/
import Derived.Test.YtjaaaehgggnhbaaRows
import Derived.WalkKit
import Derived.ProofKit
import Derived.Test.YtjaaaehgggnhbaaFi
import Derived.Test.YtjaaaehgggnhbaaRw
namespace Go.Proofs.Ytjaaaehgggnhbaa.wireWrites
open Go.ChangeShapes Go.WideShapes Go.ChangeAt Go.RowKit
set_option linter.unusedVariables false

/-- The writer's state, by whether a text was too long. -/
def stOf (bad : Bool) (ls : List UInt8) : Option (List UInt8) := if bad then none else some ls
theorem stOf_map (bad : Bool) (ls ys : List UInt8) : (stOf bad ls).map (· ++ ys) = stOf bad (ls ++ ys) := by cases bad <;> rfl
theorem stOf_sz {bad : Bool} {ls : List UInt8} (h : ls.length ≤ 1000000000) : ∀ l, stOf bad ls = some l → l.length ≤ 1000000000 := by
  intro l hl
  cases bad
  · injection hl with hl; subst hl; exact h
  · cases hl

/-- A round's head: the writer has what is wanted, and that lies apart from it. -/
structure Rel (W : World) (g : Nat) (k : Nat) (w : World) (o : Value) (bad : Bool) (ls : List UInt8) (v : Value) : Prop where
  k40 : k ≤ 40
  own : Own 5 w o ls
  wri : Wri w g v (stOf bad ls)
  sz : ls.length ≤ k * 5000
  below : Below W.heap.size W w
  apart : ∀ j, vbl o j → ¬ Wft g v j
  onew : ∀ j, vbl o j → W.heap.size ≤ j
  new : ∀ j, Wft g v j → W.heap.size ≤ j

theorem Rel.szb {W : World} {g k : Nat} {w : World} {o : Value} {bad : Bool} {ls : List UInt8} {v : Value} (h : Rel W g k w o bad ls v) : ls.length ≤ 1000000000 := by
  have := h.sz; have := h.k40; omega

/-- The writer alone has gone on. -/
theorem Rel.wrote {W : World} {g k : Nat} {w w1 : World} {o : Value} {bad : Bool} {ls : List UInt8} {v v1 : Value} (h : Rel W g k w o bad ls v)
    (hC1 : Chg (Wft g v) w w1) (hl1 : ∀ j, vbl v1 j → vbl v j ∨ w.heap.size ≤ j) :
    Own 5 w1 o ls ∧ Below W.heap.size W w1 ∧ (∀ j, vbl o j → ¬ Wft g v1 j) ∧ (∀ j, Wft g v1 j → W.heap.size ≤ j) := by
  have hB := h.below.size
  refine ⟨h.own.chg hC1 h.apart, h.below.trans (hC1.below hB (fun j hj => h.new j hj)), ?_, ?_⟩
  · intro j hj
    have ha := h.apart j hj
    have ho := (h.own.lt j hj).2
    rintro (rfl | h4)
    · exact ha (.inl rfl)
    · rcases hl1 j h4 with h5 | h5
      · exact ha (.inr h5)
      · omega
  · rintro j (rfl | h4)
    · exact h.new _ (.inl rfl)
    · rcases hl1 j h4 with h5 | h5
      · exact h.new _ (.inr h5)
      · omega

theorem Rel.step {W : World} {g k : Nat} {w w1 w2 w3 : World} {o o3 : Value} {bad : Bool} {ls ys : List UInt8} {v v1 : Value} (h : Rel W g k w o bad ls v) (hk : k < 40) (hy : ys.length ≤ 5000)
    (h1 : Wri w1 g v1 (stOf bad (ls ++ ys))) (hC1 : Chg (Wft g v) w w1) (hl1 : ∀ j, vbl v1 j → vbl v j ∨ w.heap.size ≤ j) (hC2 : Chg Non w1 w2)
    (ho : Own 5 w3 o3 (ls ++ ys)) (hg : w2.grownBy w3 o.ownBlock) (hl : o3.ownBlock = o.ownBlock ∨ o3.ownBlock = some w2.heap.size) :
    Rel W g (k + 1) w3 o3 bad (ls ++ ys) v1 := by
  obtain ⟨a1, a2, a3, a4⟩ := h.wrote hC1 hl1
  have hgl := h1.lt
  have hvl := h1.vlt
  have hs2 := hC2.size
  have hs1 := a2.size
  have hC3 : Chg (fun j => vbl o j) w1 w3 := (hC2.mono (S' := fun j => vbl o j) (fun _ f => f.elim)).grown hg (fun k hk => .inl hk)
  refine ⟨by omega, ho, h1.chg hC3 (fun j hj hj2 => a3 j hj2 hj), ?_, a2.trans (hC3.below hs1 (fun j hj => h.onew j hj)), ?_, ?_, a4⟩
  · rw [List.length_append]; have := h.sz; omega
  · intro j hj
    rcases hl with h5 | h5
    · exact a3 j (by unfold vbl at hj ⊢; rw [← h5]; exact hj)
    · unfold vbl at hj
      rw [h5] at hj
      injection hj with hj
      rintro (rfl | h4)
      · omega
      · have := hvl j h4; omega
  · intro j hj
    rcases hl with h5 | h5
    · exact h.onew j (by unfold vbl at hj ⊢; rw [← h5]; exact hj)
    · unfold vbl at hj
      rw [h5] at hj
      injection hj with hj
      omega

theorem Rel.next {W : World} {g k : Nat} {w : World} {o : Value} {bad : Bool} {ls : List UInt8} {v : Value} (h : Rel W g k w o bad ls v) (hk : k < 40) : Rel W g (k + 1) w o bad ls v :=
  ⟨by omega, h.own, h.wri, Nat.le_trans h.sz (Nat.mul_le_mul_right _ (Nat.le_succ k)), h.below, h.apart, h.onew, h.new⟩

set_option maxRecDepth 100000 in
set_option maxHeartbeats 1600000 in
theorem walk (W : World) (v0 : Value) (h0 : Okv Try.prog W 22 v0) :
    Calls Try.prog 3 #[v0] W fun e W' => e = .returned (.bool true) ∧ Below W.heap.size W W' := by
  obtain ⟨A, n, c, L, rfl, hnc, hcm, hL⟩ := fields_of h0
  have hn63 : n ≤ 9223372036854775807 := by unfold maxLen at hcm; omega
  clear h0
  go_enter Try.func3, Try.ntmps3
  go_wp2_with fail
  refine (newWriter_any _).mono ?_
  rintro e w1 ⟨rfl, rfl⟩
  have hW1 := wri_new W
  have hc0 := (Chg.refl Non W).alloc (.cells #[.slice none 0 0, .bool false] 59)
  generalize W.alloc (.cells #[.slice none 0 0, .bool false] 59) = w1 at *
  go_wp2_with fail
  refine (alive_any _).mono ?_
  rintro e w2 ⟨rfl, hc1⟩
  have hW2 := hW1.chg hc1 (fun _ _ f => f)
  have R0 : Rel W W.heap.size 0 w2 (.slice none 0 0) false [] (.slice none 0 0) := by
    refine ⟨by omega, Own.nil _ _, hW2, by simp, (hc0.trans hc1 (fun _ h => .inl h)).below (Nat.le_refl _) (fun _ f => f.elim), fun j hj => (by cases hj), fun j hj => (by cases hj), ?_⟩
    rintro j (rfl | h6)
    · exact Nat.le_refl _
    · cases h6
  clear hc0 hc1 hW1 hW2
  go_wp2_with fail
  go_loopw [4, 5, 6] (fun x y i wr => ∃ (k : Nat) (bad : Bool) (ls : List UInt8) (v : Value), Rel W W.heap.size k wr x bad ls v ∧ y = .bool bad ∧ i = .int .i64 (k : Int)) (fun _ _ i _ => 40 - (intOf i).toNat)
  case atStart => exact ⟨0, false, [], _, R0, rfl, rfl⟩
  case round =>
    obtain ⟨k, bad, ls, v, R, rfl, rfl⟩ := hrel
    obtain ⟨o, rfl⟩ : ∃ o, o = u4 := ⟨_, rfl⟩
    have hk40 := R.k40
    by_cases hkn : k < n
    · by_cases hk : k < 40
      · obtain ⟨ok, a, rfl, hat⟩ := hL k hkn
        have hlt := hat.lt
        have hat' := hat.below R.below hlt
        generalize L k = f at *
        have hfk := hat'.k
        have hfn := hat'.n
        have hfw := hat'.wd
        have hfs := hat'.s ok
        have hfh := hat'.h
        have hk' : decide ((k : Int) < 40) = true := by simp; omega
        have hlb : ls.length ≤ 200000 := by have := R.sz; omega
        by_cases h1 : f.k = 1
        · rw [h1] at hfk
          go_wp2_with fail
          refine (number_any _ W.heap.size v (stOf bad ls) f.n ok.n1 ok.n2 R.wri (stOf_sz R.szb)).mono ?_
          rintro e w1 ⟨rfl, v1, hw1, hC1, hl1⟩
          rw [stOf_map] at hw1
          have hat1 := hat'.chg hC1 (fun hj => by have := R.new _ hj; omega)
          have hfn1 := hat1.n
          go_wp2_with fail
          refine (refWordI_any _ (f.n % 18446744073709551616) (by omega) (by omega)).mono ?_
          rintro e w2 ⟨v2, rfl, ho2, hl2, hC2⟩
          obtain ⟨A2, c2, rfl, hc2, hm2, hr2, hab2, hlt2⟩ := ho2.slice
          have hown2 := (R.wrote hC1 hl1).1.chg hC2 (fun _ _ f => f)
          rw [be_length]
          go_wp2_with (at_builtin; refine wpList_app byt _ rfl _ _ rfl (v := o) rfl hown2 rfl (l2 := be 8 (f.n % 18446744073709551616).toNat) (be_length _ _).symm hr2 (by rw [be_length]; omega) ?_; intro v' w3 hown' hgr hloc)
          have R2 := R.step hk (by rw [be_length]; omega) hw1 hC1 hl1 hC2 hown' hgr hloc
          clear hown' hgr hloc hown2 hr2 ho2 hl2 hC2 hw1 hC1 hl1
          go_wp2_with fail
          go_roundw
          case rel => exact ⟨k + 1, bad, _, v1, R2, rfl, by go_num⟩
          case measure => simp [intOf]; omega
        have k1 : (f.k == 1) = false := by simpa using h1
        by_cases h2 : f.k = 2
        · rw [h2] at hfk
          go_wp2_with fail
          refine (word_any _ W.heap.size v (stOf bad ls) f.w ok.w R.wri (stOf_sz R.szb)).mono ?_
          rintro e w1 ⟨rfl, v1, hw1, hC1, hl1⟩
          rw [stOf_map] at hw1
          have hat1 := hat'.chg hC1 (fun hj => by have := R.new _ hj; omega)
          have hfw1 := hat1.wd
          go_wp2_with fail
          refine (refWord_any _ f.w ok.w).mono ?_
          rintro e w2 ⟨v2, rfl, ho2, hl2, hC2⟩
          obtain ⟨A2, c2, rfl, hc2, hm2, hr2, hab2, hlt2⟩ := ho2.slice
          have hown2 := (R.wrote hC1 hl1).1.chg hC2 (fun _ _ f => f)
          rw [be_length]
          go_wp2_with (at_builtin; refine wpList_app byt _ rfl _ _ rfl (v := o) rfl hown2 rfl (l2 := be 8 f.w) (be_length _ _).symm hr2 (by rw [be_length]; omega) ?_; intro v' w3 hown' hgr hloc)
          have R2 := R.step hk (by rw [be_length]; omega) hw1 hC1 hl1 hC2 hown' hgr hloc
          clear hown' hgr hloc hown2 hr2 ho2 hl2 hC2 hw1 hC1 hl1
          go_wp2_with fail
          go_roundw
          case rel => exact ⟨k + 1, bad, _, v1, R2, rfl, by go_num⟩
          case measure => simp [intOf]; omega
        have k2 : (f.k == 2) = false := by simpa using h2
        by_cases h3 : f.k = 3
        · rw [h3] at hfk
          go_wp2_with (with_reducible refine wpList_load_hash rfl _ rfl (h := f.h) rfl ok.h hfh ?_)
          refine (hash_any _ W.heap.size v (stOf bad ls) f.h ok.h R.wri (stOf_sz R.szb)).mono ?_
          rintro e w1 ⟨rfl, v1, hw1, hC1, hl1⟩
          rw [stOf_map] at hw1
          have hat1 := hat'.chg hC1 (fun hj => by have := R.new _ hj; omega)
          have hfh1 := hat1.h
          go_wp2_with (with_reducible refine wpList_load_hash rfl _ rfl (h := f.h) rfl ok.h hfh1 ?_)
          refine (refHash_any _ f.h ok.h).mono ?_
          rintro e w2 ⟨v2, rfl, ho2, hl2, hC2⟩
          obtain ⟨A2, c2, rfl, hc2, hm2, hr2, hab2, hlt2⟩ := ho2.slice
          have hown2 := (R.wrote hC1 hl1).1.chg hC2 (fun _ _ f => f)
          rw [ok.h]
          go_wp2_with (at_builtin; refine wpList_app byt _ rfl _ _ rfl (v := o) rfl hown2 rfl (l2 := f.h) ok.h.symm hr2 (by rw [ok.h]; omega) ?_; intro v' w3 hown' hgr hloc)
          have R2 := R.step hk (by rw [ok.h]; omega) hw1 hC1 hl1 hC2 hown' hgr hloc
          clear hown' hgr hloc hown2 hr2 ho2 hl2 hC2 hw1 hC1 hl1
          go_wp2_with fail
          go_roundw
          case rel => exact ⟨k + 1, bad, _, v1, R2, rfl, by go_num⟩
          case measure => simp [intOf]; omega
        have k3 : (f.k == 3) = false := by simpa using h3
        by_cases h4 : f.k = 4
        · rw [h4] at hfk
          have hsl : f.s.data.toList.length = f.s.size := by rw [Array.length_toList]; rfl
          by_cases hbig : 4096 < f.s.size
          · have ht : txSt (stOf bad ls) f.s.data.toList = stOf true ls := by unfold txSt; rw [hsl, if_pos hbig]; rfl
            have HT := Lib.hid ht
            clear ht hsl
            go_wp2_with fail
            refine (text_any _ W.heap.size v (stOf bad ls) f.s R.wri (stOf_sz R.szb) ok.s).mono ?_
            rintro e w1 ⟨rfl, v1, hw1, hC1, hl1⟩
            rw [HT.out] at hw1
            have hs1 := (hat'.chg hC1 (fun hj => by have := R.new _ hj; omega)).s ok
            obtain ⟨a1, a2, a3, a4⟩ := R.wrote hC1 hl1
            have R2 : Rel W W.heap.size (k + 1) w1 o true ls v1 := ⟨by omega, a1, hw1, by have := R.sz; omega, a2, a3, R.onew, a4⟩
            clear hw1 hC1 hl1 a1 a2 a3 a4
            go_wp2_with fail
            go_roundw
            case rel => exact ⟨k + 1, true, _, v1, R2, rfl, by go_num⟩
            case measure => simp [intOf]; omega
          · have ht : txSt (stOf bad ls) f.s.data.toList = stOf bad (ls ++ tx f.s.data.toList) := by unfold txSt; rw [hsl, if_neg hbig]; exact stOf_map _ _ _
            have hyy : (tx f.s.data.toList).length = 2 + f.s.size := by unfold tx; rw [List.length_append, be_length, hsl]
            have HT := Lib.hid ht
            have HY := Lib.hid hyy
            have hsm : f.s.size ≤ 4096 := by omega
            clear ht hsl hyy
            go_wp2_with fail
            refine (text_any _ W.heap.size v (stOf bad ls) f.s R.wri (stOf_sz R.szb) ok.s).mono ?_
            rintro e w1 ⟨rfl, v1, hw1, hC1, hl1⟩
            rw [HT.out] at hw1
            have hs1 := (hat'.chg hC1 (fun hj => by have := R.new _ hj; omega)).s ok
            go_wp2_with fail
            refine (refText_any _ f.s hsm).mono ?_
            rintro e w2 ⟨v2, rfl, ho2, hl2, hC2⟩
            obtain ⟨A2, c2, rfl, hc2, hm2, hr2, hab2, hlt2⟩ := ho2.slice
            have hown2 := (R.wrote hC1 hl1).1.chg hC2 (fun _ _ f => f)
            rw [HY.out]
            go_wp2_with (at_builtin; refine wpList_app byt _ rfl _ _ rfl (v := o) rfl hown2 rfl (l2 := tx f.s.data.toList) HY.out.symm hr2 (by rw [HY.out]; omega) ?_; intro v' w3 hown' hgr hloc)
            have R2 := R.step hk (by rw [HY.out]; omega) hw1 hC1 hl1 hC2 hown' hgr hloc
            clear hown' hgr hloc hown2 hr2 ho2 hl2 hC2 hw1 hC1 hl1
            go_wp2_with fail
            go_roundw
            case rel => exact ⟨k + 1, bad, _, v1, R2, rfl, by go_num⟩
            case measure => simp [intOf]; omega
        have k4 : (f.k == 4) = false := by simpa using h4
        · have R2 := R.next hk
          go_wp2_with fail
          go_roundw
          case rel => exact ⟨k + 1, bad, _, v, R2, rfl, by go_num⟩
          case measure => simp [intOf]; omega
      · have hk' : decide ((k : Int) < 40) = false := by simp; omega
        cases bad with
        | true =>
          go_wp2_with fail
          refine (bytes_none _ W.heap.size v R.wri).mono ?_
          rintro e w2 ⟨rfl, rfl⟩
          go_wp2
          go_ret
          exact ⟨rfl, R.below⟩
        | false =>
          go_wp2_with fail
          refine (bytes_some _ W.heap.size v ls R.wri R.szb).mono ?_
          rintro e w2 ⟨v2, rfl, ho2, hl2, hC2⟩
          obtain ⟨A2, c2, rfl, hc2, hm2, hr2, hab2, hlt2⟩ := ho2.slice
          have ho := R.own.chg hC2 (fun _ _ f => f)
          have hbl := R.below.trans (hC2.below R.below.size (fun _ f => f.elim))
          obtain ⟨A3, c3, rfl, hc3, hm3, hr3, hab3, hlt3⟩ := ho.slice
          clear hab2 hlt2 hab3 hlt3 ho2 hl2 hC2 ho
          go_wp2_with fail
          refine (same_any _ A2 A3 _ _ c2 c3 ls ls rfl rfl hr2 hr3).mono ?_
          rintro e w3 ⟨rfl, rfl⟩
          go_wp2
          go_ret
          exact ⟨rfl, hbl⟩
    · skip
      cases bad with
      | true =>
        go_wp2_with fail
        refine (bytes_none _ W.heap.size v R.wri).mono ?_
        rintro e w2 ⟨rfl, rfl⟩
        go_wp2
        go_ret
        exact ⟨rfl, R.below⟩
      | false =>
        go_wp2_with fail
        refine (bytes_some _ W.heap.size v ls R.wri R.szb).mono ?_
        rintro e w2 ⟨v2, rfl, ho2, hl2, hC2⟩
        obtain ⟨A2, c2, rfl, hc2, hm2, hr2, hab2, hlt2⟩ := ho2.slice
        have ho := R.own.chg hC2 (fun _ _ f => f)
        have hbl := R.below.trans (hC2.below R.below.size (fun _ f => f.elim))
        obtain ⟨A3, c3, rfl, hc3, hm3, hr3, hab3, hlt3⟩ := ho.slice
        clear hab2 hlt2 hab3 hlt3 ho2 hl2 hC2 ho
        go_wp2_with fail
        refine (same_any _ A2 A3 _ _ c2 c3 ls ls rfl rfl hr2 hr3).mono ?_
        rintro e w3 ⟨rfl, rfl⟩
        go_wp2
        go_ret
        exact ⟨rfl, hbl⟩

/-! ### The row's frame -/
theorem own : ownKnob Try.prog.godebug = none := by kernel_rfl
theorem walkA (W : World) (args : Array Value) (hsz : args.size = Try.f3.params.size) (hok : ∀ (j : Nat) (t : TypeId) (v : Value), Try.f3.params[j]? = some t → args[j]? = some v → Okv Try.prog W t v) :
    Calls Try.prog 3 args W fun e W' => e = .returned (.bool true) ∧ Below W.heap.size W W' := by
  rw [Try.params3] at hsz hok
  obtain ⟨v0, rfl⟩ : ∃ v0 : Value, args = #[v0] := by
    obtain ⟨l⟩ := args
    match l, hsz with
    | [v0], _ => exact ⟨v0, rfl⟩
  exact walk W v0 (hok 0 22 v0 rfl rfl)
set_option maxRecDepth 100000 in
theorem lifted (os : Os) (started : os.Started) (H : Type) (enc : TypeId × Value → H) :
    ReturnsInHanded {} Try.checked os 3 .any (Rows.wireWritesSpec.pre6 enc Try.prog Try.f3 Rows.wireWritesRow.domain false) (Rows.wireWritesSpec.post enc Try.prog Try.f3 false true false false) :=
  lifted_of_walk (C := Try.checked) (s := Rows.wireWritesSpec) (conds := Rows.wireWritesRow.domain) (apart := false) (fresh := true) (T := 4) own started (by kernel_rfl) Try.func3
    (ChangeSpec.witness6 (enc := enc) (C := Try.checked) false ⟨#[], #[.slice none 0 0], []⟩ 8 (by kernel_rfl) (by kernel_rfl) (by kernel_rfl) (by kernel_rfl))
    rfl (fun ds hd => by
      rw [Try.params3] at hd
      match ds, hd with
      | [d0], _ => exact ⟨rfl, rfl, rfl⟩)
    (by kernel_rfl) Try.underlying4 (by kernel_rfl) (by rw [Try.params3]; intro t ht; simp only [List.mem_cons, List.not_mem_nil, or_false] at ht; subst ht; exact ⟨by kernel_rfl, of_decide_eq_true (by kernel_rfl)⟩) walkA

theorem holds : Rows.wireWritesRow.holds Try.pinned (OpenSpec.ofChange Rows.wireWritesSpec) :=
  OpenClaim.holds_of_wide 3 Try.f3 rfl rfl rfl rfl rfl rfl rfl ⟨rfl, rfl, rfl, rfl, rfl⟩ rfl rfl rfl rfl rfl (by kernel_rfl) Try.func3 (by kernel_rfl)
    (of_decide_eq_true (by kernel_rfl)) (by unfold Func.isWrapper; first | (rw [if_pos (by decide +kernel)]; kernel_rfl) | (rw [if_neg (by decide +kernel)]; exact ⟨rfl, rfl⟩))
    (fun os started H enc _ => lifted os started H enc)
end Go.Proofs.Ytjaaaehgggnhbaa.wireWrites
namespace Go.Proofs.Ytjaaaehgggnhbaa
/-- The statement. -/
theorem wireWrites_holds : Rows.WireWritesSaid := wireWrites.holds
end Go.Proofs.Ytjaaaehgggnhbaa
