/- Package forms: texts, names, a thing's number, written. -/
import Derived.Test.YtjcfdclgddjaoaaChecked
import Derived.WalkKit
import Derived.WalkLawsBesides
import Derived.Lib.Hide
import Derived.Deep.RegionHeld3
import Derived.Test.YtjcfdclgddjaoaaFo
namespace Go.Proofs.Ytjcfdclgddjaoaa
open Go.RowKit
set_option linter.unusedVariables false
set_option maxRecDepth 20000

/-- A name's bytes are these. -/
def lower (b : UInt8) : Bool := decide (97 ≤ b.toNat ∧ b.toNat ≤ 122)
/-- May a name be? -/
def nameOk (s : ByteArray) : Bool := decide (s.size ≤ 16) && (decide (0 < s.size) && s.data.toList.all lower)

theorem text_w (g : Nat) (l : List UInt8) (w : World) (v : Value) (b o : Nat) (s : ByteArray) (most : Nat) (h : Wri w g v (some l)) (hc : w.cell? ⟨b, o, none⟩ = some (.string s)) (hb : ¬ Wft g v b) (hm : s.size ≤ maxLen) (hmost : most ≤ 4096) (hl : l.length ≤ 1000000000) :
    Calls Try.prog 82 #[.agg #[.pointer (some ⟨g, 0, none⟩), .pointer none], .pointer (some ⟨b, o, none⟩), .int .i64 (most : Int)] w fun e w' => WO w g v (decide (s.size ≤ most)) (l ++ tx s.data.toList) e w' ∧ w'.cell? ⟨b, o, none⟩ = some (.string s) := by
  have S1 := (Wst.here h).non ((Chg.refl Non w).alloc (.cells #[.pointer (some ⟨g, 0, none⟩), .pointer none] 138))
  have c1 := ((Chg.refl Non w).alloc (.cells #[.pointer (some ⟨g, 0, none⟩), .pointer none] 138)).cell hc (fun f => f)
  have hw := h.nnew (Nat.le_refl w.heap.size)
  have hx := Hb.new w 138 #[.pointer (some ⟨g, 0, none⟩), .pointer none]
  have hsl : s.data.toList.length = s.size := by rw [Array.length_toList]; rfl
  have hml := hm
  unfold maxLen at hml
  by_cases hok : s.size ≤ most
  · rw [decide_eq_true hok]
    have ht : txSt (some l) s.data.toList = some (l ++ tx s.data.toList) := by unfold txSt; rw [hsl, if_neg (by omega)]; rfl
    have HT := Lib.hid ht
    clear ht hsl
    go_enter Try.func82, Try.ntmps82
    go_wp2_with fail
    refine (writes_w _ g).mono ?_
    rintro e w1 ⟨rfl, hC⟩
    have S2 := S1.non hC
    have c2 := hC.cell c1 (fun f => f)
    have x0 : w1.cell? ⟨w.heap.size, 0, none⟩ = some (.pointer (some ⟨g, 0, none⟩)) := (hx.chg hC (fun f => f)).cell 0
    clear S1 c1 hx hc
    go_wp2_with fail
    have D2 := S2.non ((Chg.refl Non w1).drew)
    go_region_held3 (fun w' => w'.cell? ⟨w.heap.size, 0, none⟩ = some (.pointer (some ⟨g, 0, none⟩)) ∧ w'.cell? ⟨b, o, none⟩ = some (.string s)) (first | exact ⟨x0, c2⟩ | exact ⟨s1, s2⟩ | assumption) (first | (go_at_call 116; refine (text_any _ g v (some l) s D2.wri (fun l' h => by injection h with h; subst h; exact hl) hm).mono ?_; rintro e w3 h3; have s1 := h3.cell x0 hw; have s2 := h3.cell c2 hb; rw [HT.out] at h3; obtain ⟨rfl, v3, S3⟩ := wst_of_wrote h3) | fail)
    have S4 := D2.trans S3
    clear D2 S2 S3 h3 s1 x0 c2
    have k1 : decide ((s.size : Int) ≤ (most : Int)) = true := by simp; omega
    go_wp2_with (go_at_call 78; refine (insist_yes _).mono ?_; rintro e w5 ⟨rfl, rfl⟩)
    go_end0
    exact ⟨⟨rfl, v3, S4⟩, s2⟩
  · rw [decide_eq_false hok]
    go_enter Try.func82, Try.ntmps82
    go_wp2_with fail
    refine (writes_w _ g).mono ?_
    rintro e w1 ⟨rfl, hC⟩
    have S2 := S1.non hC
    have c2 := hC.cell c1 (fun f => f)
    have x0 : w1.cell? ⟨w.heap.size, 0, none⟩ = some (.pointer (some ⟨g, 0, none⟩)) := (hx.chg hC (fun f => f)).cell 0
    clear S1 c1 hx hc
    go_wp2_with fail
    have D2 := S2.non ((Chg.refl Non w1).drew)
    go_region_held3 (fun w' => w'.cell? ⟨w.heap.size, 0, none⟩ = some (.pointer (some ⟨g, 0, none⟩)) ∧ w'.cell? ⟨b, o, none⟩ = some (.string s)) (first | exact ⟨x0, c2⟩ | exact ⟨s1, s2⟩ | assumption) (first | (go_at_call 116; refine (text_any _ g v (some l) s D2.wri (fun l' h => by injection h with h; subst h; exact hl) hm).mono ?_; rintro e w3 h3; have s1 := h3.cell x0 hw; have s2 := h3.cell c2 hb; obtain ⟨rfl, v3, _, C3, _⟩ := h3) | fail)
    have C4 := D2.chg.trans C3 (fun _ h => .inl h)
    clear D2 S2 C3 s1 x0 c2
    have k1 : decide ((s.size : Int) ≤ (most : Int)) = false := by simp; omega
    go_wp2_with (go_at_call 78; refine (insist_no _).mono ?_; rintro e w5 ⟨rfl, rfl⟩)
    exact ⟨rfl, ⟨rfl, C4⟩, s2⟩

/-- A name, behind its text: whether written or read. -/
theorem name_gen (w : World) (x y : Option Addr) (b o : Nat) (s : ByteArray) (hm : s.size ≤ maxLen) (G : World → Prop) (hG : ∀ w1 w2, G w1 → Chg Non w1 w2 → G w2)
    (H : Calls Try.prog 82 #[.agg #[.pointer x, .pointer y], .pointer (some ⟨b, o, none⟩), .int .i64 16] (w.alloc (.cells #[.pointer x, .pointer y] 138)) fun e w' => e = (match decide (s.size ≤ 16) with | true => .returned (.tuple #[]) | false => .panicked bad) ∧ G w' ∧ (s.size ≤ 16 → w'.cell? ⟨b, o, none⟩ = some (.string s))) :
    Calls Try.prog 81 #[.agg #[.pointer x, .pointer y], .pointer (some ⟨b, o, none⟩)] w fun e w' => e = (match nameOk s with | true => .returned (.tuple #[]) | false => .panicked bad) ∧ G w' := by
  have hsl : s.data.toList.length = s.size := by rw [Array.length_toList]; rfl
  unfold maxLen at hm
  unfold nameOk
  by_cases h16 : s.size ≤ 16
  · rw [decide_eq_true h16] at H ⊢
    rw [Bool.true_and]
    by_cases h0 : 0 < s.size
    · rw [decide_eq_true h0, Bool.true_and]
      generalize hok : s.data.toList.all lower = ok
      have HOK := Lib.hid hok
      clear hok
      go_enter Try.func81, Try.ntmps81
      go_wp2_with fail
      refine H.mono ?_
      rintro e w1 ⟨rfl, g1, c1⟩
      have c1 := c1 h16
      have k2 : decide ((s.size : Int) > 0) = true := decide_eq_true (by omega)
      obtain ⟨c2, w2, hrun, hcc, hrd, hch, _⟩ := run_bytes byt w1 s
      have HSL := Lib.hid hsl
      clear hsl
      go_wp2_with (go_at_call 78; refine (insist_yes _).mono ?_; rintro e w5 ⟨rfl, rfl⟩)
      have g2 := hG _ _ g1 hch
      go_loop [5, 20] (fun c i => ∃ k : Nat, k ≤ s.size ∧ i = .int .i64 (k : Int) ∧ (s.data.toList.take k).all lower = true) (fun _ i => s.size - (intOf i).toNat)
      case atStart => exact ⟨0, by omega, rfl, rfl⟩
      case round =>
        obtain ⟨k, hk, rfl, hall⟩ := hrel
        by_cases hlt : k < s.size
        · have hkl : k < s.data.toList.length := by rw [HSL.out]; exact hlt
          have hcell := hrd.at_ (j := k) hkl
          rw [Addr.add_mid, Nat.zero_add] at hcell
          have hs : s.data.toList.take (k + 1) = s.data.toList.take k ++ [s.data.toList[k]] := List.take_succ_eq_append_getElem hkl
          have hmem : s.data.toList[k] ∈ s.data.toList := List.getElem_mem hkl
          generalize s.data.toList[k] = b at *
          have hbt := b.toNat_lt
          have HS := Lib.hid hs
          clear hs hkl
          by_cases hb : lower b = true
          · have hb' := hb
            unfold lower at hb'
            have hb2 := of_decide_eq_true hb'
            have k3 : decide ((b.toNat : Int) ≥ 97) = true := decide_eq_true (by omega)
            have k4 : decide ((b.toNat : Int) ≤ 122) = true := decide_eq_true (by omega)
            go_wp2_with (go_at_call 78; refine (insist_yes _).mono ?_; rintro e w5 ⟨rfl, rfl⟩)
            go_round
            case rel =>
              refine ⟨k + 1, by omega, by go_num, ?_⟩
              rw [HS.out, List.all_append, hall]
              simp [hb]
            case measure => simp [intOf]; omega
          · obtain rfl : ok = false := by
              rw [← HOK.out]
              rw [Bool.eq_false_iff]
              intro h
              exact hb (List.all_eq_true.1 h _ hmem)
            unfold lower at hb
            have hb2 : ¬ (97 ≤ b.toNat ∧ b.toNat ≤ 122) := fun h => hb (decide_eq_true h)
            by_cases h97 : 97 ≤ b.toNat
            · have k3 : decide ((b.toNat : Int) ≥ 97) = true := decide_eq_true (by omega)
              have k4 : decide ((b.toNat : Int) ≤ 122) = false := decide_eq_false (by omega)
              go_wp2_with (go_at_call 78; refine (insist_no _).mono ?_; rintro e w5 ⟨rfl, rfl⟩)
              exact ⟨rfl, rfl, g2⟩
            · have k3 : decide ((b.toNat : Int) ≥ 97) = false := decide_eq_false (by omega)
              go_wp2_with (go_at_call 78; refine (insist_no _).mono ?_; rintro e w5 ⟨rfl, rfl⟩)
              exact ⟨rfl, rfl, g2⟩
        · obtain rfl : k = s.size := by omega
          rw [← HSL.out, List.take_length] at hall
          obtain rfl : ok = true := by rw [← HOK.out]; exact hall
          go_wp2
          go_end0
          exact ⟨rfl, g2⟩
    · rw [decide_eq_false h0, Bool.false_and]
      go_enter Try.func81, Try.ntmps81
      go_wp2_with fail
      refine H.mono ?_
      rintro e w1 ⟨rfl, g1, c1⟩
      have c1 := c1 h16
      have k2 : decide ((s.size : Int) > 0) = false := decide_eq_false (by omega)
      go_wp2_with (go_at_call 78; refine (insist_no _).mono ?_; rintro e w5 ⟨rfl, rfl⟩)
      exact ⟨rfl, rfl, g1⟩
  · rw [decide_eq_false h16] at H ⊢
    rw [Bool.false_and]
    go_enter Try.func81, Try.ntmps81
    go_wp2_with fail
    refine H.mono ?_
    rintro e w1 ⟨rfl, g1, _⟩
    go_wp2
    exact ⟨rfl, rfl, g1⟩
end Go.Proofs.Ytjcfdclgddjaoaa
