/- Package valset: change and ended. -/
import Derived.Test.YtddkcdlioglkmaaChecked
import Derived.WalkKit
import Derived.WalkLawsBesides
import Derived.Lib.Hide
import Derived.Test.YtddkcdlioglkmaaPo
import Derived.Test.YtddkcdlioglkmaaVr
namespace Go.Proofs.Ytddkcdlioglkmaa
open Go.RowKit
set_option linter.unusedVariables false
set_option linter.unusedSimpArgs false
set_option maxRecDepth 20000

/-- What change leaves. -/
def Cgd (w : World) (g o : Nat) (v p : Int) (e : Ending) (w' : World) : Prop :=
  ((p < 0 ∨ top < p) ∧ e = .returned (.int .i64 72) ∧ w' = w) ∨ (¬ (p < 0 ∨ top < p) ∧ p = 0 ∧ v = 0 ∧ e = .returned (.int .i64 73) ∧ w' = w) ∨
  (¬ (p < 0 ∨ top < p) ∧ ¬ (p = 0 ∧ v = 0) ∧ e = .returned (.int .i64 0) ∧ w' = w.setCell ⟨g, o, none⟩ (.int .i64 p))

set_option maxHeartbeats 1600000 in
theorem change_any (w : World) (g o : Nat) (v p : Int) (hc : w.cell? ⟨g, o, none⟩ = some (.int .i64 v)) (hf : w.frozen? ⟨g, o, none⟩ = false) :
    Calls Try.prog 14 #[.pointer (some ⟨g, o, none⟩), .int .i64 p] w (Cgd w g o v p) := by
  by_cases h1 : p < 0
  · go_enter Try.func14, Try.ntmps14
    go_wp2_with fail
    go_ret
    exact .inl ⟨.inl h1, rfl, rfl⟩
  by_cases h2 : 1125899906842624 < p
  · go_enter Try.func14, Try.ntmps14
    go_wp2_with fail
    go_ret
    exact .inl ⟨.inr (by unfold top; exact h2), rfl, rfl⟩
  have h12 : Hid (¬ (p < 0 ∨ top < p)) := Lib.hid (by unfold top; omega)
  by_cases h3 : p = 0
  · subst h3
    by_cases h4 : v = 0
    · subst h4
      go_enter Try.func14, Try.ntmps14
      go_wp2_with fail
      go_ret
      exact .inr (.inl ⟨h12.out, rfl, rfl, rfl, rfl⟩)
    · go_enter Try.func14, Try.ntmps14
      go_wp2_with fail
      go_ret
      exact .inr (.inr ⟨h12.out, fun h => h4 h.2, rfl, rfl⟩)
  · go_enter Try.func14, Try.ntmps14
    go_wp2_with fail
    go_ret
    exact .inr (.inr ⟨h12.out, fun h => h3 h.1, rfl, rfl⟩)

/-- Those who have power. -/
def live (m : List Va) : List Va := m.filter fun x => decide (0 < x.power)
theorem live_next {m : List Va} {k : Nat} {x : Va} (hx : m[k]? = some x) : live (m.take (k + 1)) = live (m.take k) ++ (if 0 < x.power then [x] else []) := by
  unfold live
  rw [take_next hx, List.filter_append]
  congr 1
  by_cases h : 0 < x.power <;> simp [h]

/-- What ended leaves. -/
def End (w : World) (r : List Va) (e : Ending) (w' : World) : Prop := Chg Non w w' ∧
  ((¬ Fits r ∧ e = .returned (.tuple #[.slice none 0 0, .int .i64 72])) ∨ (Fits r ∧ ¬ Rt r ∧ e = .returned (.tuple #[.slice none 0 0, .int .i64 71])) ∨
    (Rt r ∧ ∃ A c, e = .returned (.tuple #[.slice A r.length c, .int .i64 0]) ∧ LstM w' A r Va.cells 2))

set_option maxHeartbeats 6400000 in
theorem ended_any (w : World) (g cap : Nat) (m : List Va) (hl : m.length ≤ 1000) (om : ∀ x ∈ m, x.Ok) (R : RowV w g m) (hg : g < w.heap.size) :
    Calls Try.prog 15 #[.slice (some ⟨g, 0, none⟩) m.length cap] w (End w (live m)) := by
  have HR := Lib.hid R
  have HO := Lib.hid om
  clear R om
  generalize hn : m.length = n at *
  have EN := Lib.hid hn
  clear hn
  go_enter Try.func15, Try.ntmps15
  go_wp2_with fail
  go_loopw [4, 6, 11] (fun v _ i wr => ∃ k : Nat, k ≤ n ∧ i = .int .i64 (k : Int) ∧ Hid (OwnV wr v (live (m.take k)) ∧ ∀ j, vbl v j → w.heap.size ≤ j) ∧ Chg Non w wr) (fun _ _ i _ => n - (intOf i).toNat)
  case atStart => exact ⟨0, by omega, rfl, Lib.hid ⟨by simpa [live] using OwnV.nil w, fun j h => by simp [vbl, Value.ownBlock] at h⟩, Chg.refl _ _⟩
  case round =>
    obtain ⟨k, hk, rfl, hI, hC⟩ := hrel
    by_cases hlt : k < n
    · have hki : (k : Int) < (n : Int) := by omega
      obtain ⟨x, hx⟩ : ∃ x, m[k]? = some x := ⟨_, List.getElem?_eq_getElem (by rw [EN.out]; exact hlt)⟩
      have hrow := HR.out.chg hC (fun f => f)
      obtain ⟨⟨p0, p1⟩, _⟩ := hrow.cells hx
      have HN := Lib.hid (live_next hx)
      have HX := Lib.hid hx
      clear hx hrow
      by_cases hp : 0 < x.power
      · rw [if_pos hp] at HN
        have k1 : Chg Non wr (wr.alloc (.cells #[.int .u64 (x.key : Int), .int .i64 x.power] 26)) := (Chg.refl _ _).alloc _
        have k2 : Chg Non wr ((wr.alloc (.cells #[.int .u64 (x.key : Int), .int .i64 x.power] 26)).alloc (.cells #[.int .u64 (x.key : Int), .int .i64 x.power] 26)) := k1.alloc _
        have hs : (wr.alloc (.cells #[.int .u64 (x.key : Int), .int .i64 x.power] 26)).heap.size = wr.heap.size + 1 := by simp
        have b0 := Hb.new (wr.alloc (.cells #[.int .u64 (x.key : Int), .int .i64 x.power] 26)) 26 #[.int .u64 (x.key : Int), .int .i64 x.power]
        rw [hs] at b0
        have M := lstM_new (l := [x]) (cells := Va.cells) (sz := 2) (fun _ => rfl) (n := wr.heap.size + 1) (t := 26) (by simpa [Va.cells] using b0)
        have O := hI.out.1.chg k2 (fun _ _ f => f)
        have HM := Lib.hid M
        have HOw := Lib.hid O
        have HK := Lib.hid k2
        have HB := Lib.hid hI.out.2
        clear M O k1 k2 hs b0 hI
        go_wp2_with (at_builtin; refine wpList_appV _ rfl _ _ rfl rfl HOw.out (A := some ⟨wr.heap.size + 1, 0, none⟩) (c := 1) rfl (m := [x]) rfl HM.out (by have := EN.out; have h1 : (live (m.take k)).length ≤ (m.take k).length := List.length_filter_le _ _; rw [List.length_take] at h1; simp; omega) ?_; intro v1 w2 o' g' b')
        go_roundw
        case rel => exact ⟨k + 1, by omega, by go_num, Lib.hid ⟨by rw [HN.out]; exact o', own_next HB.out (hC.trans HK.out (fun _ f => f.elim)) b'⟩, (hC.trans HK.out (fun _ f => f.elim)).grown g' (fun j hj => .inr (HB.out j hj))⟩
        case measure => simp [intOf]; omega
      · rw [if_neg hp, List.append_nil] at HN
        go_wp2_with fail
        go_roundw
        case rel => exact ⟨k + 1, by omega, by go_num, Lib.hid ⟨by rw [HN.out]; exact hI.out.1.chg ((Chg.refl Non wr).alloc _) (fun _ _ f => f), hI.out.2⟩, hC.alloc _⟩
        case measure => simp [intOf]; omega
    · obtain rfl : k = n := by omega
      have e : m.take k = m := List.take_of_length_le (by rw [EN.out]; exact Nat.le_refl _)
      rw [e] at hI
      obtain ⟨A, c, rfl, hlc, hcm, M⟩ := hI.out.1.slice
      have hll : (live m).length ≤ k := by rw [← EN.out]; exact List.length_filter_le _ _
      have ol : ∀ x ∈ live m, x.Ok := fun x hx => HO.out x (List.mem_filter.1 hx).1
      have HSm := Lib.hid (sum_any wr A c (live m) (by unfold maxLen; omega) ol M)
      have HRt : Hid (∀ w', Chg Non wr w' → Calls Try.prog 10 #[.slice A (live m).length c] w' (Yes w' (Rt (live m)))) := Lib.hid fun w' k => Right_any w' A c (live m) (by unfold maxLen; omega) ol (M.chg k)
      have HM := Lib.hid M
      clear M ol hI hlc hcm e
      generalize live m = r at *
      generalize hrn : r.length = rn at *
      have ER := Lib.hid hrn
      clear hrn
      go_wp2_with fail
      refine HSm.out.mono ?_
      rintro e w1 ⟨k1, hh⟩
      obtain ⟨sv, bv', rfl, hh⟩ : ∃ (sv : Int) (b : Bool), e = .returned (.tuple #[.int .i64 sv, .bool b]) ∧ Hid ((Fits r ∧ b = true) ∨ (¬ Fits r ∧ b = false)) := by
        rcases hh with ⟨a, b⟩ | ⟨a, b⟩
        · exact ⟨_, _, b, Lib.hid (.inl ⟨a, rfl⟩)⟩
        · exact ⟨_, _, b, Lib.hid (.inr ⟨a, rfl⟩)⟩
      cases bv'
      · go_wp2_with fail
        go_ret2
        exact ⟨hC.trans k1 (fun _ f => f.elim), .inl ⟨by rcases hh.out with ⟨_, q⟩ | ⟨q, _⟩ <;> first | exact q | (cases q; done), rfl⟩⟩
      · go_wp2_with fail
        refine (HRt.out _ k1).mono ?_
        rintro e w2 ⟨k2, b, rfl, hb⟩
        have HB := Lib.hid hb
        clear hb
        cases b
        · go_wp2_with fail
          go_ret2
          exact ⟨(hC.trans k1 (fun _ f => f.elim)).trans k2 (fun _ f => f.elim), .inr (.inl ⟨by rcases hh.out with ⟨q, _⟩ | ⟨_, q⟩ <;> first | exact q | (cases q; done), fun h => by simpa using HB.out.2 h, rfl⟩)⟩
        · go_wp2_with fail
          go_ret2
          exact ⟨(hC.trans k1 (fun _ f => f.elim)).trans k2 (fun _ f => f.elim), .inr (.inr ⟨HB.out.1 (by simp), A, c, by rw [ER.out]; rfl, (HM.out.chg k1).chg k2⟩)⟩
end Go.Proofs.Ytddkcdlioglkmaa
