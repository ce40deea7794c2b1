/- Package valset: everyone (each key of a set and of its changes once, rising, without power). -/
import Derived.Test.YtddkcdlioglkmaaChecked
import Derived.WalkKit
import Derived.WalkLawsBesides
import Derived.Lib.Hide
import Derived.Test.YtddkcdlioglkmaaCo
namespace Go.Proofs.Ytddkcdlioglkmaa
open Go.RowKit
set_option linter.unusedVariables false
set_option linter.unusedSimpArgs false
set_option maxRecDepth 20000

theorem zeroed {t cur : List Va} {n : Nat} (hk : cur.map Va.key = t.map Va.key) (hl : cur.length = n) (h : ∀ (i : Nat) (x : Va), cur[i]? = some x → i < n → x.power = 0) : cur = (t.map Va.key).map z0 := by
  rw [← hk, List.map_map]
  apply List.ext_getElem?
  intro i
  rw [List.getElem?_map]
  cases hx : cur[i]? with
  | none => rfl
  | some x =>
    have := h i x hx (by rw [← hl]; exact (List.getElem?_eq_some_iff.1 hx).1)
    show some x = some (z0 x.key)
    unfold z0
    rw [← this]
theorem set_keys {cur : List Va} {k : Nat} {y : Va} (hy : cur[k]? = some y) (p : Int) : (cur.set k ⟨y.key, p⟩).map Va.key = cur.map Va.key := by
  apply List.ext_getElem?
  intro i
  rw [List.getElem?_map, List.getElem?_map]
  by_cases e : i = k
  · subst e
    rw [List.getElem?_set_self (List.getElem?_eq_some_iff.1 hy).1, hy]
    rfl
  · rw [List.getElem?_set_ne (Ne.symm e)]

/-- What everyone leaves: a row of its own. -/
structure Evo (w : World) (t : List Va) (w' : World) (g cap : Nat) (rs : List Nat) : Prop where
  old : w.heap.size ≤ g
  lt : g < w'.heap.size
  len : rs.length ≤ 200
  capl : rs.length ≤ cap
  most : cap ≤ maxLen
  rises : rs.Pairwise (· < ·)
  mem : ∀ x, x ∈ rs ↔ x ∈ t.map Va.key
  row : RowV w' g (rs.map z0)

set_option maxHeartbeats 6400000 in
theorem everyone_any (w : World) (A B : Option Addr) (ca cb : Nat) (l m : List Va) (h0 : 0 < l.length) (hl : l.length ≤ 100) (hm : m.length ≤ 100) (M : LstM w A l Va.cells 2) (N : LstM w B m Va.cells 2) :
    Calls Try.prog 12 #[.slice A l.length ca, .slice B m.length cb] w fun e w' => Chg Non w w' ∧ ∃ g cap rs, e = .returned (.slice (some ⟨g, 0, none⟩) rs.length cap) ∧ Evo w (l ++ m) w' g cap rs := by
  have HC : Hid (∀ w' s c, Chg Non w w' → w'.cell? ⟨s, 0, none⟩ = some (.slice A l.length ca) → w'.cell? ⟨s, 1, none⟩ = some (.slice B m.length cb) → _) := Lib.hid fun w' s c k hA hB => concat_any w' s c ca cb A B l m hA hB h0 hl hm (M.chg k) (N.chg k)
  have HT : Hid ((l ++ m).length ≤ 200 ∧ 0 < (l ++ m).length) := Lib.hid (by rw [List.length_append]; omega)
  clear M N
  generalize l ++ m = t at *
  generalize l.length = n1 at *
  generalize m.length = n2 at *
  go_enter Try.func12, Try.ntmps12
  go_wp2_with fail
  have k0 : Chg Non w (w.alloc (.cells #[Value.slice A n1 ca, Value.slice B n2 cb] 22)) := (Chg.refl _ _).alloc _
  have b0 := Hb.new w 22 #[Value.slice A n1 ca, Value.slice B n2 cb]
  refine (HC.out _ w.heap.size 2 k0 (b0.cell 0) (b0.cell 1)).mono ?_
  rintro e w1 ⟨k1, v, rfl, o1, hv⟩
  have hC1 : Chg Non w w1 := k0.trans k1 (fun _ f => f.elim)
  obtain ⟨rfl, h0⟩ | ⟨g, cap, rfl, hcap, hcm, hg, hR⟩ := o1.form
  · have := HT.out; rw [h0] at this; simp at this
  have hgw : w.heap.size ≤ g := by
    have := hv g (by simp [vbl, Value.ownBlock])
    have := k0.size
    omega
  have HN := Lib.hid hR
  clear hv o1 hR b0 k0 k1 HC
  generalize hn : t.length = n at *
  have EN := Lib.hid hn
  obtain ⟨hn200, hn0⟩ := HT.out
  clear hn HT
  unfold maxLen at hcm
  have HCP := Lib.hid hcap
  have HCM := Lib.hid hcm
  go_wp2_with fail
  go_loopw [6, 13] (fun _ i wr => ∃ (k : Nat) (cur : List Va), k ≤ n ∧ i = .int .i64 (k : Int) ∧ Hid (cur.length = n ∧ cur.map Va.key = t.map Va.key ∧ (∀ (i : Nat) (x : Va), cur[i]? = some x → i < k → x.power = 0) ∧ RowV wr g cur) ∧ Chg (fun j => j = g) w1 wr) (fun _ i _ => n - (intOf i).toNat)
  case atStart => exact ⟨0, t, by omega, rfl, Lib.hid ⟨EN.out, rfl, fun i x _ h => by omega, HN.out⟩, Chg.refl _ _⟩
  case round =>
    obtain ⟨k, cur, hk, rfl, hI, hC⟩ := hrel
    obtain ⟨hcl, hck, hcz, hRc⟩ := hI.out
    have HCL := Lib.hid hcl
    have HCK := Lib.hid hck
    have HCZ := Lib.hid hcz
    have HRC := Lib.hid hRc
    clear hI
    by_cases hlt : k < n
    · have hki : (k : Int) < (n : Int) := by omega
      obtain ⟨y, hy⟩ : ∃ y, cur[k]? = some y := ⟨_, List.getElem?_eq_getElem (by rw [hcl]; exact hlt)⟩
      have HY := Lib.hid hy
      obtain ⟨⟨p0, p1⟩, q0, q1⟩ := hRc.cells hy
      clear hcl hck hcz hRc hy
      go_wp2_with fail
      go_roundw
      case rel => exact ⟨k + 1, cur.set k ⟨y.key, 0⟩, by omega, by go_num, Lib.hid ⟨by rw [List.length_set]; exact HCL.out, by rw [set_keys HY.out]; exact HCK.out, by
        intro i x hx hi
        by_cases e : i = k
        · subst e
          rw [List.getElem?_set_self (List.getElem?_eq_some_iff.1 HY.out).1] at hx
          injection hx with hx
          subst hx
          rfl
        · rw [List.getElem?_set_ne (Ne.symm e)] at hx
          exact HCZ.out i x hx (by omega), HRC.out.setP HY.out 0⟩, hC.setCell (.inl rfl) _⟩
      case measure => simp [intOf]; omega
    · obtain rfl : k = n := by omega
      have ez := zeroed hck hcl hcz
      have hln : (t.map Va.key).length = k := by rw [List.length_map]; exact EN.out
      have hgr : g < wr.heap.size := Nat.lt_of_lt_of_le hg hC.size
      have HS := Lib.hid (sort_any wr g cap (t.map Va.key) (ez ▸ hRc) hgr (by rw [hln]; omega))
      rw [hln] at HS
      clear hcl hck hcz hRc HCL HCK HCZ HRC ez hlt
      go_wp2_with fail
      refine HS.out.mono ?_
      rintro e w2 ⟨rfl, k2, ss, hp, hso, hR2⟩
      have hsl : ss.length = k := by rw [hp.length_eq]; exact hln
      have HCo := Lib.hid (compact_any w2 g cap ss hR2 (by rw [hsl]; omega) (by rw [hsl]; exact HCP.out) HCM.out hso)
      rw [hsl] at HCo
      have HP := Lib.hid hp
      clear hp hso hR2 HS hln hsl
      go_wp2_with fail
      refine HCo.out.mono ?_
      rintro e w3 ⟨k3, rs, rfl, hrl, hrr, hrm, hR3⟩
      have hmem := fun x => (hrm x).trans HP.out.mem_iff
      have HRES := Lib.hid (Evo.mk (w := w) (w' := w3) (t := t) hgw (Nat.lt_of_lt_of_le hgr (Nat.le_trans k2.size k3.size)) (by omega) (by have := HCP.out; omega) HCM.out hrr hmem hR3)
      clear hrr hrm hR3 hmem HCo
      go_wp2_with fail
      go_ret
      refine ⟨hC1.trans ((hC.trans k2 (fun _ h => .inl h)).trans k3 (fun _ h => .inl h)) (fun j h => ?_), g, cap, rs, rfl, HRES.out⟩
      subst h
      exact .inr hgw
end Go.Proofs.Ytddkcdlioglkmaa
