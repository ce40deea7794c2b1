/- slices.Compact at validators without power, sorted by keys. -/
import Derived.Test.YtddkcdlioglkmaaChecked
import Derived.WalkKit
import Derived.WalkLawsBesides
import Derived.Lib.Hide
import Derived.Deep.QuietTactic
import Derived.BigQuiet
import Derived.Test.YtddkcdlioglkmaaSo
namespace Go.Proofs.Ytddkcdlioglkmaa
open Go.RowKit
set_option linter.unusedVariables false
set_option linter.unusedSimpArgs false
set_option maxRecDepth 20000

theorem va_zero : ∀ w : World, (zeroValue 26).run Try.prog w = .ok (.agg #[.int .u64 0, .int .i64 0]) w := Try.zeroValue26
/-- clear of a slice of validators: some cells there are others. -/
theorem run_clearV (w : World) (ty : TypeId) (b o n c : Nat) (hn : 0 < n) (ht : w.there b o (n * 2)) :
    ∃ vs : List Value, (Builtin.clear_ #[22] ty #[.slice (some ⟨b, o, none⟩) n c]).run Try.prog w = .ok (.tuple #[]) (w.setCells b o vs) := by
  let zs := (Builtin.zeroCells (Value.agg #[.int .u64 0, .int .i64 0]).cells n).toList
  have hlen : zs.length = n * 2 := by
    show (Builtin.zeroCells _ n).toList.length = _
    rw [Array.length_toList, size_zeroCells]; rfl
  have hone : ∀ v ∈ zs, v.oneCell' = true := by
    intro v hv
    have hv : v ∈ (Builtin.zeroCells (Value.agg #[.int .u64 0, .int .i64 0]).cells n).toList := hv
    simp [Builtin.zeroCells, Value.cells] at hv
    obtain ⟨a, _, rfl⟩ := hv
    rcases Nat.mod_two_eq_zero_or_one a with h | h <;> simp [h] <;> rfl
  have hst := run_storeCells_cells (P := Try.prog) b o zs 0 w (fun j hj => by simpa using (ht j (by omega)).1) (fun j hj => by simpa using (ht j (by omega)).2) hone
  simp only [Nat.add_zero] at hst
  obtain ⟨m, rfl⟩ : ∃ m, n = m + 1 := ⟨n - 1, by omega⟩
  refine ⟨zs, ?_⟩
  have hst' : Sem.run Try.prog (storeCells ⟨b, o, none⟩ (Builtin.zeroCells (Value.agg #[.int .u64 0, .int .i64 0]).cells (m + 1)).toList 0) w = _ := hst
  simp [Builtin.clear_, run_underlying Try.underlying22, va_zero, hst']
theorem wpList_clear {P : Program} (w : World) {ops : Array Oper} {rest : List Oper} {o : Oper} {a : Act} {Q : Exit → Act → World → Prop} (hgd : o.guard = none) (x : Operand) (t : TypeId)
    (ho : o.op = .call { callee := .builtin .clear, args := #[x], argTypes := #[t] }) (vx : Value) (hx : a.eval x = vx)
    (v' : Value) (w' : World) (hr : (Builtin.clear_ #[t] o.type #[vx]).run P w = .ok v' w') (h : wpList P ops Q rest (a.put o.dst v') w') : wpList P ops Q (o :: rest) a w := by
  refine wpList_plain hgd fun K hK => ?_
  unfold Oper.wp execOp
  simp only [ho, resolve, invoke, builtin, Sem.run_bind, Sem.run_pure, Result.andThen_ok, List.map_toArray, List.map_cons, List.map_nil, hx, hr]
  exact hK _ _ h

/-- What has been gone through: rs are the keys of the first q of ks, each once. -/
structure Got (ks rs : List Nat) (q : Nat) : Prop where
  lt : rs.Pairwise (· < ·)
  mem : ∀ x, x ∈ rs ↔ x ∈ ks.take q
theorem Got.same {ks rs : List Nat} {q a : Nat} (h : Got ks rs (q + 1)) (ha : ks[q]? = some a) (hb : ks[q + 1]? = some a) : Got ks rs (q + 2) := by
  refine ⟨h.lt, fun x => ?_⟩
  rw [h.mem, take_next hb, List.mem_append, List.mem_singleton]
  constructor
  · exact .inl
  · rintro (h | rfl)
    · exact h
    · rw [take_next ha]; simp
theorem Got.next {ks rs : List Nat} {q a b : Nat} (h : Got ks rs (q + 1)) (hs : ks.Pairwise (· ≤ ·)) (ha : ks[q]? = some a) (hb : ks[q + 1]? = some b) (hne : a ≠ b) : Got ks (rs ++ [b]) (q + 2) := by
  have hab : ∀ x ∈ ks.take (q + 1), x ≤ a := by
    intro x hx
    rw [take_next ha, List.mem_append, List.mem_singleton] at hx
    rcases hx with hx | rfl
    · have hp : (ks.take (q + 1)).Pairwise (· ≤ ·) := List.Pairwise.sublist (List.take_sublist _ _) hs
      rw [take_next ha, List.pairwise_append] at hp
      exact hp.2.2 x hx a (by simp)
    · exact Nat.le_refl _
  have hle : a ≤ b := by
    have hp : (ks.take (q + 2)).Pairwise (· ≤ ·) := List.Pairwise.sublist (List.take_sublist _ _) hs
    rw [take_next hb, List.pairwise_append] at hp
    exact hp.2.2 a (by rw [take_next ha]; simp) b (by simp)
  refine ⟨?_, fun x => ?_⟩
  · rw [List.pairwise_append]
    refine ⟨h.lt, List.pairwise_singleton _ _, fun x hx y hy => ?_⟩
    rw [List.mem_singleton] at hy
    subst hy
    have := hab x ((h.mem x).1 hx)
    omega
  · rw [take_next hb, List.mem_append, List.mem_append, h.mem]

theorem RowV.there {w : World} {g : Nat} {l : List Va} (R : RowV w g l) {a n : Nat} (h : a + n ≤ l.length) : w.there g (a * 2) (n * 2) := by
  intro j hj
  have hq : a + j / 2 < l.length := by omega
  have h1 := (R _ _ (List.getElem?_eq_getElem hq)).2 (j % 2) (by omega)
  rw [show (a + j / 2) * 2 + j % 2 = a * 2 + j by omega] at h1
  exact h1
theorem RowV.keep {w : World} {g : Nat} {l : List Va} (R : RowV w g l) (a : Nat) (vs : List Value) : RowV (w.setCells g (a * 2) vs) g (l.take a) := by
  intro i x hx
  rw [List.getElem?_take] at hx
  split at hx
  · obtain ⟨h1, h2⟩ := R i x hx
    refine ⟨fun j u hu => ?_, there_sets _ _ h2⟩
    have hj : j < 2 := (List.getElem?_eq_some_iff.1 hu).1
    rw [World.cell?_setCells_out g vs (a * 2) w _ (fun _ _ => by left; show i * 2 + j < a * 2; omega)]
    exact h1 j u hu
  · cases hx
theorem chg_sets (w : World) (g o : Nat) (vs : List Value) : Chg (fun k => k = g) w (w.setCells g o vs) := by
  induction vs generalizing w o with
  | nil => exact Chg.refl _ _
  | cons v vs ih => exact ((Chg.refl (fun k => k = g) w).setCell (p := ⟨g, o, none⟩) (.inl rfl) v).trans (ih _ _) (fun _ h => .inl h)

set_option maxHeartbeats 6400000 in
theorem compact_any (w : World) (g cap : Nat) (ks : List Nat) (R : RowV w g (ks.map z0)) (hl : ks.length ≤ 1000) (hcap : ks.length ≤ cap) (hcm : cap ≤ maxLen) (hs : ks.Pairwise (· ≤ ·)) :
    Calls Try.prog 29 #[.slice (some ⟨g, 0, none⟩) ks.length cap] w fun e w' => Chg (fun k => k = g) w w' ∧ ∃ rs : List Nat, e = .returned (.slice (some ⟨g, 0, none⟩) rs.length cap) ∧ rs.length ≤ ks.length ∧ rs.Pairwise (· < ·) ∧ (∀ x, x ∈ rs ↔ x ∈ ks) ∧ RowV w' g (rs.map z0) := by
  have HR := Lib.hid R
  have HS := Lib.hid hs
  unfold maxLen at hcm
  clear R hs
  generalize hn : ks.length = n at *
  have EN := Lib.hid hn
  clear hn
  by_cases h2 : n < 2
  · have h2' : (n : Int) < 2 := by omega
    go_enter Try.func29, Try.ntmps29
    go_wp2_with fail
    go_ret
    refine ⟨Chg.refl _ _, ks, by rw [EN.out]; rfl, by rw [EN.out]; exact Nat.le_refl _, ?_, fun _ => Iff.rfl, HR.out⟩
    have := EN.out
    match ks, this with
    | [], _ => exact List.Pairwise.nil
    | [a], _ => exact List.pairwise_singleton _ _
    | a :: b :: r, h => simp at h; omega
  have h2' : ¬ (n : Int) < 2 := by omega
  go_enter Try.func29, Try.ntmps29
  go_wp2_with fail
  go_loopw [3, 4, 5] (fun i _ _ wr => ∃ k : Nat, k + 1 ≤ n ∧ i = .int .i64 ((k + 1 : Nat) : Int) ∧ Hid (Got ks (ks.take (k + 1)) (k + 1)) ∧ Chg Non w wr) (fun i _ _ _ => n - (intOf i).toNat)
  case atStart => exact ⟨0, by omega, rfl, Lib.hid ⟨by have := EN.out; match ks, this with
    | [], _ => exact List.Pairwise.nil
    | a :: r, _ => simp, fun _ => Iff.rfl⟩, Chg.refl _ _⟩
  case round =>
    obtain ⟨k, hk, rfl, hG, hC⟩ := hrel
    by_cases hlt : k + 1 < n
    · have hki : ((k + 1 : Nat) : Int) < (n : Int) := by omega
      obtain ⟨x, hx⟩ : ∃ x, ks[k + 1]? = some x := ⟨_, List.getElem?_eq_getElem (by rw [EN.out]; exact hlt)⟩
      obtain ⟨y, hy⟩ : ∃ y, ks[k]? = some y := ⟨_, List.getElem?_eq_getElem (by rw [EN.out]; omega)⟩
      have HX := Lib.hid hx
      have HY := Lib.hid hy
      obtain ⟨⟨p0, p1⟩, _⟩ := (HR.out.chg hC (fun f => f)).cells (i := k + 1) (x := z0 x) (by rw [List.getElem?_map, hx]; rfl)
      obtain ⟨⟨q0, q1⟩, _⟩ := (HR.out.chg hC (fun f => f)).cells (i := k) (x := z0 y) (by rw [List.getElem?_map, hy]; rfl)
      have EQ : Hid (∀ w' : World, (Op.equalIn 10000 26 (.agg #[.int .u64 (x : Int), .int .i64 0]) (.agg #[.int .u64 (y : Int), .int .i64 0])).run Try.prog w' = .ok (decide (z0 x = z0 y)) w') := Lib.hid (fun w' : World => run_eq_va w' (z0 x) (z0 y))
      have hk0 : (0 : Int) ≤ (k : Int) + 1 := by omega
      have hwk : IntKind.i64.wrap (k : Int) = (k : Int) := by rw [IntKind.wrap_i64]; omega
      have hk1 : (k : Int) < (n : Int) := by omega
      simp only [z0] at p0 p1 q0 q1
      clear hx hy hk
      by_cases hxy : x = y
      · have EE := EQ.out
        rw [decide_eq_true (by rw [hxy])] at EE
        have HXY := Lib.hid hxy
        clear hxy
        go_wp2_with fail
        go_quiet (fail)
        go_wp2_with fail
        have hC1 : Chg (fun j => j = g) w (wr.drewN nq) := (hC.drewN nq).mono (fun _ f => f.elim)
        have hR1 := HR.out.chg (hC.drewN nq) (fun f => f)
        have hG1 : Got ks (ks.take (k + 1)) (k + 1 + 0 + 1) := hG.out.same HY.out (by rw [HX.out, HXY.out])
        generalize wr.drewN nq = w1 at *
        have hkn : k + 1 < n := hlt
        try rw [decide_eq_true (show (k : Int) + 1 < (n : Int) by omega)]
        try simp only [Int.natCast_add, Int.natCast_one]
        clear p0 p1 q0 q1 hwk hk0 hk1 hki EE
        generalize hm : n - (k + 1) = m at *
        generalize hcm2 : cap - (k + 1) = c2 at *
        have hmn : k + 1 + m = n := by omega
        have hm1000 : m ≤ 1000 := by omega
        have HMN := Lib.hid hmn
        clear hm hcm2 hmn hC hG HX HY HXY EQ
        go_loopw [3, 5] (fun i j wr => ∃ a b : Nat, ∃ cur : List Nat, i = .int .i64 (a : Int) ∧ j = .int .i64 ((b + 1 : Nat) : Int) ∧ b + 1 ≤ m ∧ a ≤ k + 1 + b ∧ Hid (cur.length = n ∧ cur.drop (k + 1 + b) = ks.drop (k + 1 + b) ∧ Got ks (cur.take a) (k + 1 + b + 1) ∧ RowV wr g (cur.map z0)) ∧ Chg (fun j => j = g) w wr) (fun _ j _ => m - (intOf j).toNat)
        case atStart => exact ⟨k + 1, 0, ks, by go_num, by go_num, by have := HMN.out; omega, by omega, Lib.hid ⟨EN.out, rfl, hG1, hR1⟩, hC1⟩
        case round =>
          obtain ⟨a, b, cur, rfl, rfl, hbm, hab, hI, hC⟩ := hrel
          obtain ⟨hcl, hcd, hG, hRc⟩ := hI.out
          have HG := Lib.hid hG
          have HRc := Lib.hid hRc
          have HCL := Lib.hid hcl
          have HCD := Lib.hid hcd
          clear hI
          have hki : ((a : Nat) : Int) < (n : Int) := by have := HMN.out; omega
          have hka : (0 : Int) ≤ (a : Int) := by omega
          by_cases hlt : b + 1 < m
          · have hbi : ((b + 1 : Nat) : Int) < (m : Int) := by omega
            have e0 : ∀ i, k + 1 + b ≤ i → cur[i]? = ks[i]? := by
              intro i hi
              have h1 : (cur.drop (k + 1 + b))[i - (k + 1 + b)]? = (ks.drop (k + 1 + b))[i - (k + 1 + b)]? := by rw [hcd]
              rw [List.getElem?_drop, List.getElem?_drop, Nat.add_sub_cancel' hi] at h1
              exact h1
            obtain ⟨x, hx⟩ : ∃ x, ks[k + 1 + b + 1]? = some x := ⟨_, List.getElem?_eq_getElem (by rw [EN.out]; have := HMN.out; omega)⟩
            obtain ⟨y, hy⟩ : ∃ y, ks[k + 1 + b]? = some y := ⟨_, List.getElem?_eq_getElem (by rw [EN.out]; have := HMN.out; omega)⟩
            have HX := Lib.hid hx
            have HY := Lib.hid hy
            obtain ⟨⟨p0, p1⟩, _⟩ := hRc.cells (i := k + 1 + b + 1) (x := z0 x) (by rw [List.getElem?_map, e0 _ (by omega), hx]; rfl)
            obtain ⟨⟨q0, q1⟩, _⟩ := hRc.cells (i := k + 1 + b) (x := z0 y) (by rw [List.getElem?_map, e0 _ (Nat.le_refl _), hy]; rfl)
            rw [show (k + 1 + b + 1) * 2 = (k + 1) * 2 + (b + 1) * 2 by omega] at p0 p1
            rw [show (k + 1 + b) * 2 = (k + 1) * 2 + b * 2 by omega] at q0 q1
            simp only [z0] at p0 p1 q0 q1
            have EQ : Hid (∀ w' : World, (Op.equalIn 10000 26 (.agg #[.int .u64 (x : Int), .int .i64 0]) (.agg #[.int .u64 (y : Int), .int .i64 0])).run Try.prog w' = .ok (decide (z0 x = z0 y)) w') := Lib.hid (fun w' : World => run_eq_va w' (z0 x) (z0 y))
            have hk0 : (0 : Int) ≤ (b : Int) + 1 := by omega
            have hwk : IntKind.i64.wrap (b : Int) = (b : Int) := by rw [IntKind.wrap_i64]; omega
            have hk1 : (b : Int) < (m : Int) := by omega
            clear hx hy hcl hcd hG hRc
            by_cases hxy : x = y
            · have EE := EQ.out
              rw [decide_eq_true (by rw [hxy])] at EE
              have HXY := Lib.hid hxy
              clear hxy
              go_wp2_with fail
              go_quiet (fail)
              go_wp2_with fail
              go_roundw
              case rel => exact ⟨a, b + 1, cur, rfl, by go_num, by omega, by omega, Lib.hid ⟨HCL.out, by
                rw [← Nat.add_assoc, ← List.drop_drop, HCD.out, List.drop_drop], HG.out.same HY.out (by rw [HX.out, HXY.out]), HRc.out.chg ((Chg.refl Non _).drewN _) (fun f => f)⟩, hC.drewN _⟩
              case measure => simp [intOf]; omega
            · have EE := EQ.out
              rw [decide_eq_false (fun h => hxy (by have := congrArg Va.key h; exact this))] at EE
              have HXY := Lib.hid hxy
              clear hxy
              go_wp2_with fail
              go_quiet (fail)
              have hi2 : (Try.prog.info? 26).map (·.size) = some (#[Value.int .u64 (x : Int), .int .i64 0] : Array Value).size := va_row
              have h12 : (#[Value.int .u64 (x : Int), .int .i64 0] : Array Value).all (·.oneCell') = true := by simp [Value.oneCell']
              have hth : (wr.drewN nq).there g (a * 2) (#[Value.int .u64 (x : Int), .int .i64 0] : Array Value).size := by
                have := (HRc.out.chg ((Chg.refl Non wr).drewN nq) (fun f => f)).there (a := a) (n := 1) (by rw [List.length_map, HCL.out]; omega)
                simpa using this
              go_wp2_with (with_reducible refine wpList_store_mid rfl 26 _ _ rfl g (a * 2) #[.int .u64 (x : Int), .int .i64 0] rfl rfl hth hi2 h12 ?_)
              go_roundw
              case rel => exact ⟨a + 1, b + 1, cur.set a x, by go_num, by go_num, by omega, by omega, Lib.hid ⟨by rw [List.length_set]; exact HCL.out, by
                rw [List.drop_set_of_lt (by omega), ← Nat.add_assoc, ← List.drop_drop, HCD.out, List.drop_drop], by
                  have e1 : (cur.set a x).take (a + 1) = cur.take a ++ [x] := by
                    rw [take_next (x := x) (List.getElem?_set_self (by rw [HCL.out]; omega)), List.take_set_of_le (Nat.le_refl _)]
                  rw [e1]
                  exact HG.out.next HS.out HY.out HX.out (fun e => HXY.out e.symm), by
                  rw [List.map_set]
                  exact (HRc.out.chg ((Chg.refl Non wr).drewN nq) (fun f => f)).setX (by rw [List.length_map, HCL.out]; omega) (z0 x)⟩, (hC.drewN nq).trans (chg_sets _ _ _ _) (fun _ h => .inl h)⟩
              case measure => simp [intOf]; omega
          · have hbm' : b + 1 = m := by omega
            have hbi : ¬ (((b + 1 : Nat) : Int) < (m : Int)) := by omega
            have hna : 0 < n - a := by have := HMN.out; omega
            obtain ⟨vs, hclr⟩ := run_clearV wr 0 g (a * 2) (n - a) (cap - a) hna (hRc.there (by rw [List.length_map, hcl]; omega))
            clear hcl hcd hG hRc
            go_wp2_with (at_builtin; refine wpList_clear _ rfl _ _ rfl _ rfl _ _ hclr ?_)
            go_ret
            have hal : (cur.take a).length = a := by rw [List.length_take, HCL.out]; have := HMN.out; omega
            have hkm : k + 1 + b + 1 = n := by have := HMN.out; omega
            refine ⟨hC.trans (chg_sets _ _ _ _) (fun _ h => .inl h), cur.take a, by rw [hal]; rfl, by rw [hal]; have := HMN.out; omega, HG.out.lt, fun x => ?_, ?_⟩
            · rw [HG.out.mem, hkm, List.take_of_length_le (by rw [EN.out]; exact Nat.le_refl _)]
            · rw [List.map_take]
              exact HRc.out.keep a vs
      · have EE := EQ.out
        rw [decide_eq_false (fun h => hxy (by have := congrArg Va.key h; exact this))] at EE
        go_wp2_with fail
        go_quiet (fail)
        go_wp2_with fail
        go_roundw
        case rel => exact ⟨k + 1, by omega, by go_num, Lib.hid (by rw [take_next HX.out]; exact hG.out.next HS.out HY.out HX.out (fun e => hxy e.symm)), hC.drewN _⟩
        case measure => simp [intOf]; omega
    · have hge : ¬ (((k + 1 : Nat) : Int) < (n : Int)) := by omega
      go_wp2
      go_ret
      obtain rfl : k + 1 = n := by omega
      have e : ks.take (k + 1) = ks := List.take_of_length_le (by rw [EN.out]; exact Nat.le_refl _)
      have hG' := hG.out
      rw [e] at hG'
      exact ⟨hC.mono (fun _ f => f.elim), ks, by rw [EN.out]; rfl, by rw [EN.out]; exact Nat.le_refl _, hG'.lt, fun _ => Iff.rfl, HR.out.chg hC (fun f => f)⟩
end Go.Proofs.Ytddkcdlioglkmaa
