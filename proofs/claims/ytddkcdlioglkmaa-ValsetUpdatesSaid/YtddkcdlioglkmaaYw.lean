/- The document's answers on sets: a list without a key, a list with one more. -/
import Derived.Test.YtddkcdlioglkmaaChecked
import Derived.WalkKit
import Derived.WalkLawsBesides
import Derived.Lib.Hide
import Derived.Deep.QuietTactic
import Derived.BigQuiet
import Derived.Deep.RegionHeld3
import Derived.Test.YtddkcdlioglkmaaRv
import Derived.Test.YtddkcdlioglkmaaEv
import Derived.Test.YtddkcdlioglkmaaCo
namespace Go.Proofs.Ytddkcdlioglkmaa
open Go.RowKit
set_option linter.unusedVariables false
set_option linter.unusedSimpArgs false
set_option maxRecDepth 20000

/-- append at a step of a region that draws its order. -/
theorem step_appV (w : World) {ops : Array Oper} {o : Oper} {a : Act} {K : Act → World → Prop} {Q : Exit → Act → World → Prop} {E : Prop} (hgd : o.guard = none) (sl x : Operand)
    (ho : o.op = .call { callee := .builtin .append, args := #[sl, x], argTypes := #[22, 22] })
    {v : Value} {l m : List Va} (hs : a.eval sl = v) (hown : OwnV w v l) {A : Option Addr} {n c : Nat} (hx : a.eval x = .slice A n c) (hn : n = m.length) (hr : LstM w A m Va.cells 2) (hsz : l.length + m.length ≤ 1000000000000)
    (h : ∀ v' w', OwnV w' v' (l ++ m) → w.grownBy w' v.ownBlock → (v'.ownBlock = v.ownBlock ∨ v'.ownBlock = some w.heap.size) → K (a.put o.dst v') w') :
    if Region.wanted o (yielded ops a.tmps) = true then Oper.wp Try.prog o a w K Q else E := by
  have hw : Region.wanted o (yielded ops a.tmps) = true := by simp [Region.wanted, hgd]
  rw [if_pos hw]
  subst hn
  obtain ⟨v', w', hrun, h2, h3, h4⟩ := run_appV w o.type hown c hr hsz
  unfold Oper.wp execOp
  simp only [ho, resolve, invoke, builtin, Sem.run_bind, Sem.run_pure, Result.andThen_ok, List.map_toArray, List.map_cons, List.map_nil, hs, hx, hrun]
  exact h v' w' h2 h3 h4

def lone (l : List Va) (k : Nat) : List Va := l.filter fun x => decide (x.key ≠ k)
theorem lone_next {l : List Va} {i : Nat} {x : Va} (k : Nat) (hx : l[i]? = some x) : lone (l.take (i + 1)) k = lone (l.take i) k ++ (if x.key ≠ k then [x] else []) := by
  unfold lone
  rw [take_next hx, List.filter_append]
  congr 1
  by_cases h : x.key = k <;> simp [h]

set_option maxHeartbeats 3200000 in
theorem without_any (w : World) (A : Option Addr) (c key : Nat) (l : List Va) (hl : l.length ≤ 100000) (M : LstM w A l Va.cells 2) :
    Calls Try.prog 18 #[.slice A l.length c, .int .u64 (key : Int)] w fun e w' => Chg Non w w' ∧ ∃ v, e = .returned v ∧ OwnV w' v (lone l key) ∧ ∀ j, vbl v j → w.heap.size ≤ j := by
  have HM := Lib.hid M
  clear M
  generalize hn : l.length = n at *
  have EN := Lib.hid hn
  clear hn
  go_enter Try.func18, Try.ntmps18
  go_wp2_with fail
  go_loopw [5, 6] (fun v i wr => ∃ k : Nat, k ≤ n ∧ i = .int .i64 (k : Int) ∧ Hid (OwnV wr v (lone (l.take k) key) ∧ ∀ j, vbl v j → w.heap.size ≤ j) ∧ Chg Non w wr) (fun _ i _ => n - (intOf i).toNat)
  case atStart => exact ⟨0, by omega, rfl, Lib.hid ⟨by simpa [lone] using OwnV.nil w, fun j h => by simp [vbl, Value.ownBlock] at h⟩, Chg.refl _ _⟩
  case round =>
    obtain ⟨k, hk, rfl, hI, hC⟩ := hrel
    by_cases hlt : k < n
    · have hki : (k : Int) < (n : Int) := by omega
      obtain ⟨x, hx⟩ : ∃ x, l[k]? = some x := ⟨_, List.getElem?_eq_getElem (by rw [EN.out]; exact hlt)⟩
      obtain ⟨a, ao, rfl, _, r1⟩ := (HM.out.chg hC) _ _ hx
      obtain ⟨p0, p1⟩ := rangeAt_cons r1
      obtain ⟨p1, _⟩ := rangeAt_cons p1
      have HN := Lib.hid (lone_next key hx)
      have hle : (lone (l.take k) key).length ≤ n := by
        refine Nat.le_trans (List.length_filter_le _ _) ?_
        rw [List.length_take]; omega
      have HLE := Lib.hid hle
      clear hx r1 hle
      by_cases hp : x.key = key
      · have hpi : (x.key : Int) = (key : Int) := by omega
        rw [if_neg (fun h => h hp), List.append_nil] at HN
        clear hp
        go_wp2_with fail
        go_roundw
        case rel => exact ⟨k + 1, by omega, by go_num, Lib.hid ⟨by rw [HN.out]; exact hI.out.1, hI.out.2⟩, hC⟩
        case measure => simp [intOf]; omega
      · have hpi : ¬ (x.key : Int) = (key : Int) := by omega
        rw [if_pos hp] at HN
        have k1 : Chg Non wr (wr.alloc (.cells #[.int .u64 (x.key : Int), .int .i64 x.power] 26)) := (Chg.refl _ _).alloc _
        have b0 := Hb.new wr 26 #[.int .u64 (x.key : Int), .int .i64 x.power]
        have M := lstM_new (l := [x]) (cells := Va.cells) (sz := 2) (fun _ => rfl) (n := wr.heap.size) (t := 26) (by simpa [Va.cells] using b0)
        have HMx := Lib.hid M
        have HOw := Lib.hid (hI.out.1.chg k1 (fun _ _ f => f))
        have HK := Lib.hid k1
        have HB := Lib.hid hI.out.2
        clear M k1 b0 hI
        go_wp2_with (at_builtin; refine wpList_appV _ rfl _ _ rfl rfl HOw.out (A := some ⟨wr.heap.size, 0, none⟩) (c := 1) rfl (m := [x]) rfl HMx.out (by have := HLE.out; simp; omega) ?_; intro v1 w2 o' g' b')
        go_roundw
        case rel => exact ⟨k + 1, by omega, by go_num, Lib.hid ⟨by rw [HN.out]; exact o', own_next HB.out (hC.trans HK.out (fun _ f => f.elim)) b'⟩, (hC.trans HK.out (fun _ f => f.elim)).grown g' (fun j hj => .inr (HB.out j hj))⟩
        case measure => simp [intOf]; omega
    · obtain rfl : k = n := by omega
      have e : l.take k = l := List.take_of_length_le (by rw [EN.out]; exact Nat.le_refl _)
      rw [e] at hI
      go_wp2_with fail
      go_ret
      exact ⟨hC, _, rfl, hI.out.1, hI.out.2⟩

theorem own0_of {w : World} {g : Nat} (h : w.heap[g]? = some (.cells #[] 26 (0, 0))) : OwnV w (.slice (some ⟨g, 0, none⟩) 0 0) [] :=
  ⟨rfl, .inr ⟨g, 0, #[], rfl, Nat.zero_le _, h, Nat.le_refl _, Nat.zero_le _, rfl, rfl⟩⟩
theorem one_at {w : World} {g : Nat} {x : Va} (h : w.heap[g]? = some (.cells #[.int .u64 (x.key : Int), .int .i64 x.power] 26 (0, 0))) : LstM w (some ⟨g, 0, none⟩) [x] Va.cells 2 :=
  lstM_new (fun _ => rfl) (t := 26) (show Hb w g _ _ from h)
theorem own_next2 {w W : World} {v v' : Value} (hb : ∀ j, vbl v j → w.heap.size ≤ j) (hs : w.heap.size ≤ W.heap.size) (b : v'.ownBlock = v.ownBlock ∨ v'.ownBlock = some W.heap.size) : ∀ j, vbl v' j → w.heap.size ≤ j := by
  intro j hj
  unfold vbl at hj hb
  rcases b with b | b
  · exact hb j (b ▸ hj)
  · rw [b] at hj
    injection hj with hj
    omega

/-- A rising list with one more at its place. -/
structure Ind (l : List Va) (x : Va) (r : List Va) : Prop where
  rises : Rises r
  perm : r.Perm (x :: l)

theorem swap_set (b : List Va) (x y : Va) : ∀ a : List Va, ((a ++ y :: x :: b).set (a.length + 1) y).set a.length x = a ++ x :: y :: b
  | [] => rfl
  | z :: a => by
    have h := swap_set b x y a
    simp only [List.cons_append, List.length_cons, List.set_cons_succ, h]
theorem ind_zero {l : List Va} {x : Va} (hr : Rises l) (h : ∀ y ∈ l, x.key < y.key) : Ind l x (x :: l) := ⟨rises_cons.2 ⟨h, hr⟩, List.Perm.refl _⟩
theorem ind_stop {a b : List Va} {x y : Va} (hr : Rises (a ++ y :: b)) (hb : ∀ z ∈ b, x.key < z.key) (hy : y.key < x.key) : Ind (a ++ y :: b) x (a ++ y :: x :: b) := by
  have h1 := List.pairwise_append.1 hr
  have h2 := rises_cons.1 h1.2.1
  refine ⟨List.pairwise_append.2 ⟨h1.1, rises_cons.2 ⟨fun z hz => ?_, rises_cons.2 ⟨hb, h2.2⟩⟩, fun z hz u hu => ?_⟩, ?_⟩
  · rcases List.mem_cons.1 hz with rfl | hz
    · exact hy
    · exact h2.1 z hz
  · have hzy := h1.2.2 z hz y (by simp)
    rcases List.mem_cons.1 hu with rfl | hu
    · exact hzy
    · rcases List.mem_cons.1 hu with rfl | hu
      · omega
      · exact h1.2.2 z hz u (by simp [hu])
  · have : (a ++ y :: x :: b).Perm (a ++ x :: y :: b) := List.Perm.append_left a (List.Perm.swap x y b)
    exact this.trans List.perm_middle

set_option maxHeartbeats 6400000 in
theorem with_any (w : World) (A : Option Addr) (c : Nat) (l : List Va) (x : Va) (hl : l.length ≤ 100000) (M : LstM w A l Va.cells 2) (hr : Rises l) (hk : ∀ y ∈ l, y.key ≠ x.key) :
    Calls Try.prog 19 #[.slice A l.length c, .agg #[.int .u64 (x.key : Int), .int .i64 x.power]] w fun e w' => Chg Non w w' ∧ ∃ (A' : Option Addr) (c' : Nat) (r : List Va), e = .returned (.slice A' r.length c') ∧ LstM w' A' r Va.cells 2 ∧ Ind l x r := by
  have HM := Lib.hid M
  have HRi := Lib.hid hr
  have HKs := Lib.hid hk
  clear M hr hk
  generalize hn : l.length = n at *
  have EN := Lib.hid hn
  clear hn
  have k1 : Chg Non w (w.alloc (.cells #[.int .u64 (x.key : Int), .int .i64 x.power] 26)) := (Chg.refl _ _).alloc _
  have b1 : Hb (w.alloc (.cells #[.int .u64 (x.key : Int), .int .i64 x.power] 26)) w.heap.size 26 #[.int .u64 (x.key : Int), .int .i64 x.power] := Hb.new w _ _
  go_enter Try.func19, Try.ntmps19
  go_wp2_with fail
  generalize hw1 : w.alloc (.cells #[.int .u64 (x.key : Int), .int .i64 x.power] 26) = w1 at *
  have c0 := b1.cell 0
  have c1 := b1.cell 1
  simp only [List.getElem?_toArray] at c0 c1
  have hws : w.heap.size ≤ w1.heap.size := k1.size
  have A1 : Hid (OwnV ((w1.alloc (.cells #[] 26)).drew) (.slice (some ⟨w1.heap.size, 0, none⟩) 0 0) []) := Lib.hid (own0_of (Hb.new w1 _ #[]))
  have A2 : Hid (OwnV (((w1.alloc (.cells #[] 26)).alloc (.cells #[.int .u64 (x.key : Int), .int .i64 x.power] 26)).drew) (.slice (some ⟨w1.heap.size, 0, none⟩) 0 0) []) := Lib.hid (own0_of ((Hb.new w1 _ #[]).alloc _))
  have A3 : Hid (OwnV (((w1.alloc (.cells #[.int .u64 (x.key : Int), .int .i64 x.power] 26)).alloc (.cells #[] 26)).drew) (.slice (some ⟨w1.heap.size + 1, 0, none⟩) 0 0) []) := Lib.hid (own0_of (by
    have h := Hb.new (w1.alloc (.cells #[.int .u64 (x.key : Int), .int .i64 x.power] 26)) 26 #[]
    rw [show (w1.alloc (.cells #[.int .u64 (x.key : Int), .int .i64 x.power] 26)).heap.size = w1.heap.size + 1 by simp] at h
    exact h))
  have B2 : Hid (Hb (((w1.alloc (.cells #[] 26)).alloc (.cells #[.int .u64 (x.key : Int), .int .i64 x.power] 26)).drew) (w1.heap.size + 1) 26 #[.int .u64 (x.key : Int), .int .i64 x.power]) := Lib.hid (by
    have h := Hb.new (w1.alloc (.cells #[] 26)) 26 #[.int .u64 (x.key : Int), .int .i64 x.power]
    rw [show (w1.alloc (.cells #[] 26)).heap.size = w1.heap.size + 1 by simp] at h
    exact h)
  have B3 : Hid (Hb (((w1.alloc (.cells #[.int .u64 (x.key : Int), .int .i64 x.power] 26)).alloc (.cells #[] 26)).drew) w1.heap.size 26 #[.int .u64 (x.key : Int), .int .i64 x.power]) := Lib.hid ((Hb.new w1 _ _).alloc _)
  have Q1 : Hid (Chg Non w1 ((w1.alloc (.cells #[] 26)).drew)) := Lib.hid (((Chg.refl Non w1).alloc _).drew)
  have Q2 : Hid (Chg Non w1 (((w1.alloc (.cells #[] 26)).alloc (.cells #[.int .u64 (x.key : Int), .int .i64 x.power] 26)).drew)) := Lib.hid ((((Chg.refl Non w1).alloc _).alloc _).drew)
  have Q3 : Hid (Chg Non w1 (((w1.alloc (.cells #[.int .u64 (x.key : Int), .int .i64 x.power] 26)).alloc (.cells #[] 26)).drew)) := Lib.hid ((((Chg.refl Non w1).alloc _).alloc _).drew)
  have hEN := EN.out
  have hne1 : ¬ (w1.heap.size = w1.heap.size + 1) := by omega
  go_region_held3 (fun w' => w'.cell? ⟨w.heap.size, 0, none⟩ = some (.int .u64 (x.key : Int)) ∧ w'.cell? ⟨w.heap.size, 1, none⟩ = some (.int .i64 x.power)) (first | exact ⟨c0, c1⟩ | assumption | exact ⟨kk6.out.cell c0 (fun f => f), kk6.out.cell c1 (fun f => f)⟩ | exact ⟨kk5.out.cell c0 (fun f => f), kk5.out.cell c1 (fun f => f)⟩ | exact ⟨(kk5.out.alloc _).cell c0 (fun f => f), (kk5.out.alloc _).cell c1 (fun f => f)⟩ | exact ⟨Q1.out.cell c0 (fun f => f), Q1.out.cell c1 (fun f => f)⟩ | exact ⟨Q2.out.cell c0 (fun f => f), Q2.out.cell c1 (fun f => f)⟩ | exact ⟨Q3.out.cell c0 (fun f => f), Q3.out.cell c1 (fun f => f)⟩ | go_keep)
    (first
      | (refine step_appV _ (by rfl) _ _ (by rfl) (l := []) (by rfl) A1.out (A := A) (c := c) (by rfl) EN.out.symm (HM.out.chg (k1.trans Q1.out (fun _ f => f.elim))) (by simp; omega) ?_; intro v1 w5 o1 g1 b1'; have kk5 : Hid (Chg Non w1 w5) := Lib.hid (Q1.out.grown g1 (fun j hj => .inr (by simp [Value.ownBlock] at hj; omega))); have bb5 : Hid (∀ j, vbl v1 j → w1.heap.size ≤ j) := Lib.hid (own_next2 (fun j hj => by simp [vbl, Value.ownBlock] at hj; omega) Q1.out.size b1'))
      | (refine step_appV _ (by rfl) _ _ (by rfl) (l := []) (by rfl) A2.out (A := A) (c := c) (by rfl) EN.out.symm (HM.out.chg (k1.trans Q2.out (fun _ f => f.elim))) (by simp; omega) ?_; intro v1 w5 o1 g1 b1'; have kk5 : Hid (Chg Non w1 w5) := Lib.hid (Q2.out.grown g1 (fun j hj => .inr (by simp [Value.ownBlock] at hj; omega))); have bb5 : Hid (∀ j, vbl v1 j → w1.heap.size ≤ j) := Lib.hid (own_next2 (fun j hj => by simp [vbl, Value.ownBlock] at hj; omega) Q2.out.size b1'); have L5 := one_at (B2.out.grown g1 (by simp [Value.ownBlock])))
      | (refine step_appV _ (by rfl) _ _ (by rfl) (l := []) (by rfl) A3.out (A := A) (c := c) (by rfl) EN.out.symm (HM.out.chg (k1.trans Q3.out (fun _ f => f.elim))) (by simp; omega) ?_; intro v1 w5 o1 g1 b1'; have kk5 : Hid (Chg Non w1 w5) := Lib.hid (Q3.out.grown g1 (fun j hj => .inr (by simp [Value.ownBlock] at hj; omega))); have bb5 : Hid (∀ j, vbl v1 j → w1.heap.size ≤ j) := Lib.hid (own_next2 (fun j hj => by simp [vbl, Value.ownBlock] at hj; omega) Q3.out.size b1'); have L5 := one_at (B3.out.grown g1 (by simp [Value.ownBlock])))
      | (refine step_appV _ (by rfl) _ _ (by rfl) (by rfl) o1 (n := 1) (c := 1) (by rfl) (m := [x]) (by rfl) L5 (by simp; omega) ?_; intro v2 w6 o2 g2 b2; have kk6 : Hid (Chg Non w1 w6) := Lib.hid (kk5.out.grown g2 (fun j hj => .inr (bb5.out j hj))); have bb6 : Hid (∀ j, vbl v2 j → w1.heap.size ≤ j) := Lib.hid (own_next2 bb5.out kk5.out.size b2))
      | (refine step_appV _ (by rfl) _ _ (by rfl) (by rfl) (o1.chg ((Chg.refl Non _).alloc (.cells #[.int .u64 (x.key : Int), .int .i64 x.power] 26)) (fun _ _ f => f)) (n := 1) (c := 1) (by rfl) (m := [x]) (by rfl) (one_at (Hb.new w5 _ _)) (by simp; omega) ?_; intro v2 w6 o2 g2 b2; have kk6 : Hid (Chg Non w1 w6) := Lib.hid ((kk5.out.alloc (.cells #[.int .u64 (x.key : Int), .int .i64 x.power] 26)).grown g2 (fun j hj => .inr (bb5.out j hj))); have bb6 : Hid (∀ j, vbl v2 j → w1.heap.size ≤ j) := Lib.hid (own_next2 bb5.out (kk5.out.alloc (.cells #[.int .u64 (x.key : Int), .int .i64 x.power] 26)).size b2))
      | fail)
  all_goals
    have o2' : OwnV w6 v2 (l ++ [x]) := by simpa using o2
    have kk := Lib.hid (k1.trans kk6.out (fun _ f => f.elim))
    have hcx := kk6.out.cell c0 (fun f => f)
    have hcy := kk6.out.cell c1 (fun f => f)
    obtain ⟨rfl, h0⟩ | ⟨g, cap, rfl, hcap, hcm, hg, hR⟩ := o2'.form
    · simp at h0
    have hlen : (l ++ [x]).length = n + 1 := by rw [List.length_append, hEN]; rfl
    have hgw : w1.heap.size ≤ g := bb6.out g (by simp [vbl, Value.ownBlock])
    rw [hlen] at hcap ⊢
    have HR := Lib.hid hR
    unfold maxLen at hcm
    clear hR o2 o2' c0 c1 g2 b2 hlen
    go_wp2_with fail
    go_loopw [6, 7] (fun i _ wr => ∃ (k : Nat) (a b : List Va), k ≤ n ∧ i = .int .i64 (k : Int) ∧ Hid (l = a ++ b ∧ a.length = k ∧ RowV wr g (a ++ x :: b) ∧ ∀ y ∈ b, x.key < y.key) ∧ Chg (fun j => j = g) w6 wr) (fun i _ _ => (intOf i).toNat)
    case atStart => exact ⟨n, l, [], by omega, by first | rfl | go_num, Lib.hid ⟨by simp, hEN, HR.out, by simp⟩, Chg.refl _ _⟩
    case round =>
      obtain ⟨k, a, b, hk, rfl, hI, hC⟩ := hrel
      obtain ⟨hab, hak, hRc, hbl⟩ := hI.out
      have HAB := Lib.hid hab
      have HBL := Lib.hid hbl
      have HRC := Lib.hid hRc
      have hgr : Chg Non w wr := kk.out.trans hC (fun j h => .inr (by subst h; omega))
      have HGR := Lib.hid hgr
      clear hI hgr
      rcases List.eq_nil_or_concat a with rfl | ⟨a', y, he⟩
      · obtain rfl : k = 0 := by simpa using hak.symm
        have hln : (x :: b).length = n + 1 := by rw [← hEN, hab]; simp
        have HI := Lib.hid (ind_zero (by rw [hab] at HRi; simpa using HRi.out) hbl)
        have hl2 : l = b := by simpa using hab
        clear hab hak hbl hRc hcx hcy
        go_wp2_with fail
        go_quiet (fail)
        go_wp2_with fail
        go_ret
        exact ⟨HGR.out.drewN _, some ⟨g, 0, none⟩, cap, x :: b, by rw [hln]; rfl, (HRC.out.lst).chg ((Chg.refl Non _).drewN _), by rw [hl2]; exact HI.out⟩
      · rw [List.concat_eq_append] at he
        subst he
        obtain ⟨j, rfl⟩ : ∃ j, k = j + 1 := ⟨a'.length, by simpa using hak.symm⟩
        have haj : a'.length = j := by simpa using hak
        have hxat : (a' ++ [y] ++ x :: b)[j + 1]? = some x := by rw [← haj]; simp
        have hyat : (a' ++ [y] ++ x :: b)[j]? = some y := by rw [← haj]; simp
        obtain ⟨⟨p0, p1⟩, _⟩ := hRc.cells hxat
        obtain ⟨⟨q0, q1⟩, _⟩ := hRc.cells hyat
        have hyl : y ∈ l := by rw [hab]; simp
        have hne := HKs.out y hyl
        have HAJ := Lib.hid haj
        have hki : ((j + 1 : Nat) : Int) < ((n + 1 : Nat) : Int) := by omega
        have hk0 : (0 : Int) < (j : Int) + 1 := by omega
        have hk00 : (0 : Int) ≤ (j : Int) + 1 := by omega
        have hk1 : (j : Int) < (n : Int) + 1 := by omega
        have hk2 : (j : Int) + 1 < (n : Int) + 1 := by omega
        have hwk : IntKind.i64.wrap (j : Int) = (j : Int) := by rw [IntKind.wrap_i64]; omega
        clear hab hak hbl hRc haj hxat hyat hyl
        by_cases hlt : x.key < y.key
        · have hlti : (x.key : Int) < (y.key : Int) := by omega
          clear hlt hne
          go_wp2_with fail
          go_quiet (fail)
          have P := HRC.out.chg ((Chg.refl Non wr).drewN nq) (fun f => f)
          have kq : Chg (fun j => j = g) w6 (wr.drewN nq) := hC.drewN nq
          have hgq : g < (wr.drewN nq).heap.size := Nat.lt_of_lt_of_le hg kq.size
          clear p0 p1 q0 q1 HGR HRC hC hcx hcy kk
          generalize wr.drewN nq = wq at *
          have hxat : (a' ++ [y] ++ x :: b)[j + 1]? = some x := by rw [← HAJ.out]; simp
          have hyat : (a' ++ [y] ++ x :: b)[j]? = some y := by rw [← HAJ.out]; simp
          obtain ⟨⟨p0, p1⟩, _⟩ := P.cells hxat
          obtain ⟨⟨q0, q1⟩, _⟩ := P.cells hyat
          have kA : Chg Non wq (wq.alloc (.cells #[Value.int .u64 (x.key : Int), .int .i64 x.power] 26)) := (Chg.refl _ _).alloc _
          have PA := P.chg kA (fun f => f)
          have hi2 : (Try.prog.info? 26).map (·.size) = some (#[Value.int .u64 (y.key : Int), .int .i64 y.power] : Array Value).size := va_row
          have h12 : (#[Value.int .u64 (y.key : Int), .int .i64 y.power] : Array Value).all (·.oneCell') = true := by simp [Value.oneCell']
          have hj2 : (Try.prog.info? 26).map (·.size) = some (#[Value.int .u64 (x.key : Int), .int .i64 x.power] : Array Value).size := va_row
          have h22 : (#[Value.int .u64 (x.key : Int), .int .i64 x.power] : Array Value).all (·.oneCell') = true := by simp [Value.oneCell']
          have hlen2 : (a' ++ [y] ++ x :: b).length = j + 2 + b.length := by rw [← HAJ.out]; simp; omega
          have hth : (wq.alloc (.cells #[Value.int .u64 (x.key : Int), .int .i64 x.power] 26)).there g ((j + 1) * 2) (#[Value.int .u64 (y.key : Int), .int .i64 y.power] : Array Value).size := by
            have := PA.there (a := j + 1) (n := 1) (by omega)
            simpa using this
          have hth2 : ((wq.alloc (.cells #[Value.int .u64 (x.key : Int), .int .i64 x.power] 26)).setCells g ((j + 1) * 2) [Value.int .u64 (y.key : Int), .int .i64 y.power]).there g (j * 2) (#[Value.int .u64 (x.key : Int), .int .i64 x.power] : Array Value).size := by
            have := there_sets [Value.int .u64 (y.key : Int), .int .i64 y.power] ((j + 1) * 2) (c := g) (PA.there (a := j) (n := 1) (by omega))
            simpa using this
          have HP2 : Hid (RowV (((wq.alloc (.cells #[Value.int .u64 (x.key : Int), .int .i64 x.power] 26)).setCells g ((j + 1) * 2) [Value.int .u64 (y.key : Int), .int .i64 y.power]).setCells g (j * 2) [Value.int .u64 (x.key : Int), .int .i64 x.power]) g (a' ++ x :: (y :: b))) := Lib.hid (by
            have h1 := (PA.setX (k := j + 1) (by omega) y).setX (k := j) (by rw [List.length_set]; omega) x
            have e : ((a' ++ [y] ++ x :: b).set (j + 1) y).set j x = a' ++ x :: (y :: b) := by
              have := swap_set b x y a'
              rw [HAJ.out] at this
              simpa using this
            rw [e] at h1
            exact h1)
          have hcb := Hb.new wq 26 #[Value.int .u64 (x.key : Int), .int .i64 x.power]
          have hx0 : ((wq.alloc (.cells #[Value.int .u64 (x.key : Int), .int .i64 x.power] 26)).setCells g ((j + 1) * 2) [Value.int .u64 (y.key : Int), .int .i64 y.power]).cell? ⟨wq.heap.size, 0, none⟩ = some (.int .u64 (x.key : Int)) := by
            rw [World.cell?_setCells_out g _ _ _ _ (fun h => absurd h (by show wq.heap.size ≠ g; omega))]
            exact hcb.cell 0
          have hx1 : ((wq.alloc (.cells #[Value.int .u64 (x.key : Int), .int .i64 x.power] 26)).setCells g ((j + 1) * 2) [Value.int .u64 (y.key : Int), .int .i64 y.power]).cell? ⟨wq.heap.size, 1, none⟩ = some (.int .i64 x.power) := by
            rw [World.cell?_setCells_out g _ _ _ _ (fun h => absurd h (by show wq.heap.size ≠ g; omega))]
            exact hcb.cell 1
          have HKA := Lib.hid kA
          clear hcb
          clear P PA kA hxat hyat hlen2
          go_wp2_with (first | (with_reducible refine wpList_store_mid rfl 26 _ _ rfl g ((j + 1) * 2) #[Value.int .u64 (y.key : Int), .int .i64 y.power] rfl rfl hth hi2 h12 ?_) | (with_reducible refine wpList_store_mid rfl 26 _ _ rfl g (j * 2) #[Value.int .u64 (x.key : Int), .int .i64 x.power] rfl rfl hth2 hj2 h22 ?_))
          go_roundw
          case rel => exact ⟨j, a', y :: b, by omega, by go_num, Lib.hid ⟨by rw [HAB.out]; simp, HAJ.out, HP2.out, fun z hz => by
            rcases List.mem_cons.1 hz with rfl | hz
            · omega
            · exact HBL.out z hz⟩, ((kq.trans HKA.out (fun _ f => f.elim)).trans (chg_sets _ _ _ _) (fun _ h => .inl h)).trans (chg_sets _ _ _ _) (fun _ h => .inl h)⟩
          case measure => simp [intOf]
        · have hlti : ¬ (x.key : Int) < (y.key : Int) := by omega
          have HI := Lib.hid (ind_stop (a := a') (b := b) (x := x) (y := y) (by have := HAB.out; rw [this] at HRi; simpa using HRi.out) HBL.out (by omega))
          have hln : (a' ++ y :: x :: b).length = n + 1 := by rw [← hEN, HAB.out]; simp; omega
          clear hlt hne hcx hcy
          go_wp2_with fail
          go_quiet (fail)
          go_wp2_with fail
          go_ret
          exact ⟨HGR.out.drewN _, some ⟨g, 0, none⟩, cap, a' ++ y :: x :: b, by rw [hln]; rfl, ((show RowV wr g (a' ++ y :: x :: b) by simpa using HRC.out).lst).chg ((Chg.refl Non _).drewN _), by rw [HAB.out]; simpa using HI.out⟩
end Go.Proofs.Ytddkcdlioglkmaa
