/- put at both maps; New. -/
import Derived.Test.YtahlfncijbkcoaaDoorChecked
import Derived.WalkKit
import Derived.WalkLawsBesides
import Derived.Lib.Hide
import Derived.Deep.MidRow
import Derived.Test.YtahlfncijbkcoaaDoorKc
namespace Go.Proofs.YtahlfncijbkcoaaDoor
open Go.RowKit
set_option linter.unusedVariables false
set_option linter.unusedSimpArgs false
set_option maxRecDepth 20000

section
variable {ops : Array Oper} {rest : List Oper} {o : Oper} {a : Act} {Q : Exit → Act → World → Prop} {w : World} {b n : Nat}
theorem wpList_lookH (hg : o.guard = none) (x y : Operand) (ho : o.op = Op.lookup 43 x y false) (hx : a.eval x = .map (some b)) {F : Key → Nat} (h : MapK holT w b n F) (s d : ByteArray) (hs : s.size ≤ maxLen) (hd : d.size ≤ maxLen) (hy : a.eval y = .agg #[.string s, .string d]) {c : Nat} (hc : F (s, d) = c)
    (hK : wpList Tryd.prog ops Q rest (a.put o.dst (.int .u64 (c : Int))) w) : wpList Tryd.prog ops Q (o :: rest) a w :=
  wpList_lookK (T := holT) hg x y _ ho map_hol hx h (s, d) ⟨hs, hd⟩ hy hc hK
theorem wpList_putH (hg : o.guard = none) (x y z : Operand) (ho : o.op = Op.mapUpdate 43 x y z) (hx : a.eval x = .map (some b)) {F : Key → Nat} (h : MapK holT w b n F) (hn : n < maxLen) (s d : ByteArray) (hs : s.size ≤ maxLen) (hd : d.size ≤ maxLen) (hy : a.eval y = .agg #[.string s, .string d]) {c : Nat} (hz : a.eval z = .int .u64 (c : Int)) (hc : 0 < c) (hc2 : c < 18446744073709551616)
    (hK : ∀ w', MapK holT w' b (n + 1) (kupd F (s, d) c) → Chg (· = b) w w' → w'.heap.size = w.heap.size → wpList Tryd.prog ops Q rest (a.put o.dst undef) w') : wpList Tryd.prog ops Q (o :: rest) a w :=
  wpList_putK (T := holT) hg x y z _ ho map_hol hx h hn (s, d) ⟨hs, hd⟩ hy hz hc hc2 hK
theorem wpList_delH (hg : o.guard = none) (x y : Operand) (ho : o.op = Op.call { callee := Callee.builtin Builtin.delete, args := #[x, y], argTypes := #[43, 51] }) (hx : a.eval x = .map (some b)) {F : Key → Nat} (h : MapK holT w b n F) (s d : ByteArray) (hs : s.size ≤ maxLen) (hd : d.size ≤ maxLen) (hy : a.eval y = .agg #[.string s, .string d])
    (hK : ∀ w', MapK holT w' b n (kupd F (s, d) 0) → Chg (· = b) w w' → w'.heap.size = w.heap.size → wpList Tryd.prog ops Q rest (a.put o.dst (.tuple #[])) w') : wpList Tryd.prog ops Q (o :: rest) a w :=
  wpList_delK (T := holT) hg x y _ ho map_hol hx h (s, d) ⟨hs, hd⟩ hy hK
theorem wpList_lookS (hg : o.guard = none) (x y : Operand) (ho : o.op = Op.lookup 44 x y false) (hx : a.eval x = .map (some b)) {F : ByteArray → Nat} (h : MapK strT w b n F) (d : ByteArray) (hd : d.size ≤ maxLen) (hy : a.eval y = .string d) {c : Nat} (hc : F d = c)
    (hK : wpList Tryd.prog ops Q rest (a.put o.dst (.int .u64 (c : Int))) w) : wpList Tryd.prog ops Q (o :: rest) a w :=
  wpList_lookK (T := strT) hg x y _ ho map_str hx h d hd hy hc hK
theorem wpList_putS (hg : o.guard = none) (x y z : Operand) (ho : o.op = Op.mapUpdate 44 x y z) (hx : a.eval x = .map (some b)) {F : ByteArray → Nat} (h : MapK strT w b n F) (hn : n < maxLen) (d : ByteArray) (hd : d.size ≤ maxLen) (hy : a.eval y = .string d) {c : Nat} (hz : a.eval z = .int .u64 (c : Int)) (hc : 0 < c) (hc2 : c < 18446744073709551616)
    (hK : ∀ w', MapK strT w' b (n + 1) (kupd F d c) → Chg (· = b) w w' → w'.heap.size = w.heap.size → wpList Tryd.prog ops Q rest (a.put o.dst undef) w') : wpList Tryd.prog ops Q (o :: rest) a w :=
  wpList_putK (T := strT) hg x y z _ ho map_str hx h hn d hd hy hz hc hc2 hK
theorem wpList_delS (hg : o.guard = none) (x y : Operand) (ho : o.op = Op.call { callee := Callee.builtin Builtin.delete, args := #[x, y], argTypes := #[44, 9] }) (hx : a.eval x = .map (some b)) {F : ByteArray → Nat} (h : MapK strT w b n F) (d : ByteArray) (hd : d.size ≤ maxLen) (hy : a.eval y = .string d)
    (hK : ∀ w', MapK strT w' b n (kupd F d 0) → Chg (· = b) w w' → w'.heap.size = w.heap.size → wpList Tryd.prog ops Q rest (a.put o.dst (.tuple #[])) w') : wpList Tryd.prog ops Q (o :: rest) a w :=
  wpList_delK (T := strT) hg x y _ ho map_str hx h d hd hy hK
end

/-- What put leaves. -/
def PutH (w : World) (b n : Nat) (F : Key → Nat) (e : Ending) (w' : World) : Prop := e = .returned (.tuple #[]) ∧ Chg (· = b) w w' ∧ Hid (MapK holT w' b n F)
def PutS (w : World) (b n : Nat) (F : ByteArray → Nat) (e : Ending) (w' : World) : Prop := e = .returned (.tuple #[]) ∧ Chg (· = b) w w' ∧ Hid (MapK strT w' b n F)
set_option maxHeartbeats 1600000 in
theorem putS_any (w : World) (b n : Nat) (F : ByteArray → Nat) (h : MapK strT w b n F) (hn : n < 1000000) (d : ByteArray) (hd : d.size ≤ maxLen) (c : Nat) (hc : c < 18446744073709551616) :
    Calls Tryd.prog 32 #[.map (some b), .string d, .int .u64 (c : Int)] w (PutS w b (n + 1) (kupd F d c)) := by
  have HM := Lib.hid h
  have hn2 : n < maxLen := by unfold maxLen; omega
  have HN := Lib.hid hn2
  have HD := Lib.hid hd
  clear h hn hn2 hd
  go_enter Tryd.func32, Tryd.ntmps32
  by_cases h0 : (c : Int) = 0
  · have e0 : c = 0 := by omega
    subst e0
    go_wp2_with (first | (with_reducible refine wpList_delS rfl _ _ rfl rfl HM.out d HD.out rfl ?_; intro w1 h1 k1 z1))
    go_end0
    exact ⟨rfl, k1, Lib.hid (h1.mono (by omega))⟩
  · have H0 : ((c : Int) == 0) = false := by simpa using h0
    have hp : 0 < c := by omega
    clear h0
    go_wp2_with (first | (with_reducible refine wpList_putS rfl _ _ _ rfl rfl HM.out HN.out d HD.out rfl rfl hp hc ?_; intro w1 h1 k1 z1))
    go_end0
    exact ⟨rfl, k1, Lib.hid h1⟩
set_option maxHeartbeats 1600000 in
theorem putH_any (w : World) (b n : Nat) (F : Key → Nat) (h : MapK holT w b n F) (hn : n < 1000000) (s d : ByteArray) (hs : s.size ≤ maxLen) (hd : d.size ≤ maxLen) (c : Nat) (hc : c < 18446744073709551616) :
    Calls Tryd.prog 44 #[.map (some b), .agg #[.string s, .string d], .int .u64 (c : Int)] w (PutH w b (n + 1) (kupd F (s, d) c)) := by
  have hlt := h.lt
  have k0 : Chg Non w (w.alloc (.cells #[.string s, .string d] 51)) := (Chg.refl _ _).alloc _
  have HM := Lib.hid (h.chg k0 (fun f => f))
  have HK : Hid (∀ w', Chg (· = b) (w.alloc (.cells #[.string s, .string d] 51)) w' → Chg (· = b) w w') := Lib.hid fun w' k => (k0.mono (fun _ f => f.elim)).trans k (fun _ f => .inl f)
  have hn2 : n < maxLen := by unfold maxLen; omega
  have HN := Lib.hid hn2
  have HS := Lib.hid hs
  have HD := Lib.hid hd
  clear h hn hn2 hd hs k0
  go_enter Tryd.func44, Tryd.ntmps44
  by_cases h0 : (c : Int) = 0
  · have e0 : c = 0 := by omega
    subst e0
    go_wp2_with (first | (with_reducible refine wpList_delH rfl _ _ rfl rfl HM.out s d HS.out HD.out rfl ?_; intro w1 h1 k1 z1))
    go_end0
    exact ⟨rfl, HK.out _ k1, Lib.hid (h1.mono (by omega))⟩
  · have H0 : ((c : Int) == 0) = false := by simpa using h0
    have hp : 0 < c := by omega
    clear h0
    go_wp2_with (first | (with_reducible refine wpList_putH rfl _ _ _ rfl rfl HM.out HN.out s d HS.out HD.out rfl rfl hp hc ?_; intro w1 h1 k1 z1))
    go_end0
    exact ⟨rfl, HK.out _ k1, Lib.hid h1⟩

/-- The bank in block g: the amounts F, the supplies S; its maps' blocks b1, b2; at most n entries. -/
structure BkP (w : World) (g b1 b2 n : Nat) (F : Key → Nat) (S : ByteArray → Nat) : Prop where
  box : Hb w g 46 #[.map (some b1), .map (some b2)]
  am : MapK holT w b1 n F
  su : MapK strT w b2 n S
  ne : b1 ≠ b2
  g1 : g ≠ b1
  g2 : g ≠ b2
/-- Its blocks that change. -/
def Bb (b1 b2 : Nat) : Nat → Prop := fun k => k = b1 ∨ k = b2
/-- All its blocks are from N on. -/
def Up3 (N g b1 b2 : Nat) : Prop := N ≤ g ∧ N ≤ b1 ∧ N ≤ b2
section
variable {w w' : World} {g b1 b2 n : Nat} {F : Key → Nat} {S : ByteArray → Nat}
theorem BkP.mono (h : BkP w g b1 b2 n F S) {n' : Nat} (hn : n ≤ n') : BkP w g b1 b2 n' F S := ⟨h.box, h.am.mono hn, h.su.mono hn, h.ne, h.g1, h.g2⟩
theorem BkP.chg {X : Nat → Prop} (h : BkP w g b1 b2 n F S) (k : Chg X w w') (h0 : ¬ X g) (h1 : ¬ X b1) (h2 : ¬ X b2) : BkP w' g b1 b2 n F S := ⟨h.box.chg k h0, h.am.chg k h1, h.su.chg k h2, h.ne, h.g1, h.g2⟩
theorem BkP.non (h : BkP w g b1 b2 n F S) (k : Chg Non w w') : BkP w' g b1 b2 n F S := h.chg k (fun f => f) (fun f => f) (fun f => f)
theorem BkP.lts (h : BkP w g b1 b2 n F S) : g < w.heap.size ∧ b1 < w.heap.size ∧ b2 < w.heap.size := ⟨h.box.lt, h.am.lt, h.su.lt⟩
theorem BkP.c1 (h : BkP w g b1 b2 n F S) : w.cell? ⟨g, 0, none⟩ = some (.map (some b1)) := by rw [h.box.cell]; rfl
theorem BkP.c2 (h : BkP w g b1 b2 n F S) : w.cell? ⟨g, 1, none⟩ = some (.map (some b2)) := by rw [h.box.cell]; rfl
end
/-- What New leaves. -/
def NewP (w : World) (e : Ending) (w' : World) : Prop := Chg Non w w' ∧ ∃ g b1 b2, e = .returned (.pointer (some ⟨g, 0, none⟩)) ∧ Up3 w.heap.size g b1 b2 ∧ Hid (BkP w' g b1 b2 0 (fun _ => 0) (fun _ => 0))
set_option maxHeartbeats 1600000 in
theorem New_any (w : World) : Calls Tryd.prog 4 #[] w (NewP w) := by
  have hmk := @run_makeMap Tryd.prog
  have k1 := (Chg.refl Non w).alloc (.map #[] 0)
  have k2 := k1.alloc (.map #[] 0)
  have k3 := k2.alloc (.cells #[.map (some w.heap.size), .map (some (w.heap.size + 1))] 46)
  have m1 := ((MapK.made holT w).chg ((Chg.refl Non _).alloc (.map #[] 0)) (fun f => f)).chg ((Chg.refl Non _).alloc (.cells #[.map (some w.heap.size), .map (some (w.heap.size + 1))] 46)) (fun f => f)
  have m2 := (MapK.made strT (w.alloc (.map #[] 0))).chg ((Chg.refl Non _).alloc (.cells #[.map (some w.heap.size), .map (some (w.heap.size + 1))] 46)) (fun f => f)
  have hb := Hb.new ((w.alloc (.map #[] 0)).alloc (.map #[] 0)) 46 #[.map (some w.heap.size), .map (some (w.heap.size + 1))]
  have e1 : (w.alloc (.map #[] 0)).heap.size = w.heap.size + 1 := by simp
  have e2 : ((w.alloc (.map #[] 0)).alloc (.map #[] 0)).heap.size = w.heap.size + 2 := by simp
  rw [e1] at m2
  rw [e2] at hb
  have HB : Hid (BkP (((w.alloc (.map #[] 0)).alloc (.map #[] 0)).alloc (.cells #[.map (some w.heap.size), .map (some (w.heap.size + 1))] 46)) (w.heap.size + 2) w.heap.size (w.heap.size + 1) 0 (fun _ => 0) (fun _ => 0)) := Lib.hid ⟨hb, m1, m2, by omega, by omega, by omega⟩
  have HK := Lib.hid k3
  clear k1 k2 k3 m1 m2 hb e1 e2
  go_enter Tryd.func4, Tryd.ntmps4
  go_wp2_with fail
  go_ret
  exact ⟨HK.out, _, _, _, rfl, ⟨by omega, by omega, by omega⟩, HB⟩
end Go.Proofs.YtahlfncijbkcoaaDoor
