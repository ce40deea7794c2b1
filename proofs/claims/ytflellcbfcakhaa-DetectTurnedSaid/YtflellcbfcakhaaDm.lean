/- Evidence as a row; Classify. -/
import Derived.Test.YtflellcbfcakhaaChecked
import Derived.WalkKit
import Derived.WalkLawsBesides
import Derived.Lib.Hide
import Derived.Deep.MidRow
import Derived.Laws.ResultCell
import Derived.Test.YtflellcbfcakhaaDl
namespace Go.Proofs.Ytflellcbfcakhaa
open Go.RowKit
set_option linter.unusedVariables false
set_option linter.unusedSimpArgs false
set_option maxRecDepth 20000

theorem fill_seg (off : Nat) : ∀ (new old p q : List Value) (k : Nat), off + k = p.length → old.length = new.length → (new.zipIdx k).foldl (fun (cs : Array Value) (x : Value × Nat) => cs.setIfInBounds (off + x.2) x.1) (p ++ (old ++ q)).toArray = (p ++ (new ++ q)).toArray
  | [], old, p, q, k, hk, hl => by
    obtain rfl : old = [] := List.eq_nil_of_length_eq_zero hl
    rfl
  | v :: vs, [], p, q, k, hk, hl => by simp at hl
  | v :: vs, x :: old, p, q, k, hk, hl => by
    rw [List.zipIdx_cons, List.foldl_cons]
    simp only
    rw [hk, List.cons_append, row_set]
    have h3 := fill_seg off vs old (p ++ [v]) q (k + 1) (by simp; omega) (by simpa using hl)
    simpa using h3
theorem fill_step {place : Nat → Option (Nat × Nat)} {i : Nat} {v : Value} {rest : List (Nat × Value)} {a b : List Value} (p old new q : List Value) (hp : place i = some (p.length, new.length)) (hv : v.cells = new.toArray) (hl : old.length = new.length) (ha : a = p ++ (old ++ q)) (hb : b = p ++ (new ++ q)) :
    Instr.fill place a.toArray ((i, v) :: rest) = Instr.fill place b.toArray rest := by
  subst ha
  subst hb
  conv => lhs; unfold Instr.fill
  simp only [hp, hv]
  rw [if_neg (by simp [hl])]
  congr 1
  have h := fill_seg p.length new old p q 0 (by omega) hl
  have e : (new.toArray.zipIdx.foldl (fun (cs : Array Value) (x : Value × Nat) => cs.setIfInBounds (p.length + x.2) x.1) (p ++ (old ++ q)).toArray) = new.zipIdx.foldl (fun (cs : Array Value) (x : Value × Nat) => cs.setIfInBounds (p.length + x.2) x.1) (p ++ (old ++ q)).toArray := by simp
  rw [← h, ← e]
def evc (s : ByteArray) (h : Int) (cs : List Value) (v : Value) : List Value := [.string s, .int .i64 h] ++ (cs ++ [v])
def Ez : List Value := evc ⟨#[]⟩ 0 Li.zero.cells (.slice none 0 0)
theorem evc_len (s : ByteArray) (h : Int) (cs : List Value) (v : Value) : (evc s h cs v).length = cs.length + 3 := by simp [evc]
theorem ez_len : Ez.length = 203 := by unfold Ez; rw [evc_len, Li.zero.cells_len Li.zero_ok]
theorem evc_one (s : ByteArray) (h : Int) (cs : List Value) (v : Value) (hc : ∀ u ∈ cs, u.oneCell' = true) (hv : v.oneCell' = true) : ∀ u ∈ evc s h cs v, u.oneCell' = true := by
  intro u hu
  simp only [evc, List.mem_append, List.mem_cons, List.not_mem_nil, or_false] at hu
  rcases hu with (rfl | rfl) | hu | rfl
  · rfl
  · rfl
  · exact hc u hu
  · exact hv
theorem ez_one : ∀ u ∈ Ez, u.oneCell' = true := evc_one _ _ _ _ Li.zero.one rfl
theorem ev_row : (Try.prog.info? 38).map (·.size) = some 203 := by kernel_rfl
theorem ev_alloc (w : World) : (Instr.alloc 38 true (.tuple #[])).run Try.prog w = .ok (.pointer (some ⟨w.heap.size, 0, none⟩)) (w.alloc (.cells Ez.toArray 38)) := by kernel_rfl
theorem ev_zero : Try.prog.built 38 [] = some Ez.toArray := by kernel_rfl
def plE : Array (Nat × Nat) := #[(0, 1), (1, 1), (2, 200), (202, 1)]
theorem built_E (s : ByteArray) (h : Int) (cs : List Value) (hc : cs.length = 200) (A : Option Addr) (n c : Nat) : Try.prog.built 38 [(0, .string s), (1, .int .i64 h), (2, .agg cs.toArray), (3, .slice A n c)] = some (evc s h cs (.slice A n c)).toArray := by
  have e : Try.prog.built 38 [(0, .string s), (1, .int .i64 h), (2, .agg cs.toArray), (3, .slice A n c)] = Instr.fill (plE[·]?) Ez.toArray [(0, .string s), (1, .int .i64 h), (2, .agg cs.toArray), (3, .slice A n c)] := by kernel_rfl
  rw [e]
  refine (fill_step (b := evc s 0 Li.zero.cells (Value.slice none 0 0)) [] [Value.string ⟨#[]⟩] [Value.string s] (Value.int .i64 0 :: (Li.zero.cells ++ [Value.slice none 0 0])) rfl rfl rfl rfl rfl).trans ?_
  refine (fill_step (b := evc s h Li.zero.cells (Value.slice none 0 0)) [Value.string s] [Value.int .i64 0] [Value.int .i64 h] (Li.zero.cells ++ [Value.slice none 0 0]) rfl rfl rfl rfl rfl).trans ?_
  refine (fill_step (b := evc s h cs (Value.slice none 0 0)) [Value.string s, Value.int .i64 h] Li.zero.cells cs [Value.slice none 0 0] (by rw [hc]; rfl) rfl (by rw [hc, Li.zero.cells_len Li.zero_ok]) rfl rfl).trans ?_
  refine (fill_step (b := evc s h cs (Value.slice A n c)) ([Value.string s, Value.int .i64 h] ++ cs) [Value.slice none 0 0] [Value.slice A n c] [] (by simp [hc, plE]) rfl rfl (by simp [evc]) (by simp [evc])).trans ?_
  rfl
theorem ent_own (args : Array Value) (w : World) : (callFunc 12 args).run Try.prog w = .ok (.enter 12 args) w := enters_of Try.func12 (by kernel_rfl) rfl args w
theorem ent_bl (args : Array Value) (w : World) : (callFunc 13 args).run Try.prog w = .ok (.enter 13 args) w := enters_of Try.func13 (by kernel_rfl) rfl args w
/-- What blamed leaves: P of the keys, whatever becomes of blocks that were there ahead of it. -/
def BlK (P : World → Value → Prop) (w : World) (e : Ending) (w' : World) : Prop := Chg Non w w' ∧ ∃ A n c, e = .returned (.slice A n c) ∧ ∀ w3, Chg (fun j => j < w.heap.size) w' w3 → P w3 (.slice A n c)
/-- What Classify leaves. -/
def Clf (P : World → Value → Prop) (x y z : Li) (w : World) (e : Ending) (w' : World) : Prop := Chg Non w w' ∧ (conf x.hd y.hd z.hd = false ∧ e = .returned (.tuple #[.agg Ez.toArray, .int .i64 171]) ∨
  conf x.hd y.hd z.hd = true ∧ ∃ Lc A n c, Lc.length = 200 ∧ (∀ u ∈ Lc, u.oneCell' = true) ∧ e = .returned (.tuple #[.agg (evc (kd y z) x.hd.height Lc (.slice A n c)).toArray, .int .i64 0]) ∧ P w' (.slice A n c))
set_option maxHeartbeats 6400000 in
theorem Classify_any (P : World → Value → Prop) (w : World) (x y z : Li) (ox : x.Ok) (oy : y.Ok) (oz : z.Ok) (ny : y.In w) (h1 : y.se.length ≤ 100000) (h2 : y.sv.length ≤ 100000) (h3 : y.nx.length ≤ 100000)
    (hbl : ∀ w', Chg Non w w' → Calls Try.prog 13 #[.string (kd y z), .agg x.cells.toArray, .agg y.cells.toArray, .agg z.cells.toArray] w' (BlK P w')) :
    Calls Try.prog 6 #[.agg x.cells.toArray, .agg y.cells.toArray, .agg z.cells.toArray] w (Clf P x y z w) := by
  have HBL := Lib.hid hbl
  have HOC : Hid (∀ w', Chg Non w w' → Calls Try.prog 12 #[.agg y.cells.toArray] w' fun e w'' => Chg Non w' w'' ∧ ∃ cs : List Value, e = .returned (.agg cs.toArray) ∧ cs.length = 200 ∧ ∀ u ∈ cs, u.oneCell' = true) := Lib.hid fun w' k => ownCopy_any w' y oy (ny.chg k) h1 h2 h3
  have HCF : Hid (∀ w', Calls Try.prog 10 #[.agg x.hd.cells.toArray, .agg y.hd.cells.toArray, .agg z.hd.cells.toArray] w' (Zero w' (.bool (conf x.hd y.hd z.hd)))) := Lib.hid fun w' => isConflict_any w' _ _ _ ox.hd oy.hd oz.hd
  have HKD : Hid (∀ w', Calls Try.prog 11 #[.agg y.cells.toArray, .agg z.cells.toArray] w' (Zero w' (.string (kd y z)))) := Lib.hid fun w' => kindOf_any w' y z oy oz
  have rx := light_row x ox
  have ry := light_row y oy
  have rz := light_row z oz
  have hrx := header_row x.hd ox.hd
  have hry := header_row y.hd oy.hd
  have hrz := header_row z.hd oz.hd
  have HF : Hid (∀ w1 w2 w3 w4, Chg Non w w1 → Chg Non w1 w2 → Chg Non w2 w3 → Chg Non w3 w4 → Hid (Hb w1 w.heap.size 31 x.cells.toArray) → Hid (Hb w2 w1.heap.size 31 y.cells.toArray) → Hid (Hb w3 w2.heap.size 31 z.cells.toArray) → Hid (Hb w4 w3.heap.size 38 Ez.toArray) →
      Hid (Hb w4 w.heap.size 31 x.cells.toArray) ∧ Hid (Hb w4 w1.heap.size 31 y.cells.toArray) ∧ Hid (Hb w4 w2.heap.size 31 z.cells.toArray) ∧ Hid (Chg Non w w4) ∧ Hid (Hb w4 w3.heap.size 38 Ez.toArray) ∧ Hid ((¬ w.heap.size = w3.heap.size ∧ ¬ w1.heap.size = w3.heap.size ∧ ¬ w2.heap.size = w3.heap.size) ∧ w.heap.size ≤ w3.heap.size)) := Lib.hid fun w1 w2 w3 w4 k1 k2 k3 k4 h1 h2 h3 h4 => by
    have a1 := ((h1.out.chg k2 (fun f => f)).chg k3 (fun f => f)).chg k4 (fun f => f)
    have a2 := (h2.out.chg k3 (fun f => f)).chg k4 (fun f => f)
    have a3 := h3.out.chg k4 (fun f => f)
    have b1 := h1.out.lt
    have b2 := h2.out.lt
    have b3 := h3.out.lt
    have s2 := k2.size
    have s3 := k3.size
    exact ⟨Lib.hid a1, Lib.hid a2, Lib.hid a3, Lib.hid (((k1.trans k2 (fun _ f => f.elim)).trans k3 (fun _ f => f.elim)).trans k4 (fun _ f => f.elim)), h4, Lib.hid ⟨⟨by omega, by omega, by omega⟩, by omega⟩⟩
  have HG : Hid (∀ w4 n1 n2, Hid (Hb w4 w.heap.size 31 x.cells.toArray) → Hid (Hb w4 n1 31 y.cells.toArray) → Hid (Hb w4 n2 31 z.cells.toArray) → w4.rangeAt w.heap.size 0 x.hd.cells ∧ w4.rangeAt n1 0 y.hd.cells ∧ w4.rangeAt n2 0 z.hd.cells) := Lib.hid fun w4 n1 n2 a b c =>
    ⟨(Li.rows ox a.out.range0).hd, (Li.rows oy b.out.range0).hd, (Li.rows oz c.out.range0).hd⟩
  have HH : Hid (∀ w4, Hb w4 w.heap.size 31 x.cells.toArray → w4.cell? ⟨w.heap.size, 1, none⟩ = some (.int .i64 x.hd.height)) := Lib.hid fun w4 a => by simpa using (Li.rows ox a.range0).height
  unfold Clf
  clear ox oy oz ny h1 h2 h3 hbl
  generalize conf x.hd y.hd z.hd = cf at *
  generalize kd y z = K at *
  cases cf with
  | false =>
    go_enter Try.func6, Try.ntmps6
    go_wp2_with (first | (with_reducible refine wpList_box_h rfl _ _ rfl x.cells rfl ?_; intro w1 k1 h1) | (with_reducible refine wpList_box_h rfl _ _ rfl y.cells rfl ?_; intro w2 k2 h2) | (with_reducible refine wpList_box_h rfl _ _ rfl z.cells rfl ?_; intro w3 k3 h3) | (with_reducible refine wpList_alloc_h rfl _ rfl Ez ev_alloc ?_; intro w4 k4 h4; obtain ⟨HRX, HRY, HRZ, HC, HQ4, HNE⟩ := HF.out w1 w2 w3 w4 k1 k2 k3 k4 h1 h2 h3 h4; obtain ⟨p1, p2, p3⟩ := HG.out w4 w1.heap.size w2.heap.size HRX HRY HRZ) | (with_reducible refine wpList_load_mid rfl 25 _ rfl w.heap.size 0 rfl x.hd.cells _ p1 Try.underlying25 rfl hrx ?_) | (with_reducible refine wpList_load_mid rfl 25 _ rfl w1.heap.size 0 rfl y.hd.cells _ p2 Try.underlying25 rfl hry ?_) | (with_reducible refine wpList_load_mid rfl 25 _ rfl w2.heap.size 0 rfl z.hd.cells _ p3 Try.underlying25 rfl hrz ?_))
    refine (HCF.out w4).mono ?_
    rintro e w5 ⟨rfl, k5⟩
    have HB5 := Lib.hid (HQ4.out.chg k5 (fun f => f))
    have HC5 := Lib.hid (HC.out.trans k5 (fun _ f => f.elim))
    have erow : (Try.prog.info? 38).map (·.size) = some Ez.length := by rw [ez_len]; exact ev_row
    go_wp2_with (first | (with_reducible refine wpList_build_zero rfl 38 rfl ev_zero ?_) | (with_reducible refine wpList_store_h rfl 38 _ _ rfl w3.heap.size Ez Ez rfl rfl HB5.out rfl erow ez_one ?_; intro w6 k6 h6))
    refine ret_row2 rfl rfl rfl h6.out Try.underlying38 rfl erow rfl ⟨HC5.out.trans k6 (fun j e => .inr (by rw [e]; exact HNE.out.2)), .inl ⟨by first | rfl | trivial, rfl⟩⟩
  | true =>
    go_enter Try.func6, Try.ntmps6
    go_wp2_with (first | (with_reducible refine wpList_box_h rfl _ _ rfl x.cells rfl ?_; intro w1 k1 h1) | (with_reducible refine wpList_box_h rfl _ _ rfl y.cells rfl ?_; intro w2 k2 h2) | (with_reducible refine wpList_box_h rfl _ _ rfl z.cells rfl ?_; intro w3 k3 h3) | (with_reducible refine wpList_alloc_h rfl _ rfl Ez ev_alloc ?_; intro w4 k4 h4; obtain ⟨HRX, HRY, HRZ, HC, HQ4, HNE⟩ := HF.out w1 w2 w3 w4 k1 k2 k3 k4 h1 h2 h3 h4; obtain ⟨p1, p2, p3⟩ := HG.out w4 w1.heap.size w2.heap.size HRX HRY HRZ) | (with_reducible refine wpList_load_mid rfl 25 _ rfl w.heap.size 0 rfl x.hd.cells _ p1 Try.underlying25 rfl hrx ?_) | (with_reducible refine wpList_load_mid rfl 25 _ rfl w1.heap.size 0 rfl y.hd.cells _ p2 Try.underlying25 rfl hry ?_) | (with_reducible refine wpList_load_mid rfl 25 _ rfl w2.heap.size 0 rfl z.hd.cells _ p3 Try.underlying25 rfl hrz ?_))
    refine (HCF.out w4).mono ?_
    rintro e w5 ⟨rfl, k5⟩
    have A1 := Lib.hid (HRX.out.chg k5 (fun f => f))
    have A2 := Lib.hid (HRY.out.chg k5 (fun f => f))
    have A3 := Lib.hid (HRZ.out.chg k5 (fun f => f))
    have HB5 := Lib.hid (HQ4.out.chg k5 (fun f => f))
    have HC5 := Lib.hid (HC.out.trans k5 (fun _ f => f.elim))
    have q2 := A2.out.range0
    have q3 := A3.out.range0
    clear HRX HRY HRZ HQ4 HC k5 h1 h2 h3 h4 p1 p2 p3 k1 k2 k3 k4 HF HG
    go_wp2_with (first | (with_reducible refine wpList_load_mid rfl 31 _ rfl w1.heap.size 0 rfl y.cells _ q2 Try.underlying31 rfl ry ?_) | (with_reducible refine wpList_load_mid rfl 31 _ rfl w2.heap.size 0 rfl z.cells _ q3 Try.underlying31 rfl rz ?_))
    refine (HKD.out w5).mono ?_
    rintro e w6 ⟨rfl, k6⟩
    have kk := k6.drew
    have Q0 := Lib.hid (HH.out _ (A1.out.chg kk (fun f => f)))
    have Q1 := Lib.hid (A1.out.chg kk (fun f => f)).range0
    have Q2 := Lib.hid (A2.out.chg kk (fun f => f)).range0
    have Q3 := Lib.hid (A3.out.chg kk (fun f => f)).range0
    have HB4 := Lib.hid (HB5.out.chg kk (fun f => f))
    have HQ := Lib.hid (HC5.out.trans kk (fun _ f => f.elim))
    have HW := Lib.hid HNE.out.2
    have HNE := Lib.hid HNE.out.1
    clear A1 A2 A3 HB5 HC5 k6 kk q2 q3
    go_wp2_with fail
    rename_i ha
    generalize hn1 : w.heap.size = n1 at *
    have HN1 := Lib.hid hn1
    generalize w1.heap.size = n2 at *
    generalize w2.heap.size = n3 at *
    generalize w3.heap.size = n4 at *
    generalize hcx : x.cells = cx at *
    generalize hcy : y.cells = cy at *
    generalize hcz : z.cells = cz at *
    clear hn1 hcx hcy hcz
    refine wp_region_heads [0, 1, 2, 3, 4, 6, 7, 8, 9] 5 #[true, true, true, true, true, false, true, true, true, true, false, false, false, false] (by kernel_rfl) (by kernel_rfl) (by kernel_rfl) (by kernel_rfl) (by kernel_rfl) (fun w' => Chg (· = n4) w6.drew w') (Chg.refl _ _) ?_
    refine headI_run rfl rfl (fun w' kk => by go_simp; rfl) ?_
    simp only [Act.put, List.setIfInBounds_toArray, List.set_cons_zero, List.set_cons_succ]
    refine headI_run rfl rfl (fun w' kk => by go_simp; rfl) ?_
    simp only [Act.put, List.setIfInBounds_toArray, List.set_cons_zero, List.set_cons_succ]
    refine headI_run rfl rfl (fun w' kk => by go_simp; rfl) ?_
    simp only [Act.put, List.setIfInBounds_toArray, List.set_cons_zero, List.set_cons_succ]
    refine headI_run rfl rfl (fun w' kk => by (have x0 : w'.cell? ⟨n1, 1, none⟩ = some (.int .i64 x.hd.height) := Chg.cell (a := w6.drew) kk Q0.out HNE.out.1); go_simp; rfl) ?_
    simp only [Act.put, List.setIfInBounds_toArray, List.set_cons_zero, List.set_cons_succ]
    refine headI_load rfl rfl _ _ rfl n2 0 rfl cy _ (fun w' kk => Chg.range' (w := w6.drew) kk Q2.out (HNE.out.2.1)) Try.underlying31 rfl ry ?_
    simp only [Act.put, List.setIfInBounds_toArray, List.set_cons_zero, List.set_cons_succ]
    refine headI_run rfl rfl (fun w' kk => by go_simp; rfl) ?_
    simp only [Act.put, List.setIfInBounds_toArray, List.set_cons_zero, List.set_cons_succ]
    refine headI_load rfl rfl _ _ rfl n1 0 rfl cx _ (fun w' kk => Chg.range' (w := w6.drew) kk Q1.out (HNE.out.1)) Try.underlying31 rfl rx ?_
    simp only [Act.put, List.setIfInBounds_toArray, List.set_cons_zero, List.set_cons_succ]
    refine headI_load rfl rfl _ _ rfl n2 0 rfl cy _ (fun w' kk => Chg.range' (w := w6.drew) kk Q2.out (HNE.out.2.1)) Try.underlying31 rfl ry ?_
    simp only [Act.put, List.setIfInBounds_toArray, List.set_cons_zero, List.set_cons_succ]
    refine headI_load rfl rfl _ _ rfl n3 0 rfl cz _ (fun w' kk => Chg.range' (w := w6.drew) kk Q3.out (HNE.out.2.2)) Try.underlying31 rfl rz ?_
    simp only [Act.put, List.setIfInBounds_toArray, List.set_cons_zero, List.set_cons_succ]
    refine headI_nil ?_
    generalize w6.drew = wq at *
    refine held_w (n := 5) (fuel := 4) (L' := #[true, true, true, true, true, true, true, true, true, true, false, false, false, false]) rfl (by kernel_rfl) rfl (by kernel_rfl) ?_
    refine wp_call 12 _ _ rfl rfl ent_own (HOC.out wq HQ.out) ?_
    rintro e wa ⟨ka, Lc, rfl, hl1, hl2⟩
    have ca : Chg (· = n4) wq wa := ka.mono (fun j f => f.elim)
    refine ⟨_, rfl, ca, ?_⟩
    simp only [Act.put, List.setIfInBounds_toArray, List.set_cons_zero, List.set_cons_succ]
    have HQA := Lib.hid (HQ.out.trans ka (fun _ f => f.elim))
    refine held_w (n := 10) (fuel := 3) (L' := #[true, true, true, true, true, true, true, true, true, true, true, false, false, false]) rfl (by kernel_rfl) rfl (by kernel_rfl) ?_
    refine wp_call 13 _ _ rfl rfl ent_bl (HBL.out wa HQA.out) ?_
    rintro e wb ⟨kb, Ak, nk, ck, rfl, hP⟩
    have cb : Chg (· = n4) wq wb := ca.trans kb (fun _ f => f.elim)
    refine ⟨_, rfl, cb, ?_⟩
    simp only [Act.put, List.setIfInBounds_toArray, List.set_cons_zero, List.set_cons_succ]
    refine heads (g := 2) (L' := #[true, true, true, true, true, true, true, true, true, true, true, true, false, false]) (by kernel_rfl) (fun _ _ _ _ _ h => h) [11] _ _ _ (by kernel_rfl) (by kernel_rfl) cb ?_
    refine headI_build rfl rfl _ _ rfl [(0, .string K), (1, .int .i64 x.hd.height), (2, .agg Lc.toArray), (3, .slice Ak nk ck)] rfl (built_E K x.hd.height Lc hl1 Ak nk ck) ?_
    simp only [Act.put, List.setIfInBounds_toArray, List.set_cons_zero, List.set_cons_succ]
    refine headI_nil ?_
    have hb4 := (HB4.out.chg ka (fun f => f)).chg kb (fun f => f)
    have hlr : (evc K x.hd.height Lc (.slice Ak nk ck)).length = 203 := by rw [evc_len, hl1]
    refine held_w (n := 12) (fuel := 1) (L' := #[true, true, true, true, true, true, true, true, true, true, true, true, true, false]) rfl (by kernel_rfl) rfl (by kernel_rfl) ?_
    refine wp_store_mid 38 _ _ rfl n4 0 (evc K x.hd.height Lc (.slice Ak nk ck)).toArray rfl rfl (by rw [List.size_toArray, hlr, ← ez_len]; exact hb4.there0) (by rw [List.size_toArray, hlr]; exact ev_row) (one_mem (evc_one _ _ _ _ hl2 rfl)) ?_
    simp only [Act.put, List.setIfInBounds_toArray, List.set_cons_zero, List.set_cons_succ]
    try rw [List.toList_toArray]
    have cc := Chg.setCells (S := (· = n4)) rfl (evc K x.hd.height Lc (.slice Ak nk ck)) wb 0 (Chg.refl _ wb)
    have hb5 := hb4.sets0 (L' := evc K x.hd.height Lc (.slice Ak nk ck)) (by rw [hlr, ez_len])
    generalize wb.setCells n4 0 (evc K x.hd.height Lc (.slice Ak nk ck)) = wc at *
    have cd : Chg (· = n4) wq wc := cb.trans cc (fun j e => .inl e)
    refine ⟨cd, ?_⟩
    refine heads (g := 0) (L' := #[true, true, true, true, true, true, true, true, true, true, true, true, true, true]) (by kernel_rfl) (fun _ _ _ _ _ h => h) [13] _ _ _ (by kernel_rfl) (by kernel_rfl) cd ?_
    refine headI_run rfl rfl (fun w' kk => by go_simp; rfl) ?_
    simp only [Act.put, List.setIfInBounds_toArray, List.set_cons_zero, List.set_cons_succ]
    refine headI_nil ?_
    refine wpAnyH_done (by kernel_rfl) ?_ _
    refine ha _ _ ?_
    go_wp2_with fail
    refine ret_row2 rfl rfl rfl hb5 Try.underlying38 rfl (by rw [hlr]; exact ev_row) rfl ⟨HQ.out.trans cd (fun j e => .inr (by rw [e, HN1.out]; exact HW.out)), .inr ⟨by first | rfl | trivial, Lc, Ak, nk, ck, hl1, hl2, rfl, hP _ (cc.mono (fun j e => .inl (by have := (HB4.out.chg ka (fun f => f)).lt; omega)))⟩⟩
end Go.Proofs.Ytflellcbfcakhaa
