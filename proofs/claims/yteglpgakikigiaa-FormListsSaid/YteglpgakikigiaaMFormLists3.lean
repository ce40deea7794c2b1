import Derived.WalkKit
import Derived.ProofKit
import Derived.OpenShut
import Derived.Carry
import Derived.Deep.Slices
import Derived.WideShapes
import Derived.Test.YteglpgakikigiaaChecked
import Derived.WalkLawsBesides
import Derived.Lib.Hide
import Derived.ChangeKeysEq
import Derived.Deep.MidRow
import Derived.Deep.QuietTactic
import Derived.BigQuiet
import Derived.Test.YteglpgakikigiaaMFormLists2
/- What a reading of an argument says of its cells, whatever its type; and a law's statement out of its walk. Nothing here knows the program. -/
namespace Go.Proofs.Yteglpgakikigiaa
open Go.ChangeShapes Go.WideShapes Go.ChangeAt Go.RowKit
set_option linter.unusedVariables false
set_option linter.unusedSimpArgs false

/-- The cells cs are a value of type t in the world w: n steps deep into the type. -/
def Okc (P : Program) (w : World) : Nat → TypeId → List Value → Prop
  | 0, _, _ => True
  | n + 1, t, cs =>
    match P.underlying t with
    | some .bool => ∃ b, cs = [.bool b]
    | some (.int k) => ∃ x, cs = [.int k x] ∧ (Lit.int k x).wf = true
    | some (.float k) => ∃ x, cs = [.float k x] ∧ (Lit.float k x).wf = true
    | some .string => ∃ s, cs = [.string s] ∧ s.size ≤ maxLen
    | some (.slice e) => cs = [.slice none 0 0] ∨ ∃ a len cap, cs = [.slice (some a) len cap] ∧ len ≤ cap ∧ cap ≤ maxLen ∧
        ∀ i, i < len → ∃ es : List Value, es.length = P.cellsOf e ∧ (∀ j, j < P.cellsOf e → w.cell? (a.add (i * P.cellsOf e + j)) = es[j]?) ∧ Okc P w n e es
    | some (.struct fs) => cs.length = P.cellsOf t ∧ ∀ (i : Nat) (f : Field), fs[i]? = some f → Okc P w n f.type ((cs.drop f.offset).take (P.cellsOf f.type))
    | some (.array k e) => cs.length = P.cellsOf t ∧ ∀ i, i < k → Okc P w n e ((cs.drop (i * P.cellsOf e)).take (P.cellsOf e))
    | _ => True

section
variable {H : Type} {enc : TypeId × Value → H} {P : Program} {w : World} {base : Nat} {spare : Nat → Bool} {held : Bool}

theorem okc_of_trod : ∀ (n fuel : Nat) (t : TypeId) (cs : List Value) (x : DataW H × List MemPlace), DataW.trod enc P w base spare held fuel t cs = some x → Okc P w n t cs := by
  intro n
  induction n with
  | zero => intros; trivial
  | succ n ih =>
    intro fuel t cs x h
    unfold Okc
    split
    · rename_i ht; obtain ⟨b, h1, _⟩ := DataW.trod_bool ht h; exact ⟨b, h1⟩
    · rename_i ht; obtain ⟨b, h1, _, h2⟩ := DataW.trod_int ht h; exact ⟨b, h1, h2⟩
    · rename_i k ht
      cases fuel with
      | zero => simp [DataW.trod] at h
      | succ m =>
        unfold DataW.trod at h
        rw [ht] at h
        split at h <;> simp_all
    · rename_i ht; obtain ⟨b, h1, _, h2⟩ := DataW.trod_string ht h; exact ⟨b, h1, h2⟩
    · rename_i e ht
      rcases Go.Deep.open_slice ht h with ⟨h0, _⟩ | ⟨a, len, cap, m, n', D, Pl, hcs, hb, hl, hm, hmm, hx, hi⟩
      · exact .inl h0
      · refine .inr ⟨a, len, cap, hcs, hl, hm, fun i hil => ?_⟩
        obtain ⟨cs', hc, ht'⟩ := hi i (by rw [hmm]; split <;> omega)
        obtain ⟨_, hcl, hat⟩ := World.cells?_some hc
        exact ⟨cs', hcl, fun j hj => by rw [← Go.Deep.add_add]; exact hat j hj, ih _ _ _ _ ht'⟩
    · rename_i fs ht
      obtain ⟨xs, m, _, _, hl, hxl, hf⟩ := DataW.trod_struct ht h
      refine ⟨hl, fun i f hfi => ?_⟩
      have hlt := (Array.getElem?_eq_some_iff.1 hfi).1
      have h1 := hf i f hfi
      rw [List.getElem?_eq_getElem (by omega)] at h1
      exact ih _ _ _ _ h1
    · rename_i k e ht
      obtain ⟨xs, m, _, _, hl, hxl, hf⟩ := DataW.trod_array ht h
      refine ⟨hl, fun i hik => ?_⟩
      have h1 := hf i hik
      rw [List.getElem?_eq_getElem (by omega)] at h1
      exact ih _ _ _ _ h1
    · trivial
end

/-- An argument of type t: its value is whole (a struct, an array) or one cell, and its cells are of the type. -/
def Okv (P : Program) (w : World) (t : TypeId) (v : Value) : Prop :=
  (match P.underlying t with
    | some (.struct _) | some (.array _ _) => ∃ cs, v = .agg cs
    | some .bool | some (.int _) | some (.float _) | some .string | some (.slice _) => v.cells = #[v]
    | _ => True) ∧ ∀ n, Okc P w n t v.cells.toList

section
variable {H : Type} {enc : TypeId × Value → H} {P : Program} {w : World} {base : Nat} {spare : Nat → Bool} {held : Bool}

theorem okv_of_trod {r : Reach} {b0 : Nat} {t : TypeId} {v : Value} {d : DataW H} {ps : List MemPlace} (hv : Value.okWide P w r b0 t v) (h : DataW.Trod enc P w base spare held t v d ps) : Okv P w t v := by
  obtain ⟨fuel, hf⟩ := h
  refine ⟨?_, fun n => okc_of_trod n fuel t _ _ hf⟩
  unfold Value.okWide at hv
  split
  · rename_i ht; rw [ht] at hv; obtain ⟨cs, h1, _⟩ := hv; exact ⟨cs, h1⟩
  · rename_i ht; rw [ht] at hv; obtain ⟨cs, h1, _⟩ := hv; exact ⟨cs, h1⟩
  · rename_i ht; simp only [ht, Cell.okWide] at hv; cases v <;> simp_all [Cell.ok, Value.cells]
  · rename_i ht; simp only [ht, Cell.okWide] at hv; cases v <;> simp_all [Cell.ok, Value.cells]
  · rename_i ht; simp only [ht, Cell.okWide] at hv; cases v <;> simp_all [Cell.ok, Value.cells]
  · rename_i ht; simp only [ht, Cell.okWide] at hv; cases v <;> simp_all [Cell.ok, Value.cells]
  · rename_i ht; simp only [ht, Cell.okWide] at hv; cases v <;> simp_all [Cell.ok, Value.cells]
  · trivial

theorem trodAll_get : ∀ {ts : List TypeId} {vs : List Value} {ds : List (DataW H)} {ps : List MemPlace}, DataW.TrodAll enc P w base spare held ts vs ds ps →
    vs.length = ts.length ∧ ds.length = ts.length ∧ ∀ (j : Nat) (t : TypeId) (v : Value), ts[j]? = some t → vs[j]? = some v → ∃ d p, DataW.Trod enc P w base spare held t v d p := by
  intro ts
  induction ts with
  | nil =>
    intro vs ds ps h
    cases vs <;> cases ds <;> simp_all [DataW.TrodAll]
  | cons t ts ih =>
    intro vs ds ps h
    cases vs with
    | nil => simp [DataW.TrodAll] at h
    | cons v vs =>
      cases ds with
      | nil => simp [DataW.TrodAll] at h
      | cons d ds =>
        obtain ⟨p, q, h1, h2, _⟩ := h
        obtain ⟨a, b, c⟩ := ih h2
        refine ⟨by simp [a], by simp [b], fun j t' v' ht hv => ?_⟩
        cases j with
        | zero => simp at ht hv; subst ht; subst hv; exact ⟨d, p, h1⟩
        | succ j => exact c j t' v' (by simpa using ht) (by simpa using hv)

theorem trodAll_below (hl : laidOutB P = true) {W W' : World} (hb : Below W.heap.size W W') : ∀ {ts : List TypeId} {vs : List Value} {ds : List (DataW H)} {ps : List MemPlace},
    (∀ t ∈ ts, P.readableRec t = true ∧ t < P.types.size) → (∀ p ∈ ps, p.block < W.heap.size) → DataW.TrodAll enc P W 0 (fun _ => true) true ts vs ds ps →
    DataW.TrodAll enc P W' 0 (fun b => decide (b < W.heap.size)) true ts vs ds ps := by
  intro ts
  induction ts with
  | nil => intro vs ds ps _ _ h; cases vs <;> cases ds <;> simp_all [DataW.TrodAll]
  | cons t ts ih =>
    intro vs ds ps hr hp h
    cases vs with
    | nil => simp [DataW.TrodAll] at h
    | cons v vs =>
      cases ds with
      | nil => simp [DataW.TrodAll] at h
      | cons d ds =>
        obtain ⟨p, q, h1, h2, rfl⟩ := h
        obtain ⟨r1, r2⟩ := hr t (by simp)
        exact ⟨p, q, Below.trod hl r1 r2 h1 hb (fun x hx => hp x (by simp [hx])), ih (fun t' ht' => hr t' (by simp [ht'])) (fun x hx => hp x (by simp [hx])) h2, rfl⟩
end

/-- A law's lifted row out of its walk. -/
theorem lifted_of_walk {H : Type} {enc : TypeId × Value → H} {C : Checked} {os : Os} {f : FuncId} {fn : Func} {s : ChangeSpec} {conds : List PathCond} {apart fresh : Bool} {T : TypeId}
    (own : ownKnob C.prog.godebug = none) (started : os.Started) (noInit : C.prog.inits.idxOf? f = none) (hfn : C.prog.funcs[f]? = some fn)
    (witness : ∃ (w : World) (tape : Tape) (i : Input), w.os = os ∧ (w.forCall tape i).Shaped C.prog ∧ i.vars = [] ∧ Input.okWide C.prog (w.forCall tape i) .any w.heap.size f i ∧
      s.pre6 enc C.prog fn conds apart (w.forCall tape i).memory i.args ∧ ({} : Assume).holds C.prog (lone (Frame.enter C.prog f i.args .normal) [] (w.forCall tape i)))
    (hv : s.vars = []) (hs : ∀ ds : List (DataW H), ds.length = fn.params.size → (s.fn H (ds ++ [])).results = [.lit (.bool true)] ∧ (s.fn H (ds ++ [])).args = ds ∧ (s.fn H (ds ++ [])).vars = [])
    (hT : fn.resultTypes = #[T]) (hbool : C.prog.underlying T = some .bool) (hl : laidOutB C.prog = true) (hr : ∀ t ∈ fn.params.toList, C.prog.readableRec t = true ∧ t < C.prog.types.size)
    (walk : ∀ (W : World) (args : Array Value), args.size = fn.params.size → (∀ (j : Nat) (t : TypeId) (v : Value), fn.params[j]? = some t → args[j]? = some v → Okv C.prog W t v) →
      Calls C.prog f args W fun e W' => e = .returned (.bool true) ∧ Below W.heap.size W W') :
    ReturnsInHanded {} C os f .any (s.pre6 enc C.prog fn conds apart) (s.post enc C.prog fn apart fresh false false) := by
  refine returnsInHanded_of_change own started noInit hfn witness ?_
  intro W base args ds gs before hval hW hcnd _
  have hW' := hW
  obtain ⟨p, q, hA, hV, rfl, hfz, hnd⟩ := hW
  obtain ⟨l1, l2, hget⟩ := trodAll_get hA
  rw [hv] at hV
  have hq : gs = [] ∧ q = [] := by
    cases gs with
    | nil => exact ⟨rfl, hV⟩
    | cons g gs => simp [DataW.TrodVars] at hV
  obtain ⟨rfl, rfl⟩ := hq
  obtain ⟨s1, s2, s3⟩ := hs ds (by simpa using l2)
  have hlt : ∀ x ∈ p ++ [], x.block < W.heap.size := fun x hx => hW'.lt x hx
  refine (walk W args (by simpa using l1) fun j t v hj hjv => ?_).mono fun e W' ⟨he, hb⟩ => ?_
  · obtain ⟨d, pp, hd⟩ := hget j t v (by simpa using hj) (by simpa using hjv)
    exact okv_of_trod (hval j t v hj hjv) hd
  · subst he
    refine ⟨_, rfl, ds, [], p ++ [], [], p, [], hW', ?_, ?_, ?_, World.keptBut_mono (fun x hx => ⟨hx, ?_⟩) (hb.frame (· ∈ p ++ [])), fun h => by cases h⟩
    · rw [s1, hT]
      exact trodAll_cons_mk (shut_bool hbool _) trodAll_mk0
    · rw [s2]
      exact trodAll_below hl hb hr (fun x hx => hlt x (by simpa using hx)) hA
    · rw [hv, s3]
      exact rfl
    · exact Or.inr (Or.inl (by simpa using hx))
end Go.Proofs.Yteglpgakikigiaa

/- Calls on no writer; the live question of the laws of package wire; a field's cells. -/
namespace Go.Proofs.Yteglpgakikigiaa
open Go.RowKit
set_option linter.unusedVariables false
set_option maxRecDepth 20000

theorem wordW_nil (w : World) (n : Nat) (hn : n < 18446744073709551616) : Calls Try.prog 78 #[.pointer none, .int .u64 (n : Int)] w (Zero w (.tuple #[])) := by
  go_enter Try.func78, Try.ntmps78
  go_wp2_with (first | (go_at_call 86; refine (parted8 _ hn _).mono ?_; rintro e w' ⟨rfl, rfl⟩) | (go_at_call 80; refine (add_nil _ _).mono ?_; rintro e w' ⟨rfl, rfl⟩))
  go_end0
  exact ⟨rfl, (Chg.refl Non w).alloc _⟩

theorem numberW_nil (w : World) (n : Int) (h1 : -9223372036854775808 ≤ n) (h2 : n ≤ 9223372036854775807) : Calls Try.prog 74 #[.pointer none, .int .i64 n] w (Zero w (.tuple #[])) := by
  have H := wordW_nil w (n % 18446744073709551616).toNat (by omega)
  rw [show (((n % 18446744073709551616).toNat : Nat) : Int) = n % 18446744073709551616 by omega] at H
  go_enter Try.func74, Try.ntmps74
  go_wp2_with (go_at_call 78; refine H.mono ?_; intro e w' hw; obtain ⟨rfl, hw'⟩ := hw)
  go_end0
  exact ⟨rfl, hw'⟩

theorem hashW_nil (w : World) (hs : List UInt8) (hl : hs.length = 32) : Calls Try.prog 69 #[.pointer none, .agg (bv hs).toArray] w (Zero w (.tuple #[])) := by
  go_enter Try.func69, Try.ntmps69
  go_wp2_with (go_at_call 80; refine (add_nil _ _).mono ?_; rintro e w' ⟨rfl, rfl⟩)
  go_end0
  exact ⟨rfl, (Chg.refl Non w).alloc _⟩

theorem giveUp_nil (w : World) : Calls Try.prog 85 #[.pointer none] w (Zero w (.tuple #[])) := by
  go_enter Try.func85, Try.ntmps85
  go_wp2
  refine bodyPost_ret (results_none rfl _ _ _) rfl ?_
  exact ⟨rfl, Chg.refl _ _⟩

theorem textW_nil (w : World) (s : ByteArray) (hm : s.size ≤ maxLen) : Calls Try.prog 76 #[.pointer none, .string s] w (Zero w (.tuple #[])) := by
  unfold maxLen at hm
  by_cases hlt : 4096 < s.size
  · go_enter Try.func76, Try.ntmps76
    go_wp2_with (go_at_call 85; refine (giveUp_nil _).mono ?_; intro e w' hw; obtain ⟨rfl, hw'⟩ := hw)
    refine bodyPost_ret (results_none rfl _ _ _) rfl ?_
    exact ⟨rfl, hw'⟩
  · obtain ⟨c2, w2, hrun, _, _, hch, _⟩ := run_bytes byt (w.alloc (.cells (pcells 2 s.size 2) 5)) s
    go_enter Try.func76, Try.ntmps76
    go_wp2_with (go_at_call 86; refine (parted2 _ (by omega) _).mono ?_; rintro e w' ⟨rfl, rfl⟩)
    refine (add_nil _ _).mono ?_
    rintro e w' ⟨rfl, rfl⟩
    go_wp2_with fail
    refine (add_nil _ _).mono ?_
    rintro e w' ⟨rfl, rfl⟩
    go_wp2
    go_end0
    exact ⟨rfl, ((Chg.refl Non w).alloc _).trans hch (fun _ hj => .inl hj)⟩

theorem bytesW_nil (w : World) : Calls Try.prog 61 #[.pointer none] w fun e w' => e = .returned (.tuple #[.slice none 0 0, .int .i64 1]) ∧ w' = w := by
  go_enter Try.func61, Try.ntmps61
  go_wp2
  go_ret2
  exact ⟨rfl, rfl⟩

/-- The bytes of the live question. -/
def AL : List UInt8 := [0, 2, 104, 105, 255, 255, 255, 255, 255, 255, 255, 254]
theorem al1 : txSt (some []) [104, 105] = some [0, 2, 104, 105] := by decide
theorem al2 : (some [0, 2, 104, 105] : Option (List UInt8)).map (· ++ be 8 ((-2 : Int) % 18446744073709551616).toNat) = some AL := by decide

end Go.Proofs.Yteglpgakikigiaa

/- Two hashes held against each other; a hash's cells out of a reading; the zero hash built. -/
namespace Go.Proofs.Yteglpgakikigiaa
open Go.RowKit
set_option linter.unusedVariables false
set_option maxRecDepth 20000

theorem byte_cells : Try.prog.cellsOf 5 = 1 := by kernel_rfl
theorem hash_cells : Try.prog.cellsOf 29 = 32 := by kernel_rfl

theorem run_part_byte (w : World) (a : List UInt8) (i : Nat) (hi : i < a.length) : (part 5 (bv a).toArray (i * 1)).run Try.prog w = .ok (.int .u8 (a[i].toNat : Int)) w := by
  have h : (bv a).toArray[i]? = some (.int .u8 (a[i].toNat : Int)) := by
    rw [List.getElem?_toArray]; exact bv_get a i _ (List.getElem?_eq_getElem hi)
  have hagg : (isAgg 5).run Try.prog w = .ok false w := by
    unfold isAgg
    rw [Sem.run_bind, run_underlying Try.underlying5 w]
    rfl
  simp [part, Sem.run_bind, hagg, h]

theorem u8_eq (x y : UInt8) : ((x.toNat : Int) == (y.toNat : Int)) = decide (x = y) := by
  rw [Bool.eq_iff_iff]
  simp only [beq_iff_eq, decide_eq_true_eq]
  exact ⟨fun h => UInt8.toNat_inj.1 (by omega), fun h => by rw [h]⟩

theorem run_items (w : World) (d : Nat) (a b : List UInt8) (n : Nat) (ha : a.length = n) (hb : b.length = n) : ∀ (is : List Nat), (∀ i ∈ is, i < n) →
    (Op.eqItems (d + 1) 5 1 (bv a).toArray (bv b).toArray is).run Try.prog w = .ok (decide (∀ i ∈ is, a[i]? = b[i]?)) w := by
  intro is
  induction is with
  | nil => intro _; simp [Op.eqItems]
  | cons i is ih =>
    intro h
    have hi : i < n := h i (by simp)
    have hih := ih (fun j hj => h j (by simp [hj]))
    have e1 : a[i]? = some (a[i]'(by omega)) := List.getElem?_eq_getElem (by omega)
    have e2 : b[i]? = some (b[i]'(by omega)) := List.getElem?_eq_getElem (by omega)
    simp only [Op.eqItems, Sem.run_bind, run_part_byte w a i (by omega), run_part_byte w b i (by omega), Result.andThen_ok, run_equalIn_int w d 5 .u8 .u8 _ _ Try.underlying5, u8_eq]
    by_cases hx : a[i]'(by omega) = b[i]'(by omega)
    · rw [decide_eq_true hx]
      simp only [Bool.not_true, Bool.false_eq_true, if_false]
      rw [hih]
      congr 1
      rw [decide_eq_decide]
      simp [e1, e2, hx]
    · rw [decide_eq_false hx]
      simp only [Bool.not_false, if_true, Sem.run_pure]
      congr 1
      symm
      rw [decide_eq_false_iff_not]
      intro h2
      have := h2 i (by simp)
      rw [e1, e2] at this
      injection this with this
      exact hx this

theorem run_eq_hash (w : World) {a b : List UInt8} (ha : a.length = 32) (hb : b.length = 32) : (Op.equalIn 10000 29 (.agg (bv a).toArray) (.agg (bv b).toArray)).run Try.prog w = .ok (decide (a = b)) w := by
  obtain ⟨i, hi, _, _, _⟩ := info_parts byt.hi
  rw [run_equalIn_array w 9999 (bv a).toArray (bv b).toArray Try.underlying29 hi, byte_cells, run_items w 9998 a b 32 ha hb _ (fun i hi => by simpa using hi)]
  congr 1
  rw [decide_eq_decide]
  constructor
  · intro h
    apply List.ext_getElem?
    intro j
    rcases Nat.lt_or_ge j 32 with hj | hj
    · exact h j (by simpa using hj)
    · rw [List.getElem?_eq_none (by omega), List.getElem?_eq_none (by omega)]
  · rintro rfl _ _
    rfl

theorem noH_eq : (bv noH).toArray = #[.int .u8 0, .int .u8 0, .int .u8 0, .int .u8 0, .int .u8 0, .int .u8 0, .int .u8 0, .int .u8 0, .int .u8 0, .int .u8 0, .int .u8 0, .int .u8 0, .int .u8 0, .int .u8 0, .int .u8 0, .int .u8 0, .int .u8 0, .int .u8 0, .int .u8 0, .int .u8 0, .int .u8 0, .int .u8 0, .int .u8 0, .int .u8 0, .int .u8 0, .int .u8 0, .int .u8 0, .int .u8 0, .int .u8 0, .int .u8 0, .int .u8 0, .int .u8 0] := rfl
theorem run_eq_zero (w : World) {a : List UInt8} (ha : a.length = 32) : (Op.equalIn 10000 29 (.agg (bv a).toArray) (.agg #[.int .u8 0, .int .u8 0, .int .u8 0, .int .u8 0, .int .u8 0, .int .u8 0, .int .u8 0, .int .u8 0, .int .u8 0, .int .u8 0, .int .u8 0, .int .u8 0, .int .u8 0, .int .u8 0, .int .u8 0, .int .u8 0, .int .u8 0, .int .u8 0, .int .u8 0, .int .u8 0, .int .u8 0, .int .u8 0, .int .u8 0, .int .u8 0, .int .u8 0, .int .u8 0, .int .u8 0, .int .u8 0, .int .u8 0, .int .u8 0, .int .u8 0, .int .u8 0])).run Try.prog w = .ok (decide (a = noH)) w := by
  rw [← noH_eq]
  exact run_eq_hash w ha noH_length

theorem build_noH (w : World) : (Instr.build 29 #[]).run Try.prog w = .ok (.agg (bv noH).toArray) w := by kernel_rfl

/-- Cells that are bytes, each. -/
theorem bytes_of : ∀ (cs : List Value), (∀ (i : Nat), i < cs.length → ∃ x, cs[i]? = some (.int .u8 x) ∧ (Lit.int .u8 x).wf = true) → ∃ h : List UInt8, cs = bv h
  | [], _ => ⟨[], rfl⟩
  | c :: cs, hc => by
    obtain ⟨h, rfl⟩ := bytes_of cs (fun i hi => by obtain ⟨x, h1, h2⟩ := hc (i + 1) (by simp; omega); exact ⟨x, by simpa using h1, h2⟩)
    obtain ⟨x, h1, h2⟩ := hc 0 (by simp)
    simp only [List.getElem?_cons_zero, Option.some.injEq] at h1
    subst h1
    have hmin : IntKind.u8.min = 0 := rfl
    have hmax : IntKind.u8.max = 255 := rfl
    simp only [Lit.wf, Bool.and_eq_true, decide_eq_true_eq, hmin, hmax] at h2
    refine ⟨UInt8.ofNat x.toNat :: h, ?_⟩
    simp only [bv, List.map_cons, List.cons.injEq, and_true, Value.int.injEq, true_and]
    rw [UInt8.toNat_ofNat']
    omega

theorem hash_of {w : World} {cs : List Value} (h : Okc Try.prog w 2 29 cs) : ∃ hs : List UInt8, cs = bv hs ∧ hs.length = 32 := by
  unfold Okc at h
  simp only [Try.underlying29] at h
  obtain ⟨hl, hb⟩ := h
  rw [hash_cells] at hl
  obtain ⟨hs, rfl⟩ := bytes_of cs (fun i hi => by
    have h1 := hb i (by omega)
    unfold Okc at h1
    simp only [Try.underlying5, byte_cells, Nat.mul_one] at h1
    obtain ⟨x, h2, h3⟩ := h1
    refine ⟨x, ?_, h3⟩
    have : (cs.drop i)[0]? = some (.int .u8 x) := by
      have h4 : ((cs.drop i).take 1)[0]? = some (.int .u8 x) := by rw [h2]; rfl
      rw [List.getElem?_take] at h4
      simpa using h4
    simpa using this)
  exact ⟨hs, rfl, by rw [bv_length] at hl; exact hl⟩

theorem i64_bounds {x : Int} (h : (Lit.int .i64 x).wf = true) : -9223372036854775808 ≤ x ∧ x ≤ 9223372036854775807 := by
  have hmin : IntKind.i64.min = -9223372036854775808 := rfl
  have hmax : IntKind.i64.max = 9223372036854775807 := rfl
  simp only [Lit.wf, Bool.and_eq_true, decide_eq_true_eq, hmin, hmax] at h
  exact h
theorem u64_nat {x : Int} (h : (Lit.int .u64 x).wf = true) : ∃ n : Nat, x = (n : Int) ∧ n < 18446744073709551616 := by
  have hmin : IntKind.u64.min = 0 := rfl
  have hmax : IntKind.u64.max = 18446744073709551615 := rfl
  simp only [Lit.wf, Bool.and_eq_true, decide_eq_true_eq, hmin, hmax] at h
  exact ⟨x.toNat, by omega, by omega⟩

/-- A field, as the laws have it. -/
structure Fd where
  k : Int
  n : Int
  w : Nat
  h : List UInt8
  s : ByteArray
/-- It is one. -/
structure Fd.Ok (f : Fd) : Prop where
  n1 : -9223372036854775808 ≤ f.n
  n2 : f.n ≤ 9223372036854775807
  k1 : -9223372036854775808 ≤ f.k
  k2 : f.k ≤ 9223372036854775807
  w : f.w < 18446744073709551616
  h : f.h.length = 32
  s : f.s.size ≤ maxLen
/-- Its cells. -/
def Fd.cells (f : Fd) : List Value := [.int .i64 f.k, .int .i64 f.n, .int .u64 (f.w : Int)] ++ bv f.h ++ [.string f.s]

theorem int_cells : Try.prog.cellsOf 3 = 1 := by kernel_rfl
theorem u64_cells : Try.prog.cellsOf 69 = 1 := by kernel_rfl
theorem str_cells : Try.prog.cellsOf 9 = 1 := by kernel_rfl

end Go.Proofs.Yteglpgakikigiaa

/- A slice of fields, and one of bytes, out of a reading; the reference's bytes; Same. -/
namespace Go.Proofs.Yteglpgakikigiaa
open Go.RowKit
set_option linter.unusedVariables false
set_option linter.unusedSimpArgs false
set_option maxRecDepth 20000

/-- At the address lies this field. -/
def FdAt (w : World) (p : Addr) (f : Fd) : Prop := ∀ (j : Nat) (u : Value), f.cells[j]? = some u → w.cell? (p.add j) = some u

section
variable {w w' : World} {p : Addr} {f : Fd}
theorem FdAt.k (h : FdAt w p f) : w.cell? p = some (.int .i64 f.k) := h 0 _ rfl
theorem FdAt.n (h : FdAt w p f) : w.cell? ⟨p.block, p.off + 1, none⟩ = some (.int .i64 f.n) := h 1 _ rfl
theorem FdAt.wd (h : FdAt w p f) : w.cell? ⟨p.block, p.off + 2, none⟩ = some (.int .u64 (f.w : Int)) := h 2 _ rfl
theorem FdAt.s (h : FdAt w p f) (ok : f.Ok) : w.cell? ⟨p.block, p.off + 35, none⟩ = some (.string f.s) := by
  refine h 35 _ ?_
  unfold Fd.cells
  rw [List.getElem?_append_right (by simp [bv_length, ok.h])]
  simp [bv_length, ok.h]
theorem FdAt.h (h : FdAt w p f) : Rd w (some ⟨p.block, p.off + 3, none⟩) f.h := by
  intro j b hj
  have hjl := (List.getElem?_eq_some_iff.1 hj).1
  refine ⟨_, rfl, ?_⟩
  have e1 : (⟨p.block, p.off + 3, none⟩ : Addr).add j = p.add (3 + j) := by
    unfold Addr.add
    split
    · subst_vars; simp
    · rw [if_neg (by omega)]; simp [Nat.add_assoc]
  rw [e1]
  refine h (3 + j) _ ?_
  unfold Fd.cells
  rw [List.append_assoc, List.getElem?_append_right (by simp), List.getElem?_append_left (by rw [bv_length]; simp; omega)]
  simpa using bv_get f.h j b hj
theorem FdAt.chg {S : Nat → Prop} (h : FdAt w p f) (k : Chg S w w') (hp : ¬ S p.block) : FdAt w' p f := fun j u hu => k.cell (h j u hu) (by rw [block_add]; exact hp)
theorem FdAt.below {B : Nat} (h : FdAt w p f) (hb : Below B w w') (hp : p.block < B) : FdAt w' p f := fun j u hu => (hb.cell (by rw [block_add]; exact hp)).trans (h j u hu)
theorem FdAt.lt (h : FdAt w p f) : p.block < w.heap.size := by
  have := World.block_lt_of_cell? w _ h.k
  exact this
end

/-- A slice of fields. -/
def Fds (w : World) (A : Option Addr) (n : Nat) (L : Nat → Fd) : Prop := ∀ i, i < n → (L i).Ok ∧ ∃ a, A = some a ∧ FdAt w (a.add (i * 36)) (L i)

/-- A slice of bytes. -/
theorem bytes_arg {W : World} {v : Value} (h : Okv Try.prog W 22 v) : ∃ A c l, v = .slice A l.length c ∧ l.length ≤ c ∧ c ≤ maxLen ∧ Rd W A l ∧ ∀ j, l ≠ [] → abl A j → j < W.heap.size := by
  obtain ⟨hv, ho⟩ := h
  simp only [Try.underlying22] at hv
  have h4 := ho 2
  rw [hv] at h4
  unfold Okc at h4
  simp only [Try.underlying22] at h4
  rcases h4 with h4 | ⟨a, n, c, h4, hn, hc, hi⟩
  · simp only [List.cons.injEq, and_true] at h4
    subst h4
    exact ⟨none, 0, [], rfl, Nat.le_refl _, by unfold maxLen; omega, Rd.nil _ _, by simp⟩
  · simp only [List.cons.injEq, and_true] at h4
    subst h4
    have hex : ∀ i, i < n → ∃ x, W.cell? (a.add i) = some (.int .u8 x) ∧ (Lit.int .u8 x).wf = true := by
      intro i h
      obtain ⟨es, hl, hcell, hok⟩ := hi i h
      unfold Okc at hok
      simp only [Try.underlying5] at hok
      obtain ⟨x, rfl, hx⟩ := hok
      refine ⟨x, ?_, hx⟩
      have := hcell 0 (by rw [byte_cells]; omega)
      simpa [byte_cells] using this
    obtain ⟨l, hl⟩ := bytes_of ((List.range n).map fun i => (W.cell? (a.add i)).getD undef) (fun i hi => by
      have hin : i < n := by simpa using hi
      obtain ⟨x, h1, h2⟩ := hex i hin
      exact ⟨x, by simp [hin, h1], h2⟩)
    have hln : l.length = n := by have := congrArg List.length hl; rw [bv_length] at this; simpa using this.symm
    have hr : Rd W (some a) l := by
      intro j b hj
      have hjl := (List.getElem?_eq_some_iff.1 hj).1
      refine ⟨a, rfl, ?_⟩
      obtain ⟨x, h1, h2⟩ := hex j (by omega)
      have h3 := bv_get l j b hj
      rw [← hl] at h3
      simp [show j < n by omega, h1] at h3
      rw [h1, h3]
    refine ⟨some a, c, l, by rw [hln], by omega, hc, hr, fun j hne hj => ?_⟩
    obtain ⟨ad, e, hlt⟩ := hr.blk_lt (List.length_pos_iff.2 hne)
    obtain ⟨ad', e', rfl⟩ := hj
    injection e with e
    injection e' with e'
    subst e; subst e'
    exact hlt

theorem byte_of {W : World} {v : Value} (h : Okv Try.prog W 5 v) : ∃ b : UInt8, v = .int .u8 (b.toNat : Int) := by
  obtain ⟨hv, ho⟩ := h
  simp only [Try.underlying5] at hv
  have h4 := ho 1
  rw [hv] at h4
  unfold Okc at h4
  simp only [Try.underlying5] at h4
  obtain ⟨x, h5, h6⟩ := h4
  simp only [List.cons.injEq, and_true] at h5
  obtain ⟨l, hl⟩ := bytes_of [v] (fun i hi => by
    obtain rfl : i = 0 := by simp at hi; omega
    exact ⟨x, by rw [h5]; rfl, h6⟩)
  match l, hl with
  | [b], hl =>
    simp only [bv, List.map_cons, List.map_nil, List.cons.injEq, and_true] at hl
    exact ⟨b, hl⟩

/-- Same: are bytes one? -/
theorem same_any (w : World) (A A' : Option Addr) (n n' c c' : Nat) (l l' : List UInt8) (hn : n = l.length) (hn' : n' = l'.length) (hr : Rd w A l) (hr' : Rd w A' l') :
    Calls Try.prog 14 #[.slice A n c, .slice A' n' c'] w fun e w' => e = .returned (.bool (decide (l = l'))) ∧ w' = w := by
  subst hn
  subst hn'
  have h1 := run_str byt w hr c
  have h2 := run_str byt w hr' c'
  have he : (l == l') = decide (l = l') := by rw [Bool.eq_iff_iff]; simp
  go_enter Try.func14, Try.ntmps14
  go_wp2
  go_ret
  exact ⟨rfl, rfl⟩
end Go.Proofs.Yteglpgakikigiaa

/- What the document's own bytes of a field are: contracts of nuncioref02. -/
namespace Go.Proofs.Yteglpgakikigiaa
open Go.RowKit
set_option linter.unusedVariables false
set_option maxRecDepth 20000

/-- The answer is a new slice of these bytes. -/
def Newb (w : World) (l : List UInt8) (e : Ending) (w' : World) : Prop :=
  ∃ v, e = .returned v ∧ Own 5 w' v l ∧ (∀ k, vbl v k → w.heap.size ≤ k) ∧ Chg Non w w'

theorem be_take (n i : Nat) (hi : i < 8) : (be 8 n).take (i + 1) = (be 8 n).take i ++ [UInt8.ofNat (n / 256 ^ (7 - i) % 256)] := by
  have h : i < (be 8 n).length := by rw [be_length]; exact hi
  rw [List.take_succ_eq_append_getElem h]
  congr 2
  simp [be]

/-- One more byte. -/
structure Grow (w : World) (wr : World) (v : Value) (l : List UInt8) : Prop where
  own : Own 5 wr v l
  new : ∀ k, vbl v k → w.heap.size ≤ k
  chg : Chg Non w wr
theorem Grow.more {w wr w1 w2 : World} {v v2 : Value} {l l2 : List UInt8} (h : Grow w wr v l) (h1 : Chg Non wr w1) (ho : Own 5 w2 v2 (l ++ l2)) (hg : w1.grownBy w2 v.ownBlock) (hl : v2.ownBlock = v.ownBlock ∨ v2.ownBlock = some w1.heap.size) : Grow w w2 v2 (l ++ l2) := by
  refine ⟨ho, fun k hk => ?_, ((h.chg.trans h1 (fun _ h => .inl h)).mono (S' := fun k => w.heap.size ≤ k) (fun _ f => f.elim)).grown hg (fun k hk => .inl (h.new k hk)) |>.mono (fun _ h => .inr h)⟩
  rcases hl with h2 | h2
  · exact h.new k (by unfold vbl at hk ⊢; rw [← h2]; exact hk)
  · unfold vbl at hk
    rw [h2] at hk
    injection hk with hk
    have := h.chg.size
    have := h1.size
    omega

theorem rd_one (w : World) (x : Int) (b : UInt8) (hx : x = (b.toNat : Int)) : Rd (w.alloc (.cells #[.int .u8 x] 5)) (some ⟨w.heap.size, 0, none⟩) [b] := by
  subst hx
  exact rd_of_blk (Hb.new w _ _) (fun j c h => by
    match j, h with
    | 0, h => simp at h; subst h; rfl)

theorem rd_one' (w : World) (x : Int) (h0 : 0 ≤ x) (h1 : x < 256) : Rd (w.alloc (.cells #[.int .u8 x] 5)) (some ⟨w.heap.size, 0, none⟩) [UInt8.ofNat x.toNat] :=
  rd_one w x _ (by rw [UInt8.toNat_ofNat']; omega)
theorem Grow.eq {w w1 : World} {v : Value} {l : List UInt8} {b b' : UInt8} (h : Grow w w1 v (l ++ [b])) (e : b = b') : Grow w w1 v (l ++ [b']) := by subst e; exact h

set_option maxHeartbeats 1600000 in
theorem refWord_any (w : World) (n : Nat) (hn : n < 18446744073709551616) : Calls Try.prog 53 #[.int .u64 (n : Int)] w (Newb w (be 8 n)) := by
  go_enter Try.func53, Try.ntmps53
  go_wp2
  go_loopw [3, 4] (fun o i wr => ∃ k : Nat, k ≤ 8 ∧ i = .int .i64 (56 - 8 * (k : Int)) ∧ Grow w wr o ((be 8 n).take k)) (fun _ i _ => (intOf i + 8).toNat)
  case atStart => exact ⟨0, by omega, rfl, Own.nil _ _, fun k hk => (by cases hk), Chg.refl _ _⟩
  case round =>
    obtain ⟨k, hk, rfl, G⟩ := hrel
    obtain ⟨o, rfl⟩ : ∃ o, o = u3 := ⟨_, rfl⟩
    by_cases hlt : k < 8
    · have HS := Lib.hid (be_take n k hlt)
      have hsz : ((be 8 n).take k).length ≤ 8 := by simp; omega
      generalize (be 8 n).take k = l at *
      rcases (by omega : k = 0 ∨ k = 1 ∨ k = 2 ∨ k = 3 ∨ k = 4 ∨ k = 5 ∨ k = 6 ∨ k = 7) with h | h | h | h | h | h | h | h
      · subst h
        go_wp2_with (at_builtin; refine wpList_app byt _ rfl _ _ rfl (v := o) rfl (G.own.chg ((Chg.refl Non wr).alloc _) (fun _ _ f => f)) rfl (l2 := [_]) rfl (rd_one' _ _ (by omega) (by omega)) (by simp; omega) ?_; intro v' w1 hown' hgr hloc)
        go_roundw
        case rel =>
          refine ⟨1, by omega, by go_num, ?_⟩
          rw [HS.out]
          refine (G.more ((Chg.refl Non wr).alloc _) hown' hgr hloc).eq ?_
          congr 1
          try simp only [Nat.reduceSub, Nat.reducePow]
          try omega
        case measure => simp [intOf]
      · subst h
        go_wp2_with (at_builtin; refine wpList_app byt _ rfl _ _ rfl (v := o) rfl (G.own.chg ((Chg.refl Non wr).alloc _) (fun _ _ f => f)) rfl (l2 := [_]) rfl (rd_one' _ _ (by omega) (by omega)) (by simp; omega) ?_; intro v' w1 hown' hgr hloc)
        go_roundw
        case rel =>
          refine ⟨2, by omega, by go_num, ?_⟩
          rw [HS.out]
          refine (G.more ((Chg.refl Non wr).alloc _) hown' hgr hloc).eq ?_
          congr 1
          try simp only [Nat.reduceSub, Nat.reducePow]
          try omega
        case measure => simp [intOf]
      · subst h
        go_wp2_with (at_builtin; refine wpList_app byt _ rfl _ _ rfl (v := o) rfl (G.own.chg ((Chg.refl Non wr).alloc _) (fun _ _ f => f)) rfl (l2 := [_]) rfl (rd_one' _ _ (by omega) (by omega)) (by simp; omega) ?_; intro v' w1 hown' hgr hloc)
        go_roundw
        case rel =>
          refine ⟨3, by omega, by go_num, ?_⟩
          rw [HS.out]
          refine (G.more ((Chg.refl Non wr).alloc _) hown' hgr hloc).eq ?_
          congr 1
          try simp only [Nat.reduceSub, Nat.reducePow]
          try omega
        case measure => simp [intOf]
      · subst h
        go_wp2_with (at_builtin; refine wpList_app byt _ rfl _ _ rfl (v := o) rfl (G.own.chg ((Chg.refl Non wr).alloc _) (fun _ _ f => f)) rfl (l2 := [_]) rfl (rd_one' _ _ (by omega) (by omega)) (by simp; omega) ?_; intro v' w1 hown' hgr hloc)
        go_roundw
        case rel =>
          refine ⟨4, by omega, by go_num, ?_⟩
          rw [HS.out]
          refine (G.more ((Chg.refl Non wr).alloc _) hown' hgr hloc).eq ?_
          congr 1
          try simp only [Nat.reduceSub, Nat.reducePow]
          try omega
        case measure => simp [intOf]
      · subst h
        go_wp2_with (at_builtin; refine wpList_app byt _ rfl _ _ rfl (v := o) rfl (G.own.chg ((Chg.refl Non wr).alloc _) (fun _ _ f => f)) rfl (l2 := [_]) rfl (rd_one' _ _ (by omega) (by omega)) (by simp; omega) ?_; intro v' w1 hown' hgr hloc)
        go_roundw
        case rel =>
          refine ⟨5, by omega, by go_num, ?_⟩
          rw [HS.out]
          refine (G.more ((Chg.refl Non wr).alloc _) hown' hgr hloc).eq ?_
          congr 1
          try simp only [Nat.reduceSub, Nat.reducePow]
          try omega
        case measure => simp [intOf]
      · subst h
        go_wp2_with (at_builtin; refine wpList_app byt _ rfl _ _ rfl (v := o) rfl (G.own.chg ((Chg.refl Non wr).alloc _) (fun _ _ f => f)) rfl (l2 := [_]) rfl (rd_one' _ _ (by omega) (by omega)) (by simp; omega) ?_; intro v' w1 hown' hgr hloc)
        go_roundw
        case rel =>
          refine ⟨6, by omega, by go_num, ?_⟩
          rw [HS.out]
          refine (G.more ((Chg.refl Non wr).alloc _) hown' hgr hloc).eq ?_
          congr 1
          try simp only [Nat.reduceSub, Nat.reducePow]
          try omega
        case measure => simp [intOf]
      · subst h
        go_wp2_with (at_builtin; refine wpList_app byt _ rfl _ _ rfl (v := o) rfl (G.own.chg ((Chg.refl Non wr).alloc _) (fun _ _ f => f)) rfl (l2 := [_]) rfl (rd_one' _ _ (by omega) (by omega)) (by simp; omega) ?_; intro v' w1 hown' hgr hloc)
        go_roundw
        case rel =>
          refine ⟨7, by omega, by go_num, ?_⟩
          rw [HS.out]
          refine (G.more ((Chg.refl Non wr).alloc _) hown' hgr hloc).eq ?_
          congr 1
          try simp only [Nat.reduceSub, Nat.reducePow]
          try omega
        case measure => simp [intOf]
      · subst h
        go_wp2_with (at_builtin; refine wpList_app byt _ rfl _ _ rfl (v := o) rfl (G.own.chg ((Chg.refl Non wr).alloc _) (fun _ _ f => f)) rfl (l2 := [_]) rfl (rd_one' _ _ (by omega) (by omega)) (by simp; omega) ?_; intro v' w1 hown' hgr hloc)
        go_roundw
        case rel =>
          refine ⟨8, by omega, by go_num, ?_⟩
          rw [HS.out]
          refine (G.more ((Chg.refl Non wr).alloc _) hown' hgr hloc).eq ?_
          congr 1
          try simp only [Nat.reduceSub, Nat.reducePow]
          try omega
        case measure => simp [intOf]
    · obtain rfl : k = 8 := by omega
      go_wp2
      go_ret
      have e : (be 8 n).take 8 = be 8 n := List.take_of_length_le (by rw [be_length]; omega)
      rw [e] at G
      exact ⟨_, rfl, G.own, G.new, G.chg⟩

set_option maxHeartbeats 800000 in
theorem refHash_any (w : World) (h : List UInt8) (hl : h.length = 32) : Calls Try.prog 52 #[.agg (bv h).toArray] w (Newb w h) := by
  have hb := Hb.new w 29 (bv h).toArray
  have hc0 := (Chg.refl Non w).alloc (.cells (bv h).toArray 29)
  have HL := Lib.hid hl
  clear hl
  go_enter Try.func52, Try.ntmps52
  go_wp2
  go_loopw [3, 4] (fun o i wr => ∃ k : Nat, k ≤ 32 ∧ i = .int .i64 (k : Int) ∧ Grow w wr o (h.take k) ∧ Hb wr w.heap.size 29 (bv h).toArray ∧ ¬ vbl o w.heap.size) (fun _ i _ => 32 - (intOf i).toNat)
  case atStart => exact ⟨0, by omega, rfl, ⟨Own.nil _ _, fun k hk => (by cases hk), hc0⟩, hb, fun hk => (by cases hk)⟩
  case round =>
    obtain ⟨k, hk, rfl, G, hb', hne⟩ := hrel
    obtain ⟨o, rfl⟩ : ∃ o, o = u3 := ⟨_, rfl⟩
    by_cases hlt : k < 32
    · have hkl : k < h.length := by rw [HL.out]; exact hlt
      have hcell := hb'.cell k
      have hbv : (bv h).toArray[k]? = some (.int .u8 (h[k].toNat : Int)) := by rw [List.getElem?_toArray]; exact bv_get h k _ (List.getElem?_eq_getElem hkl)
      rw [hbv] at hcell
      have HS := Lib.hid (List.take_succ_eq_append_getElem hkl)
      have hsz : (h.take k).length ≤ 32 := by simp; omega
      have hbt := h[k].toNat_lt
      generalize h[k] = b at *
      generalize h.take k = l at *
      clear hbv hkl
      go_wp2_with (at_builtin; refine wpList_app byt _ rfl _ _ rfl (v := o) rfl (G.own.chg ((Chg.refl Non wr).alloc _) (fun _ _ f => f)) rfl (l2 := [b]) rfl (rd_one _ _ _ rfl) (by simp; omega) ?_; intro v' w1 hown' hgr hloc)
      go_roundw
      case rel =>
        refine ⟨k + 1, by omega, by go_num, ?_, ?_, ?_⟩
        · rw [HS.out]; exact G.more ((Chg.refl Non wr).alloc _) hown' hgr hloc
        · exact (hb'.alloc _).grown hgr (fun e => hne e.symm)
        · intro e
          have hlt1 := hb'.lt
          rcases hloc with h1 | h1
          · exact hne (by unfold vbl at e ⊢; rw [← h1]; exact e)
          · unfold vbl at e; rw [h1] at e; injection e with e; simp at e; omega
      case measure => simp [intOf]; omega
    · obtain rfl : k = 32 := by omega
      go_wp2
      go_ret
      have e : h.take 32 = h := List.take_of_length_le (by rw [HL.out]; omega)
      rw [e] at G
      exact ⟨_, rfl, G.own, G.new, G.chg⟩

theorem own_two (w : World) (x y : Int) (hx : 0 ≤ x) (hx2 : x < 256) (hy : 0 ≤ y) (hy2 : y < 256) : Own 5 (w.alloc (.cells #[.int .u8 x, .int .u8 y] 5)) (.slice (some ⟨w.heap.size, 0, none⟩) 2 2) [UInt8.ofNat x.toNat, UInt8.ofNat y.toNat] := by
  refine ⟨by simp [bv], .inr ⟨w.heap.size, 2, _, rfl, Nat.zero_le _, heap_alloc_new w _, by simp, by unfold maxLen; omega, by simp, ?_⟩⟩
  simp only [bv, List.map_cons, List.map_nil, UInt8.toNat_ofNat']
  have e1 : ((x.toNat % 2 ^ 8 : Nat) : Int) = x := by omega
  have e2 : ((y.toNat % 2 ^ 8 : Nat) : Int) = y := by omega
  rw [e1, e2]
  rfl

theorem tx_two (s : ByteArray) (hs : s.size ≤ 4096) : tx s.data.toList = [UInt8.ofNat ((s.size : Int) / 256).toNat, UInt8.ofNat ((s.size : Int) % 256).toNat] ++ s.data.toList := by
  have hl : s.data.toList.length = s.size := by rw [Array.length_toList]; rfl
  unfold tx
  rw [hl]
  congr 1
  have e1 : ((s.size : Int) / 256).toNat = s.size / 256 ^ 1 % 256 := by omega
  have e2 : ((s.size : Int) % 256).toNat = s.size / 256 ^ 0 % 256 := by omega
  rw [e1, e2]
  rfl

theorem refText_any (w : World) (s : ByteArray) (hs : s.size ≤ 4096) : Calls Try.prog 73 #[.string s] w (Newb w (tx s.data.toList)) := by
  rw [tx_two s hs]
  have ho := own_two w ((s.size : Int) / 256) ((s.size : Int) % 256) (by omega) (by omega) (by omega) (by omega)
  go_enter Try.func73, Try.ntmps73
  go_wp2_with (at_builtin; go_loud (refine wpList_appS byt _ rfl _ _ rfl (v := .slice (some ⟨w.heap.size, 0, none⟩) 2 2) rfl ho rfl (by simp; omega) ?_); intro v' w1 hown' hgr hloc)
  go_ret
  refine ⟨v', rfl, hown', ?_, ?_⟩
  · intro k hk
    rcases hloc with h1 | h1
    · unfold vbl at hk; rw [h1] at hk; have hk' : some w.heap.size = some k := hk; injection hk' with e; omega
    · have := h1 k hk; simp at this; omega
  · refine (((Chg.refl Non w).alloc _).grown hgr (fun k hk => ?_))
    have hk' : some w.heap.size = some k := hk
    injection hk' with e
    exact .inr (by omega)

theorem refWordI_any (w : World) (x : Int) (h0 : 0 ≤ x) (h1 : x < 18446744073709551616) : Calls Try.prog 53 #[.int .u64 x] w (Newb w (be 8 x.toNat)) := by
  obtain ⟨n, rfl⟩ : ∃ n : Nat, x = (n : Int) := ⟨x.toNat, by omega⟩
  exact refWord_any w n (by omega)
end Go.Proofs.Yteglpgakikigiaa

/- What was written is read: bytes of fields, one behind the other. Plain mathematics, and the contracts of a reader at a field. -/
namespace Go.Proofs.Yteglpgakikigiaa
open Go.RowKit
set_option linter.unusedVariables false
set_option maxRecDepth 20000

theorem be_succ (s n : Nat) : be (s + 1) n = be s (n / 256) ++ [UInt8.ofNat (n % 256)] := by
  unfold be
  rw [List.range_succ, List.map_append]
  congr 1
  · apply List.map_congr_left
    intro j hj
    have hj' : j < s := by simpa using hj
    have e : s + 1 - 1 - j = (s - 1 - j) + 1 := by omega
    rw [e, Nat.pow_succ, Nat.mul_comm, Nat.div_div_eq_div_mul]
  · simp
theorem ofbe_be (s n : Nat) : ofbe (be s n) = n % 256 ^ s := by
  induction s generalizing n with
  | zero => simp [be, ofbe, Nat.mod_one]
  | succ s ih =>
    rw [be_succ, ofbe_snoc, ih, UInt8.toNat_ofNat']
    have h1 : n % 256 % 2 ^ 8 = n % 256 := by omega
    rw [h1, Nat.pow_succ, Nat.mul_comm (256 ^ s) 256, Nat.mod_mul]
    omega
theorem fWord_app (n : Nat) (hn : n < 18446744073709551616) (r : List UInt8) : fWord (be 8 n ++ r) = some (n, r) := by
  unfold fWord
  have hl := be_length 8 n
  rw [if_neg (by rw [List.length_append, hl]; omega), List.take_left' hl, List.drop_left' hl, ofbe_be, Nat.mod_eq_of_lt (by simpa using hn)]
theorem fNumber_app (x : Int) (h1 : -9223372036854775808 ≤ x) (h2 : x ≤ 9223372036854775807) (r : List UInt8) : fNumber (be 8 (x % 18446744073709551616).toNat ++ r) = some (x, r) := by
  unfold fNumber
  rw [fWord_app _ (by omega)]
  simp only [Option.map_some]
  congr 2
  unfold sgn
  split <;> omega
theorem fHash_app (h : List UInt8) (hl : h.length = 32) (r : List UInt8) : fHash (h ++ r) = some (h, r) := by
  unfold fHash
  rw [if_neg (by rw [List.length_append, hl]; omega), List.take_left' hl, List.drop_left' hl]
theorem fText_app (s : List UInt8) (hs : s.length ≤ 4096) (r : List UInt8) : fText (tx s ++ r) = some (s, r) := by
  unfold fText tx
  have hl := be_length 2 s.length
  have ho : ofbe (be 2 s.length) = s.length := by rw [ofbe_be, Nat.mod_eq_of_lt (by omega)]
  rw [List.append_assoc, if_neg (by rw [List.length_append, hl]; omega), List.take_left' hl, List.drop_left' hl, ho, if_neg (by omega), if_neg (by rw [List.length_append]; omega), List.take_left, List.drop_left]

/-- A field's bytes. -/
def enc (f : Fd) : List UInt8 := if f.k = 1 then be 8 (f.n % 18446744073709551616).toNat else if f.k = 2 then be 8 f.w else if f.k = 3 then f.h else if f.k = 4 then tx f.s.data.toList else []
theorem enc1 {f : Fd} (h : f.k = 1) : enc f = be 8 (f.n % 18446744073709551616).toNat := by unfold enc; rw [if_pos h]
theorem enc2 {f : Fd} (h : f.k = 2) : enc f = be 8 f.w := by unfold enc; rw [if_neg (by omega), if_pos h]
theorem enc3 {f : Fd} (h : f.k = 3) : enc f = f.h := by unfold enc; rw [if_neg (by omega), if_neg (by omega), if_pos h]
theorem enc4 {f : Fd} (h : f.k = 4) : enc f = tx f.s.data.toList := by unfold enc; rw [if_neg (by omega), if_neg (by omega), if_neg (by omega), if_pos h]
theorem enc5 {f : Fd} (h1 : ¬ f.k = 1) (h2 : ¬ f.k = 2) (h3 : ¬ f.k = 3) (h4 : ¬ f.k = 4) : enc f = [] := by unfold enc; rw [if_neg h1, if_neg h2, if_neg h3, if_neg h4]

/-- The first k fields' bytes. -/
def encs (L : Nat → Fd) : Nat → List UInt8
  | 0 => []
  | k + 1 => encs L k ++ enc (L k)
theorem encs_le (L : Nat → Fd) (k m : Nat) (h : k ≤ m) : ∃ t, encs L m = encs L k ++ t := by
  induction m with
  | zero =>
    obtain rfl : k = 0 := by omega
    exact ⟨[], by simp⟩
  | succ m ih =>
    rcases Nat.lt_or_ge m k with h1 | h1
    · obtain rfl : k = m + 1 := by omega
      exact ⟨[], by simp⟩
    · obtain ⟨t, ht⟩ := ih h1
      exact ⟨t ++ enc (L m), by rw [encs, ht, List.append_assoc]⟩
/-- What stands behind the first k. -/
def rests (L : Nat → Fd) (m k : Nat) : List UInt8 := (encs L m).drop (encs L k).length
theorem rests_zero (L : Nat → Fd) (m : Nat) : rests L m 0 = encs L m := rfl
theorem rests_end (L : Nat → Fd) (m : Nat) : rests L m m = [] := by unfold rests; exact List.drop_length
theorem rests_next (L : Nat → Fd) (m k : Nat) (h : k < m) : rests L m k = enc (L k) ++ rests L m (k + 1) := by
  obtain ⟨t, ht⟩ := encs_le L (k + 1) m h
  unfold rests
  rw [ht, List.drop_left]
  conv => lhs; rw [encs, List.append_assoc, List.drop_left]

/-- A reader has read a field. -/
def Got (w : World) (g : Nat) (F : Nat → Prop) (v : Value) (r : List UInt8) (e : Ending) (w' : World) : Prop := e = .returned v ∧ Rdr w' g F (some r) ∧ Chg (Eqg g) w w'
theorem got_number (w : World) (g : Nat) (F : Nat → Prop) (x : Int) (h1 : -9223372036854775808 ≤ x) (h2 : x ≤ 9223372036854775807) (r : List UInt8) (h : Rdr w g F (some (be 8 (x % 18446744073709551616).toNat ++ r))) :
    Calls Try.prog 75 #[.pointer (some ⟨g, 0, none⟩)] w (Got w g F (.int .i64 x) r) := by
  have H := numberR_any w g F _ h
  rw [Option.bind_some, fNumber_app x h1 h2] at H
  exact H
theorem got_word (w : World) (g : Nat) (F : Nat → Prop) (n : Nat) (hn : n < 18446744073709551616) (r : List UInt8) (h : Rdr w g F (some (be 8 n ++ r))) :
    Calls Try.prog 79 #[.pointer (some ⟨g, 0, none⟩)] w (Got w g F (.int .u64 (n : Int)) r) := by
  have H := wordR_any w g F _ h
  rw [Option.bind_some, fWord_app n hn] at H
  exact H
theorem got_hash (w : World) (g : Nat) (F : Nat → Prop) (hs : List UInt8) (hl : hs.length = 32) (r : List UInt8) (h : Rdr w g F (some (hs ++ r))) :
    Calls Try.prog 70 #[.pointer (some ⟨g, 0, none⟩)] w (Got w g F (.agg (bv hs).toArray) r) := by
  have H := hashR_any w g F _ h
  rw [Option.bind_some, fHash_app hs hl] at H
  exact H
theorem got_text (w : World) (g : Nat) (F : Nat → Prop) (s : ByteArray) (hs : s.size ≤ 4096) (r : List UInt8) (h : Rdr w g F (some (tx s.data.toList ++ r))) :
    Calls Try.prog 77 #[.pointer (some ⟨g, 0, none⟩)] w (Got w g F (.string s) r) := by
  have H := textR_any w g F _ h
  have hl : s.data.toList.length = s.size := by rw [Array.length_toList]; rfl
  rw [Option.bind_some, fText_app s.data.toList (by omega)] at H
  exact H

theorem own_zero (w : World) : Own 5 (w.alloc (.cells #[] 5)) (.slice (some ⟨w.heap.size, 0, none⟩) 0 0) [] :=
  ⟨by simp [bv], .inr ⟨w.heap.size, 0, _, rfl, Nat.zero_le _, heap_alloc_new w _, by simp, by unfold maxLen; omega, by simp, rfl⟩⟩
theorem rd_byte (w : World) (b : UInt8) : Rd (w.alloc (.cells #[.int .u8 (b.toNat : Int)] 5)) (some ⟨w.heap.size, 0, none⟩) [b] :=
  rd_of_blk (Hb.new w _ _) (fun j c h => by
    match j, h with
    | 0, h => simp at h; subst h; rfl)

theorem range_of {w : World} {b o : Nat} {l : List UInt8} (h : Rd w (some ⟨b, o, none⟩) l) : w.rangeAt b o (bv l) := by
  intro j u hu
  obtain ⟨x, hx, rfl⟩ := bv_inv l j u hu
  obtain ⟨ad, e, hc⟩ := h j x hx
  injection e with e
  subst e
  have : (⟨b, o, none⟩ : Addr).add j = ⟨b, o + j, none⟩ := by unfold Addr.add; split <;> simp_all
  rw [this] at hc
  exact hc
theorem Chg.range {w w' : World} {b o : Nat} {cs : List Value} {S : Nat → Prop} (k : Chg S w w') (h : w.rangeAt b o cs) (hb : ¬ S b) : w'.rangeAt b o cs := fun j u hu => k.cell (h j u hu) hb
end Go.Proofs.Yteglpgakikigiaa

/- The document's own reader of nuncioref02: contracts. -/
namespace Go.Proofs.Yteglpgakikigiaa
open Go.RowKit
set_option linter.unusedVariables false
set_option linter.unusedSimpArgs false
set_option maxRecDepth 20000

/-- The block g is the document's reader, whose bytes lie in the blocks F: of these bytes, or a broken one. -/
def RdF (w : World) (g : Nat) (F : Nat → Prop) : Option (List UInt8) → Prop
  | some l => ¬ F g ∧ ∃ A c, Hb w g 56 #[.slice A l.length c, .bool false] ∧ Rd w A l ∧ l.length ≤ c ∧ c ≤ maxLen ∧ (l ≠ [] → ∀ j, abl A j → F j)
  | none => ¬ F g ∧ ∃ A n c, Hb w g 56 #[.slice A n c, .bool true]

theorem RdF.lt {w : World} {g : Nat} {F : Nat → Prop} {st : Option (List UInt8)} (h : RdF w g F st) : g < w.heap.size := by
  cases st with
  | none => obtain ⟨_, A, n, c, hb⟩ := h; exact hb.lt
  | some l => obtain ⟨_, A, c, hb, _⟩ := h; exact hb.lt
theorem RdF.nF {w : World} {g : Nat} {F : Nat → Prop} {st : Option (List UInt8)} (h : RdF w g F st) : ¬ F g := by
  cases st <;> exact h.1
theorem Rd.chg' {w w' : World} {A : Option Addr} {l : List UInt8} {S : Nat → Prop} (h : Rd w A l) (k : Chg S w w') (hS : l ≠ [] → ∀ j, abl A j → ¬ S j) : Rd w' A l := by
  by_cases hl : l = []
  · subst hl; exact Rd.nil _ _
  · exact h.chg k (hS hl)
theorem RdF.chg {w w' : World} {g : Nat} {F : Nat → Prop} {st : Option (List UInt8)} {S : Nat → Prop} (h : RdF w g F st) (k : Chg S w w') (hg : ¬ S g) (hF : ∀ j, F j → ¬ S j) : RdF w' g F st := by
  cases st with
  | none =>
    obtain ⟨h1, A, n, c, hb⟩ := h
    exact ⟨h1, A, n, c, hb.chg k hg⟩
  | some l =>
    obtain ⟨h1, A, c, hb, hr, hc, hm, hA⟩ := h
    exact ⟨h1, A, c, hb.chg k hg, hr.chg' k (fun hl j hj => hF j (hA hl j hj)), hc, hm, hA⟩

/-- So many bytes: those that stand next, or noughts. -/
def takeB (st : Option (List UInt8)) (n : Nat) : List UInt8 := match st with | some l => if n ≤ l.length then l.take n else List.replicate n 0 | none => List.replicate n 0
def takeS (st : Option (List UInt8)) (n : Nat) : Option (List UInt8) := match st with | some l => if n ≤ l.length then some (l.drop n) else none | none => none
theorem takeB_length (st : Option (List UInt8)) (n : Nat) : (takeB st n).length = n := by
  unfold takeB
  split
  · split
    · simp; omega
    · simp
  · simp

/-- What take leaves. -/
def Tk (w : World) (g : Nat) (F : Nat → Prop) (st : Option (List UInt8)) (n : Nat) (e : Ending) (w' : World) : Prop :=
  ∃ A c, e = .returned (.slice A n c) ∧ n ≤ c ∧ Rd w' A (takeB st n) ∧ RdF w' g F (takeS st n) ∧ Chg (Eqg g) w w' ∧ (takeB st n ≠ [] → ∀ j, abl A j → F j ∨ w.heap.size ≤ j)

theorem rd_zeros (w : World) (n : Nat) : Rd (w.alloc (.cells (List.replicate n (Value.int .u8 0)).toArray 5)) (some ⟨w.heap.size, 0, none⟩) (List.replicate n 0) :=
  rd_of_blk (Hb.new w _ _) (fun j b hj => by
    rw [List.getElem?_replicate] at hj
    split at hj
    · injection hj with hj
      subst hj
      rename_i h
      simp [h]
    · cases hj)

theorem take_no (w : World) (g : Nat) (F : Nat → Prop) (n : Nat) (A : Option Addr) (m c : Nat) (bad : Bool) (hF : ¬ F g) (hb : Hb w g 56 #[.slice A m c, .bool bad]) (hn : n ≤ 1000000) (hm : bad = false → m < n) :
    Calls Try.prog 68 #[.pointer (some ⟨g, 0, none⟩), .int .i64 (n : Int)] w fun e w' => e = .returned (.slice (some ⟨w.heap.size, 0, none⟩) n n) ∧ w' = (w.setCell ⟨g, 1, none⟩ (.bool true)).alloc (.cells (List.replicate n (Value.int .u8 0)).toArray 5) := by
  have c0 : w.cell? ⟨g, 0, none⟩ = some (.slice A m c) := hb.cell 0
  have c1 : w.cell? ⟨g, 1, none⟩ = some (.bool bad) := hb.cell 1
  have f1 : w.frozen? ⟨g, 1, none⟩ = false := hb.frozen 1
  have HM := make_u8 n hn
  cases bad with
  | true =>
    clear hm
    go_enter Try.func68, Try.ntmps68
    go_wp2
    go_ret
    exact ⟨by simp [World.setCell], rfl⟩
  | false =>
    have hlt := hm rfl
    clear hm
    go_enter Try.func68, Try.ntmps68
    go_wp2
    go_ret
    exact ⟨by simp [World.setCell], rfl⟩

theorem take_yes (w : World) (g : Nat) (F : Nat → Prop) (l : List UInt8) (n : Nat) (h : RdF w g F (some l)) (hn : n ≤ l.length) :
    Calls Try.prog 68 #[.pointer (some ⟨g, 0, none⟩), .int .i64 (n : Int)] w (Tk w g F (some l) n) := by
  have htb : takeB (some l) n = l.take n := by unfold takeB; simp only; rw [if_pos hn]
  have hts : takeS (some l) n = some (l.drop n) := by unfold takeS; simp only; rw [if_pos hn]
  have HTB := Lib.hid htb
  have HTS := Lib.hid hts
  clear htb hts
  obtain ⟨h1, A, c, hb, hr, hc, hm, hA⟩ := h
  have c0 : w.cell? ⟨g, 0, none⟩ = some (.slice A l.length c) := hb.cell 0
  have c1 : w.cell? ⟨g, 1, none⟩ = some (.bool false) := hb.cell 1
  have f0 : w.frozen? ⟨g, 0, none⟩ = false := hb.frozen 0
  have hm' := hm
  unfold maxLen at hm
  have hl : (l.drop n).length = l.length - n := List.length_drop
  have hS : l ≠ [] → ∀ j, abl A j → ¬ Eqg g j := fun hne j hj e => h1 (by unfold Eqg at e; rw [← e]; exact hA hne j hj)
  have ht : l.take n ≠ [] → l ≠ [] := by rintro h2 rfl; simp at h2
  have hd : l.drop n ≠ [] → l ≠ [] := by rintro h2 rfl; simp at h2
  have TT := Lib.hid ht
  have TD := Lib.hid hd
  have TS := Lib.hid hS
  have TL := Lib.hid hl
  have TA := Lib.hid hA
  clear ht hd hS hl hA
  go_enter Try.func68, Try.ntmps68
  go_wp2
  · obtain rfl : c = n := by assumption
    go_ret
    unfold Tk
    rw [HTB.out, HTS.out]
    refine ⟨A, c, rfl, by omega, (hr.chg' ((Chg.refl (Eqg g) w).setCell (p := ⟨g, 0, none⟩) (.inl rfl) _) TS.out).take c, ⟨h1, A, 0, ?_, ?_, ?_, by unfold maxLen; omega, fun h2 => TA.out (TD.out h2)⟩, (Chg.refl (Eqg g) w).setCell (p := ⟨g, 0, none⟩) (.inl rfl) _, fun h2 j hj => .inl (TA.out (TT.out h2) j hj)⟩
    · rw [TL.out]; exact hb.set 0 _
    · rw [List.drop_of_length_le (by omega)]; exact Rd.nil _ _
    · rw [TL.out]; omega
  · go_ret
    unfold Tk
    rw [HTB.out, HTS.out]
    refine ⟨A, c, rfl, by omega, (hr.chg' ((Chg.refl (Eqg g) w).setCell (p := ⟨g, 0, none⟩) (.inl rfl) _) TS.out).take n, ⟨h1, A.map (·.add n), c - n, ?_, ?_, ?_, by omega, ?_⟩, (Chg.refl (Eqg g) w).setCell (p := ⟨g, 0, none⟩) (.inl rfl) _, fun h2 j hj => .inl (TA.out (TT.out h2) j hj)⟩
    · rw [TL.out]; exact hb.set 0 _
    · exact (hr.chg' ((Chg.refl (Eqg g) w).setCell (p := ⟨g, 0, none⟩) (.inl rfl) _) TS.out).drop n
    · rw [TL.out]; omega
    · rintro h2 j ⟨ad, h3, rfl⟩
      obtain ⟨ad', rfl, rfl⟩ := Option.map_eq_some_iff.1 h3
      rw [block_add]
      exact TA.out (TD.out h2) _ ⟨ad', rfl, rfl⟩

theorem take_any (w : World) (g : Nat) (F : Nat → Prop) (st : Option (List UInt8)) (n : Nat) (h : RdF w g F st) (hFs : ∀ j, F j → j < w.heap.size) (hn : n ≤ 1000000) :
    Calls Try.prog 68 #[.pointer (some ⟨g, 0, none⟩), .int .i64 (n : Int)] w (Tk w g F st n) := by
  have fin : ∀ (A : Option Addr) (m c : Nat) (bad : Bool), Hb w g 56 #[.slice A m c, .bool bad] → takeB st n = List.replicate n 0 → takeS st n = none →
      Tk w g F st n (.returned (.slice (some ⟨w.heap.size, 0, none⟩) n n)) ((w.setCell ⟨g, 1, none⟩ (.bool true)).alloc (.cells (List.replicate n (Value.int .u8 0)).toArray 5)) := by
    intro A m c bad hb e1 e2
    unfold Tk
    rw [e1, e2]
    have hz := rd_zeros (w.setCell ⟨g, 1, none⟩ (.bool true)) n
    rw [show (w.setCell ⟨g, 1, none⟩ (.bool true)).heap.size = w.heap.size by simp [World.setCell]] at hz
    refine ⟨_, n, rfl, Nat.le_refl _, hz, ⟨h.nF, A, m, c, (hb.set 1 (.bool true)).alloc _⟩, ((Chg.refl (Eqg g) w).setCell (p := ⟨g, 1, none⟩) (.inl rfl) _).alloc _, ?_⟩
    rintro _ j ⟨ad, h3, rfl⟩
    injection h3 with h3
    subst h3
    exact .inr (Nat.le_refl _)
  cases st with
  | none =>
    obtain ⟨h1, A, m, c, hb⟩ := h
    exact (take_no w g F n A m c true h1 hb hn (by simp)).mono fun e w' ⟨he, hw⟩ => by subst he; subst hw; exact fin A m c true hb rfl rfl
  | some l =>
    by_cases hl : n ≤ l.length
    · exact take_yes w g F l n h hl
    · obtain ⟨h1, A, c, hb, _⟩ := h
      exact (take_no w g F n A l.length c false h1 hb hn (fun _ => by omega)).mono fun e w' ⟨he, hw⟩ => by subst he; subst hw; exact fin A _ c false hb (by unfold takeB; simp only; rw [if_neg hl]) (by unfold takeS; simp only; rw [if_neg hl])
end Go.Proofs.Yteglpgakikigiaa
