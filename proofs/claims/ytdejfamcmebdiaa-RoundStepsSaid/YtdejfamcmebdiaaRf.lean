/- Package round: a state, an input, a list of inputs as an argument; two states held against each other by ==. -/
import Derived.Test.YtdejfamcmebdiaaRe
namespace Go.Proofs.Ytdejfamcmebdiaa
open Go.RowKit mach
set_option linter.unusedVariables false
set_option linter.unusedSimpArgs false
set_option maxRecDepth 20000

theorem st_cells : Try.prog.cellsOf 25 = 102 := by kernel_rfl
theorem in_cells : Try.prog.cellsOf 27 = 68 := by kernel_rfl
theorem bool_cells : Try.prog.cellsOf 4 = 1 := by kernel_rfl
theorem state_of {w : World} {n : Nat} {cs : List Value} (h : Okc Try.prog w (n + 3) 25 cs) : ∃ s : State, cs = s.cells ∧ s.Ok := by
  unfold Okc at h
  simp only [Try.underlying25] at h
  obtain ⟨hl, hf⟩ := h
  rw [st_cells] at hl
  have h0 : Okc Try.prog w (n + 2) 3 ((cs.drop 0).take (Try.prog.cellsOf 3)) := hf 0 _ rfl
  have h1 : Okc Try.prog w (n + 2) 3 ((cs.drop 1).take (Try.prog.cellsOf 3)) := hf 1 _ rfl
  have h2 : Okc Try.prog w (n + 2) 23 ((cs.drop 2).take (Try.prog.cellsOf 23)) := hf 2 _ rfl
  have h3 : Okc Try.prog w (n + 2) 3 ((cs.drop 34).take (Try.prog.cellsOf 3)) := hf 3 _ rfl
  have h4 : Okc Try.prog w (n + 2) 23 ((cs.drop 35).take (Try.prog.cellsOf 23)) := hf 4 _ rfl
  have h5 : Okc Try.prog w (n + 2) 3 ((cs.drop 67).take (Try.prog.cellsOf 3)) := hf 5 _ rfl
  have h6 : Okc Try.prog w (n + 2) 23 ((cs.drop 68).take (Try.prog.cellsOf 23)) := hf 6 _ rfl
  have h7 : Okc Try.prog w (n + 2) 3 ((cs.drop 100).take (Try.prog.cellsOf 3)) := hf 7 _ rfl
  have h8 : Okc Try.prog w (n + 2) 3 ((cs.drop 101).take (Try.prog.cellsOf 3)) := hf 8 _ rfl
  rw [int_cells] at h0 h1 h3 h5 h7 h8
  rw [hash_cells] at h2 h4 h6
  obtain ⟨x0, e0, _⟩ := okc_i64 Try.underlying3 h0
  obtain ⟨x1, e1, _⟩ := okc_i64 Try.underlying3 h1
  obtain ⟨x2, e2, l2⟩ := okc_hash h2
  obtain ⟨x3, e3, _⟩ := okc_i64 Try.underlying3 h3
  obtain ⟨x4, e4, l4⟩ := okc_hash h4
  obtain ⟨x5, e5, _⟩ := okc_i64 Try.underlying3 h5
  obtain ⟨x6, e6, l6⟩ := okc_hash h6
  obtain ⟨x7, e7, _⟩ := okc_i64 Try.underlying3 h7
  obtain ⟨x8, e8, _⟩ := okc_i64 Try.underlying3 h8
  refine ⟨⟨x0, x1, x2, x3, x4, x5, x6, x7, x8⟩, ?_, ⟨l2, l4, l6⟩⟩
  have c0 := cut cs 0 1 1 rfl
  have c1 := cut cs 1 1 2 rfl
  have c2 := cut cs 2 32 34 rfl
  have c3 := cut cs 34 1 35 rfl
  have c4 := cut cs 35 32 67 rfl
  have c5 := cut cs 67 1 68 rfl
  have c6 := cut cs 68 32 100 rfl
  have c7 := cut cs 100 1 101 rfl
  have c8 := cut cs 101 1 102 rfl
  rw [e8, List.drop_of_length_le (i := 102) (by omega)] at c8
  rw [e7, c8] at c7
  rw [e6, c7] at c6
  rw [e5, c6] at c5
  rw [e4, c5] at c4
  rw [e3, c4] at c3
  rw [e2, c3] at c2
  rw [e1, c2] at c1
  rw [e0, c1] at c0
  exact c0
theorem in_of {w : World} {n : Nat} {cs : List Value} (h : Okc Try.prog w (n + 3) 27 cs) : ∃ i : In, cs = i.cells ∧ i.Ok := by
  unfold Okc at h
  simp only [Try.underlying27] at h
  obtain ⟨hl, hf⟩ := h
  rw [in_cells] at hl
  have h0 : Okc Try.prog w (n + 2) 3 ((cs.drop 0).take (Try.prog.cellsOf 3)) := hf 0 _ rfl
  have h1 : Okc Try.prog w (n + 2) 3 ((cs.drop 1).take (Try.prog.cellsOf 3)) := hf 1 _ rfl
  have h2 : Okc Try.prog w (n + 2) 23 ((cs.drop 2).take (Try.prog.cellsOf 23)) := hf 2 _ rfl
  have h3 : Okc Try.prog w (n + 2) 3 ((cs.drop 34).take (Try.prog.cellsOf 3)) := hf 3 _ rfl
  have h4 : Okc Try.prog w (n + 2) 4 ((cs.drop 35).take (Try.prog.cellsOf 4)) := hf 4 _ rfl
  have h5 : Okc Try.prog w (n + 2) 23 ((cs.drop 36).take (Try.prog.cellsOf 23)) := hf 5 _ rfl
  rw [int_cells] at h0 h1 h3
  rw [hash_cells] at h2 h5
  rw [bool_cells] at h4
  obtain ⟨x0, e0, _⟩ := okc_i64 Try.underlying3 h0
  obtain ⟨x1, e1, b1, b2⟩ := okc_i64 Try.underlying3 h1
  obtain ⟨x2, e2, l2⟩ := okc_hash h2
  obtain ⟨x3, e3, _⟩ := okc_i64 Try.underlying3 h3
  obtain ⟨x4, e4⟩ := okc_bool h4
  obtain ⟨x5, e5, l5⟩ := okc_hash h5
  refine ⟨⟨x0, x1, x2, x3, x4, x5⟩, ?_, ⟨l2, l5, b1, b2⟩⟩
  have c0 := cut cs 0 1 1 rfl
  have c1 := cut cs 1 1 2 rfl
  have c2 := cut cs 2 32 34 rfl
  have c3 := cut cs 34 1 35 rfl
  have c4 := cut cs 35 1 36 rfl
  have c5 := cut cs 36 32 68 rfl
  rw [e5, List.drop_of_length_le (i := 68) (by omega), List.append_nil] at c5
  rw [e4, c5] at c4
  rw [e3, c4] at c3
  rw [e2, c3] at c2
  rw [e1, c2] at c1
  rw [e0, c1] at c0
  exact c0
theorem state_arg {w : World} {v : Value} (h : Okv Try.prog w 25 v) : ∃ s : State, v = .agg s.cells.toArray ∧ s.Ok := by
  obtain ⟨cs, rfl, ho⟩ := agg_arg Try.underlying25 h
  obtain ⟨s, e, ok⟩ := state_of (n := 0) (ho 3)
  exact ⟨s, by rw [← e], ok⟩
theorem in_arg {w : World} {v : Value} (h : Okv Try.prog w 27 v) : ∃ i : In, v = .agg i.cells.toArray ∧ i.Ok := by
  obtain ⟨cs, rfl, ho⟩ := agg_arg Try.underlying27 h
  obtain ⟨i, e, ok⟩ := in_of (n := 0) (ho 3)
  exact ⟨i, by rw [← e], ok⟩
theorem ins_arg {w : World} {v : Value} (h : Okv Try.prog w 42 v) : ∃ (A : Option Addr) (c : Nat) (l : List In), v = .slice A l.length c ∧ l.length ≤ maxLen ∧ LstM w A l In.cells 68 ∧ ∀ x ∈ l, x.Ok := by
  obtain ⟨hv, ho⟩ := h
  simp only [Try.underlying42] at hv
  obtain ⟨A, c, l, e, hl, hM, hok⟩ := slice_of Try.underlying42 in_cells (by omega) (fun es he => in_of (n := 0) he) (ho 4)
  refine ⟨A, c, l, ?_, hl, hM, hok⟩
  have h1 : v.cells = #[Value.slice A l.length c] := Array.ext' e
  rw [hv] at h1
  have h2 := congrArg (fun a : Array Value => a.toList) h1
  simpa using h2

/-- A row of a row. -/
theorem partR {w : World} {t : TypeId} {d : TypeDesc} (hu : Try.prog.underlying t = some d) (hd : d.isRow = true) {n : Nat} (hi : (Try.prog.info? t).map (·.size) = some n) {L cs : List Value} {off : Nat} (h : (L.drop off).take n = cs) : (part t L.toArray off).run Try.prog w = .ok (.agg cs.toArray) w := by
  have hagg : (isAgg t).run Try.prog w = .ok true w := by
    unfold isAgg
    rw [Sem.run_bind, run_underlying hu w]
    cases d <;> simp_all
  cases hq : Try.prog.info? t with
  | none => simp [hq] at hi
  | some i =>
    have hs : i.size = n := by simpa [hq] using hi
    have he : L.toArray.extract off (off + n) = cs.toArray := by
      rw [← h]
      simp [List.extract_toArray, List.take_drop, List.extract]
    simp only [part, Sem.run_bind, hagg, Result.andThen_ok, if_true]
    simp [sizeOf, typeInfo, hq, hs, he, Sem.run_bind]
    exact h
theorem mach.State.drops (s : State) (ok : s.Ok) : (s.cells.drop 2).take 32 = bv s.locked ∧ s.cells[34]? = some (.int .i64 s.lockedR) ∧ (s.cells.drop 35).take 32 = bv s.valid ∧ s.cells[67]? = some (.int .i64 s.validR) ∧ (s.cells.drop 68).take 32 = bv s.block ∧ s.cells[100]? = some (.int .i64 s.waits) ∧ s.cells[101]? = some (.int .i64 s.waited) := by
  have h1 : (bv s.locked).length = 32 := by rw [bv_length, ok.l]
  have h2 : (bv s.valid).length = 32 := by rw [bv_length, ok.v]
  have h3 : (bv s.block).length = 32 := by rw [bv_length, ok.b]
  have e2 : s.cells.drop 2 = bv s.locked ++ (.int .i64 s.lockedR :: (bv s.valid ++ (.int .i64 s.validR :: (bv s.block ++ [.int .i64 s.waits, .int .i64 s.waited])))) := rfl
  have e34 : s.cells.drop 34 = .int .i64 s.lockedR :: (bv s.valid ++ (.int .i64 s.validR :: (bv s.block ++ [.int .i64 s.waits, .int .i64 s.waited]))) := by rw [show 34 = 2 + 32 by omega, ← List.drop_drop, e2, List.drop_left' h1]
  have e35 : s.cells.drop 35 = bv s.valid ++ (.int .i64 s.validR :: (bv s.block ++ [.int .i64 s.waits, .int .i64 s.waited])) := by rw [show 35 = 34 + 1 by omega, ← List.drop_drop, e34]; rfl
  have e67 : s.cells.drop 67 = .int .i64 s.validR :: (bv s.block ++ [.int .i64 s.waits, .int .i64 s.waited]) := by rw [show 67 = 35 + 32 by omega, ← List.drop_drop, e35, List.drop_left' h2]
  have e68 : s.cells.drop 68 = bv s.block ++ [.int .i64 s.waits, .int .i64 s.waited] := by rw [show 68 = 67 + 1 by omega, ← List.drop_drop, e67]; rfl
  have e100 : s.cells.drop 100 = [.int .i64 s.waits, .int .i64 s.waited] := by rw [show 100 = 68 + 32 by omega, ← List.drop_drop, e68, List.drop_left' h3]
  have g : ∀ (k : Nat) (v : Value) (q : List Value), s.cells.drop k = v :: q → s.cells[k]? = some v := fun k v q h => by
    have := congrArg (fun l : List Value => l[0]?) h
    simpa using this
  have e101 : s.cells.drop 101 = [.int .i64 s.waited] := by rw [show 101 = 100 + 1 by omega, ← List.drop_drop, e100]; rfl
  exact ⟨by rw [e2]; exact List.take_left' h1, g _ _ _ e34, by rw [e35]; exact List.take_left' h2, g _ _ _ e67, by rw [e68]; exact List.take_left' h3, g _ _ _ e100, g _ _ _ e101⟩
set_option maxHeartbeats 3200000 in
theorem eqState (w : World) (d : Nat) {t : TypeId} (s : State) (ok : s.Ok) (fs : Array Field) (hf : Try.prog.fieldsOf t = fs) (hfs : fs = Try.prog.fieldsOf 25)
    (hr : ∀ (w : World) (xs ys : Array Value), (Op.equalIn (d + 3) t (.agg xs) (.agg ys)).run Try.prog w = (Op.eqFields (d + 2) xs ys fs.toList).run Try.prog w) : (Op.equalIn (d + 3) t (.agg s.cells.toArray) (.agg s.cells.toArray)).run Try.prog w = .ok true w := by
  obtain ⟨g2, g34, g35, g67, g68, g100, g101⟩ := s.drops ok
  have g0 : s.cells[0]? = some (.int .i64 s.round) := rfl
  have g1 : s.cells[1]? = some (.int .i64 s.step) := rfl
  rw [hr, hfs]
  unfold Program.fieldsOf
  rw [Try.underlying25]
  refine (eqF (by decide) (part1 (by kernel_rfl) g0) (part1 (by kernel_rfl) g0) (eqInt (d + 1) _ _ Try.underlying3) (eqF (by decide) (part1 (by kernel_rfl) g1) (part1 (by kernel_rfl) g1) (eqInt (d + 1) _ _ Try.underlying3)
    (eqF (by decide) (partR Try.underlying23 rfl hash_row g2) (partR Try.underlying23 rfl hash_row g2) (eqHash w d ok.l ok.l) (eqF (by decide) (part1 (by kernel_rfl) g34) (part1 (by kernel_rfl) g34) (eqInt (d + 1) _ _ Try.underlying3)
    (eqF (by decide) (partR Try.underlying23 rfl hash_row g35) (partR Try.underlying23 rfl hash_row g35) (eqHash w d ok.v ok.v) (eqF (by decide) (part1 (by kernel_rfl) g67) (part1 (by kernel_rfl) g67) (eqInt (d + 1) _ _ Try.underlying3)
    (eqF (by decide) (partR Try.underlying23 rfl hash_row g68) (partR Try.underlying23 rfl hash_row g68) (eqHash w d ok.b ok.b) (eqF (by decide) (part1 (by kernel_rfl) g100) (part1 (by kernel_rfl) g100) (eqInt (d + 1) _ _ Try.underlying3)
    (eqF (by decide) (part1 (by kernel_rfl) g101) (part1 (by kernel_rfl) g101) (eqInt (d + 1) _ _ Try.underlying3) eqF0))))))))).trans ?_
  congr 1
  simp
theorem run_eq_S (w : World) (s : State) (ok : s.Ok) : (Op.equalIn 10000 25 (.agg s.cells.toArray) (.agg s.cells.toArray)).run Try.prog w = .ok true w :=
  eqState w 9997 s ok _ rfl rfl (fun w xs ys => run_equalIn_struct w 9999 25 xs ys (by kernel_rfl) (by kernel_rfl))
theorem guard_S : Try.prog.eqGuardType Try.prog.depth 25 = false := by kernel_rfl
end Go.Proofs.Ytdejfamcmebdiaa
