/- Of the program at this commit: the law FormSigns answers true for all pairs of votes (the bytes that are signed of two right votes are one just if the votes are one but for key and signature); no condition. -/
import Derived.Test.YtjcfdclgddjaoaaRows
import Derived.WalkKit
import Derived.ProofKit
import Derived.Test.YtjcfdclgddjaoaaFa6
import Derived.Test.YtjcfdclgddjaoaaFxv
import Derived.Test.YtjcfdclgddjaoaaFi
namespace Go.Proofs.Ytjcfdclgddjaoaa.formSigns
open Go.ChangeShapes Go.WideShapes Go.ChangeAt Go.RowKit
set_option linter.unusedVariables false

theorem bare_iff {x y : Vt} (ox : x.Ok) (oy : y.Ok) (hx : x.right = true) (hy : y.right = true) : x.bare.enc = y.bare.enc ↔ ({ x with key := y.key, r := y.r, s := y.s } : Vt) = y := by
  constructor
  · intro h
    have h1 := dVote_app (x := x.bare) (Vt.bare_ok ox) hx []
    have h2 := dVote_app (x := y.bare) (Vt.bare_ok oy) hy []
    rw [h, h2] at h1
    simp only [Option.some.injEq, Prod.mk.injEq] at h1
    have h3 := h1.1
    cases x
    cases y
    simp only [Vt.bare, Vt.mk.injEq] at h3 ⊢
    simp [h3]
  · intro h
    rw [← h]
    rfl

set_option maxRecDepth 100000 in
set_option maxHeartbeats 1600000 in
theorem walk (W : World) (v0 v1 : Value) (h0 : Okv Try.prog W 50 v0) (h1 : Okv Try.prog W 50 v1) :
    Calls Try.prog 8 #[v0, v1] W fun e W' => e = .returned (.bool true) ∧ Below W.heap.size W W' := by
  obtain ⟨x, rfl, ox⟩ := vote_arg h0
  obtain ⟨y, rfl, oy⟩ := vote_arg h1
  clear h0 h1
  have hrow : ∀ z : Vt, z.Ok → (Try.prog.info? 50).map (·.size) = some z.cells.length := fun z oz => by rw [z.cells_len oz]; kernel_rfl
  have HRX := hrow x ox
  have HRY := hrow y oy
  have HRO := Lib.hid hrow
  clear hrow
  go_enter Try.func8, Try.ntmps8
  go_wp2_with (first | (with_reducible refine wpList_box_row rfl _ _ rfl (cs := x.cells.toArray) rfl ?_; intro w1 hw1) | (with_reducible refine wpList_box_row rfl _ _ rfl (cs := y.cells.toArray) rfl ?_; intro w2 hw2; have hX2 : Hb w2 W.heap.size 50 x.cells.toArray := (by rw [hw2.out, hw1.out]; exact (Hb.new W _ _).alloc _); have hY2 : Hb w2 w1.heap.size 50 y.cells.toArray := (by rw [hw2.out]; exact Hb.new w1 _ _); have rX2 := hX2.range0) | (with_reducible refine wpList_load_mid rfl 50 _ rfl W.heap.size 0 rfl x.cells _ rX2 Try.underlying50 rfl HRX ?_))
  have hs1 : w1.heap.size = W.heap.size + 1 := by rw [hw1.out]; simp
  have hC2 : Chg Non W w2 := by rw [hw2.out, hw1.out]; exact ((Chg.refl Non W).alloc _).alloc _
  generalize w1.heap.size = n2 at *
  clear hw1 hw2 rX2
  have hs1' := Lib.hid hs1
  have HLT := Lib.hid hX2.lt
  clear hs1
  refine (SignBytes_any w2 x ox).mono ?_
  rintro e w3 ⟨k3, h3⟩
  have hX3 := hX2.chg k3 (fun f => f)
  have hY3 := hY2.chg k3 (fun f => f)
  have hC3 := hC2.trans k3 (fun _ f => f.elim)
  have rY3 := hY3.range0
  clear hX2 hY2 hC2
  obtain ⟨okx, hokx⟩ : ∃ b, x.right = b := ⟨_, rfl⟩
  obtain ⟨oky, hoky⟩ : ∃ b, y.right = b := ⟨_, rfl⟩
  have HKX := Lib.hid hokx
  have HKY := Lib.hid hoky
  rw [hokx] at h3
  clear hokx hoky
  obtain ⟨va, ka, rfl, ha⟩ : ∃ v k, e = .returned (.tuple #[v, .int .i64 k]) ∧ (okx = true ∧ k = 0 ∧ Own 5 w3 v x.bare.enc ∧ (∀ j, vbl v j → W.heap.size < j) ∨ okx = false ∧ k = 61 ∧ v = .slice none 0 0) := by
    cases okx with
    | true => obtain ⟨v, rfl, ho, hl⟩ := h3; exact ⟨v, 0, rfl, .inl ⟨rfl, rfl, ho, fun j hj => Nat.lt_of_lt_of_le HLT.out (hl j hj)⟩⟩
    | false => exact ⟨_, 61, h3, .inr ⟨rfl, rfl, rfl⟩⟩
  go_wp2_with (with_reducible refine wpList_load_mid rfl 50 _ rfl n2 0 rfl y.cells _ rY3 Try.underlying50 rfl HRY ?_)
  refine (SignBytes_any w3 y oy).mono ?_
  rintro e w4 ⟨k4, h4⟩
  have hX4 := hX3.chg k4 (fun f => f)
  have hY4 := hY3.chg k4 (fun f => f)
  have hC4 := hC3.trans k4 (fun _ f => f.elim)
  clear hX3 hY3 hC3 rY3 h3
  rw [HKY.out] at h4
  obtain ⟨vb, kb, rfl, hb⟩ : ∃ v k, e = .returned (.tuple #[v, .int .i64 k]) ∧ (oky = true ∧ k = 0 ∧ Own 5 w4 v y.bare.enc ∧ (∀ j, vbl v j → W.heap.size < j) ∨ oky = false ∧ k = 61 ∧ v = .slice none 0 0) := by
    cases oky with
    | true => obtain ⟨v, rfl, ho, hl⟩ := h4; exact ⟨v, 0, rfl, .inl ⟨rfl, rfl, ho, fun j hj => Nat.lt_of_lt_of_le (Nat.lt_of_lt_of_le HLT.out k3.size) (hl j hj)⟩⟩
    | false => exact ⟨_, 61, h4, .inr ⟨rfl, rfl, rfl⟩⟩
  clear h4
  rcases ha with ⟨rfl, rfl, ha, hla⟩ | ⟨rfl, rfl, rfl⟩
  · obtain ⟨A, c, rfl, hc, hm, hr, hab, _⟩ := ha.slice
    have hr4 := hr.chg k4 (fun _ _ f => f)
    clear ha hr
    rcases hb with ⟨rfl, rfl, hb, hlb⟩ | ⟨rfl, rfl, rfl⟩
    · obtain ⟨B, d, rfl, hd, hm2, hq4, hbb, _⟩ := hb.slice
      have HA := Lib.hid (fun j (hj : abl A j) => hla j ((hab j).1 hj))
      have HB := Lib.hid (fun j (hj : abl B j) => hlb j ((hbb j).1 hj))
      have hbi := bare_iff ox oy HKX.out HKY.out
      have oz : ({ x with key := y.key, r := y.r, s := y.s } : Vt).Ok := ⟨ox.chain, ox.height, ox.round, ox.type, ox.block, oy.key, oy.r, oy.s⟩
      have hz : vrow x (.int .u64 (y.key : Int)) (.int .u64 (y.r : Int)) (.int .u64 (y.s : Int)) = ({ x with key := y.key, r := y.r, s := y.s } : Vt).cells := by rw [vrow_cells]; rfl
      clear hb k3 k4 hla hlb hab hbb
      rw [vrow_cells] at hX4 hY4
      obtain ⟨cX, fX, hX5⟩ := vrow_key ox hX4 (.int .u64 (y.key : Int))
      obtain ⟨cY, _, _⟩ := vrow_key oy hY4 (.int .u64 0)
      have hne : n2 ≠ W.heap.size := by have := hs1'.out; omega
      have hY5 := hY4.far (p := ⟨W.heap.size, 36, none⟩) hne (.int .u64 (y.key : Int))
      obtain ⟨thX, _, hX6⟩ := vrow_sig ox hX5 (.int .u64 (y.r : Int)) (.int .u64 (y.s : Int))
      obtain ⟨_, rgY, _⟩ := vrow_sig oy hY5 (.int .u64 0) (.int .u64 0)
      have hY6 := hY5.farCells (tb := W.heap.size) hne [.int .u64 (y.r : Int), .int .u64 (y.s : Int)] 37
      rw [hz] at hX6
      rw [← vrow_cells] at hY6
      have K46 := Chg.setCells (S := fun j => j = W.heap.size) rfl [Value.int .u64 (y.r : Int), .int .u64 (y.s : Int)] _ 37 ((Chg.refl (fun j => j = W.heap.size) w4).setCell (p := ⟨W.heap.size, 36, none⟩) (.inl rfl) (.int .u64 (y.key : Int)))
      have hr6 := hr4.chg K46 (fun j hj e => by have := HA.out j hj; omega)
      have hq6 := hq4.chg K46 (fun j hj e => by have := HB.out j hj; omega)
      have hC6 := hC4.trans K46 (fun j hj => .inr (by omega))
      have hsr : (Try.prog.info? 48).map (·.size) = some [Value.int .u64 (y.r : Int), .int .u64 (y.s : Int)].length := sig_row
      have hsa : (Try.prog.info? 48).map (·.size) = some [Value.int .u64 (y.r : Int), .int .u64 (y.s : Int)].toArray.size := sig_row
      have thX' : (w4.setCell ⟨W.heap.size, 36, none⟩ (.int .u64 (y.key : Int))).there W.heap.size 37 [Value.int .u64 (y.r : Int), .int .u64 (y.s : Int)].toArray.size := thX
      have hso : [Value.int .u64 (y.r : Int), .int .u64 (y.s : Int)].toArray.all (·.oneCell') = true := by simp [Value.oneCell']
      have HRZ := HRO.out _ oz
      have EQ := fun w7 => run_eq_vote w7 _ y oz oy
      generalize ({ x with key := y.key, r := y.r, s := y.s } : Vt) = z at *
      have hdec : decide (z = y) = decide (x.bare.enc = y.bare.enc) := by rw [decide_eq_decide]; exact hbi.symm
      rw [hdec] at EQ
      have EQ' := Lib.hid EQ
      clear hdec EQ hbi hz HA HB thX hX5 hY5 hX4 hY4
      generalize hwa : (w4.setCell ⟨W.heap.size, 36, none⟩ (.int .u64 (y.key : Int))).setCells W.heap.size 37 [Value.int .u64 (y.r : Int), .int .u64 (y.s : Int)] = wz at *
      go_wp2_with (first | (with_reducible refine wpList_load_mid rfl 48 _ rfl n2 37 rfl [Value.int .u64 (y.r : Int), .int .u64 (y.s : Int)] _ rgY Try.underlying48 rfl hsr ?_) | (with_reducible refine wpList_store_mid rfl 48 _ _ rfl W.heap.size 37 [Value.int .u64 (y.r : Int), .int .u64 (y.s : Int)].toArray rfl rfl thX' hsa hso ?_))
      refine (same_any _ A B _ _ c d x.bare.enc y.bare.enc rfl rfl hr6 hq6).mono ?_
      rintro e w7 ⟨rfl, rfl⟩
      generalize decide (x.bare.enc = y.bare.enc) = p at *
      clear hr6 hq6
      go_wp2_with fail
      refine (alive_any _).mono ?_
      rintro e w8 ⟨rfl, k8⟩
      have rX8 := (hX6.chg k8 (fun f => f)).range0
      have rY8 := (hY6.chg k8 (fun f => f)).range0
      have EQ8 := EQ'.out w8
      have hpp : (p == p) = true := by simp
      have hC8 := hC6.trans k8 (fun _ f => f.elim)
      clear hX6 hY6 K46 hC6
      go_wp2_with (first | (with_reducible refine wpList_load_w 50 _ rfl ?_ W.heap.size 0 rfl z.cells _ rX8 Try.underlying50 rfl HRZ ?_; focus (first | (simp [Region.wanted, yielded]; done) | (go_simp; done) | kernel_rfl)) | (with_reducible refine wpList_load_w 50 _ rfl ?_ n2 0 rfl y.cells _ rY8 Try.underlying50 rfl HRY ?_; focus (first | (simp [Region.wanted, yielded]; done) | (go_simp; done) | kernel_rfl)) | (with_reducible refine wpList_eql_w 50 _ _ _ rfl ?_ (xs := z.cells.toArray) (ys := y.cells.toArray) rfl rfl vote_guard EQ8 ?_; focus (first | (simp [Region.wanted, yielded]; done) | (go_simp; done) | kernel_rfl)))
      go_ret
      exact ⟨rfl, hC8.below (Nat.le_refl _) (fun _ f => f.elim)⟩
    · go_wp2_with fail
      refine (alive_any _).mono ?_
      rintro e w5 ⟨rfl, k5⟩
      go_wp2
      go_ret
      exact ⟨rfl, (hC4.trans k5 (fun _ f => f.elim)).below (Nat.le_refl _) (fun _ f => f.elim)⟩
  · rcases hb with ⟨rfl, rfl, hb, _⟩ | ⟨rfl, rfl, rfl⟩
    · obtain ⟨B, d, rfl, hd, hm2, hq4, _, _⟩ := hb.slice
      go_wp2_with fail
      refine (alive_any _).mono ?_
      rintro e w5 ⟨rfl, k5⟩
      go_wp2
      go_ret
      exact ⟨rfl, (hC4.trans k5 (fun _ f => f.elim)).below (Nat.le_refl _) (fun _ f => f.elim)⟩
    · go_wp2_with fail
      refine (alive_any _).mono ?_
      rintro e w5 ⟨rfl, k5⟩
      go_wp2
      go_ret
      exact ⟨rfl, (hC4.trans k5 (fun _ f => f.elim)).below (Nat.le_refl _) (fun _ f => f.elim)⟩

/-! ### The row's frame -/
theorem own : ownKnob Try.prog.godebug = none := by kernel_rfl
theorem walkA (W : World) (args : Array Value) (hsz : args.size = Try.f8.params.size) (hok : ∀ (j : Nat) (t : TypeId) (v : Value), Try.f8.params[j]? = some t → args[j]? = some v → Okv Try.prog W t v) :
    Calls Try.prog 8 args W fun e W' => e = .returned (.bool true) ∧ Below W.heap.size W W' := by
  rw [Try.params8] at hsz hok
  obtain ⟨v0, v1, rfl⟩ : ∃ v0 v1 : Value, args = #[v0, v1] := by
    obtain ⟨l⟩ := args
    match l, hsz with
    | [v0, v1], _ => exact ⟨v0, v1, rfl⟩
  exact walk W v0 v1 (hok 0 50 v0 rfl rfl) (hok 1 50 v1 rfl rfl)
set_option maxRecDepth 100000 in
theorem lifted (os : Os) (started : os.Started) (H : Type) (enc : TypeId × Value → H) :
    ReturnsInHanded {} Try.checked os 8 .any (Rows.formSignsSpec.pre6 enc Try.prog Try.f8 Rows.formSignsRow.domain false) (Rows.formSignsSpec.post enc Try.prog Try.f8 false true false false) :=
  lifted_of_walk (C := Try.checked) (s := Rows.formSignsSpec) (conds := Rows.formSignsRow.domain) (apart := false) (fresh := true) (T := 4) own started (by kernel_rfl) Try.func8
    (ChangeSpec.witness6 (enc := enc) (C := Try.checked) false ⟨#[], #[.agg Vt.zero.cells.toArray, .agg Vt.zero.cells.toArray], []⟩ 8 (by kernel_rfl) (by kernel_rfl) (by kernel_rfl) (by kernel_rfl))
    rfl (fun ds hd => by
      rw [Try.params8] at hd
      match ds, hd with
      | [d0, d1], _ => exact ⟨rfl, rfl, rfl⟩)
    (by kernel_rfl) Try.underlying4 (by kernel_rfl) (by rw [Try.params8]; intro t ht; simp only [List.mem_cons, List.not_mem_nil, or_false] at ht; rcases ht with rfl | rfl <;> exact ⟨by kernel_rfl, of_decide_eq_true (by kernel_rfl)⟩) walkA

theorem holds : Rows.formSignsRow.holds Try.pinned (OpenSpec.ofChange Rows.formSignsSpec) :=
  OpenClaim.holds_of_wide 8 Try.f8 rfl rfl rfl rfl rfl rfl rfl ⟨rfl, rfl, rfl, rfl, rfl⟩ rfl rfl rfl rfl rfl (by kernel_rfl) Try.func8 (by kernel_rfl)
    (of_decide_eq_true (by kernel_rfl)) (by unfold Func.isWrapper; first | (rw [if_pos (by decide +kernel)]; kernel_rfl) | (rw [if_neg (by decide +kernel)]; exact ⟨rfl, rfl⟩))
    (fun os started H enc _ => lifted os started H enc)
end Go.Proofs.Ytjcfdclgddjaoaa.formSigns
namespace Go.Proofs.Ytjcfdclgddjaoaa
/-- The statement. -/
theorem formSigns_holds : Rows.FormSignsSaid := formSigns.holds
end Go.Proofs.Ytjcfdclgddjaoaa
