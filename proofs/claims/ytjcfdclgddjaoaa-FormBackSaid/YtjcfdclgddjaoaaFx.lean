/- Package forms: EncodePacket, DecodePacket; the live question. -/
import Derived.Test.YtjcfdclgddjaoaaChecked
import Derived.WalkKit
import Derived.WalkLawsBesides
import Derived.Lib.Hide
import Derived.Test.YtjcfdclgddjaoaaFdp
import Derived.Test.YtjcfdclgddjaoaaFwp
import Derived.Test.YtjcfdclgddjaoaaFz
import Derived.Test.YtjcfdclgddjaoaaFi
namespace Go.Proofs.Ytjcfdclgddjaoaa
open Go.RowKit
set_option linter.unusedVariables false
set_option linter.unusedSimpArgs false
set_option maxRecDepth 20000

theorem Pk.enc_len (x : Pk) (h : x.right = true) (ox : x.Ok) : x.enc.length ≤ 1000 := by
  unfold Pk.right at h
  simp only [Bool.and_eq_true, decide_eq_true_eq] at h
  obtain ⟨_, h2, h3, _⟩ := h
  have := nameOk_size h2
  unfold Pk.enc
  simp [num_length, tx_length]
  have e1 : x.from.data.size = x.from.size := rfl
  have e2 : x.data.data.size = x.data.size := rfl
  omega

theorem EncodePacket_any (w : World) (x : Pk) (ox : x.Ok) : Calls Try.prog 10 #[.agg x.cells.toArray] w (Enc w x.right x.enc) := by
  have hC := (Chg.refl Non w).alloc (.cells x.cells.toArray 23)
  have hb := Hb.new w 23 x.cells.toArray
  have hs : (w.alloc (.cells x.cells.toArray 23)).heap.size = w.heap.size + 1 := by simp
  have H := encoded_Packet (w.alloc (.cells x.cells.toArray 23)) ⟨w.heap.size, 0, none⟩ x.right x.enc (fun h => by have := x.enc_len h ox; omega) (fun w1 g k hg hw => by
    have hb1 := hb.chg k (fun f => f)
    exact packet_w g [] w1 _ w.heap.size 0 x hw hb1.range0 (by rintro (h | h); omega; cases h) (by have := hb1.lt; omega) ox (by simp))
  have HH := Lib.hid H
  have HC := Lib.hid hC
  clear H hC hb hs
  generalize x.cells = cs at *
  go_enter Try.func10, Try.ntmps10
  go_wp2_with fail
  refine HH.out.mono ?_
  rintro e w1 ⟨h1, h2⟩
  clear HH
  have h0 := HC.out.trans h1 (fun _ f => f.elim)
  generalize x.right = ok at *
  cases ok with
  | true =>
    obtain ⟨v, rfl, ho, hl⟩ := h2
    go_wp2
    go_ret2
    exact ⟨h0, v, rfl, ho, fun k hk => by have := hl k hk; have := HC.out.size; omega⟩
  | false =>
    obtain rfl := h2
    go_wp2
    go_ret2
    exact ⟨h0, rfl⟩

theorem dPacket.r (st : St) : ∀ (L : List Value) (s : St), (dPacket st).map (fun y => ([] ++ (y.1.cells ++ []), y.2)) = some (L, s) → L.length = 4 ∧ ∀ v ∈ L, v.oneCell' = true := by
  intro L s h
  obtain ⟨y, hy, h2⟩ := Option.map_eq_some_iff.1 h
  simp only [Prod.mk.injEq, List.nil_append, List.append_nil] at h2
  obtain ⟨rfl, _⟩ := h2
  exact ⟨rfl, y.1.one⟩
theorem DecodePacket_any (w : World) (A : Option Addr) (n c : Nat) (bs : List UInt8) (hn : n = bs.length) (hr : Rd w A bs) (hsz : bs.length ≤ 1000000000) : Calls Try.prog 19 #[.slice A n c] w (Dec w Pk.zero.cells ((whole (dPacket (some bs))).map Pk.cells)) := by
  have hz := dPacket.alloc0 w
  have hzl := dPacket.zlen
  have hrow := dPacket.row
  have hC := (Chg.refl Non w).alloc (.cells Pk.zero.cells.toArray 23)
  have hb := Hb.new w 23 Pk.zero.cells.toArray
  have H := decoded_Packet (w.alloc (.cells Pk.zero.cells.toArray 23)) A n c bs ((dPacket (some bs)).map (fun y => ([] ++ (y.1.cells ++ []), y.2))) hn (hr.chg hC (fun _ _ f => f)) hsz (dPacket.r _) (fun w1 g F S => by
    generalize (w.alloc (.cells Pk.zero.cells.toArray 23)).heap.size = tb at *
    generalize Pk.zero.cells = z at *
    have h := packet_r w1 g F tb 0 23 [] [] z (some bs) (S.eq (by rw [List.append_nil, List.nil_append])) rfl hzl
    rw [List.append_nil, List.nil_append, hzl] at h
    exact h)
  have hw : whole ((dPacket (some bs)).map (fun y => ([] ++ (y.1.cells ++ []), y.2))) = (whole (dPacket (some bs))).map Pk.cells := by
    cases dPacket (some bs) with
    | none => rfl
    | some y =>
      obtain ⟨y, st⟩ := y
      match st with
      | none => rfl
      | some [] => simp [whole]
      | some (_ :: _) => rfl
  have hone : ∀ L, (whole (dPacket (some bs))).map Pk.cells = some L → L.length = 4 ∧ ∀ v ∈ L, v.oneCell' = true := by
    intro L h
    obtain ⟨y, hy, rfl⟩ := Option.map_eq_some_iff.1 h
    exact ⟨rfl, y.one⟩
  rw [hw] at H
  generalize (whole (dPacket (some bs))).map Pk.cells = r at *
  have hzone : ∀ v ∈ Pk.zero.cells, v.oneCell' = true := Pk.zero.one
  have HH := Lib.hid H
  have HC := Lib.hid hC
  clear H hC hw hn hr
  generalize Pk.zero.cells = z at *
  go_enter Try.func19, Try.ntmps19
  go_wp2_with (with_reducible refine wpList_alloc_row rfl _ rfl z hz ?_)
  refine HH.out.mono ?_
  rintro e w1 ⟨h1, h2⟩
  clear HH
  have hb1 := hb.chg h1 (fun f => f)
  have h0 := HC.out.trans h1 (fun _ f => f.elim)
  obtain ⟨L, k, rfl, hL1, hL2, hk⟩ : ∃ (L : List Value) (k : Int), e = .returned (.tuple #[.agg L.toArray, .int .i64 k]) ∧ L.length = 4 ∧ (∀ v ∈ L, v.oneCell' = true) ∧ (match r with | some L => Ending.returned (.tuple #[.agg L.toArray, .int .i64 0]) | none => .returned (.tuple #[.agg z.toArray, .int .i64 61])) = .returned (.tuple #[.agg L.toArray, .int .i64 k]) := by
    cases r with
    | some L => exact ⟨L, 0, h2, (hone L rfl).1, (hone L rfl).2, rfl⟩
    | none => exact ⟨z, 61, h2, hzl, hzone, rfl⟩
  have hLs : L.toArray.size = 4 := by rw [List.size_toArray, hL1]
  have hth := hb1.there0
  rw [hzl] at hth
  have hb2 := hb1.sets0 (L' := L) (by rw [hzl, hL1])
  clear hone h2
  go_wp2_with (with_reducible refine wpList_store_mid rfl 23 _ _ rfl w.heap.size 0 L.toArray rfl rfl (by rw [hLs]; exact hth) (by rw [hLs, hrow]) (one_mem hL2) ?_)
  refine bodyPost_ret ((results_cell_tmp rfl _ _ _).trans ?_) rfl (R := Dec w z r) (v := .tuple #[.agg L.toArray, .int .i64 k]) ?_
  · simp only [asAddr, Sem.run_pure, Result.andThen_ok]
    have hl := load_row hb2 Try.underlying23 rfl (by rw [hrow, hL1])
    simp [hl]
  · refine ⟨Chg.trans h0 (Chg.setCells (S := fun j => j = w.heap.size) rfl L _ 0 (Chg.refl _ _)) (fun j hj => .inr (by omega)), ?_⟩
    rw [← hk]
    rfl

/-- The live question's packet. -/
def AP : Pk := ⟨1, ⟨#[97]⟩, ⟨#[]⟩, 9⟩
theorem AP.ok : AP.Ok := ⟨⟨by decide, by decide⟩, by decide, by decide, ⟨by decide, by decide⟩⟩
theorem AP.is : AP.right = true := by decide
theorem AP.len : AP.enc.length = 29 := by decide
theorem AP.six : AP.enc[7]? = some 6 := by decide
theorem AP.row : AP.cells.toArray = #[.int .i64 1, .string ⟨#[97]⟩, .string ⟨#[]⟩, .int .i64 9] := rfl
theorem AP.back : whole (dPacket (some AP.enc)) = some AP := by
  have h := dPacket_app AP.ok AP.is []
  rw [List.append_nil] at h
  rw [h]
  rfl
theorem alive_any (w : World) : Calls Try.prog 9 #[] w (Zero w (.bool true)) := by
  have H := EncodePacket_any w AP AP.ok
  rw [AP.is, AP.row] at H
  go_enter Try.func9, Try.ntmps9
  go_wp2_with fail
  refine H.mono ?_
  rintro e w1 ⟨h1, v, rfl, ho, hl⟩
  clear H
  obtain ⟨A, c, rfl, hc, hm, hr, _, _⟩ := ho.slice
  obtain ⟨ad, rfl, _⟩ := hr.blk_lt (by rw [AP.len]; omega)
  have H2 := DecodePacket_any w1 (some ad) AP.enc.length c AP.enc rfl hr (by rw [AP.len]; omega)
  rw [AP.back, AP.len] at H2
  have k7 : ∀ w2, Chg Non w1 w2 → w2.cell? (ad.add 7) = some (.int .u8 6) := by
    intro w2 k
    obtain ⟨ad', e, hc7⟩ := (hr.chg k (fun _ _ f => f)) 7 6 AP.six
    injection e with e
    subst e
    exact hc7
  have K7 := Lib.hid k7
  rw [AP.len] at hc ⊢
  clear k7 ho hr hl
  have e7 : ad.add 7 = ⟨ad.block, ad.off + 7, none⟩ := by unfold Addr.add; rw [if_neg (by omega)]
  go_wp2_with fail
  refine H2.mono ?_
  rintro e w2 ⟨h2, he⟩
  have he' : e = .returned (.tuple #[.agg #[.int .i64 1, .string ⟨#[97]⟩, .string ⟨#[]⟩, .int .i64 9], .int .i64 0]) := he
  subst he'
  have hA := (Chg.refl Non w2).alloc (.cells #[.int .i64 0, .string ⟨#[]⟩, .string ⟨#[]⟩, .int .i64 0] 23)
  have c7 := K7.out w2 h2
  rw [e7] at c7
  have hlt : ad.block < w2.heap.size := World.block_lt_of_cell? w2 ⟨ad.block, ad.off + 7, none⟩ c7
  have hne : ¬ ad.block = w2.heap.size := by omega
  clear he H2 K7 e7
  go_wp2
  go_ret
  exact ⟨rfl, (h1.trans h2 (fun _ f => f.elim)).alloc _⟩
end Go.Proofs.Ytjcfdclgddjaoaa
