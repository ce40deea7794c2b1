/- Of the program at this commit: the law FormBack answers true for every vote, light block and packet (what is encoded is decoded as it was); no condition. -/
import Derived.Test.YtjcfdclgddjaoaaRows
import Derived.WalkKit
import Derived.ProofKit
import Derived.Test.YtjcfdclgddjaoaaFa6
import Derived.Test.YtjcfdclgddjaoaaFa7
import Derived.Test.YtjcfdclgddjaoaaFxv
import Derived.Test.YtjcfdclgddjaoaaFxl
import Derived.Test.YtjcfdclgddjaoaaFsm
import Derived.Test.YtjcfdclgddjaoaaFi
namespace Go.Proofs.Ytjcfdclgddjaoaa.formBack
open Go.ChangeShapes Go.WideShapes Go.ChangeAt Go.RowKit
set_option linter.unusedVariables false

theorem vote_back {x : Vt} (ox : x.Ok) (h : x.right = true) : whole (dVote (some x.enc)) = some x := by
  have := dVote_app ox h []
  rw [List.append_nil] at this
  rw [this]; rfl
theorem light_back {x : Lt} (ox : x.Ok) (h : x.right = true) : whole (dLight (some x.enc)) = some x := by
  have := dLight_app ox h []
  rw [List.append_nil] at this
  rw [this]; rfl
theorem packet_back {x : Pk} (ox : x.Ok) (h : x.right = true) : whole (dPacket (some x.enc)) = some x := by
  have := dPacket_app ox h []
  rw [List.append_nil] at this
  rw [this]; rfl
theorem Lt.cells_len (x : Lt) (ox : x.Ok) (a b c : Value) : (x.cells a b c).length = 200 := by
  unfold Lt.cells
  simp [x.header.cells_len ox.header, x.commit.cells_len ox.commit]

set_option maxRecDepth 100000 in
set_option maxHeartbeats 6400000 in
theorem walk (W : World) (v0 v1 v2 : Value) (h0 : Okv Try.prog W 50 v0) (h1 : Okv Try.prog W 72 v1) (h2 : Okv Try.prog W 23 v2) :
    Calls Try.prog 6 #[v0, v1, v2] W fun e W' => e = .returned (.bool true) ∧ Below W.heap.size W W' := by
  obtain ⟨x, rfl, ox⟩ := vote_arg h0
  obtain ⟨y, A1, A2, A3, c1, c2, c3, rfl, oy, hl1, hl2, hl3, M1, M2, M3⟩ := light_arg h1
  obtain ⟨z, rfl, oz⟩ := packet_arg h2
  clear h0 h1 h2
  have hix : (Try.prog.info? 50).map (·.size) = some x.cells.length := by rw [x.cells_len ox]; kernel_rfl
  have hiy : (Try.prog.info? 72).map (·.size) = some (y.cells (.slice A1 y.commit.seals.length c1) (.slice A2 y.set.length c2) (.slice A3 y.next.length c3)).length := by rw [Lt.cells_len y oy]; kernel_rfl
  have hiz : (Try.prog.info? 23).map (·.size) = some z.cells.length := dPacket.row
  have FACTS : ∀ w1 w2 w3, Hid (w1 = W.alloc (.cells x.cells.toArray 50)) → Hid (w2 = w1.alloc (.cells (y.cells (.slice A1 y.commit.seals.length c1) (.slice A2 y.set.length c2) (.slice A3 y.next.length c3)).toArray 72)) → Hid (w3 = w2.alloc (.cells z.cells.toArray 23)) →
      Hb w3 W.heap.size 50 x.cells.toArray ∧ Hb w3 w1.heap.size 72 (y.cells (.slice A1 y.commit.seals.length c1) (.slice A2 y.set.length c2) (.slice A3 y.next.length c3)).toArray ∧ Hb w3 w2.heap.size 23 z.cells.toArray ∧ Chg Non W w3 := by
    intro w1 w2 w3 e1 e2 e3
    have k1 : Chg Non W w1 := by rw [e1.out]; exact (Chg.refl Non W).alloc _
    have k2 : Chg Non w1 w2 := by rw [e2.out]; exact (Chg.refl Non w1).alloc _
    have k3 : Chg Non w2 w3 := by rw [e3.out]; exact (Chg.refl Non w2).alloc _
    have b1 : Hb w1 W.heap.size 50 x.cells.toArray := by rw [e1.out]; exact Hb.new W _ _
    have b2 : Hb w2 w1.heap.size 72 (y.cells (.slice A1 y.commit.seals.length c1) (.slice A2 y.set.length c2) (.slice A3 y.next.length c3)).toArray := by rw [e2.out]; exact Hb.new w1 _ _
    have b3 : Hb w3 w2.heap.size 23 z.cells.toArray := by rw [e3.out]; exact Hb.new w2 _ _
    exact ⟨(b1.chg k2 (fun f => f)).chg k3 (fun f => f), b2.chg k3 (fun f => f), b3, (k1.trans k2 (fun _ f => f.elim)).trans k3 (fun _ f => f.elim)⟩
  have LENS : ∀ n s t u, (∀ w3 : World, Hb w3 n 72 (y.cells s t u).toArray → w3.cell? ⟨n, 197, none⟩ = some s ∧ w3.cell? ⟨n, 198, none⟩ = some t ∧ w3.cell? ⟨n, 199, none⟩ = some u) := by
    intro n s t u w3 h
    obtain ⟨_, r2⟩ := rangeAt_app h.range0
    obtain ⟨f1, r3⟩ := rangeAt_app r2
    obtain ⟨f2, r4⟩ := rangeAt_cons r3
    obtain ⟨f3, _⟩ := rangeAt_cons r4
    obtain ⟨_, q2⟩ := rangeAt_app f1
    obtain ⟨_, q2⟩ := rangeAt_app q2
    obtain ⟨f4, _⟩ := rangeAt_cons q2
    rw [y.header.cells_len oy.header, bv_length, oy.commit.block] at f4
    rw [y.header.cells_len oy.header, y.commit.cells_len oy.commit] at f2 f3
    exact ⟨by simpa using f4, by simpa using f2, by simpa using f3⟩
  have HF := Lib.hid FACTS
  have HLN := Lib.hid LENS
  have HIX := Lib.hid hix
  have hzv := dVote.alloc0
  have hzp := dPacket.alloc0
  have hzl := dLight.alloc0
  have HZV := Lib.hid hzv
  have HZP := Lib.hid hzp
  have HZL := Lib.hid hzl
  unfold maxLen at hl1 hl2 hl3
  clear FACTS LENS hzv hzp hzl
  by_cases b1 : 70 < y.set.length
  · have b1' : (70 : Int) < (y.set.length : Int) := by omega
    go_enter Try.func6, Try.ntmps6
    go_wp2_with (first | (with_reducible refine wpList_box_row rfl _ _ rfl (cs := x.cells.toArray) rfl ?_; intro w1 hw1) | (with_reducible refine wpList_box_row rfl _ _ rfl (cs := (y.cells (.slice A1 y.commit.seals.length c1) (.slice A2 y.set.length c2) (.slice A3 y.next.length c3)).toArray) rfl ?_; intro w2 hw2) | (with_reducible refine wpList_box_row rfl _ _ rfl (cs := z.cells.toArray) rfl ?_; intro w3 hw3; obtain ⟨hX, hL, hP, hC⟩ := HF.out w1 w2 w3 hw1 hw2 hw3; obtain ⟨s1, s2, s3⟩ := HLN.out _ _ _ _ w3 hL; have rX := hX.range0))
    refine (alive_any _).mono ?_
    rintro e w5 ⟨rfl, k5⟩
    go_wp2
    go_ret
    exact ⟨rfl, (hC.trans k5 (fun _ f => f.elim)).below (Nat.le_refl _) (fun _ f => f.elim)⟩
  by_cases b2 : 70 < y.next.length
  · have b1' : ¬ (70 : Int) < (y.set.length : Int) := by omega
    have b2' : (70 : Int) < (y.next.length : Int) := by omega
    go_enter Try.func6, Try.ntmps6
    go_wp2_with (first | (with_reducible refine wpList_box_row rfl _ _ rfl (cs := x.cells.toArray) rfl ?_; intro w1 hw1) | (with_reducible refine wpList_box_row rfl _ _ rfl (cs := (y.cells (.slice A1 y.commit.seals.length c1) (.slice A2 y.set.length c2) (.slice A3 y.next.length c3)).toArray) rfl ?_; intro w2 hw2) | (with_reducible refine wpList_box_row rfl _ _ rfl (cs := z.cells.toArray) rfl ?_; intro w3 hw3; obtain ⟨hX, hL, hP, hC⟩ := HF.out w1 w2 w3 hw1 hw2 hw3; obtain ⟨s1, s2, s3⟩ := HLN.out _ _ _ _ w3 hL; have rX := hX.range0))
    refine (alive_any _).mono ?_
    rintro e w5 ⟨rfl, k5⟩
    go_wp2
    go_ret
    exact ⟨rfl, (hC.trans k5 (fun _ f => f.elim)).below (Nat.le_refl _) (fun _ f => f.elim)⟩
  by_cases b3 : 70 < y.commit.seals.length
  · have b1' : ¬ (70 : Int) < (y.set.length : Int) := by omega
    have b2' : ¬ (70 : Int) < (y.next.length : Int) := by omega
    have b3' : (70 : Int) < (y.commit.seals.length : Int) := by omega
    go_enter Try.func6, Try.ntmps6
    go_wp2_with (first | (with_reducible refine wpList_box_row rfl _ _ rfl (cs := x.cells.toArray) rfl ?_; intro w1 hw1) | (with_reducible refine wpList_box_row rfl _ _ rfl (cs := (y.cells (.slice A1 y.commit.seals.length c1) (.slice A2 y.set.length c2) (.slice A3 y.next.length c3)).toArray) rfl ?_; intro w2 hw2) | (with_reducible refine wpList_box_row rfl _ _ rfl (cs := z.cells.toArray) rfl ?_; intro w3 hw3; obtain ⟨hX, hL, hP, hC⟩ := HF.out w1 w2 w3 hw1 hw2 hw3; obtain ⟨s1, s2, s3⟩ := HLN.out _ _ _ _ w3 hL; have rX := hX.range0))
    refine (alive_any _).mono ?_
    rintro e w5 ⟨rfl, k5⟩
    go_wp2
    go_ret
    exact ⟨rfl, (hC.trans k5 (fun _ f => f.elim)).below (Nat.le_refl _) (fun _ f => f.elim)⟩
  have b1' : ¬ (70 : Int) < (y.set.length : Int) := by omega
  have b2' : ¬ (70 : Int) < (y.next.length : Int) := by omega
  have b3' : ¬ (70 : Int) < (y.commit.seals.length : Int) := by omega
  go_enter Try.func6, Try.ntmps6
  go_wp2_with (first | (with_reducible refine wpList_box_row rfl _ _ rfl (cs := x.cells.toArray) rfl ?_; intro w1 hw1) | (with_reducible refine wpList_box_row rfl _ _ rfl (cs := (y.cells (.slice A1 y.commit.seals.length c1) (.slice A2 y.set.length c2) (.slice A3 y.next.length c3)).toArray) rfl ?_; intro w2 hw2) | (with_reducible refine wpList_box_row rfl _ _ rfl (cs := z.cells.toArray) rfl ?_; intro w3 hw3; obtain ⟨hX, hL, hP, hC⟩ := HF.out w1 w2 w3 hw1 hw2 hw3; obtain ⟨s1, s2, s3⟩ := HLN.out _ _ _ _ w3 hL; have rX := hX.range0) | (with_reducible refine wpList_load_mid rfl 50 _ rfl W.heap.size 0 rfl x.cells _ rX Try.underlying50 rfl hix ?_))
  clear s1 s2 s3 rX
  generalize hn1 : w1.heap.size = n1 at *
  generalize hn2 : w2.heap.size = n2 at *
  replace M1 := M1.chg hC
  replace M2 := M2.chg hC
  replace M3 := M3.chg hC
  have hlt1 := hX.lt
  have hlt2 := hL.lt
  have hlt3 := hP.lt
  clear hw1 hw2 hw3 hn1 hn2
  refine (EncodeVote_any _ x ox).mono ?_
  rintro e wv ⟨kv, hv⟩
  replace hX := hX.chg kv (fun f => f)
  replace hL := hL.chg kv (fun f => f)
  replace hP := hP.chg kv (fun f => f)
  replace hC := hC.trans kv (fun _ f => f.elim)
  replace M1 := M1.chg kv
  replace M2 := M2.chg kv
  replace M3 := M3.chg kv
  replace hlt1 := Nat.lt_of_lt_of_le hlt1 kv.size
  replace hlt2 := Nat.lt_of_lt_of_le hlt2 kv.size
  replace hlt3 := Nat.lt_of_lt_of_le hlt3 kv.size
  clear kv
  cases rv : x.right with
  | false =>
    rw [rv] at hv
    obtain rfl := hv
    have rL := hL.range0
    go_wp2_with (first | (with_reducible refine wpList_load_mid rfl 72 _ rfl n1 0 rfl (y.cells (.slice A1 y.commit.seals.length c1) (.slice A2 y.set.length c2) (.slice A3 y.next.length c3)) _ rL Try.underlying72 rfl hiy ?_))
    refine (EncodeLight_any _ A1 A2 A3 c1 c2 c3 y oy (by unfold maxLen; omega) (by unfold maxLen; omega) (by unfold maxLen; omega) M1 M2 M3).mono ?_
    rintro e wl ⟨kl, hl⟩
    replace hX := hX.chg kl (fun f => f)
    replace hL := hL.chg kl (fun f => f)
    replace hP := hP.chg kl (fun f => f)
    replace hC := hC.trans kl (fun _ f => f.elim)
    replace M1 := M1.chg kl
    replace M2 := M2.chg kl
    replace M3 := M3.chg kl
    replace hlt1 := Nat.lt_of_lt_of_le hlt1 kl.size
    replace hlt2 := Nat.lt_of_lt_of_le hlt2 kl.size
    replace hlt3 := Nat.lt_of_lt_of_le hlt3 kl.size
    clear kl
    cases rl : y.right with
    | false =>
      rw [rl] at hl
      obtain rfl := hl
      have rP := hP.range0
      go_wp2_with (first | (with_reducible refine wpList_load_mid rfl 23 _ rfl n2 0 rfl z.cells _ rP Try.underlying23 rfl hiz ?_))
      refine (EncodePacket_any _ z oz).mono ?_
      rintro e wp ⟨kp, hp⟩
      replace hX := hX.chg kp (fun f => f)
      replace hL := hL.chg kp (fun f => f)
      replace hP := hP.chg kp (fun f => f)
      replace hC := hC.trans kp (fun _ f => f.elim)
      replace M1 := M1.chg kp
      replace M2 := M2.chg kp
      replace M3 := M3.chg kp
      replace hlt1 := Nat.lt_of_lt_of_le hlt1 kp.size
      replace hlt2 := Nat.lt_of_lt_of_le hlt2 kp.size
      replace hlt3 := Nat.lt_of_lt_of_le hlt3 kp.size
      clear kp
      cases rp : z.right with
      | false =>
        rw [rp] at hp
        obtain rfl := hp
        go_wp2_with fail
        refine (alive_any _).mono ?_
        rintro e we ⟨rfl, ke⟩
        go_wp2
        go_ret
        exact ⟨rfl, (hC.trans ke (fun _ f => f.elim)).below (Nat.le_refl _) (fun _ f => f.elim)⟩
      | true =>
        rw [rp] at hp
        obtain ⟨v, rfl, ho, _⟩ := hp
        obtain ⟨A, c, rfl, hc, hm, hr, _, _⟩ := ho.slice
        have hle := z.enc_len rp oz
        have HD := DecodePacket_any _ A z.enc.length c z.enc rfl hr (by omega)
        rw [packet_back oz rp] at HD
        have HDD := Lib.hid HD
        clear HD hr ho hm hc hle
        generalize z.enc.length = le at *
        go_wp2_with fail
        refine HDD.out.mono ?_
        clear HDD
        rintro e dp ⟨kd, he⟩
        obtain rfl : e = .returned (.tuple #[.agg z.cells.toArray, .int .i64 0]) := he
        replace hX := hX.chg kd (fun f => f)
        replace hL := hL.chg kd (fun f => f)
        replace hP := hP.chg kd (fun f => f)
        replace hC := hC.trans kd (fun _ f => f.elim)
        replace M1 := M1.chg kd
        replace M2 := M2.chg kd
        replace M3 := M3.chg kd
        replace hlt1 := Nat.lt_of_lt_of_le hlt1 kd.size
        replace hlt2 := Nat.lt_of_lt_of_le hlt2 kd.size
        replace hlt3 := Nat.lt_of_lt_of_le hlt3 kd.size
        have hz := HZP.out dp
        have hzl : (Pk.zero.cells).length = 4 := dPacket.zlen
        have hLn : z.cells.length = 4 := rfl
        have hone : ∀ v ∈ z.cells, v.oneCell' = true := z.one
        have hrow : (Try.prog.info? 23).map (·.size) = some 4 := dPacket.row
        have hzz := Hb.new dp 23 (Pk.zero.cells).toArray
        have hth := hzz.there0
        rw [hzl] at hth
        have hN := hzz.sets0 (L' := z.cells) (by rw [hzl, hLn])
        have hLs : (z.cells).toArray.size = 4 := by rw [List.size_toArray, hLn]
        have hLi : (Try.prog.info? 23).map (·.size) = some (z.cells).length := by rw [hrow, hLn]
        have K := ((Chg.refl Non dp).alloc (.cells (Pk.zero.cells).toArray 23)).trans (Chg.setCells (S := fun j => j = dp.heap.size) rfl (z.cells) _ 0 (Chg.refl _ _)) (fun j hj => .inr (by omega))
        replace hX := hX.chg K (fun f => f)
        replace hL := hL.chg K (fun f => f)
        replace hP := hP.chg K (fun f => f)
        replace hC := hC.trans K (fun _ f => f.elim)
        replace M1 := M1.chg K
        replace M2 := M2.chg K
        replace M3 := M3.chg K
        generalize hwz : ((dp.alloc (.cells (Pk.zero.cells).toArray 23)).setCells dp.heap.size 0 (z.cells)) = wz at *
        replace hlt1 := Nat.lt_of_lt_of_le hlt1 K.size
        replace hlt2 := Nat.lt_of_lt_of_le hlt2 K.size
        replace hlt3 := Nat.lt_of_lt_of_le hlt3 K.size
        have hwz' := Lib.hid hwz
        have rN := hN.range0
        have rO := hP.range0
        have EQ : (Op.equalIn 10000 23 (.agg (z.cells).toArray) (.agg (z.cells).toArray)).run Try.prog wz = .ok true wz := by rw [run_eq_packet wz z z]; simp
        clear hwz
        go_wp2_with (first | (with_reducible refine wpList_alloc_row rfl _ rfl (Pk.zero.cells) hz ?_) | (with_reducible refine wpList_store_mid rfl 23 _ _ rfl dp.heap.size 0 (z.cells).toArray rfl rfl (by rw [hLs]; exact hth) (by rw [hLs, hrow]) (one_mem hone) ?_; rw [List.toList_toArray, hwz'.out]) | (with_reducible refine wpList_load_w 23 _ rfl ?_ dp.heap.size 0 rfl (z.cells) _ rN Try.underlying23 rfl hLi ?_; focus (first | (simp [Region.wanted, yielded]; done) | (go_simp; done))) | (with_reducible refine wpList_load_w 23 _ rfl ?_ n2 0 rfl z.cells _ rO Try.underlying23 rfl hiz ?_; focus (first | (simp [Region.wanted, yielded]; done) | (go_simp; done))) | (with_reducible refine wpList_neq_w 23 _ _ _ rfl ?_ (xs := (z.cells).toArray) (ys := (z.cells).toArray) rfl rfl packet_guard EQ ?_; focus (first | (simp [Region.wanted, yielded]; done) | (go_simp; done))))
        clear rO rN hN EQ hth hzz K hwz' kd hz
        refine (alive_any _).mono ?_
        rintro e we ⟨rfl, ke⟩
        go_wp2
        go_ret
        exact ⟨rfl, (hC.trans ke (fun _ f => f.elim)).below (Nat.le_refl _) (fun _ f => f.elim)⟩
    | true =>
      rw [rl] at hl
      obtain ⟨v, rfl, ho, _⟩ := hl
      obtain ⟨A, c, rfl, hc, hm, hr, _, _⟩ := ho.slice
      have hle := y.enc_len rl oy
      have HD := DecodeLight_any _ A y.enc.length c y.enc rfl hr (by omega)
      rw [light_back oy rl] at HD
      have HDD := Lib.hid HD
      clear HD hr ho hm hc hle
      generalize y.enc.length = le at *
      go_wp2_with fail
      refine HDD.out.mono ?_
      clear HDD
      rintro e dl ⟨kd, m1, m2, m3, g1, g2, g3, rfl, B1, B2, B3⟩
      replace hX := hX.chg kd (fun f => f)
      replace hL := hL.chg kd (fun f => f)
      replace hP := hP.chg kd (fun f => f)
      replace hC := hC.trans kd (fun _ f => f.elim)
      replace M1 := M1.chg kd
      replace M2 := M2.chg kd
      replace M3 := M3.chg kd
      replace hlt1 := Nat.lt_of_lt_of_le hlt1 kd.size
      replace hlt2 := Nat.lt_of_lt_of_le hlt2 kd.size
      replace hlt3 := Nat.lt_of_lt_of_le hlt3 kd.size
      have hz := HZL.out dl
      have hzl : (ltz).length = 200 := dLight.zlen
      have hLn : (y.cells (sl m1 y.commit.seals.length) (sl m2 y.set.length) (sl m3 y.next.length)).length = 200 := Lt.cells_len y oy _ _ _
      have hone : ∀ v ∈ (y.cells (sl m1 y.commit.seals.length) (sl m2 y.set.length) (sl m3 y.next.length)), v.oneCell' = true := y.one m1 m2 m3
      have hrow : (Try.prog.info? 72).map (·.size) = some 200 := dLight.row
      generalize hcl : (y.cells (sl m1 y.commit.seals.length) (sl m2 y.set.length) (sl m3 y.next.length)) = L at *
      have HCL := Lib.hid hcl
      clear hcl
      have hzz := Hb.new dl 72 (ltz).toArray
      have hth := hzz.there0
      rw [hzl] at hth
      have hN := hzz.sets0 (L' := L) (by rw [hzl, hLn])
      have hLs : (L).toArray.size = 200 := by rw [List.size_toArray, hLn]
      have hLi : (Try.prog.info? 72).map (·.size) = some (L).length := by rw [hrow, hLn]
      have K := ((Chg.refl Non dl).alloc (.cells (ltz).toArray 72)).trans (Chg.setCells (S := fun j => j = dl.heap.size) rfl (L) _ 0 (Chg.refl _ _)) (fun j hj => .inr (by omega))
      replace hX := hX.chg K (fun f => f)
      replace hL := hL.chg K (fun f => f)
      replace hP := hP.chg K (fun f => f)
      replace hC := hC.trans K (fun _ f => f.elim)
      replace M1 := M1.chg K
      replace M2 := M2.chg K
      replace M3 := M3.chg K
      replace B1 := B1.chg K (fun f => f)
      replace B2 := B2.chg K (fun f => f)
      replace B3 := B3.chg K (fun f => f)
      generalize hwz : ((dl.alloc (.cells (ltz).toArray 72)).setCells dl.heap.size 0 (L)) = wz at *
      replace hlt1 := Nat.lt_of_lt_of_le hlt1 K.size
      replace hlt2 := Nat.lt_of_lt_of_le hlt2 K.size
      replace hlt3 := Nat.lt_of_lt_of_le hlt3 K.size
      have hwz' := Lib.hid hwz
      have rN := hN.range0
      have rP := hP.range0
      have rO := hL.range0
      clear hwz
      go_wp2_with (first | (with_reducible refine wpList_alloc_row rfl _ rfl (ltz) hz ?_) | (with_reducible refine wpList_store_mid rfl 72 _ _ rfl dl.heap.size 0 (L).toArray rfl rfl (by rw [hLs]; exact hth) (by rw [hLs, hrow]) (one_mem hone) ?_; rw [List.toList_toArray, hwz'.out]) | (with_reducible refine wpList_load_mid rfl 72 _ rfl dl.heap.size 0 rfl L _ rN Try.underlying72 rfl hLi ?_) | (with_reducible refine wpList_load_mid rfl 72 _ rfl n1 0 rfl (y.cells (.slice A1 y.commit.seals.length c1) (.slice A2 y.set.length c2) (.slice A3 y.next.length c3)) _ rO Try.underlying72 rfl hiy ?_))
      have HS := sameLight_yes wz (some ⟨m1, 0, none⟩) (some ⟨m2, 0, none⟩) (some ⟨m3, 0, none⟩) A1 A2 A3 y.commit.seals.length y.set.length y.next.length c1 c2 c3 y oy (by unfold maxLen; omega) (by unfold maxLen; omega) (by unfold maxLen; omega) (lstM_new (fun _ => rfl) B1) (lstM_new (fun _ => rfl) B2) (lstM_new (fun _ => rfl) B3) M1 M2 M3
      have hcl : y.cells (.slice (some ⟨m1, 0, none⟩) y.commit.seals.length y.commit.seals.length) (.slice (some ⟨m2, 0, none⟩) y.set.length y.set.length) (.slice (some ⟨m3, 0, none⟩) y.next.length y.next.length) = L := HCL.out
      rw [hcl] at HS
      refine HS.mono ?_
      rintro e ws ⟨rfl, ks⟩
      replace hX := hX.chg ks (fun f => f)
      replace hL := hL.chg ks (fun f => f)
      replace hP := hP.chg ks (fun f => f)
      replace hC := hC.trans ks (fun _ f => f.elim)
      replace M1 := M1.chg ks
      replace M2 := M2.chg ks
      replace M3 := M3.chg ks
      replace hlt1 := Nat.lt_of_lt_of_le hlt1 ks.size
      replace hlt2 := Nat.lt_of_lt_of_le hlt2 ks.size
      replace hlt3 := Nat.lt_of_lt_of_le hlt3 ks.size
      clear rP rO rN hN HS hcl HCL B1 B2 B3 hth hzz K hwz' kd hz
      have rP := hP.range0
      go_wp2_with (first | (with_reducible refine wpList_load_mid rfl 23 _ rfl n2 0 rfl z.cells _ rP Try.underlying23 rfl hiz ?_))
      refine (EncodePacket_any _ z oz).mono ?_
      rintro e wp ⟨kp, hp⟩
      replace hX := hX.chg kp (fun f => f)
      replace hL := hL.chg kp (fun f => f)
      replace hP := hP.chg kp (fun f => f)
      replace hC := hC.trans kp (fun _ f => f.elim)
      replace M1 := M1.chg kp
      replace M2 := M2.chg kp
      replace M3 := M3.chg kp
      replace hlt1 := Nat.lt_of_lt_of_le hlt1 kp.size
      replace hlt2 := Nat.lt_of_lt_of_le hlt2 kp.size
      replace hlt3 := Nat.lt_of_lt_of_le hlt3 kp.size
      clear kp
      cases rp : z.right with
      | false =>
        rw [rp] at hp
        obtain rfl := hp
        go_wp2_with fail
        refine (alive_any _).mono ?_
        rintro e we ⟨rfl, ke⟩
        go_wp2
        go_ret
        exact ⟨rfl, (hC.trans ke (fun _ f => f.elim)).below (Nat.le_refl _) (fun _ f => f.elim)⟩
      | true =>
        rw [rp] at hp
        obtain ⟨v, rfl, ho, _⟩ := hp
        obtain ⟨A, c, rfl, hc, hm, hr, _, _⟩ := ho.slice
        have hle := z.enc_len rp oz
        have HD := DecodePacket_any _ A z.enc.length c z.enc rfl hr (by omega)
        rw [packet_back oz rp] at HD
        have HDD := Lib.hid HD
        clear HD hr ho hm hc hle
        generalize z.enc.length = le at *
        go_wp2_with fail
        refine HDD.out.mono ?_
        clear HDD
        rintro e dp ⟨kd, he⟩
        obtain rfl : e = .returned (.tuple #[.agg z.cells.toArray, .int .i64 0]) := he
        replace hX := hX.chg kd (fun f => f)
        replace hL := hL.chg kd (fun f => f)
        replace hP := hP.chg kd (fun f => f)
        replace hC := hC.trans kd (fun _ f => f.elim)
        replace M1 := M1.chg kd
        replace M2 := M2.chg kd
        replace M3 := M3.chg kd
        replace hlt1 := Nat.lt_of_lt_of_le hlt1 kd.size
        replace hlt2 := Nat.lt_of_lt_of_le hlt2 kd.size
        replace hlt3 := Nat.lt_of_lt_of_le hlt3 kd.size
        have hz := HZP.out dp
        have hzl : (Pk.zero.cells).length = 4 := dPacket.zlen
        have hLn : z.cells.length = 4 := rfl
        have hone : ∀ v ∈ z.cells, v.oneCell' = true := z.one
        have hrow : (Try.prog.info? 23).map (·.size) = some 4 := dPacket.row
        have hzz := Hb.new dp 23 (Pk.zero.cells).toArray
        have hth := hzz.there0
        rw [hzl] at hth
        have hN := hzz.sets0 (L' := z.cells) (by rw [hzl, hLn])
        have hLs : (z.cells).toArray.size = 4 := by rw [List.size_toArray, hLn]
        have hLi : (Try.prog.info? 23).map (·.size) = some (z.cells).length := by rw [hrow, hLn]
        have K := ((Chg.refl Non dp).alloc (.cells (Pk.zero.cells).toArray 23)).trans (Chg.setCells (S := fun j => j = dp.heap.size) rfl (z.cells) _ 0 (Chg.refl _ _)) (fun j hj => .inr (by omega))
        replace hX := hX.chg K (fun f => f)
        replace hL := hL.chg K (fun f => f)
        replace hP := hP.chg K (fun f => f)
        replace hC := hC.trans K (fun _ f => f.elim)
        replace M1 := M1.chg K
        replace M2 := M2.chg K
        replace M3 := M3.chg K
        generalize hwz : ((dp.alloc (.cells (Pk.zero.cells).toArray 23)).setCells dp.heap.size 0 (z.cells)) = wz at *
        replace hlt1 := Nat.lt_of_lt_of_le hlt1 K.size
        replace hlt2 := Nat.lt_of_lt_of_le hlt2 K.size
        replace hlt3 := Nat.lt_of_lt_of_le hlt3 K.size
        have hwz' := Lib.hid hwz
        have rN := hN.range0
        have rO := hP.range0
        have EQ : (Op.equalIn 10000 23 (.agg (z.cells).toArray) (.agg (z.cells).toArray)).run Try.prog wz = .ok true wz := by rw [run_eq_packet wz z z]; simp
        clear hwz
        go_wp2_with (first | (with_reducible refine wpList_alloc_row rfl _ rfl (Pk.zero.cells) hz ?_) | (with_reducible refine wpList_store_mid rfl 23 _ _ rfl dp.heap.size 0 (z.cells).toArray rfl rfl (by rw [hLs]; exact hth) (by rw [hLs, hrow]) (one_mem hone) ?_; rw [List.toList_toArray, hwz'.out]) | (with_reducible refine wpList_load_w 23 _ rfl ?_ dp.heap.size 0 rfl (z.cells) _ rN Try.underlying23 rfl hLi ?_; focus (first | (simp [Region.wanted, yielded]; done) | (go_simp; done))) | (with_reducible refine wpList_load_w 23 _ rfl ?_ n2 0 rfl z.cells _ rO Try.underlying23 rfl hiz ?_; focus (first | (simp [Region.wanted, yielded]; done) | (go_simp; done))) | (with_reducible refine wpList_neq_w 23 _ _ _ rfl ?_ (xs := (z.cells).toArray) (ys := (z.cells).toArray) rfl rfl packet_guard EQ ?_; focus (first | (simp [Region.wanted, yielded]; done) | (go_simp; done))))
        clear rO rN hN EQ hth hzz K hwz' kd hz
        refine (alive_any _).mono ?_
        rintro e we ⟨rfl, ke⟩
        go_wp2
        go_ret
        exact ⟨rfl, (hC.trans ke (fun _ f => f.elim)).below (Nat.le_refl _) (fun _ f => f.elim)⟩
  | true =>
    rw [rv] at hv
    obtain ⟨v, rfl, ho, _⟩ := hv
    obtain ⟨A, c, rfl, hc, hm, hr, _, _⟩ := ho.slice
    have hle := x.enc_len rv ox
    have HD := DecodeVote_any _ A x.enc.length c x.enc rfl hr (by omega)
    rw [vote_back ox rv] at HD
    have HDD := Lib.hid HD
    clear HD hr ho hm hc hle
    generalize x.enc.length = le at *
    go_wp2_with fail
    refine HDD.out.mono ?_
    clear HDD
    rintro e dv ⟨kd, he⟩
    obtain rfl : e = .returned (.tuple #[.agg x.cells.toArray, .int .i64 0]) := he
    replace hX := hX.chg kd (fun f => f)
    replace hL := hL.chg kd (fun f => f)
    replace hP := hP.chg kd (fun f => f)
    replace hC := hC.trans kd (fun _ f => f.elim)
    replace M1 := M1.chg kd
    replace M2 := M2.chg kd
    replace M3 := M3.chg kd
    replace hlt1 := Nat.lt_of_lt_of_le hlt1 kd.size
    replace hlt2 := Nat.lt_of_lt_of_le hlt2 kd.size
    replace hlt3 := Nat.lt_of_lt_of_le hlt3 kd.size
    have hz := HZV.out dv
    have hzl : (Vt.zero.cells).length = 39 := dVote.zlen
    have hLn : x.cells.length = 39 := x.cells_len ox
    have hone : ∀ v ∈ x.cells, v.oneCell' = true := x.one
    have hrow : (Try.prog.info? 50).map (·.size) = some 39 := dVote.row
    have hzz := Hb.new dv 50 (Vt.zero.cells).toArray
    have hth := hzz.there0
    rw [hzl] at hth
    have hN := hzz.sets0 (L' := x.cells) (by rw [hzl, hLn])
    have hLs : (x.cells).toArray.size = 39 := by rw [List.size_toArray, hLn]
    have hLi : (Try.prog.info? 50).map (·.size) = some (x.cells).length := by rw [hrow, hLn]
    have K := ((Chg.refl Non dv).alloc (.cells (Vt.zero.cells).toArray 50)).trans (Chg.setCells (S := fun j => j = dv.heap.size) rfl (x.cells) _ 0 (Chg.refl _ _)) (fun j hj => .inr (by omega))
    replace hX := hX.chg K (fun f => f)
    replace hL := hL.chg K (fun f => f)
    replace hP := hP.chg K (fun f => f)
    replace hC := hC.trans K (fun _ f => f.elim)
    replace M1 := M1.chg K
    replace M2 := M2.chg K
    replace M3 := M3.chg K
    generalize hwz : ((dv.alloc (.cells (Vt.zero.cells).toArray 50)).setCells dv.heap.size 0 (x.cells)) = wz at *
    replace hlt1 := Nat.lt_of_lt_of_le hlt1 K.size
    replace hlt2 := Nat.lt_of_lt_of_le hlt2 K.size
    replace hlt3 := Nat.lt_of_lt_of_le hlt3 K.size
    have hwz' := Lib.hid hwz
    have rN := hN.range0
    have rL := hL.range0
    have rO := hX.range0
    have EQ : (Op.equalIn 10000 50 (.agg (x.cells).toArray) (.agg (x.cells).toArray)).run Try.prog wz = .ok true wz := by rw [run_eq_vote wz x x ox ox]; simp
    clear hwz
    go_wp2_with (first | (with_reducible refine wpList_alloc_row rfl _ rfl (Vt.zero.cells) hz ?_) | (with_reducible refine wpList_store_mid rfl 50 _ _ rfl dv.heap.size 0 (x.cells).toArray rfl rfl (by rw [hLs]; exact hth) (by rw [hLs, hrow]) (one_mem hone) ?_; rw [List.toList_toArray, hwz'.out]) | (with_reducible refine wpList_load_w 50 _ rfl ?_ dv.heap.size 0 rfl (x.cells) _ rN Try.underlying50 rfl hLi ?_; focus (first | (simp [Region.wanted, yielded]; done) | (go_simp; done))) | (with_reducible refine wpList_load_w 50 _ rfl ?_ W.heap.size 0 rfl x.cells _ rO Try.underlying50 rfl hix ?_; focus (first | (simp [Region.wanted, yielded]; done) | (go_simp; done))) | (with_reducible refine wpList_neq_w 50 _ _ _ rfl ?_ (xs := (x.cells).toArray) (ys := (x.cells).toArray) rfl rfl vote_guard EQ ?_; focus (first | (simp [Region.wanted, yielded]; done) | (go_simp; done))) | (with_reducible refine wpList_load_mid rfl 72 _ rfl n1 0 rfl (y.cells (.slice A1 y.commit.seals.length c1) (.slice A2 y.set.length c2) (.slice A3 y.next.length c3)) _ rL Try.underlying72 rfl hiy ?_))
    clear rO rN hN EQ hth hzz K hwz' kd hz
    refine (EncodeLight_any _ A1 A2 A3 c1 c2 c3 y oy (by unfold maxLen; omega) (by unfold maxLen; omega) (by unfold maxLen; omega) M1 M2 M3).mono ?_
    rintro e wl ⟨kl, hl⟩
    replace hX := hX.chg kl (fun f => f)
    replace hL := hL.chg kl (fun f => f)
    replace hP := hP.chg kl (fun f => f)
    replace hC := hC.trans kl (fun _ f => f.elim)
    replace M1 := M1.chg kl
    replace M2 := M2.chg kl
    replace M3 := M3.chg kl
    replace hlt1 := Nat.lt_of_lt_of_le hlt1 kl.size
    replace hlt2 := Nat.lt_of_lt_of_le hlt2 kl.size
    replace hlt3 := Nat.lt_of_lt_of_le hlt3 kl.size
    clear kl
    cases rl : y.right with
    | false =>
      rw [rl] at hl
      obtain rfl := hl
      have rP := hP.range0
      go_wp2_with (first | (with_reducible refine wpList_load_mid rfl 23 _ rfl n2 0 rfl z.cells _ rP Try.underlying23 rfl hiz ?_))
      refine (EncodePacket_any _ z oz).mono ?_
      rintro e wp ⟨kp, hp⟩
      replace hX := hX.chg kp (fun f => f)
      replace hL := hL.chg kp (fun f => f)
      replace hP := hP.chg kp (fun f => f)
      replace hC := hC.trans kp (fun _ f => f.elim)
      replace M1 := M1.chg kp
      replace M2 := M2.chg kp
      replace M3 := M3.chg kp
      replace hlt1 := Nat.lt_of_lt_of_le hlt1 kp.size
      replace hlt2 := Nat.lt_of_lt_of_le hlt2 kp.size
      replace hlt3 := Nat.lt_of_lt_of_le hlt3 kp.size
      clear kp
      cases rp : z.right with
      | false =>
        rw [rp] at hp
        obtain rfl := hp
        go_wp2_with fail
        refine (alive_any _).mono ?_
        rintro e we ⟨rfl, ke⟩
        go_wp2
        go_ret
        exact ⟨rfl, (hC.trans ke (fun _ f => f.elim)).below (Nat.le_refl _) (fun _ f => f.elim)⟩
      | true =>
        rw [rp] at hp
        obtain ⟨v, rfl, ho, _⟩ := hp
        obtain ⟨A, c, rfl, hc, hm, hr, _, _⟩ := ho.slice
        have hle := z.enc_len rp oz
        have HD := DecodePacket_any _ A z.enc.length c z.enc rfl hr (by omega)
        rw [packet_back oz rp] at HD
        have HDD := Lib.hid HD
        clear HD hr ho hm hc hle
        generalize z.enc.length = le at *
        go_wp2_with fail
        refine HDD.out.mono ?_
        clear HDD
        rintro e dp ⟨kd, he⟩
        obtain rfl : e = .returned (.tuple #[.agg z.cells.toArray, .int .i64 0]) := he
        replace hX := hX.chg kd (fun f => f)
        replace hL := hL.chg kd (fun f => f)
        replace hP := hP.chg kd (fun f => f)
        replace hC := hC.trans kd (fun _ f => f.elim)
        replace M1 := M1.chg kd
        replace M2 := M2.chg kd
        replace M3 := M3.chg kd
        replace hlt1 := Nat.lt_of_lt_of_le hlt1 kd.size
        replace hlt2 := Nat.lt_of_lt_of_le hlt2 kd.size
        replace hlt3 := Nat.lt_of_lt_of_le hlt3 kd.size
        have hz := HZP.out dp
        have hzl : (Pk.zero.cells).length = 4 := dPacket.zlen
        have hLn : z.cells.length = 4 := rfl
        have hone : ∀ v ∈ z.cells, v.oneCell' = true := z.one
        have hrow : (Try.prog.info? 23).map (·.size) = some 4 := dPacket.row
        have hzz := Hb.new dp 23 (Pk.zero.cells).toArray
        have hth := hzz.there0
        rw [hzl] at hth
        have hN := hzz.sets0 (L' := z.cells) (by rw [hzl, hLn])
        have hLs : (z.cells).toArray.size = 4 := by rw [List.size_toArray, hLn]
        have hLi : (Try.prog.info? 23).map (·.size) = some (z.cells).length := by rw [hrow, hLn]
        have K := ((Chg.refl Non dp).alloc (.cells (Pk.zero.cells).toArray 23)).trans (Chg.setCells (S := fun j => j = dp.heap.size) rfl (z.cells) _ 0 (Chg.refl _ _)) (fun j hj => .inr (by omega))
        replace hX := hX.chg K (fun f => f)
        replace hL := hL.chg K (fun f => f)
        replace hP := hP.chg K (fun f => f)
        replace hC := hC.trans K (fun _ f => f.elim)
        replace M1 := M1.chg K
        replace M2 := M2.chg K
        replace M3 := M3.chg K
        generalize hwz : ((dp.alloc (.cells (Pk.zero.cells).toArray 23)).setCells dp.heap.size 0 (z.cells)) = wz at *
        replace hlt1 := Nat.lt_of_lt_of_le hlt1 K.size
        replace hlt2 := Nat.lt_of_lt_of_le hlt2 K.size
        replace hlt3 := Nat.lt_of_lt_of_le hlt3 K.size
        have hwz' := Lib.hid hwz
        have rN := hN.range0
        have rO := hP.range0
        have EQ : (Op.equalIn 10000 23 (.agg (z.cells).toArray) (.agg (z.cells).toArray)).run Try.prog wz = .ok true wz := by rw [run_eq_packet wz z z]; simp
        clear hwz
        go_wp2_with (first | (with_reducible refine wpList_alloc_row rfl _ rfl (Pk.zero.cells) hz ?_) | (with_reducible refine wpList_store_mid rfl 23 _ _ rfl dp.heap.size 0 (z.cells).toArray rfl rfl (by rw [hLs]; exact hth) (by rw [hLs, hrow]) (one_mem hone) ?_; rw [List.toList_toArray, hwz'.out]) | (with_reducible refine wpList_load_w 23 _ rfl ?_ dp.heap.size 0 rfl (z.cells) _ rN Try.underlying23 rfl hLi ?_; focus (first | (simp [Region.wanted, yielded]; done) | (go_simp; done))) | (with_reducible refine wpList_load_w 23 _ rfl ?_ n2 0 rfl z.cells _ rO Try.underlying23 rfl hiz ?_; focus (first | (simp [Region.wanted, yielded]; done) | (go_simp; done))) | (with_reducible refine wpList_neq_w 23 _ _ _ rfl ?_ (xs := (z.cells).toArray) (ys := (z.cells).toArray) rfl rfl packet_guard EQ ?_; focus (first | (simp [Region.wanted, yielded]; done) | (go_simp; done))))
        clear rO rN hN EQ hth hzz K hwz' kd hz
        refine (alive_any _).mono ?_
        rintro e we ⟨rfl, ke⟩
        go_wp2
        go_ret
        exact ⟨rfl, (hC.trans ke (fun _ f => f.elim)).below (Nat.le_refl _) (fun _ f => f.elim)⟩
    | true =>
      rw [rl] at hl
      obtain ⟨v, rfl, ho, _⟩ := hl
      obtain ⟨A, c, rfl, hc, hm, hr, _, _⟩ := ho.slice
      have hle := y.enc_len rl oy
      have HD := DecodeLight_any _ A y.enc.length c y.enc rfl hr (by omega)
      rw [light_back oy rl] at HD
      have HDD := Lib.hid HD
      clear HD hr ho hm hc hle
      generalize y.enc.length = le at *
      go_wp2_with fail
      refine HDD.out.mono ?_
      clear HDD
      rintro e dl ⟨kd, m1, m2, m3, g1, g2, g3, rfl, B1, B2, B3⟩
      replace hX := hX.chg kd (fun f => f)
      replace hL := hL.chg kd (fun f => f)
      replace hP := hP.chg kd (fun f => f)
      replace hC := hC.trans kd (fun _ f => f.elim)
      replace M1 := M1.chg kd
      replace M2 := M2.chg kd
      replace M3 := M3.chg kd
      replace hlt1 := Nat.lt_of_lt_of_le hlt1 kd.size
      replace hlt2 := Nat.lt_of_lt_of_le hlt2 kd.size
      replace hlt3 := Nat.lt_of_lt_of_le hlt3 kd.size
      have hz := HZL.out dl
      have hzl : (ltz).length = 200 := dLight.zlen
      have hLn : (y.cells (sl m1 y.commit.seals.length) (sl m2 y.set.length) (sl m3 y.next.length)).length = 200 := Lt.cells_len y oy _ _ _
      have hone : ∀ v ∈ (y.cells (sl m1 y.commit.seals.length) (sl m2 y.set.length) (sl m3 y.next.length)), v.oneCell' = true := y.one m1 m2 m3
      have hrow : (Try.prog.info? 72).map (·.size) = some 200 := dLight.row
      generalize hcl : (y.cells (sl m1 y.commit.seals.length) (sl m2 y.set.length) (sl m3 y.next.length)) = L at *
      have HCL := Lib.hid hcl
      clear hcl
      have hzz := Hb.new dl 72 (ltz).toArray
      have hth := hzz.there0
      rw [hzl] at hth
      have hN := hzz.sets0 (L' := L) (by rw [hzl, hLn])
      have hLs : (L).toArray.size = 200 := by rw [List.size_toArray, hLn]
      have hLi : (Try.prog.info? 72).map (·.size) = some (L).length := by rw [hrow, hLn]
      have K := ((Chg.refl Non dl).alloc (.cells (ltz).toArray 72)).trans (Chg.setCells (S := fun j => j = dl.heap.size) rfl (L) _ 0 (Chg.refl _ _)) (fun j hj => .inr (by omega))
      replace hX := hX.chg K (fun f => f)
      replace hL := hL.chg K (fun f => f)
      replace hP := hP.chg K (fun f => f)
      replace hC := hC.trans K (fun _ f => f.elim)
      replace M1 := M1.chg K
      replace M2 := M2.chg K
      replace M3 := M3.chg K
      replace B1 := B1.chg K (fun f => f)
      replace B2 := B2.chg K (fun f => f)
      replace B3 := B3.chg K (fun f => f)
      generalize hwz : ((dl.alloc (.cells (ltz).toArray 72)).setCells dl.heap.size 0 (L)) = wz at *
      replace hlt1 := Nat.lt_of_lt_of_le hlt1 K.size
      replace hlt2 := Nat.lt_of_lt_of_le hlt2 K.size
      replace hlt3 := Nat.lt_of_lt_of_le hlt3 K.size
      have hwz' := Lib.hid hwz
      have rN := hN.range0
      have rP := hP.range0
      have rO := hL.range0
      clear hwz
      go_wp2_with (first | (with_reducible refine wpList_alloc_row rfl _ rfl (ltz) hz ?_) | (with_reducible refine wpList_store_mid rfl 72 _ _ rfl dl.heap.size 0 (L).toArray rfl rfl (by rw [hLs]; exact hth) (by rw [hLs, hrow]) (one_mem hone) ?_; rw [List.toList_toArray, hwz'.out]) | (with_reducible refine wpList_load_mid rfl 72 _ rfl dl.heap.size 0 rfl L _ rN Try.underlying72 rfl hLi ?_) | (with_reducible refine wpList_load_mid rfl 72 _ rfl n1 0 rfl (y.cells (.slice A1 y.commit.seals.length c1) (.slice A2 y.set.length c2) (.slice A3 y.next.length c3)) _ rO Try.underlying72 rfl hiy ?_))
      have HS := sameLight_yes wz (some ⟨m1, 0, none⟩) (some ⟨m2, 0, none⟩) (some ⟨m3, 0, none⟩) A1 A2 A3 y.commit.seals.length y.set.length y.next.length c1 c2 c3 y oy (by unfold maxLen; omega) (by unfold maxLen; omega) (by unfold maxLen; omega) (lstM_new (fun _ => rfl) B1) (lstM_new (fun _ => rfl) B2) (lstM_new (fun _ => rfl) B3) M1 M2 M3
      have hcl : y.cells (.slice (some ⟨m1, 0, none⟩) y.commit.seals.length y.commit.seals.length) (.slice (some ⟨m2, 0, none⟩) y.set.length y.set.length) (.slice (some ⟨m3, 0, none⟩) y.next.length y.next.length) = L := HCL.out
      rw [hcl] at HS
      refine HS.mono ?_
      rintro e ws ⟨rfl, ks⟩
      replace hX := hX.chg ks (fun f => f)
      replace hL := hL.chg ks (fun f => f)
      replace hP := hP.chg ks (fun f => f)
      replace hC := hC.trans ks (fun _ f => f.elim)
      replace M1 := M1.chg ks
      replace M2 := M2.chg ks
      replace M3 := M3.chg ks
      replace hlt1 := Nat.lt_of_lt_of_le hlt1 ks.size
      replace hlt2 := Nat.lt_of_lt_of_le hlt2 ks.size
      replace hlt3 := Nat.lt_of_lt_of_le hlt3 ks.size
      clear rP rO rN hN HS hcl HCL B1 B2 B3 hth hzz K hwz' kd hz
      have rP := hP.range0
      go_wp2_with (first | (with_reducible refine wpList_load_mid rfl 23 _ rfl n2 0 rfl z.cells _ rP Try.underlying23 rfl hiz ?_))
      refine (EncodePacket_any _ z oz).mono ?_
      rintro e wp ⟨kp, hp⟩
      replace hX := hX.chg kp (fun f => f)
      replace hL := hL.chg kp (fun f => f)
      replace hP := hP.chg kp (fun f => f)
      replace hC := hC.trans kp (fun _ f => f.elim)
      replace M1 := M1.chg kp
      replace M2 := M2.chg kp
      replace M3 := M3.chg kp
      replace hlt1 := Nat.lt_of_lt_of_le hlt1 kp.size
      replace hlt2 := Nat.lt_of_lt_of_le hlt2 kp.size
      replace hlt3 := Nat.lt_of_lt_of_le hlt3 kp.size
      clear kp
      cases rp : z.right with
      | false =>
        rw [rp] at hp
        obtain rfl := hp
        go_wp2_with fail
        refine (alive_any _).mono ?_
        rintro e we ⟨rfl, ke⟩
        go_wp2
        go_ret
        exact ⟨rfl, (hC.trans ke (fun _ f => f.elim)).below (Nat.le_refl _) (fun _ f => f.elim)⟩
      | true =>
        rw [rp] at hp
        obtain ⟨v, rfl, ho, _⟩ := hp
        obtain ⟨A, c, rfl, hc, hm, hr, _, _⟩ := ho.slice
        have hle := z.enc_len rp oz
        have HD := DecodePacket_any _ A z.enc.length c z.enc rfl hr (by omega)
        rw [packet_back oz rp] at HD
        have HDD := Lib.hid HD
        clear HD hr ho hm hc hle
        generalize z.enc.length = le at *
        go_wp2_with fail
        refine HDD.out.mono ?_
        clear HDD
        rintro e dp ⟨kd, he⟩
        obtain rfl : e = .returned (.tuple #[.agg z.cells.toArray, .int .i64 0]) := he
        replace hX := hX.chg kd (fun f => f)
        replace hL := hL.chg kd (fun f => f)
        replace hP := hP.chg kd (fun f => f)
        replace hC := hC.trans kd (fun _ f => f.elim)
        replace M1 := M1.chg kd
        replace M2 := M2.chg kd
        replace M3 := M3.chg kd
        replace hlt1 := Nat.lt_of_lt_of_le hlt1 kd.size
        replace hlt2 := Nat.lt_of_lt_of_le hlt2 kd.size
        replace hlt3 := Nat.lt_of_lt_of_le hlt3 kd.size
        have hz := HZP.out dp
        have hzl : (Pk.zero.cells).length = 4 := dPacket.zlen
        have hLn : z.cells.length = 4 := rfl
        have hone : ∀ v ∈ z.cells, v.oneCell' = true := z.one
        have hrow : (Try.prog.info? 23).map (·.size) = some 4 := dPacket.row
        have hzz := Hb.new dp 23 (Pk.zero.cells).toArray
        have hth := hzz.there0
        rw [hzl] at hth
        have hN := hzz.sets0 (L' := z.cells) (by rw [hzl, hLn])
        have hLs : (z.cells).toArray.size = 4 := by rw [List.size_toArray, hLn]
        have hLi : (Try.prog.info? 23).map (·.size) = some (z.cells).length := by rw [hrow, hLn]
        have K := ((Chg.refl Non dp).alloc (.cells (Pk.zero.cells).toArray 23)).trans (Chg.setCells (S := fun j => j = dp.heap.size) rfl (z.cells) _ 0 (Chg.refl _ _)) (fun j hj => .inr (by omega))
        replace hX := hX.chg K (fun f => f)
        replace hL := hL.chg K (fun f => f)
        replace hP := hP.chg K (fun f => f)
        replace hC := hC.trans K (fun _ f => f.elim)
        replace M1 := M1.chg K
        replace M2 := M2.chg K
        replace M3 := M3.chg K
        generalize hwz : ((dp.alloc (.cells (Pk.zero.cells).toArray 23)).setCells dp.heap.size 0 (z.cells)) = wz at *
        replace hlt1 := Nat.lt_of_lt_of_le hlt1 K.size
        replace hlt2 := Nat.lt_of_lt_of_le hlt2 K.size
        replace hlt3 := Nat.lt_of_lt_of_le hlt3 K.size
        have hwz' := Lib.hid hwz
        have rN := hN.range0
        have rO := hP.range0
        have EQ : (Op.equalIn 10000 23 (.agg (z.cells).toArray) (.agg (z.cells).toArray)).run Try.prog wz = .ok true wz := by rw [run_eq_packet wz z z]; simp
        clear hwz
        go_wp2_with (first | (with_reducible refine wpList_alloc_row rfl _ rfl (Pk.zero.cells) hz ?_) | (with_reducible refine wpList_store_mid rfl 23 _ _ rfl dp.heap.size 0 (z.cells).toArray rfl rfl (by rw [hLs]; exact hth) (by rw [hLs, hrow]) (one_mem hone) ?_; rw [List.toList_toArray, hwz'.out]) | (with_reducible refine wpList_load_w 23 _ rfl ?_ dp.heap.size 0 rfl (z.cells) _ rN Try.underlying23 rfl hLi ?_; focus (first | (simp [Region.wanted, yielded]; done) | (go_simp; done))) | (with_reducible refine wpList_load_w 23 _ rfl ?_ n2 0 rfl z.cells _ rO Try.underlying23 rfl hiz ?_; focus (first | (simp [Region.wanted, yielded]; done) | (go_simp; done))) | (with_reducible refine wpList_neq_w 23 _ _ _ rfl ?_ (xs := (z.cells).toArray) (ys := (z.cells).toArray) rfl rfl packet_guard EQ ?_; focus (first | (simp [Region.wanted, yielded]; done) | (go_simp; done))))
        clear rO rN hN EQ hth hzz K hwz' kd hz
        refine (alive_any _).mono ?_
        rintro e we ⟨rfl, ke⟩
        go_wp2
        go_ret
        exact ⟨rfl, (hC.trans ke (fun _ f => f.elim)).below (Nat.le_refl _) (fun _ f => f.elim)⟩

/-! ### The row's frame -/
theorem own : ownKnob Try.prog.godebug = none := by kernel_rfl
theorem walkA (W : World) (args : Array Value) (hsz : args.size = Try.f6.params.size) (hok : ∀ (j : Nat) (t : TypeId) (v : Value), Try.f6.params[j]? = some t → args[j]? = some v → Okv Try.prog W t v) :
    Calls Try.prog 6 args W fun e W' => e = .returned (.bool true) ∧ Below W.heap.size W W' := by
  rw [Try.params6] at hsz hok
  obtain ⟨v0, v1, v2, rfl⟩ : ∃ v0 v1 v2 : Value, args = #[v0, v1, v2] := by
    obtain ⟨l⟩ := args
    match l, hsz with
    | [v0, v1, v2], _ => exact ⟨v0, v1, v2, rfl⟩
  exact walk W v0 v1 v2 (hok 0 50 v0 rfl rfl) (hok 1 72 v1 rfl rfl) (hok 2 23 v2 rfl rfl)
set_option maxRecDepth 100000 in
theorem lifted (os : Os) (started : os.Started) (H : Type) (enc : TypeId × Value → H) :
    ReturnsInHanded {} Try.checked os 6 .any (Rows.formBackSpec.pre6 enc Try.prog Try.f6 Rows.formBackRow.domain false) (Rows.formBackSpec.post enc Try.prog Try.f6 false true false false) :=
  lifted_of_walk (C := Try.checked) (s := Rows.formBackSpec) (conds := Rows.formBackRow.domain) (apart := false) (fresh := true) (T := 4) own started (by kernel_rfl) Try.func6
    (ChangeSpec.witness6 (enc := enc) (C := Try.checked) false ⟨#[], #[.agg Vt.zero.cells.toArray, .agg ltz.toArray, .agg Pk.zero.cells.toArray], []⟩ 8 (by kernel_rfl) (by kernel_rfl) (by kernel_rfl) (by kernel_rfl))
    rfl (fun ds hd => by
      rw [Try.params6] at hd
      match ds, hd with
      | [d0, d1, d2], _ => exact ⟨rfl, rfl, rfl⟩)
    (by kernel_rfl) Try.underlying4 (by kernel_rfl) (by rw [Try.params6]; intro t ht; simp only [List.mem_cons, List.not_mem_nil, or_false] at ht; rcases ht with rfl | rfl | rfl <;> exact ⟨by kernel_rfl, of_decide_eq_true (by kernel_rfl)⟩) walkA

theorem holds : Rows.formBackRow.holds Try.pinned (OpenSpec.ofChange Rows.formBackSpec) :=
  OpenClaim.holds_of_wide 6 Try.f6 rfl rfl rfl rfl rfl rfl rfl ⟨rfl, rfl, rfl, rfl, rfl⟩ rfl rfl rfl rfl rfl (by kernel_rfl) Try.func6 (by kernel_rfl)
    (of_decide_eq_true (by kernel_rfl)) (by unfold Func.isWrapper; first | (rw [if_pos (by decide +kernel)]; kernel_rfl) | (rw [if_neg (by decide +kernel)]; exact ⟨rfl, rfl⟩))
    (fun os started H enc _ => lifted os started H enc)
end Go.Proofs.Ytjcfdclgddjaoaa.formBack
namespace Go.Proofs.Ytjcfdclgddjaoaa
/-- The statement. -/
theorem formBack_holds : Rows.FormBackSaid := formBack.holds
end Go.Proofs.Ytjcfdclgddjaoaa
