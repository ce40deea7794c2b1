/- One op on both tapes. -/
import Derived.Test.YtenhicipgkjckaaJl
import Derived.Test.YtenhicipgkjckaaJs
namespace Go.Proofs.Ytenhicipgkjckaa
open Go.RowKit
set_option linter.unusedVariables false
set_option linter.unusedSimpArgs false
set_option maxRecDepth 20000

/-- Both tapes have H; all that is theirs is new since W, and nothing is both's. -/
structure Bo (W w : World) (g : Nat) (F : Nat → Prop) (m : Nat) (G : Nat → Prop) (H : List St) : Prop where
  t : TP w g F H
  r : RP w m G H
  dis : ∀ j, F j → ¬ G j
  fw : ∀ j, F j → W.heap.size ≤ j
  gw : ∀ j, G j → W.heap.size ≤ j
  K : Chg Non W w
section
variable {W w w' : World} {g : Nat} {F : Nat → Prop} {m : Nat} {G : Nat → Prop} {H H' : List St}
theorem Bo.non (b : Bo W w g F m G H) (k : Chg Non w w') : Bo W w' g F m G H := ⟨b.t.chg k (fun _ _ f => f), b.r.chg k (fun _ _ f => f), b.dis, b.fw, b.gw, b.K.trans k (fun _ f => .inl f)⟩
/-- The tape alone has gone on. -/
structure Half (W w' : World) (g : Nat) (F' : Nat → Prop) (m : Nat) (G : Nat → Prop) (H H' : List St) : Prop where
  t : TP w' g F' H'
  r : RP w' m G H
  dis : ∀ j, F' j → ¬ G j
  fw : ∀ j, F' j → W.heap.size ≤ j
  gw : ∀ j, G j → W.heap.size ≤ j
  K : Chg Non W w'
theorem Bo.half (b : Bo W w g F m G H) (k : Chg F w w') {F' : Nat → Prop} (t : TP w' g F' H') (hF : ∀ j, F' j → F j ∨ w.heap.size ≤ j) : Half W w' g F' m G H H' := by
  have hks := b.K.size
  refine ⟨t, b.r.chg k (fun j h1 h2 => b.dis j h2 h1), fun j hj h2 => ?_, fun j hj => ?_, b.gw, b.K.trans k (fun j hj => .inr (b.fw j hj))⟩
  · rcases hF j hj with h | h
    · exact b.dis j h h2
    · have := b.r.lt j h2; omega
  · rcases hF j hj with h | h
    · exact b.fw j h
    · omega
theorem Half.both (b : Half W w g F m G H H') (k : Chg G w w') {G' : Nat → Prop} (r : RP w' m G' H') (hG : ∀ j, G' j → G j ∨ w.heap.size ≤ j) : Bo W w' g F m G' H' := by
  have hks := b.K.size
  refine ⟨b.t.chg k (fun j h1 h2 => b.dis j h1 h2), r, fun j hj h2 => ?_, b.fw, fun j hj => ?_, b.K.trans k (fun j hj => .inr (b.gw j hj))⟩
  · rcases hG j h2 with h | h
    · exact b.dis j hj h
    · have := b.t.lt j hj; omega
  · rcases hG j hj with h | h
    · exact b.gw j h
    · omega
end
def mAct (o : Opn) (H : List St) : Int × List St := if o.k = 1 then mAppend H o.b else if o.k = 2 then mSync H else if o.k = 3 then mTrim H o.n else (0, H)

theorem ent_Append (args : Array Value) (w : World) : (callFunc 11 args).run Try.prog w = .ok (.enter 11 args) w := enters_of Try.func11 (by kernel_rfl) rfl args w
theorem ent_rAppend (args : Array Value) (w : World) : (callFunc 15 args).run Try.prog w = .ok (.enter 15 args) w := enters_of Try.func15 (by kernel_rfl) rfl args w
theorem ent_Trim (args : Array Value) (w : World) : (callFunc 17 args).run Try.prog w = .ok (.enter 17 args) w := enters_of Try.func17 (by kernel_rfl) rfl args w
theorem ent_rTrim (args : Array Value) (w : World) : (callFunc 18 args).run Try.prog w = .ok (.enter 18 args) w := enters_of Try.func18 (by kernel_rfl) rfl args w

/-- What an op leaves. -/
def Acted (W : World) (g m : Nat) (r : Int × List St) (e : Ending) (w' : World) : Prop := e = .returned (.tuple #[.int .i64 r.1, .int .i64 r.1]) ∧ ∃ F' G', Bo W w' g F' m G' r.2

set_option maxHeartbeats 1600000 in
theorem act_any (W w : World) (g : Nat) (F : Nat → Prop) (m : Nat) (G : Nat → Prop) (H : List St) (b : Bo W w g F m G H) (o : Opn) (ok : o.Ok W) (hH : H.length ≤ 1000) :
    Calls Try.prog 7 #[.agg o.cells.toArray, .pointer (some ⟨g, 0, none⟩), .pointer (some ⟨m, 0, none⟩)] w fun e w' => Acted W g m (mAct o H) e w' := by
  obtain ⟨k, n, mm, A, l, c⟩ := o
  change Calls _ _ #[.agg #[.int .i64 k, .int .i64 n, .int .i64 mm, .slice A l.length c], .pointer (some ⟨g, 0, none⟩), .pointer (some ⟨m, 0, none⟩)] _ _
  have kb := (Chg.refl Non w).alloc (.cells #[.int .i64 k, .int .i64 n, .int .i64 mm, .slice A l.length c] 25)
  have bx := Hb.new w 25 #[.int .i64 k, .int .i64 n, .int .i64 mm, .slice A l.length c]
  have bb := b.non kb
  have HOK := Lib.hid ok
  have hfn : ¬ F w.heap.size := fun h => by have := b.t.lt _ h; omega
  by_cases h1 : k = 1
  · subst h1
    have hm : mAct ⟨1, n, mm, A, l, c⟩ H = mAppend H l := rfl
    rw [hm]
    have bd := bb.non ((Chg.refl Non _).drew)
    have bxd := bx.chg ((Chg.refl Non _).drew) (fun f => f)
    have BD := Lib.hid bd
    have BXD := Lib.hid bxd
    have x3 : (w.alloc (.cells #[.int .i64 1, .int .i64 n, .int .i64 mm, .slice A l.length c] 25)).cell? ⟨w.heap.size, 3, none⟩ = some (.slice A l.length c) := bx.cell 3
    have RD := Lib.hid (ok.rd)
    have LM := Lib.hid (ok.bl)
    clear ok b bd bxd bb kb bx
    go_enter Try.func7, Try.ntmps7
    go_wp2_with fail
    go_region_law (first
      | (refine step_call _ (by rfl) 11 _ _ (by rfl) (by rfl) ent_Append (Append_any _ g F H BD.out.t A l.length c l rfl LM.out (RD.out.chg BD.out.K (fun _ _ f => f)) hH) ?_; rintro e w1 ⟨rfl, k1, F1, t1, hF1⟩; have hf := BD.out.half k1 t1 hF1; have bx1 := BXD.out.chg k1 hfn; have y3 : w1.cell? ⟨w.heap.size, 3, none⟩ = some (.slice A l.length c) := bx1.cell 3; refine ⟨_, rfl, ?_⟩)
      | (refine step_call _ (by rfl) 15 _ _ (by rfl) (by rfl) ent_rAppend (rAppend_any _ m G H hf.r A l.length c l rfl LM.out (RD.out.chg hf.K (fun _ _ f => f)) hH) ?_; rintro e w2 ⟨rfl, k2, G2, r2, hG2⟩; refine ⟨_, rfl, ?_⟩)
      | fail)
    all_goals
      go_wp2
      go_ret2
      exact ⟨rfl, F1, G2, hf.both k2 r2 hG2⟩
  have k1 : (k == 1) = false := by simpa using h1
  by_cases h2 : k = 2
  · subst h2
    have hm : mAct ⟨2, n, mm, A, l, c⟩ H = mSync H := rfl
    rw [hm]
    have BB := Lib.hid bb
    clear ok b bb kb bx
    go_enter Try.func7, Try.ntmps7
    go_wp2_with fail
    refine (Sync_any _ _ _ _ BB.out.t hH).mono ?_
    rintro e w1 ⟨rfl, q1, F1, t1, hF1⟩
    have hf := BB.out.half q1 t1 hF1
    go_wp2_with fail
    refine (rSync_any _ _ _ _ hf.r hH).mono ?_
    rintro e w2 ⟨rfl, k2, G2, r2, hG2⟩
    go_wp2
    go_ret2
    exact ⟨rfl, F1, G2, hf.both k2 r2 hG2⟩
  have k2 : (k == 2) = false := by simpa using h2
  by_cases h3 : k = 3
  · subst h3
    have hm : mAct ⟨3, n, mm, A, l, c⟩ H = mTrim H n := rfl
    rw [hm]
    have bd := bb.non ((Chg.refl Non _).drew)
    have bxd := bx.chg ((Chg.refl Non _).drew) (fun f => f)
    have BD := Lib.hid bd
    have BXD := Lib.hid bxd
    have x1 : (w.alloc (.cells #[.int .i64 3, .int .i64 n, .int .i64 mm, .slice A l.length c] 25)).cell? ⟨w.heap.size, 1, none⟩ = some (.int .i64 n) := bx.cell 1
    clear ok b bd bxd bb kb bx
    go_enter Try.func7, Try.ntmps7
    go_wp2_with fail
    go_region_law (first
      | (refine step_call _ (by rfl) 17 _ _ (by rfl) (by rfl) ent_Trim (Trim_any _ g F H BD.out.t n HOK.out.n1 HOK.out.n2 hH) ?_; rintro e w1 ⟨rfl, q1, F1, t1, hF1⟩; have hf := BD.out.half q1 t1 hF1; have bx1 := BXD.out.chg q1 hfn; have y1 : w1.cell? ⟨w.heap.size, 1, none⟩ = some (.int .i64 n) := bx1.cell 1; refine ⟨_, rfl, ?_⟩)
      | (refine step_call _ (by rfl) 18 _ _ (by rfl) (by rfl) ent_rTrim (rTrim_any _ m G H hf.r n HOK.out.n1 HOK.out.n2 hH) ?_; rintro e w2 ⟨rfl, q2, G2, r2, hG2⟩; refine ⟨_, rfl, ?_⟩)
      | fail)
    all_goals
      go_wp2
      go_ret2
      exact ⟨rfl, F1, G2, hf.both q2 r2 hG2⟩
  have k3 : (k == 3) = false := by simpa using h3
  have hm : mAct ⟨k, n, mm, A, l, c⟩ H = (0, H) := by
    unfold mAct
    rw [if_neg h1, if_neg h2, if_neg h3]
  rw [hm]
  have BB := Lib.hid bb
  clear ok b bb kb bx
  go_enter Try.func7, Try.ntmps7
  go_wp2
  go_ret2
  exact ⟨rfl, F, G, BB.out⟩

end Go.Proofs.Ytenhicipgkjckaa
