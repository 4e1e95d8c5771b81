/- The helpers of the exact laws on batches: a batch is copied, two are the same. -/
import Derived.Test.YtomlejfilfdnbaaL5b
namespace Go.Proofs.Ytomlejfilfdnbaa
open Go.ChangeShapes Go.WideShapes Go.ChangeAt Go.RowKit
set_option linter.unusedVariables false

/-- twelve cells: two records that are the same -/
def SixSix (W : World) (b q b' q' : Nat) (v0 v1 v2 k1 v4 u1 k2 u2 : Value) : Prop :=
  W.cell? ⟨b, q, none⟩ = some v0 ∧ W.cell? ⟨b, q + 1, none⟩ = some v1 ∧ W.cell? ⟨b, q + 2, none⟩ = some v2 ∧ W.cell? ⟨b, q + 3, none⟩ = some k1 ∧ W.cell? ⟨b, q + 4, none⟩ = some v4 ∧ W.cell? ⟨b, q + 5, none⟩ = some u1 ∧
  W.cell? ⟨b', q', none⟩ = some v0 ∧ W.cell? ⟨b', q' + 1, none⟩ = some v1 ∧ W.cell? ⟨b', q' + 2, none⟩ = some v2 ∧ W.cell? ⟨b', q' + 3, none⟩ = some k2 ∧ W.cell? ⟨b', q' + 4, none⟩ = some v4 ∧ W.cell? ⟨b', q' + 5, none⟩ = some u2
/-- a copy of a batch, in memory of its own -/
def BatCopy (w : World) (b : Bat) (e : Ending) (w' : World) : Prop := ∃ v, e = .returned v ∧ BatOwn w' w.heap.size v b ∧ Below w.heap.size w w'
theorem Row6.grown' {w w' : World} {base n B : Nat} {v : Value} {f : Nat → Value} (h : Row6 w base v n f) (hg : w.grownBy w' (some B)) (hB : B < base) : Row6 w' base v n f := h.kept hg (by
  cases e : v.ownBlock with
  | none => exact .inl rfl
  | some q => exact .inr fun e2 => by have := (h.lt q e).1; simp only [Option.some.injEq] at e2; omega)
theorem OwnRecs.by {w w' : World} {base B : Nat} {v : Value} {rs : List Rec} (h : OwnRecs w base v rs) (hB : B < base) (hg : w.grownBy w' (some B)) : OwnRecs w' base v rs := by
  obtain ⟨kv, vv, h1, h2, h3⟩ := h
  exact ⟨kv, vv, h1.grown' hg hB, fun i hi => ⟨(h2 i hi).1.by hB hg, (h2 i hi).2.by hB hg⟩, h3⟩
theorem Row6.base {w : World} {base b n : Nat} {v : Value} {f : Nat → Value} (h : Row6 w base v n f) (hb : b ≤ base) : Row6 w b v n f := by
  obtain ⟨xs, h, hx⟩ := h
  refine ⟨xs, ⟨h.1, ?_⟩, hx⟩
  rcases h.2 with h0 | ⟨g, cap, cur, e, hg, rest⟩
  · exact .inl h0
  · exact .inr ⟨g, cap, cur, e, Nat.le_trans hb hg, rest⟩
theorem OwnRecs.base {w : World} {base b : Nat} {v : Value} {rs : List Rec} (h : OwnRecs w base v rs) (hb : b ≤ base) : OwnRecs w b v rs := by
  obtain ⟨kv, vv, h1, h2, h3⟩ := h
  exact ⟨kv, vv, h1.base hb, fun i hi => ⟨(h2 i hi).1.base hb, (h2 i hi).2.base hb⟩, h3⟩
theorem OwnRecs.form {w : World} {base : Nat} {v : Value} {rs : List Rec} (h : OwnRecs w base v rs) : ∃ a cap, v = .slice a rs.length cap := by
  obtain ⟨a, cap, rfl, _⟩ := h.recs
  exact ⟨a, cap, rfl⟩

set_option maxHeartbeats 1000000 in
theorem laws_toBatch (v : Value) (b : Bat) (w : World) (h : BatV w v b) (hs : b.recs.length + szL b.recs ≤ 100000000) : Calls Try.prog 15 #[v] w (BatCopy w b) := by
  obtain ⟨a, cap, rfl, hr, hl, hm⟩ := h.parts
  clear h
  obtain ⟨packed, mark, prod, epoch, seq, recs⟩ := b
  simp only at hr hl hs ⊢
  have C1 : Hid (∀ wn, Below w.heap.size w wn → Calls Try.prog 23 #[.slice a recs.length cap] wn (RecsCopy wn recs)) := Lib.hid fun wn hw => laws_toRecordS _ recs wn (hr.below hw) hs
  have bA := alloc_below' w (.cells #[.bool packed, .bool mark, .int .i64 prod, .int .i64 epoch, .int .i64 seq, .slice a recs.length cap] 32)
  have bZ := alloc_below' (w.alloc (.cells #[.bool packed, .bool mark, .int .i64 prod, .int .i64 epoch, .int .i64 seq, .slice a recs.length cap] 32)) (.cells #[.bool false, .bool false, .int .i64 0, .int .i64 0, .int .i64 0, .slice none 0 0] 37)
  have bX := alloc_below' ((w.alloc (.cells #[.bool packed, .bool mark, .int .i64 prod, .int .i64 epoch, .int .i64 seq, .slice a recs.length cap] 32)).alloc (.cells #[.bool false, .bool false, .int .i64 0, .int .i64 0, .int .i64 0, .slice none 0 0] 37)) (.cells #[.bool packed, .bool mark, .int .i64 prod, .int .i64 epoch, .int .i64 seq, .slice none 0 0] 37)
  go_enter Try.func15, Try.ntmps15
  go_upto_region 7 with (fail)
  have xA := ((Blk.made w #[.bool packed, .bool mark, .int .i64 prod, .int .i64 epoch, .int .i64 seq, .slice a recs.length cap] 32).belowS bZ).belowS bX
  have xZ := (Blk.made (w.alloc (.cells #[.bool packed, .bool mark, .int .i64 prod, .int .i64 epoch, .int .i64 seq, .slice a recs.length cap] 32)) #[.bool false, .bool false, .int .i64 0, .int .i64 0, .int .i64 0, .slice none 0 0] 37).belowS bX
  have xX := Blk.made ((w.alloc (.cells #[.bool packed, .bool mark, .int .i64 prod, .int .i64 epoch, .int .i64 seq, .slice a recs.length cap] 32)).alloc (.cells #[.bool false, .bool false, .int .i64 0, .int .i64 0, .int .i64 0, .slice none 0 0] 37)) #[.bool packed, .bool mark, .int .i64 prod, .int .i64 epoch, .int .i64 seq, .slice none 0 0] 37
  have B0 := Bstep (Bstep bA bZ) bX
  clear bA bZ bX
  simp only [alloc_size] at xZ xX
  generalize hwb : (((w.alloc (.cells #[.bool packed, .bool mark, .int .i64 prod, .int .i64 epoch, .int .i64 seq, .slice a recs.length cap] 32)).alloc (.cells #[.bool false, .bool false, .int .i64 0, .int .i64 0, .int .i64 0, .slice none 0 0] 37)).alloc (.cells #[.bool packed, .bool mark, .int .i64 prod, .int .i64 epoch, .int .i64 seq, .slice none 0 0] 37)) = wb at xA xZ xX B0 ⊢
  clear hwb
  obtain ⟨Z, hZ⟩ : ∃ Z, w.heap.size + 1 = Z := ⟨_, rfl⟩
  obtain ⟨X, hX⟩ : ∃ X, w.heap.size + 1 + 1 = X := ⟨_, rfl⟩
  rw [hX] at xX ⊢
  rw [hZ] at xZ ⊢
  have hZX : Z ≠ X := by omega
  have hXZ : X ≠ Z := by omega
  have hZA : w.heap.size ≤ Z := by omega
  have hXA : w.heap.size ≤ X := by omega
  clear hZ hX
  obtain ⟨c0, c1, c2, c3, c4, c5⟩ := xA.sixC
  go_wp2_with fail
  (with_reducible refine (C1.out wb B0).mono ?_)
  rintro e w1 ⟨v1, rfl, own1, b1⟩
  obtain ⟨g1, cap1, rfl⟩ := own1.form
  have ltZ := xZ.lt
  have ltX := xX.lt
  have xZ1 := xZ.belowS b1
  have xX1 := xX.belowS b1
  have B1 := Bstep B0 b1
  clear c0 c1 c2 c3 c4 c5 xA xZ xX B0 b1
  have gX := set_grown w1 X 5 (.slice g1 recs.length cap1)
  have zX : Blk (w1.setCell ⟨X, 5, none⟩ (.slice g1 recs.length cap1)) Z _ := xZ1.other hZX
  have oX := own1.by ltX gX
  have BX : Below w.heap.size w (w1.setCell ⟨X, 5, none⟩ (.slice g1 recs.length cap1)) := B1.setCell hXA _
  have zz := zX.six (.bool packed) (.bool mark) (.int .i64 prod) (.int .i64 epoch) (.int .i64 seq) (.slice g1 recs.length cap1)
  have gZ := six_grown (w1.setCell ⟨X, 5, none⟩ (.slice g1 recs.length cap1)) Z (.bool packed) (.bool mark) (.int .i64 prod) (.int .i64 epoch) (.int .i64 seq) (.slice g1 recs.length cap1)
  have oZ := (oX.by ltZ gZ).base (show w.heap.size ≤ wb.heap.size by omega)
  have bel8 := bel_six BX hZA (.bool packed) (.bool mark) (.int .i64 prod) (.int .i64 epoch) (.int .i64 seq) (.slice g1 recs.length cap1)
  obtain ⟨d0, d1, d2, d3, d4, d5⟩ := xX1.sixC
  obtain ⟨e0, e1, e2, e3, e4, e5⟩ := xZ1.sixC
  have fx := xX1.free
  have fz := xZ1.free
  clear gX zX oX BX gZ xZ1 xX1 own1 B1
  go_wp2_with fail
  generalize hW8 : (((((((w1.setCell ⟨X, 5, none⟩ (.slice g1 recs.length cap1)).setCell ⟨Z, 0, none⟩ (.bool packed)).setCell ⟨Z, 1, none⟩ (.bool mark)).setCell ⟨Z, 2, none⟩ (.int .i64 prod)).setCell ⟨Z, 3, none⟩ (.int .i64 epoch)).setCell ⟨Z, 4, none⟩ (.int .i64 seq)).setCell ⟨Z, 5, none⟩ (.slice g1 recs.length cap1)) = W8 at zz oZ bel8 ⊢
  clear d0 d1 d2 d3 d4 d5 e0 e1 e2 e3 e4 e5 fx fz hW8
  obtain ⟨c0, c1, c2, c3, c4, c5⟩ := zz.sixC
  refine bodyPost_ret (v := .agg #[.bool packed, .bool mark, .int .i64 prod, .int .i64 epoch, .int .i64 seq, .slice g1 recs.length cap1]) (by simp [results, Try.results15, go_sem, c0, c1, c2, c3, c4, c5]) rfl ?_
  exact ⟨_, rfl, ⟨_, rfl, oZ⟩, bel8⟩

set_option maxHeartbeats 1000000 in
theorem laws_eqRecordS (v u : Value) (rs : List Rec) (w : World) (h : Recs w v rs) (g : Recs w u rs) : Calls Try.prog 27 #[v, u] w (Same w true) := by
  have hv := h
  have hu := g
  obtain ⟨a, cap, rfl, hl, hm, hc⟩ := h
  obtain ⟨a', cap', rfl, hl', hm', hc'⟩ := g
  unfold maxLen at hm hm'
  clear hc hc'
  have q0 : ((rs.length : Int) != (rs.length : Int)) = false := by simp
  go_enter Try.func27, Try.ntmps27
  go_wp2_with fail
  go_loopw [5] (fun i wr => ∃ k : Nat, k ≤ rs.length ∧ i = .int .i64 k ∧ Below w.heap.size w wr) (fun i _ => rs.length - (intOf i).toNat)
  case atStart => exact ⟨0, Nat.zero_le _, rfl, Below.refl _ _⟩
  case round =>
    obtain ⟨k, hk, rfl, bel⟩ := hrel
    by_cases hlt : k < rs.length
    · obtain ⟨b, off, cp, e, hmm⟩ := hv.form (by omega)
      simp only [Value.slice.injEq, true_and] at e
      obtain ⟨rfl, rfl⟩ := e
      obtain ⟨b', off', cp', e, hmm'⟩ := hu.form (by omega)
      simp only [Value.slice.injEq, true_and] at e
      obtain ⟨rfl, rfl⟩ := e
      have hvr := hv.below bel
      have hur := hu.below bel
      obtain ⟨r, a1, c1, a2, c2, Hr, hR⟩ := hvr.parts k hlt
      obtain ⟨r', a3, c3, a4, c4, Hr', hR'⟩ := hur.parts k hlt
      obtain rfl : r' = r := Hr'.out.symm.trans Hr.out
      have C1 : Hid (∀ W, Below wr.heap.size wr W → Calls Try.prog 36 #[.agg #[.int .i64 r'.off, .int .i64 r'.time, .bool r'.hk, .slice a1 r'.key.length c1, .bool r'.hv, .slice a2 r'.val.length c2], .agg #[.int .i64 r'.off, .int .i64 r'.time, .bool r'.hk, .slice a3 r'.key.length c3, .bool r'.hv, .slice a4 r'.val.length c4]] W (Same W true)) := Lib.hid fun W hW => laws_eqRecord _ _ r' W (hR.recV.below hW) (hR'.recV.below hW)
      have HS : Hid (∀ W, Below wr.heap.size wr W → SixSix W b (off + k * 6) b' (off' + k * 6) (.int .i64 r'.off) (.int .i64 r'.time) (.bool r'.hk) (.slice a1 r'.key.length c1) (.bool r'.hv) (.slice a2 r'.val.length c2) (.slice a3 r'.key.length c3) (.slice a4 r'.val.length c4)) := Lib.hid fun W hW => by
        obtain ⟨x0, x1, x2, x3, x4, x5, _, _⟩ := hR.below hW
        obtain ⟨y0, y1, y2, y3, y4, y5, _, _⟩ := hR'.below hW
        exact ⟨x0, x1, x2, x3, x4, x5, y0, y1, y2, y3, y4, y5⟩
      have bdr : Below wr.heap.size wr wr.drew := below_drewN (Below.refl _ _) 1
      have S1 := HS.out wr.drew bdr
      have D1 := Lib.hid (C1.out wr.drew bdr)
      clear hR hR' Hr Hr' C1
      go_upto_region 6 with (fail)
      unfold SixSix at S1
      go_region_held3 (fun W => W.cell? ⟨b, off + k * 6, none⟩ = some (.int .i64 r'.off) ∧ W.cell? ⟨b, off + k * 6 + 1, none⟩ = some (.int .i64 r'.time) ∧ W.cell? ⟨b, off + k * 6 + 2, none⟩ = some (.bool r'.hk) ∧ W.cell? ⟨b, off + k * 6 + 3, none⟩ = some (.slice a1 r'.key.length c1) ∧ W.cell? ⟨b, off + k * 6 + 4, none⟩ = some (.bool r'.hv) ∧ W.cell? ⟨b, off + k * 6 + 5, none⟩ = some (.slice a2 r'.val.length c2) ∧ W.cell? ⟨b', off' + k * 6, none⟩ = some (.int .i64 r'.off) ∧ W.cell? ⟨b', off' + k * 6 + 1, none⟩ = some (.int .i64 r'.time) ∧ W.cell? ⟨b', off' + k * 6 + 2, none⟩ = some (.bool r'.hk) ∧ W.cell? ⟨b', off' + k * 6 + 3, none⟩ = some (.slice a3 r'.key.length c3) ∧ W.cell? ⟨b', off' + k * 6 + 4, none⟩ = some (.bool r'.hv) ∧ W.cell? ⟨b', off' + k * 6 + 5, none⟩ = some (.slice a4 r'.val.length c4)) (first | with_reducible exact S1 | exact HS.out _ (Bstep bdr b8) | go_keep)
        (first | (go_at_call 36; ((with_reducible refine D1.out.mono ?_); rintro e w8 ⟨rfl, b8⟩)))
      have B8 := Bstep bel (Bstep bdr b8)
      go_wp2_with fail
      go_roundw
      case rel => exact ⟨k + 1, by omega, by go_num, B8⟩
      case measure => simp [intOf]; omega
    · go_wp2_with fail
      go_ret
      exact ⟨rfl, bel⟩

theorem laws_eqBatch (v u : Value) (b : Bat) (w : World) (h : BatV w v b) (g : BatV w u b) : Calls Try.prog 18 #[v, u] w (Same w true) := by
  obtain ⟨a1, cap1, rfl, hr1, hl1, hm1⟩ := h.parts
  obtain ⟨a2, cap2, rfl, hr2, hl2, hm2⟩ := g.parts
  clear h g
  obtain ⟨packed, mark, prod, epoch, seq, recs⟩ := b
  simp only at hr1 hr2 hl1 hl2 ⊢
  have C1 : Hid (∀ W, Below w.heap.size w W → Calls Try.prog 27 #[.slice a1 recs.length cap1, .slice a2 recs.length cap2] W (Same W true)) := Lib.hid fun W hW => laws_eqRecordS _ _ recs W (hr1.below hW) (hr2.below hW)
  have bA := alloc_below' w (.cells #[.bool packed, .bool mark, .int .i64 prod, .int .i64 epoch, .int .i64 seq, .slice a1 recs.length cap1] 37)
  have bB := alloc_below' (w.alloc (.cells #[.bool packed, .bool mark, .int .i64 prod, .int .i64 epoch, .int .i64 seq, .slice a1 recs.length cap1] 37)) (.cells #[.bool packed, .bool mark, .int .i64 prod, .int .i64 epoch, .int .i64 seq, .slice a2 recs.length cap2] 37)
  have B2 := Lib.hid (Bstep bA bB)
  have q2 : (prod != prod) = false := by simp
  have q3 : (epoch != epoch) = false := by simp
  have q4 : (seq != seq) = false := by simp
  clear hr1 hr2 bA bB
  cases packed <;> cases mark
  all_goals
    go_enter Try.func18, Try.ntmps18
    go_wp2_with fail
    (with_reducible refine (C1.out _ B2.out).mono ?_)
    rintro e w3 ⟨rfl, b3⟩
    go_wp2_with fail
    go_ret
    exact ⟨rfl, Bstep B2.out b3⟩
end Go.Proofs.Ytomlejfilfdnbaa
