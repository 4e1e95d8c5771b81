/- Chapter 5: batches that the laws draw; a batch goes from its first to its last record. -/
import Derived.Test.YtaakcikjdphocaaD5b
import Derived.Test.YtaakcikjdphocaaW5c
namespace Go.Proofs.Ytaakcikjdphocaa
open Go.ChangeShapes Go.WideShapes Go.ChangeAt Go.RowKit
set_option linter.unusedVariables false

/-- a batch that a law draws -/
def BatLaw (w : World) (e : Ending) (w' : World) : Prop := ∃ (b : Bat) (v : Value), e = .returned v ∧ BatV w' v b ∧ b.recs.length ≤ 8 ∧ Below w.heap.size w w'

set_option maxHeartbeats 1000000 in
theorem spec_DrawBatchValid (v : Value) (zs : List Int) (w : World) (h : U8s w v zs) (hs : zs.length ≤ 1048576) : Calls Try.prog 18 #[v] w (BatLaw w) := by
  have xZ := Blk.made w #[.bool false, .bool false, .int .i64 0, .int .i64 0, .int .i64 0, .slice none 0 0] 25
  have bZ := alloc_below' w (.cells #[.bool false, .bool false, .int .i64 0, .int .i64 0, .int .i64 0, .slice none 0 0] 25)
  have hU := h.keep (w' := w.alloc (.cells #[.bool false, .bool false, .int .i64 0, .int .i64 0, .int .i64 0, .slice none 0 0] 25)) fun _ b e hb => Below.heap_alloc w _ b hb
  go_enter Try.func18, Try.ntmps18
  go_wp2_with fail
  generalize hwz : w.alloc (.cells #[.bool false, .bool false, .int .i64 0, .int .i64 0, .int .i64 0, .slice none 0 0] 25) = wz at xZ bZ hU ⊢
  obtain ⟨Z, hZ⟩ : ∃ Z, w.heap.size = Z := ⟨_, rfl⟩
  rw [hZ] at xZ ⊢
  have HZ := Lib.hid hZ
  clear hwz hZ
  (with_reducible refine (spec_l6Open v zs wz hU hs).mono ?_)
  rintro e w1 ⟨B, rfl, hB, hR, b1⟩
  have B1 := Bstep bZ b1
  have x1 := xZ.belowS b1
  have lZ := xZ.lt
  clear bZ b1 xZ hU
  go_wp2_with fail
  (with_reducible refine (spec_pick B 0 60 w1 hR (by omega) (by omega) (by omega)).mono ?_)
  rintro e w2 ⟨k, rfl, hk, hR2, g2⟩
  have x2 := x1.by (by omega) g2
  have hk0 : (0 : Int) ≤ (k : Int) := by omega
  have hk1 : (k : Int) ≤ 1000 := by omega
  have B2 := below_of_grown B1 (by have := HZ.out; omega) g2
  clear x1 g2 hk hR B1
  go_wp2_with fail
  (with_reducible refine (spec_l91Batch B _ (k : Int) w2 hR2 (by omega) hk0 hk1).mono ?_)
  rintro e w3 ⟨b, u, rfl, ⟨hb, hkeep⟩, hlen, hR3, g3⟩
  have x3 := x2.by (by omega) g3
  have B3 := below_of_grown B2 (by have := HZ.out; omega) g3
  have lz2 := x2.lt
  obtain ⟨packed, mark, prod, epoch, seq, recs⟩ := b
  obtain ⟨ra, rc, rfl, _, _, _⟩ := hb.parts
  simp only at hlen
  have zz := x3.six (.bool packed) (.bool mark) (.int .i64 prod) (.int .i64 epoch) (.int .i64 seq) (.slice ra recs.length rc)
  have gz := six_grown w3 Z (.bool packed) (.bool mark) (.int .i64 prod) (.int .i64 epoch) (.int .i64 seq) (.slice ra recs.length rc)
  have hbF := hkeep _ Z lz2 gz
  have BF := bel_six B3 (show w.heap.size ≤ Z by have := HZ.out; omega) (.bool packed) (.bool mark) (.int .i64 prod) (.int .i64 epoch) (.int .i64 seq) (.slice ra recs.length rc)
  obtain ⟨c0, c1, c2, c3, c4, c5⟩ := x3.sixC
  have fz := x3.free
  clear x2 x3 B2 B3 hb hkeep g3 hR2 hR3 gz
  go_wp2_with fail
  generalize hWW : (((((w3.setCell ⟨Z, 0, none⟩ (.bool packed)).setCell ⟨Z, 1, none⟩ (.bool mark)).setCell ⟨Z, 2, none⟩ (.int .i64 prod)).setCell ⟨Z, 3, none⟩ (.int .i64 epoch)).setCell ⟨Z, 4, none⟩ (.int .i64 seq)).setCell ⟨Z, 5, none⟩ (.slice ra recs.length rc) = WW at zz hbF BF ⊢
  clear hWW c0 c1 c2 c3 c4 c5 fz
  obtain ⟨c0, c1, c2, c3, c4, c5⟩ := zz.sixC
  refine bodyPost_ret (v := .agg #[.bool packed, .bool mark, .int .i64 prod, .int .i64 epoch, .int .i64 seq, .slice ra recs.length rc]) (by simp [results, Try.results18, go_sem, c0, c1, c2, c3, c4, c5]) rfl ?_
  exact ⟨⟨packed, mark, prod, epoch, seq, recs⟩, _, rfl, hbF, hlen, BF⟩

set_option maxHeartbeats 1000000 in
theorem spec_DrawBatchBytes (v : Value) (zs : List Int) (w : World) (h : U8s w v zs) (hs : zs.length ≤ 1048576) : Calls Try.prog 10 #[v] w (BatLaw w) := by
  have xZ := Blk.made w #[.bool false, .bool false, .int .i64 0, .int .i64 0, .int .i64 0, .slice none 0 0] 25
  have bZ := alloc_below' w (.cells #[.bool false, .bool false, .int .i64 0, .int .i64 0, .int .i64 0, .slice none 0 0] 25)
  have hU := h.keep (w' := w.alloc (.cells #[.bool false, .bool false, .int .i64 0, .int .i64 0, .int .i64 0, .slice none 0 0] 25)) fun _ b e hb => Below.heap_alloc w _ b hb
  go_enter Try.func10, Try.ntmps10
  go_wp2_with fail
  generalize hwz : w.alloc (.cells #[.bool false, .bool false, .int .i64 0, .int .i64 0, .int .i64 0, .slice none 0 0] 25) = wz at xZ bZ hU ⊢
  obtain ⟨Z, hZ⟩ : ∃ Z, w.heap.size = Z := ⟨_, rfl⟩
  rw [hZ] at xZ ⊢
  have HZ := Lib.hid hZ
  clear hwz hZ
  (with_reducible refine (spec_l6Open v zs wz hU hs).mono ?_)
  rintro e w1 ⟨B, rfl, hB, hR, b1⟩
  have B1 := Bstep bZ b1
  have x1 := xZ.belowS b1
  have lZ := xZ.lt
  clear bZ b1 xZ hU
  go_wp2_with fail
  (with_reducible refine (spec_pick B 0 60 w1 hR (by omega) (by omega) (by omega)).mono ?_)
  rintro e w2 ⟨k, rfl, hk, hR2, g2⟩
  have x2 := x1.by (by omega) g2
  have hk0 : (0 : Int) ≤ (k : Int) := by omega
  have hk1 : (k : Int) ≤ 1000 := by omega
  have B2 := below_of_grown B1 (by have := HZ.out; omega) g2
  clear x1 g2 hk hR B1
  go_wp2_with fail
  (with_reducible refine (spec_l91Batch B _ (k : Int) w2 hR2 (by omega) hk0 hk1).mono ?_)
  rintro e w3 ⟨b, u, rfl, ⟨hb, hkeep⟩, hlen, hR3, g3⟩
  have x3 := x2.by (by omega) g3
  have B3 := below_of_grown B2 (by have := HZ.out; omega) g3
  have lz2 := x2.lt
  obtain ⟨packed, mark, prod, epoch, seq, recs⟩ := b
  obtain ⟨ra, rc, rfl, _, _, _⟩ := hb.parts
  simp only at hlen
  have zz := x3.six (.bool packed) (.bool mark) (.int .i64 prod) (.int .i64 epoch) (.int .i64 seq) (.slice ra recs.length rc)
  have gz := six_grown w3 Z (.bool packed) (.bool mark) (.int .i64 prod) (.int .i64 epoch) (.int .i64 seq) (.slice ra recs.length rc)
  have hbF := hkeep _ Z lz2 gz
  have BF := bel_six B3 (show w.heap.size ≤ Z by have := HZ.out; omega) (.bool packed) (.bool mark) (.int .i64 prod) (.int .i64 epoch) (.int .i64 seq) (.slice ra recs.length rc)
  obtain ⟨c0, c1, c2, c3, c4, c5⟩ := x3.sixC
  have fz := x3.free
  clear x2 x3 B2 B3 hb hkeep g3 hR2 hR3 gz
  go_wp2_with fail
  generalize hWW : (((((w3.setCell ⟨Z, 0, none⟩ (.bool packed)).setCell ⟨Z, 1, none⟩ (.bool mark)).setCell ⟨Z, 2, none⟩ (.int .i64 prod)).setCell ⟨Z, 3, none⟩ (.int .i64 epoch)).setCell ⟨Z, 4, none⟩ (.int .i64 seq)).setCell ⟨Z, 5, none⟩ (.slice ra recs.length rc) = WW at zz hbF BF ⊢
  clear hWW c0 c1 c2 c3 c4 c5 fz
  obtain ⟨c0, c1, c2, c3, c4, c5⟩ := zz.sixC
  refine bodyPost_ret (v := .agg #[.bool packed, .bool mark, .int .i64 prod, .int .i64 epoch, .int .i64 seq, .slice ra recs.length rc]) (by simp [results, Try.results10, go_sem, c0, c1, c2, c3, c4, c5]) rfl ?_
  exact ⟨⟨packed, mark, prod, epoch, seq, recs⟩, _, rfl, hbF, hlen, BF⟩

set_option maxHeartbeats 1000000 in
theorem spec_DrawBatchSpan (v : Value) (zs : List Int) (w : World) (h : U8s w v zs) (hs : zs.length ≤ 1048576) : Calls Try.prog 15 #[v] w (BatLaw w) := by
  have xZ := Blk.made w #[.bool false, .bool false, .int .i64 0, .int .i64 0, .int .i64 0, .slice none 0 0] 25
  have bZ := alloc_below' w (.cells #[.bool false, .bool false, .int .i64 0, .int .i64 0, .int .i64 0, .slice none 0 0] 25)
  have hU := h.keep (w' := w.alloc (.cells #[.bool false, .bool false, .int .i64 0, .int .i64 0, .int .i64 0, .slice none 0 0] 25)) fun _ b e hb => Below.heap_alloc w _ b hb
  go_enter Try.func15, Try.ntmps15
  go_wp2_with fail
  generalize hwz : w.alloc (.cells #[.bool false, .bool false, .int .i64 0, .int .i64 0, .int .i64 0, .slice none 0 0] 25) = wz at xZ bZ hU ⊢
  obtain ⟨Z, hZ⟩ : ∃ Z, w.heap.size = Z := ⟨_, rfl⟩
  rw [hZ] at xZ ⊢
  have HZ := Lib.hid hZ
  clear hwz hZ
  (with_reducible refine (spec_l6Open v zs wz hU hs).mono ?_)
  rintro e w1 ⟨B, rfl, hB, hR, b1⟩
  have B1 := Bstep bZ b1
  have x1 := xZ.belowS b1
  have lZ := xZ.lt
  clear bZ b1 xZ hU
  go_wp2_with fail
  (with_reducible refine (spec_pick B 0 60 w1 hR (by omega) (by omega) (by omega)).mono ?_)
  rintro e w2 ⟨k, rfl, hk, hR2, g2⟩
  have x2 := x1.by (by omega) g2
  have hk0 : (0 : Int) ≤ (k : Int) := by omega
  have hk1 : (k : Int) ≤ 1000 := by omega
  have B2 := below_of_grown B1 (by have := HZ.out; omega) g2
  clear x1 g2 hk hR B1
  go_wp2_with fail
  (with_reducible refine (spec_l91Batch B _ (k : Int) w2 hR2 (by omega) hk0 hk1).mono ?_)
  rintro e w3 ⟨b, u, rfl, ⟨hb, hkeep⟩, hlen, hR3, g3⟩
  have x3 := x2.by (by omega) g3
  have B3 := below_of_grown B2 (by have := HZ.out; omega) g3
  have lz2 := x2.lt
  obtain ⟨packed, mark, prod, epoch, seq, recs⟩ := b
  obtain ⟨ra, rc, rfl, _, _, _⟩ := hb.parts
  simp only at hlen
  have zz := x3.six (.bool packed) (.bool mark) (.int .i64 prod) (.int .i64 epoch) (.int .i64 seq) (.slice ra recs.length rc)
  have gz := six_grown w3 Z (.bool packed) (.bool mark) (.int .i64 prod) (.int .i64 epoch) (.int .i64 seq) (.slice ra recs.length rc)
  have hbF := hkeep _ Z lz2 gz
  have BF := bel_six B3 (show w.heap.size ≤ Z by have := HZ.out; omega) (.bool packed) (.bool mark) (.int .i64 prod) (.int .i64 epoch) (.int .i64 seq) (.slice ra recs.length rc)
  obtain ⟨c0, c1, c2, c3, c4, c5⟩ := x3.sixC
  have fz := x3.free
  clear x2 x3 B2 B3 hb hkeep g3 hR2 hR3 gz
  go_wp2_with fail
  generalize hWW : (((((w3.setCell ⟨Z, 0, none⟩ (.bool packed)).setCell ⟨Z, 1, none⟩ (.bool mark)).setCell ⟨Z, 2, none⟩ (.int .i64 prod)).setCell ⟨Z, 3, none⟩ (.int .i64 epoch)).setCell ⟨Z, 4, none⟩ (.int .i64 seq)).setCell ⟨Z, 5, none⟩ (.slice ra recs.length rc) = WW at zz hbF BF ⊢
  clear hWW c0 c1 c2 c3 c4 c5 fz
  obtain ⟨c0, c1, c2, c3, c4, c5⟩ := zz.sixC
  refine bodyPost_ret (v := .agg #[.bool packed, .bool mark, .int .i64 prod, .int .i64 epoch, .int .i64 seq, .slice ra recs.length rc]) (by simp [results, Try.results15, go_sem, c0, c1, c2, c3, c4, c5]) rfl ?_
  exact ⟨⟨packed, mark, prod, epoch, seq, recs⟩, _, rfl, hbF, hlen, BF⟩
/-- what a valid batch's span tells -/
theorem span_facts {b : Bat} (h : batOk b = true) : spanF b = (recAt b.recs 0).off ∧ spanL b = (recAt b.recs (b.recs.length - 1)).off ∧ 1 ≤ b.recs.length ∧ b.recs.length ≤ 6 ∧
    (b.recs.length : Int) - 1 ≤ (recAt b.recs (b.recs.length - 1)).off - (recAt b.recs 0).off ∧ 0 ≤ (recAt b.recs 0).off ∧ (recAt b.recs (b.recs.length - 1)).off ≤ 99999 := by
  obtain ⟨⟨h1, h6⟩, _, _, ho⟩ := batOk_iff.1 h
  have e := ordOk_off ho (i := 0) (j := b.recs.length - 1) (by omega) (by omega)
  have r0 := (recOk_iff.1 (ordOk_rec ho (show 0 < b.recs.length by omega))).1
  have r1 := (recOk_iff.1 (ordOk_rec ho (show b.recs.length - 1 < b.recs.length by omega))).1
  unfold spanF spanL
  rw [if_pos h, if_pos h]
  exact ⟨rfl, rfl, h1, h6, by omega, by omega, by omega⟩
set_option maxHeartbeats 2000000 in
theorem law_FnBatchSpan (w : World) (v : Value) (zs : List Int) (h : U8s w v zs) : Calls Try.prog 4 #[v] w (Yes w) := by
  have hU := h
  obtain ⟨a, cap, rfl, hl, hm, hc, hr⟩ := hU
  unfold maxLen at hm
  clear hc hr
  by_cases hlen : 1048576 < zs.length
  · go_enter Try.func4, Try.ntmps4
    go_wp2
    go_ret
    exact ⟨rfl, Below.refl _ _⟩
  · have C0 := Lib.hid (spec_DrawBatchSpan _ zs w h (by omega))
    clear h
    go_enter Try.func4, Try.ntmps4
    go_wp2_with fail
    (with_reducible refine C0.out.mono ?_)
    rintro e w1 ⟨b, u, rfl, hb, hl8, B1⟩
    have HB := Lib.hid hb
    obtain ⟨ra, rc, rfl, hrec, hrl, hrm⟩ := hb.parts
    have HF : Hid (batOk b = true → _) := Lib.hid (span_facts (b := b))
    have C1 : Hid (∀ wn, Below w1.heap.size w1 wn → Calls Try.prog 16 #[.agg #[.bool b.packed, .bool b.mark, .int .i64 b.prod, .int .i64 b.epoch, .int .i64 b.seq, .slice ra b.recs.length rc]] wn (SpanRes b wn)) := Lib.hid fun wn hw => impl_BatchSpan _ b wn (HB.out.below hw)
    have C2 : Hid (∀ wn, Below w1.heap.size w1 wn → Calls Try.prog 17 #[.agg #[.bool b.packed, .bool b.mark, .int .i64 b.prod, .int .i64 b.epoch, .int .i64 b.seq, .slice ra b.recs.length rc]] wn (SpanRes b wn)) := Lib.hid fun wn hw => spec_BatchSpan _ b wn (HB.out.below hw)
    unfold SpanRes at C1 C2
    obtain ⟨packed, mark, prod, epoch, seq, recs⟩ := b
    simp only at C1 C2 HF hrec hrl hl8
    obtain ⟨ob, hob⟩ : ∃ ob, batOk ⟨packed, mark, prod, epoch, seq, recs⟩ = ob := ⟨_, rfl⟩
    obtain ⟨f1, hf1⟩ : ∃ x, spanF ⟨packed, mark, prod, epoch, seq, recs⟩ = x := ⟨_, rfl⟩
    obtain ⟨f2, hf2⟩ : ∃ x, spanL ⟨packed, mark, prod, epoch, seq, recs⟩ = x := ⟨_, rfl⟩
    rw [hob, hf1, hf2] at C1 C2 HF
    have hbb : (ob != ob) = false := by simp
    have hbe : (ob == ob) = true := by simp
    have hff : (f1 != f1) = false := by simp
    have hfe : (f1 == f1) = true := by simp
    have hgg : (f2 != f2) = false := by simp
    have hge : (f2 == f2) = true := by simp
    clear hob hf1 hf2 hb
    have bx := alloc_below' w1 (.cells #[.bool packed, .bool mark, .int .i64 prod, .int .i64 epoch, .int .i64 seq, .slice ra recs.length rc] 25)
    have xx := Blk.made w1 #[.bool packed, .bool mark, .int .i64 prod, .int .i64 epoch, .int .i64 seq, .slice ra recs.length rc] 25
    go_wp2_with fail
    generalize hw2 : w1.alloc (.cells #[.bool packed, .bool mark, .int .i64 prod, .int .i64 epoch, .int .i64 seq, .slice ra recs.length rc] 25) = w2 at bx xx ⊢
    obtain ⟨X, hX⟩ : ∃ X, w1.heap.size = X := ⟨_, rfl⟩
    rw [hX] at xx ⊢
    have HX := Lib.hid hX
    clear hw2 hX
    (with_reducible refine (C1.out w2 bx).mono ?_)
    rintro e w3 ⟨rfl, b3⟩
    have x3 := xx.belowS b3
    have b13 := Bstep bx b3
    clear xx bx b3
    obtain ⟨c0, c1, c2, c3, c4, c5⟩ := x3.sixC
    go_wp2_with fail
    (with_reducible refine (C2.out w3 b13).mono ?_)
    rintro e w4 ⟨rfl, b4⟩
    have x4 := x3.belowS b4
    have b14 := Bstep b13 b4
    have B4 := Bstep B1 b14
    clear x3 b13 b4 c0 c1 c2 c3 c4 c5 C1 C2 C0
    cases ob with
    | false =>
      go_wp2_with fail
      go_ret
      exact ⟨rfl, B4⟩
    | true =>
      obtain ⟨e1, e2, l1, l6, hd, ho0, ho1⟩ := HF.out rfl
      obtain ⟨g, off, cap', eg, hm'⟩ := hrec.form (by omega)
      simp only [Value.slice.injEq, true_and] at eg
      obtain ⟨rfl, rfl⟩ := eg
      have hr4 := hrec.below b14
      obtain ⟨_, _, r0⟩ := hr4.rec 0 (by omega)
      obtain ⟨_, _, r1⟩ := hr4.rec (recs.length - 1) (by omega)
      have f0 := r0.1
      have f9 := r1.1
      rw [Nat.zero_mul, Nat.add_zero, ← e1] at f0
      rw [← e2] at f9
      rw [← e1, ← e2] at hd
      rw [← e1] at ho0
      rw [← e2] at ho1
      clear e1 e2 r0 r1 hr4 hm' HB HF hrec
      have s1 : IntKind.i64.wrap ((recs.length : Int) - 1) = (recs.length : Int) - 1 := IntWalk.i64_in _ ⟨by omega, by omega⟩
      have s2 : IntKind.i64.wrap (f2 - f1) = f2 - f1 := IntWalk.i64_in _ ⟨by omega, by omega⟩
      have n1 : ((recs.length : Int) - 1).toNat = recs.length - 1 := by omega
      have n2 : (1 : Int) ≤ (recs.length : Int) := by omega
      have n4 : 0 < recs.length := by omega
      have n3 : (recs.length : Int) - 1 < (recs.length : Int) := by omega
      have d9 : decide ((recs.length : Int) - 1 ≤ f2 - f1) = true := decide_eq_true hd
      obtain ⟨c0, c1, c2, c3, c4, c5⟩ := x4.sixC
      go_wp2_with fail
      go_ret
      exact ⟨rfl, B4⟩
end Go.Proofs.Ytaakcikjdphocaa
