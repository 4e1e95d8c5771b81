/- Chapter 3: laws on parts of a record's bytes. -/
import Derived.Test.YtkkfnpcldogglaaK3e
namespace Go.Proofs.Ytkkfnpcldogglaa
open Go.ChangeShapes Go.WideShapes Go.ChangeAt Go.RowKit
set_option linter.unusedVariables false


set_option maxHeartbeats 1000000 in
theorem law_FnRecordMissing (w : World) (v : Value) (zs : List Int) (h : U8s w v zs) : Calls Try.prog 9 #[v] w (Yes w) := by
  have hU := h
  obtain ⟨a, cap, rfl, hl, hm, hc, hr⟩ := hU
  unfold maxLen at hm
  clear hc hr
  by_cases hlen : 1048576 < zs.length
  · go_enter Try.func9, Try.ntmps9
    go_wp2
    go_ret
    exact ⟨rfl, Below.refl _ _⟩
  · have C0 := Lib.hid (spec_DrawRecordBytes _ zs w h (by omega))
    clear h
    go_enter Try.func9, Try.ntmps9
    go_wp2_with fail
    refine C0.out.mono ?_
    rintro e w1 ⟨⟨off, time, hk, key, hv, val⟩, u, o, t, rfl, ⟨kv, vv, rfl, ok, ov⟩, f1, f2, f3, f4, f5, f6, f7, f8, f9, f10, B1⟩
    simp only at ok ov f1 f2 f3 f4 f5 f6
    obtain ⟨a1, cap1, rfl, _, _, _⟩ := ok.ints
    obtain ⟨a2, cap2, rfl, _, _, _⟩ := ov.ints
    have bx := alloc_below' w1 (.cells #[.int .i64 off, .int .i64 time, .bool hk, .slice a1 key.length cap1, .bool hv, .slice a2 val.length cap2] 25)
    have xA := Blk.made w1 #[.int .i64 off, .int .i64 time, .bool hk, .slice a1 key.length cap1, .bool hv, .slice a2 val.length cap2] 25
    go_upto_region 4 with (fail)
    generalize hw2 : w1.alloc (.cells #[.int .i64 off, .int .i64 time, .bool hk, .slice a1 key.length cap1, .bool hv, .slice a2 val.length cap2] 25) = w2 at bx xA ⊢
    obtain ⟨A, hA⟩ : ∃ A, w1.heap.size = A := ⟨_, rfl⟩
    have B2 := Bstep B1 bx
    have rv : RecV w2 (.agg #[.int .i64 off, .int .i64 time, .bool hk, .slice a1 key.length cap1, .bool hv, .slice a2 val.length cap2]) ⟨off, time, hk, key, hv, val⟩ := ⟨_, _, rfl, (ok.below bx).ints, (ov.below bx).ints⟩
    rw [hA] at xA ⊢
    clear hw2 bx B1 hA ok ov C0
    have C1 : Hid (∀ wn, Below w2.heap.size w2 wn → Calls Try.prog 16 #[.agg #[.int .i64 off, .int .i64 time, .bool hk, .slice a1 key.length cap1, .bool hv, .slice a2 val.length cap2], .int .i64 o, .int .i64 t] wn (NewInts wn (recBi ⟨off, time, hk, key, hv, val⟩ o t) (recOk ⟨off, time, hk, key, hv, val⟩ && baseOk o t))) := fun wn hb => impl_RecordBytes _ ⟨off, time, hk, key, hv, val⟩ o t wn (rv.below hb)
    have C2 : Hid (∀ wn, Below w2.heap.size w2 wn → Calls Try.prog 17 #[.agg #[.int .i64 off, .int .i64 time, .bool hk, .slice a1 key.length cap1, .bool hv, .slice a2 val.length cap2], .int .i64 o, .int .i64 t] wn (NewInts wn (recBi ⟨off, time, hk, key, hv, val⟩ o t) (recOk ⟨off, time, hk, key, hv, val⟩ && baseOk o t))) := fun wn hb => spec_RecordBytes _ ⟨off, time, hk, key, hv, val⟩ o t wn (rv.below hb)
    have hxl := recBi_len ⟨off, time, hk, key, hv, val⟩ o t
    have hfacts : (recOk ⟨off, time, hk, key, hv, val⟩ && baseOk o t) = true → recOk ⟨off, time, hk, key, hv, val⟩ = true ∧ baseOk o t = true ∧ recBi ⟨off, time, hk, key, hv, val⟩ o t = recBytes ⟨off, time, hk, key, hv, val⟩ o t := fun hb => ⟨(Bool.and_eq_true_iff.1 hb).1, (Bool.and_eq_true_iff.1 hb).2, recBi_yes hb⟩
    obtain ⟨b, hb⟩ : ∃ b, (recOk ⟨off, time, hk, key, hv, val⟩ && baseOk o t) = b := ⟨_, rfl⟩
    obtain ⟨xs, hxs⟩ : ∃ xs, recBi ⟨off, time, hk, key, hv, val⟩ o t = xs := ⟨_, rfl⟩
    rw [hb, hxs] at C1 C2
    rw [hb, hxs] at hfacts
    rw [hxs] at hxl
    have HF := Lib.hid hfacts
    have C5 : Hid (∀ wn u v, Ints wn u xs → Ints wn v xs → Calls Try.prog 18 #[u, v] wn (Same wn (xs == xs))) := fun wn u v hu hv => laws_sameInts u v xs xs wn hu hv
    rw [beq_self] at C5
    have qb : (b != b) = false := by simp
    have qe : (b == b) = true := by simp
    clear hfacts hb hxs
    obtain ⟨c0, c1, c2, c3, c4, c5⟩ := xA.six?
    go_wp2_with fail
    refine (C1.out w2 (Below.refl _ _)).mono ?_
    rintro e w3 ⟨v1, rfl, own1, b3⟩
    obtain ⟨a3, cap3, rfl, l3, m3, _⟩ := own1.ints
    unfold maxLen at m3
    have jl := own1.lt2
    have x3 := xA.belowS b3
    clear c0 c1 c2 c3 c4 c5
    obtain ⟨c0, c1, c2, c3, c4, c5⟩ := x3.six?
    go_wp2_with fail
    refine (C2.out w3 b3).mono ?_
    rintro e w4 ⟨v2, rfl, own2, b4⟩
    obtain ⟨a4, cap4, rfl, l4, m4, _⟩ := own2.ints
    unfold maxLen at m4
    have D4 := Bstep b3 b4
    have hs34 := b4.size
    have x4 := x3.belowS b4
    have j4 := own1.ints.below b4
    have i4 := own2.ints
    clear b3 b4 x3 own1 own2 c0 c1 c2 c3 c4 c5 xA
    obtain ⟨c0, c1, c2, c3, c4, c5⟩ := x4.six?
    cases b with
    | false =>
      go_wp2_with fail
      refine (C5.out w4 _ _ j4 i4).mono ?_
      rintro e w5 ⟨rfl, b5⟩
      go_wp2_with fail
      refine (C5.out w5 _ _ (j4.below b5) (i4.below b5)).mono ?_
      rintro e w6 ⟨rfl, b6⟩
      go_wp2_with fail
      go_ret
      exact ⟨rfl, B2.trans ((Bstep (Bstep D4 b5) b6).mono B2.size)⟩
    | true =>
      have G := Lib.hid (HF.out (by simp))
      go_wp2_with fail
      refine (C5.out w4 _ _ j4 i4).mono ?_
      rintro e w5 ⟨rfl, b5⟩
      have D5 := Bstep D4 b5
      have j5 := j4.below b5
      have i5 := i4.below b5
      have x5 := x4.belowS b5
      clear D4 j4 i4 x4 b5 c0 c1 c2 c3 c4 c5
      obtain ⟨g1, g2, g3⟩ := G.out
      have hA : recOk ⟨off, time, true, [], hv, val⟩ = true := by
        obtain ⟨q0, q1, q2, q3⟩ := recOk_iff.1 g1
        exact recOk_iff.2 ⟨q0, q1, by simp only; decide, q3⟩
      have hB : recOk ⟨off, time, false, [], hv, val⟩ = true := by
        obtain ⟨q0, q1, q2, q3⟩ := recOk_iff.1 g1
        exact recOk_iff.2 ⟨q0, q1, by simp only; decide, q3⟩
      obtain ⟨hne, hll⟩ := recBytes_missing off time hv val o t
      have hla := recBi_len ⟨off, time, true, [], hv, val⟩ o t
      rw [recBi_yes (by rw [hA, g2]; rfl)] at hla
      have iV : Hid (∀ wn, Below w2.heap.size w2 wn → Ints wn (.slice a2 val.length cap2) val) := Lib.hid fun wn hb => by
        obtain ⟨kv, vv, e, ik, iv⟩ := rv.below hb
        simp only [Value.agg.injEq, Array.mk.injEq, List.cons.injEq, and_true] at e
        obtain ⟨_, _, _, _, _, rfl⟩ := e
        exact iv
      have C3 : Hid (∀ wn E, Below w2.heap.size w2 wn → Calls Try.prog 16 #[.agg #[.int .i64 off, .int .i64 time, .bool true, .slice (some ⟨E, 0, none⟩) 0 0, .bool hv, .slice a2 val.length cap2], .int .i64 o, .int .i64 t] wn (NewInts wn (recBytes ⟨off, time, true, [], hv, val⟩ o t) true)) := fun wn E hb => by
        have := impl_RecordBytes _ ⟨off, time, true, [], hv, val⟩ o t wn ⟨_, _, rfl, Ints.empty wn (some ⟨E, 0, none⟩) 0 (by simp), iV.out wn hb⟩
        unfold IfInts at this
        rw [hA, g2] at this
        exact this
      have C4 : Hid (∀ wn E, Below w2.heap.size w2 wn → Calls Try.prog 16 #[.agg #[.int .i64 off, .int .i64 time, .bool false, .slice (some ⟨E, 0, none⟩) 0 0, .bool hv, .slice a2 val.length cap2], .int .i64 o, .int .i64 t] wn (NewInts wn (recBytes ⟨off, time, false, [], hv, val⟩ o t) true)) := fun wn E hb => by
        have := impl_RecordBytes _ ⟨off, time, false, [], hv, val⟩ o t wn ⟨_, _, rfl, Ints.empty wn (some ⟨E, 0, none⟩) 0 (by simp), iV.out wn hb⟩
        unfold IfInts at this
        rw [hB, g2] at this
        exact this
      obtain ⟨ya, hya⟩ : ∃ y, recBytes ⟨off, time, true, [], hv, val⟩ o t = y := ⟨_, rfl⟩
      obtain ⟨yb, hyb⟩ : ∃ y, recBytes ⟨off, time, false, [], hv, val⟩ o t = y := ⟨_, rfl⟩
      rw [hya] at C3 hne hll hla
      rw [hyb] at C4 hne hll
      have C6 : Hid (∀ wn u v, Ints wn u ya → Ints wn v yb → Calls Try.prog 18 #[u, v] wn (Same wn false)) := fun wn u v hu hv => by
        have := laws_sameInts u v ya yb wn hu hv
        rwa [hne] at this
      have qn : ((ya.length : Int) == (yb.length : Int)) = true := by rw [beq_iff_eq, hll]
      have qm : (ya.length == yb.length) = true := by rw [beq_iff_eq, hll]
      have hlb : yb.length ≤ 39 := by omega
      clear g1 g2 g3 hA hB hne hll hya hyb j5 i5
      have bx := alloc_below' w5 (.cells #[.int .i64 off, .int .i64 time, .bool hk, .slice a1 key.length cap1, .bool hv, .slice a2 val.length cap2] 25)
      have xQ := Blk.made w5 #[.int .i64 off, .int .i64 time, .bool hk, .slice a1 key.length cap1, .bool hv, .slice a2 val.length cap2] 25
      obtain ⟨c0, c1, c2, c3, c4, c5⟩ := x5.six?
      go_upto_region 9 with (fail)
      generalize hw6 : w5.alloc (.cells #[.int .i64 off, .int .i64 time, .bool hk, .slice a1 key.length cap1, .bool hv, .slice a2 val.length cap2] 25) = w6 at bx xQ ⊢
      have D6 := Bstep D5 bx
      obtain ⟨X, hX⟩ : ∃ X, w5.heap.size = X := ⟨_, rfl⟩
      rw [hX] at xQ ⊢
      have hXw : w2.heap.size ≤ X := by rw [← hX]; exact D5.size
      clear hw6 bx x5 D5 c0 c1 c2 c3 c4 c5 hX
      have fx := xQ.free
      have lx := xQ.lt
      obtain ⟨d0, d1, d2, d3, d4, d5⟩ := xQ.six?
      go_upto_region 10 with (fail)
      have xQ7 : Blk (w6.setCell ⟨X, 2, none⟩ (.bool true)) X #[.int .i64 off, .int .i64 time, .bool true, .slice a1 key.length cap1, .bool hv, .slice a2 val.length cap2] := xQ.set 2 (.bool true)
      have D7 : Below w2.heap.size w2 (w6.setCell ⟨X, 2, none⟩ (.bool true)) := D6.setCell hXw _
      generalize hw7 : w6.setCell ⟨X, 2, none⟩ (.bool true) = w7 at xQ7 D7 ⊢
      clear hw7 xQ D6 d0 d1 d2 d3 d4 d5 fx lx
      have be := alloc_below' w7 (.cells #[] 3)
      have xQ8 := xQ7.belowS be
      have fx := xQ7.free
      have lx := xQ7.lt
      obtain ⟨d0, d1, d2, d3, d4, d5⟩ := xQ7.six?
      go_upto_region 11 with (fail)
      obtain ⟨E, hE⟩ : ∃ E, w7.heap.size = E := ⟨_, rfl⟩
      rw [hE]
      have xQ9 : Blk ((w7.setCell ⟨X, 3, none⟩ (.slice (some ⟨E, 0, none⟩) 0 0)).alloc (.cells #[] 3)) X #[.int .i64 off, .int .i64 time, .bool true, .slice (some ⟨E, 0, none⟩) 0 0, .bool hv, .slice a2 val.length cap2] := (xQ7.set 3 (.slice (some ⟨E, 0, none⟩) 0 0)).belowS (alloc_below' _ _)
      have D9 : Below w2.heap.size w2 ((w7.setCell ⟨X, 3, none⟩ (.slice (some ⟨E, 0, none⟩) 0 0)).alloc (.cells #[] 3)) := Bstep (D7.setCell hXw _) (alloc_below' _ _)
      generalize hw9 : (w7.setCell ⟨X, 3, none⟩ (.slice (some ⟨E, 0, none⟩) 0 0)).alloc (.cells #[] 3) = w9 at xQ9 D9 ⊢
      clear hw9 xQ7 xQ8 D7 be hE d0 d1 d2 d3 d4 d5 fx lx
      have bx := alloc_below' w9 (.cells #[.int .i64 off, .int .i64 time, .bool true, .slice (some ⟨E, 0, none⟩) 0 0, .bool hv, .slice a2 val.length cap2] 25)
      have xY := Blk.made w9 #[.int .i64 off, .int .i64 time, .bool true, .slice (some ⟨E, 0, none⟩) 0 0, .bool hv, .slice a2 val.length cap2] 25
      obtain ⟨d0, d1, d2, d3, d4, d5⟩ := xQ9.six?
      go_upto_region 12 with (fail)
      generalize hw10 : w9.alloc (.cells #[.int .i64 off, .int .i64 time, .bool true, .slice (some ⟨E, 0, none⟩) 0 0, .bool hv, .slice a2 val.length cap2] 25) = w10 at bx xY ⊢
      have x10 := xQ9.belowS bx
      have D10 := Bstep D9 bx
      obtain ⟨Y, hY⟩ : ∃ Y, w9.heap.size = Y := ⟨_, rfl⟩
      have hXY : X ≠ Y := by have := xQ9.lt; omega
      rw [hY] at xY ⊢
      have hYw : w2.heap.size ≤ Y := by rw [← hY]; exact D9.size
      clear hw10 bx xQ9 D9 d0 d1 d2 d3 d4 d5 hY
      have fy := xY.free
      have ly := xY.lt
      obtain ⟨d0, d1, d2, d3, d4, d5⟩ := xY.six?
      go_upto_region 13 with (fail)
      have xY11 : Blk (w10.setCell ⟨Y, 2, none⟩ (.bool false)) Y #[.int .i64 off, .int .i64 time, .bool false, .slice (some ⟨E, 0, none⟩) 0 0, .bool hv, .slice a2 val.length cap2] := xY.set 2 (.bool false)
      have x11 : Blk (w10.setCell ⟨Y, 2, none⟩ (.bool false)) X _ := x10.other hXY
      have D11 : Below w2.heap.size w2 (w10.setCell ⟨Y, 2, none⟩ (.bool false)) := D10.setCell hYw _
      generalize hw11 : w10.setCell ⟨Y, 2, none⟩ (.bool false) = w11 at xY11 x11 D11 ⊢
      clear hw11 xY x10 D10 d0 d1 d2 d3 d4 d5 fy ly
      obtain ⟨d0, d1, d2, d3, d4, d5⟩ := x11.six?
      go_wp2_with fail
      refine (C3.out w11 E D11).mono ?_
      rintro e w12 ⟨v12, rfl, own12, b12⟩
      obtain ⟨a12, cap12, rfl, l12, m12, _⟩ := own12.ints
      unfold maxLen at m12
      have D12 := Bstep D11 b12
      have xY12 := xY11.belowS b12
      clear d0 d1 d2 d3 d4 d5 x11 D11 b12 xY11
      obtain ⟨d0, d1, d2, d3, d4, d5⟩ := xY12.six?
      go_wp2_with fail
      refine (C4.out w12 E D12).mono ?_
      rintro e w13 ⟨v13, rfl, own13, b13⟩
      obtain ⟨a13, cap13, rfl, l13, m13, _⟩ := own13.ints
      unfold maxLen at m13
      have D13 := Bstep D12 b13
      go_wp2_with fail
      refine (C6.out w13 _ _ (own12.ints.below b13) own13.ints).mono ?_
      rintro e w14 ⟨rfl, b14⟩
      go_wp2_with fail
      go_ret
      exact ⟨rfl, B2.trans ((Bstep D13 b14).mono B2.size)⟩
end Go.Proofs.Ytkkfnpcldogglaa
