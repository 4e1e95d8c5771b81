/- Chapter 3: further laws on a record's bytes. -/
import Derived.Test.YtkkfnpcldogglaaK3d
namespace Go.Proofs.Ytkkfnpcldogglaa
open Go.ChangeShapes Go.WideShapes Go.ChangeAt Go.RowKit
set_option linter.unusedVariables false


set_option maxHeartbeats 1000000 in
theorem law_FnRecordShift (w : World) (v : Value) (zs : List Int) (h : U8s w v zs) : Calls Try.prog 4 #[v] w (Yes w) := by
  have hU := h
  obtain ⟨a, cap, rfl, hl, hm, hc, hr⟩ := hU
  unfold maxLen at hm
  clear hc hr
  by_cases hlen : 1048576 < zs.length
  · go_enter Try.func4, Try.ntmps4
    go_wp2
    go_ret
    exact ⟨rfl, Below.refl _ _⟩
  · have C0 := Lib.hid (spec_DrawRecordBytes _ zs w h (by omega))
    clear h
    go_enter Try.func4, Try.ntmps4
    go_wp2_with fail
    refine C0.out.mono ?_
    rintro e w1 ⟨⟨off, time, hk, key, hv, val⟩, u, o, t, rfl, ⟨kv, vv, rfl, ok, ov⟩, f1, f2, f3, f4, f5, f6, f7, f8, f9, f10, B1⟩
    simp only at ok ov f1 f2 f3 f4 f5 f6
    obtain ⟨a1, cap1, rfl, _, _, _⟩ := ok.ints
    obtain ⟨a2, cap2, rfl, _, _, _⟩ := ov.ints
    have bx := alloc_below' w1 (.cells #[.int .i64 off, .int .i64 time, .bool hk, .slice a1 key.length cap1, .bool hv, .slice a2 val.length cap2] 25)
    have xA := Blk.made w1 #[.int .i64 off, .int .i64 time, .bool hk, .slice a1 key.length cap1, .bool hv, .slice a2 val.length cap2] 25
    go_upto_region 4 with (fail)
    generalize hw2 : w1.alloc (.cells #[.int .i64 off, .int .i64 time, .bool hk, .slice a1 key.length cap1, .bool hv, .slice a2 val.length cap2] 25) = w2 at bx xA ⊢
    obtain ⟨A, hA⟩ : ∃ A, w1.heap.size = A := ⟨_, rfl⟩
    have B2 := Bstep B1 bx
    have rv : RecV w2 (.agg #[.int .i64 off, .int .i64 time, .bool hk, .slice a1 key.length cap1, .bool hv, .slice a2 val.length cap2]) ⟨off, time, hk, key, hv, val⟩ := ⟨_, _, rfl, (ok.below bx).ints, (ov.below bx).ints⟩
    rw [hA] at xA ⊢
    clear hw2 bx B1 hA ok ov C0
    have C1 : Hid (∀ wn, Below w2.heap.size w2 wn → Calls Try.prog 16 #[.agg #[.int .i64 off, .int .i64 time, .bool hk, .slice a1 key.length cap1, .bool hv, .slice a2 val.length cap2], .int .i64 o, .int .i64 t] wn (NewInts wn (recBi ⟨off, time, hk, key, hv, val⟩ o t) (recOk ⟨off, time, hk, key, hv, val⟩ && baseOk o t))) := fun wn hb => impl_RecordBytes _ ⟨off, time, hk, key, hv, val⟩ o t wn (rv.below hb)
    have C2 : Hid (∀ wn, Below w2.heap.size w2 wn → Calls Try.prog 17 #[.agg #[.int .i64 off, .int .i64 time, .bool hk, .slice a1 key.length cap1, .bool hv, .slice a2 val.length cap2], .int .i64 o, .int .i64 t] wn (NewInts wn (recBi ⟨off, time, hk, key, hv, val⟩ o t) (recOk ⟨off, time, hk, key, hv, val⟩ && baseOk o t))) := fun wn hb => spec_RecordBytes _ ⟨off, time, hk, key, hv, val⟩ o t wn (rv.below hb)
    have hxl := recBi_len ⟨off, time, hk, key, hv, val⟩ o t
    have hfacts : (recOk ⟨off, time, hk, key, hv, val⟩ && baseOk o t) = true → recOk ⟨off, time, hk, key, hv, val⟩ = true ∧ baseOk o t = true ∧ recBi ⟨off, time, hk, key, hv, val⟩ o t = recBytes ⟨off, time, hk, key, hv, val⟩ o t := fun hb => ⟨(Bool.and_eq_true_iff.1 hb).1, (Bool.and_eq_true_iff.1 hb).2, recBi_yes hb⟩
    obtain ⟨b, hb⟩ : ∃ b, (recOk ⟨off, time, hk, key, hv, val⟩ && baseOk o t) = b := ⟨_, rfl⟩
    obtain ⟨xs, hxs⟩ : ∃ xs, recBi ⟨off, time, hk, key, hv, val⟩ o t = xs := ⟨_, rfl⟩
    rw [hb, hxs] at C1 C2
    rw [hb, hxs] at hfacts
    rw [hxs] at hxl
    have HF := Lib.hid hfacts
    have C5 : Hid (∀ wn u v, Ints wn u xs → Ints wn v xs → Calls Try.prog 18 #[u, v] wn (Same wn (xs == xs))) := fun wn u v hu hv => laws_sameInts u v xs xs wn hu hv
    rw [beq_self] at C5
    have qb : (b != b) = false := by simp
    have qe : (b == b) = true := by simp
    clear hfacts hb hxs
    obtain ⟨c0, c1, c2, c3, c4, c5⟩ := xA.six?
    go_wp2_with fail
    refine (C1.out w2 (Below.refl _ _)).mono ?_
    rintro e w3 ⟨v1, rfl, own1, b3⟩
    obtain ⟨a3, cap3, rfl, l3, m3, _⟩ := own1.ints
    unfold maxLen at m3
    have jl := own1.lt2
    have x3 := xA.belowS b3
    clear c0 c1 c2 c3 c4 c5
    obtain ⟨c0, c1, c2, c3, c4, c5⟩ := x3.six?
    go_wp2_with fail
    refine (C2.out w3 b3).mono ?_
    rintro e w4 ⟨v2, rfl, own2, b4⟩
    obtain ⟨a4, cap4, rfl, l4, m4, _⟩ := own2.ints
    unfold maxLen at m4
    have D4 := Bstep b3 b4
    have hs34 := b4.size
    have x4 := x3.belowS b4
    have j4 := own1.ints.below b4
    have i4 := own2.ints
    clear b3 b4 x3 own1 own2 c0 c1 c2 c3 c4 c5 xA
    obtain ⟨c0, c1, c2, c3, c4, c5⟩ := x4.six?
    cases b with
    | false =>
      go_wp2_with fail
      refine (C5.out w4 _ _ j4 i4).mono ?_
      rintro e w5 ⟨rfl, b5⟩
      go_wp2_with fail
      refine (C5.out w5 _ _ (j4.below b5) (i4.below b5)).mono ?_
      rintro e w6 ⟨rfl, b6⟩
      go_wp2_with fail
      go_ret
      exact ⟨rfl, B2.trans ((Bstep (Bstep D4 b5) b6).mono B2.size)⟩
    | true =>
      have G := Lib.hid (HF.out (by simp))
      by_cases ho : o = 99999
      · have d1 : (o == 99999) = true := by rw [beq_iff_eq]; exact ho
        clear ho
        go_wp2_with fail
        refine (C5.out w4 _ _ j4 i4).mono ?_
        rintro e w5 ⟨rfl, b5⟩
        go_wp2_with fail
        refine (C5.out w5 _ _ (j4.below b5) (i4.below b5)).mono ?_
        rintro e w6 ⟨rfl, b6⟩
        go_wp2_with fail
        go_ret
        exact ⟨rfl, B2.trans ((Bstep (Bstep D4 b5) b6).mono B2.size)⟩
      have d1 : (o == 99999) = false := by rw [beq_eq_false_iff_ne]; exact ho
      by_cases hf : off = 99999
      · have d2 : (off == 99999) = true := by rw [beq_iff_eq]; exact hf
        have HX : Hid (∀ W, Below w4.heap.size w4 W → W.cell? ⟨A, 0, none⟩ = some (.int .i64 off)) := Lib.hid fun W hW => (x4.belowS hW).six?.1
        clear ho hf
        go_wp2_with fail
        refine (C5.out w4 _ _ j4 i4).mono ?_
        rintro e w5 ⟨rfl, b5⟩
        have c0' := HX.out w5 b5
        go_wp2_with fail
        refine (C5.out w5 _ _ (j4.below b5) (i4.below b5)).mono ?_
        rintro e w6 ⟨rfl, b6⟩
        go_wp2_with fail
        go_ret
        exact ⟨rfl, B2.trans ((Bstep (Bstep D4 b5) b6).mono B2.size)⟩
      have d2 : (off == 99999) = false := by rw [beq_eq_false_iff_ne]; exact hf
      obtain ⟨g1, g2, g3⟩ := G.out
      have hok2 : recOk ⟨off + 1, time, hk, key, hv, val⟩ = true := by
        obtain ⟨⟨q0, q1⟩, q2, q3, q4⟩ := recOk_iff.1 g1
        simp only at q0 q1 q2 q3 q4
        exact recOk_iff.2 ⟨⟨by simp only; omega, by simp only; omega⟩, q2, q3, q4⟩
      have hbk2 : baseOk (o + 1) t = true := by
        obtain ⟨⟨q0, q1⟩, q2⟩ := baseOk_iff.1 g2
        exact baseOk_iff.2 ⟨⟨by omega, by omega⟩, q2⟩
      have hbi2 : recBi ⟨off + 1, time, hk, key, hv, val⟩ (o + 1) t = xs := by rw [recBi_yes (by rw [hok2, hbk2]; rfl), recBytes_shift, g3]
      have C3 : Hid (∀ wn, Below w2.heap.size w2 wn → Calls Try.prog 16 #[.agg #[.int .i64 (off + 1), .int .i64 time, .bool hk, .slice a1 key.length cap1, .bool hv, .slice a2 val.length cap2], .int .i64 (o + 1), .int .i64 t] wn (NewInts wn xs true)) := fun wn hb => by
        obtain ⟨kv, vv, e, ik, iv⟩ := rv.below hb
        simp only [Value.agg.injEq, Array.mk.injEq, List.cons.injEq, and_true] at e
        obtain ⟨_, _, _, rfl, _, rfl⟩ := e
        have := impl_RecordBytes _ ⟨off + 1, time, hk, key, hv, val⟩ (o + 1) t wn ⟨_, _, rfl, ik, iv⟩
        unfold IfInts at *
        rw [hok2, hbk2] at this
        have e2 : recBytes ⟨off + 1, time, hk, key, hv, val⟩ (o + 1) t = xs := by rw [recBytes_shift, g3]
        rw [e2] at this
        exact this
      have s1 : IntKind.i64.wrap (off + 1) = off + 1 := IntWalk.i64_in _ ⟨by omega, by omega⟩
      have s2 : IntKind.i64.wrap (o + 1) = o + 1 := IntWalk.i64_in _ ⟨by omega, by omega⟩
      have HX : Hid (∀ W, Below w4.heap.size w4 W → W.cell? ⟨A, 0, none⟩ = some (.int .i64 off)) := Lib.hid fun W hW => (x4.belowS hW).six?.1
      clear ho hf g1 g2 g3 hok2 hbk2 hbi2
      go_wp2_with fail
      refine (C5.out w4 _ _ j4 i4).mono ?_
      rintro e w5 ⟨rfl, b5⟩
      have D5 := Bstep D4 b5
      have hs45 := b5.size
      have j5 := j4.below b5
      have i5 := i4.below b5
      have x5 := x4.belowS b5
      clear D4 j4 i4 x4 b5 c0 c1 c2 c3 c4 c5 HX
      obtain ⟨c0, c1, c2, c3, c4, c5⟩ := x5.six?
      have bx := alloc_below' w5 (.cells #[.int .i64 off, .int .i64 time, .bool hk, .slice a1 key.length cap1, .bool hv, .slice a2 val.length cap2] 25)
      have xQ := Blk.made w5 #[.int .i64 off, .int .i64 time, .bool hk, .slice a1 key.length cap1, .bool hv, .slice a2 val.length cap2] 25
      go_upto_region 9 with (fail)
      generalize hw6 : w5.alloc (.cells #[.int .i64 off, .int .i64 time, .bool hk, .slice a1 key.length cap1, .bool hv, .slice a2 val.length cap2] 25) = w6 at bx xQ ⊢
      have x6 := x5.belowS bx
      have D6 := Bstep D5 bx
      have j6 := j5.below bx
      obtain ⟨X, hX⟩ : ∃ X, w5.heap.size = X := ⟨_, rfl⟩
      have hAX : A < X := by rw [← hX]; exact x5.lt
      rw [hX] at xQ ⊢
      have hj : ∀ q, (Value.slice a3 xs.length cap3).ownBlock = some q → q < X := fun q hq => by have := jl q hq; omega
      have hXw : w2.heap.size ≤ X := by rw [← hX]; exact D5.size
      clear hw6 bx x5 D5 c0 c1 c2 c3 c4 c5 i5 j5 hX
      obtain ⟨c0, c1, c2, c3, c4, c5⟩ := x6.six?
      obtain ⟨d0, d1', d2', d3, d4, d5⟩ := xQ.six?
      have fx := xQ.free
      have lx := xQ.lt
      go_upto_region 10 with (fail)
      have xQ7 : Blk (w6.setCell ⟨X, 0, none⟩ (.int .i64 (off + 1))) X #[.int .i64 (off + 1), .int .i64 time, .bool hk, .slice a1 key.length cap1, .bool hv, .slice a2 val.length cap2] := xQ.set 0 (.int .i64 (off + 1))
      have D7 : Below w2.heap.size w2 (w6.setCell ⟨X, 0, none⟩ (.int .i64 (off + 1))) := D6.setCell hXw _
      have j7 : Ints (w6.setCell ⟨X, 0, none⟩ (.int .i64 (off + 1))) (.slice a3 xs.length cap3) xs := j6.grown (grown_set w6 X 0 (.int .i64 (off + 1))) (fun q hq e => by simp only [Option.some.injEq] at hq; subst hq; exact absurd (hj _ e) (Nat.lt_irrefl _))
      generalize hw7 : w6.setCell ⟨X, 0, none⟩ (.int .i64 (off + 1)) = w7 at xQ7 D7 j7 ⊢
      clear hw7 xQ x6 D6 j6 c0 c1 c2 c3 c4 c5 d0 d1' d2' d3 d4 d5 fx lx
      obtain ⟨c0, c1, c2, c3, c4, c5⟩ := xQ7.six?
      go_wp2_with fail
      refine (C3.out w7 D7).mono ?_
      rintro e w8 ⟨v8, rfl, own8, b8⟩
      go_wp2_with fail
      refine (C5.out w8 _ _ own8.ints (j7.below b8)).mono ?_
      rintro e w9 ⟨rfl, b9⟩
      go_wp2_with fail
      go_ret
      exact ⟨rfl, B2.trans ((Bstep (Bstep D7 b8) b9).mono B2.size)⟩
end Go.Proofs.Ytkkfnpcldogglaa
