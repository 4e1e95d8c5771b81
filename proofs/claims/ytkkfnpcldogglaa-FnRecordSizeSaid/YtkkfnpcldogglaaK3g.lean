/- Chapter 3: the laws on a record's size, and on what is no record. -/
import Derived.Test.YtkkfnpcldogglaaK3c
import Derived.Test.YtkkfnpcldogglaaP3d
import Derived.Test.YtkkfnpcldogglaaD3e
namespace Go.Proofs.Ytkkfnpcldogglaa
open Go.ChangeShapes Go.WideShapes Go.ChangeAt Go.RowKit
set_option linter.unusedVariables false


set_option maxHeartbeats 1000000 in
theorem law_FnRecordSize (w : World) (v : Value) (zs : List Int) (h : U8s w v zs) : Calls Try.prog 8 #[v] w (Yes w) := by
  have hU := h
  obtain ⟨a, cap, rfl, hl, hm, hc, hr⟩ := hU
  unfold maxLen at hm
  clear hc hr
  by_cases hlen : 1048576 < zs.length
  · go_enter Try.func8, Try.ntmps8
    go_wp2
    go_ret
    exact ⟨rfl, Below.refl _ _⟩
  · have C0 := Lib.hid (spec_DrawRecordSize _ zs w h (by omega))
    clear h
    go_enter Try.func8, Try.ntmps8
    go_wp2_with fail
    refine C0.out.mono ?_
    rintro e w1 ⟨⟨off, time, hk, key, hv, val⟩, u, o, t, rfl, ⟨kv, vv, rfl, ok, ov⟩, f1, f2, f3, f4, f5, f6, f7, f8, f9, f10, B1⟩
    simp only at ok ov f1 f2 f3 f4 f5 f6
    obtain ⟨a1, cap1, rfl, _, _, _⟩ := ok.ints
    obtain ⟨a2, cap2, rfl, _, _, _⟩ := ov.ints
    have bx := alloc_below' w1 (.cells #[.int .i64 off, .int .i64 time, .bool hk, .slice a1 key.length cap1, .bool hv, .slice a2 val.length cap2] 25)
    have xA := Blk.made w1 #[.int .i64 off, .int .i64 time, .bool hk, .slice a1 key.length cap1, .bool hv, .slice a2 val.length cap2] 25
    go_upto_region 4 with (fail)
    generalize hw2 : w1.alloc (.cells #[.int .i64 off, .int .i64 time, .bool hk, .slice a1 key.length cap1, .bool hv, .slice a2 val.length cap2] 25) = w2 at bx xA ⊢
    obtain ⟨A, hA⟩ : ∃ A, w1.heap.size = A := ⟨_, rfl⟩
    have B2 := Bstep B1 bx
    have rv : RecV w2 (.agg #[.int .i64 off, .int .i64 time, .bool hk, .slice a1 key.length cap1, .bool hv, .slice a2 val.length cap2]) ⟨off, time, hk, key, hv, val⟩ := ⟨_, _, rfl, (ok.below bx).ints, (ov.below bx).ints⟩
    rw [hA] at xA ⊢
    clear hw2 bx B1 hA ok ov C0
    have C1 : Hid (∀ wn, Below w2.heap.size w2 wn → Calls Try.prog 26 #[.agg #[.int .i64 off, .int .i64 time, .bool hk, .slice a1 key.length cap1, .bool hv, .slice a2 val.length cap2], .int .i64 o, .int .i64 t] wn fun e w' => e = .returned (.int .i64 (recS ⟨off, time, hk, key, hv, val⟩ o t)) ∧ Below wn.heap.size wn w') := fun wn hb => impl_RecordSize _ ⟨off, time, hk, key, hv, val⟩ o t wn (rv.below hb)
    have C2 : Hid (∀ wn, Below w2.heap.size w2 wn → Calls Try.prog 27 #[.agg #[.int .i64 off, .int .i64 time, .bool hk, .slice a1 key.length cap1, .bool hv, .slice a2 val.length cap2], .int .i64 o, .int .i64 t] wn fun e w' => e = .returned (.int .i64 (recS ⟨off, time, hk, key, hv, val⟩ o t)) ∧ Below wn.heap.size wn w') := fun wn hb => spec_RecordSize _ ⟨off, time, hk, key, hv, val⟩ o t wn (rv.below hb)
    have C3 : Hid (∀ wn, Below w2.heap.size w2 wn → Calls Try.prog 16 #[.agg #[.int .i64 off, .int .i64 time, .bool hk, .slice a1 key.length cap1, .bool hv, .slice a2 val.length cap2], .int .i64 o, .int .i64 t] wn (NewInts wn (recBi ⟨off, time, hk, key, hv, val⟩ o t) (recOk ⟨off, time, hk, key, hv, val⟩ && baseOk o t))) := fun wn hb => impl_RecordBytes _ ⟨off, time, hk, key, hv, val⟩ o t wn (rv.below hb)
    have hxl := recBi_len ⟨off, time, hk, key, hv, val⟩ o t
    have hfacts : ((recOk ⟨off, time, hk, key, hv, val⟩ && baseOk o t) = false ∧ recS ⟨off, time, hk, key, hv, val⟩ o t = -1) ∨ ((recOk ⟨off, time, hk, key, hv, val⟩ && baseOk o t) = true ∧ recS ⟨off, time, hk, key, hv, val⟩ o t = ((recBi ⟨off, time, hk, key, hv, val⟩ o t).length : Int)) := by
      cases hb : (recOk ⟨off, time, hk, key, hv, val⟩ && baseOk o t) with
      | false => exact .inl ⟨rfl, by unfold recS; rw [hb]; rfl⟩
      | true => exact .inr ⟨rfl, by unfold recS recBi; rw [hb]; rfl⟩
    obtain ⟨b, hb⟩ : ∃ b, (recOk ⟨off, time, hk, key, hv, val⟩ && baseOk o t) = b := ⟨_, rfl⟩
    obtain ⟨n, hn⟩ : ∃ n, recS ⟨off, time, hk, key, hv, val⟩ o t = n := ⟨_, rfl⟩
    obtain ⟨xs, hxs⟩ : ∃ xs, recBi ⟨off, time, hk, key, hv, val⟩ o t = xs := ⟨_, rfl⟩
    rw [hn] at C1 C2
    rw [hb, hxs] at C3
    rw [hb, hn, hxs] at hfacts
    rw [hxs] at hxl
    have qn : (n != n) = false := by simp
    have qe : (n == n) = true := by simp
    clear hb hn hxs
    obtain ⟨c0, c1, c2, c3, c4, c5⟩ := xA.six?
    rcases hfacts with ⟨rfl, rfl⟩ | ⟨rfl, rfl⟩
    · go_wp2_with fail
      refine (C1.out w2 (Below.refl _ _)).mono ?_
      rintro e w3 ⟨rfl, b3⟩
      have x3 := xA.belowS b3
      clear c0 c1 c2 c3 c4 c5
      obtain ⟨c0, c1, c2, c3, c4, c5⟩ := x3.six?
      go_wp2_with fail
      refine (C2.out w3 b3).mono ?_
      rintro e w4 ⟨rfl, b4⟩
      go_wp2_with fail
      go_ret
      exact ⟨rfl, B2.trans ((Bstep b3 b4).mono B2.size)⟩
    · go_wp2_with fail
      refine (C1.out w2 (Below.refl _ _)).mono ?_
      rintro e w3 ⟨rfl, b3⟩
      have x3 := xA.belowS b3
      clear c0 c1 c2 c3 c4 c5
      obtain ⟨c0, c1, c2, c3, c4, c5⟩ := x3.six?
      go_wp2_with fail
      refine (C2.out w3 b3).mono ?_
      rintro e w4 ⟨rfl, b4⟩
      have D4 := Bstep b3 b4
      have x4 := x3.belowS b4
      clear c0 c1 c2 c3 c4 c5
      obtain ⟨c0, c1, c2, c3, c4, c5⟩ := x4.six?
      go_wp2_with fail
      refine (C3.out w4 D4).mono ?_
      rintro e w5 ⟨v5, rfl, own5, b5⟩
      obtain ⟨a5, cap5, rfl, l5, m5, _⟩ := own5.ints
      unfold maxLen at m5
      go_wp2_with fail
      go_ret
      exact ⟨rfl, B2.trans ((Bstep D4 b5).mono B2.size)⟩

set_option maxHeartbeats 1000000 in
theorem law_FnRecordPart (w : World) (v : Value) (zs : List Int) (h : U8s w v zs) : Calls Try.prog 10 #[v] w (Yes w) := by
  have hU := h
  obtain ⟨a, cap, rfl, hl, hm, hc, hr⟩ := hU
  unfold maxLen at hm
  clear hc hr
  by_cases hlen : 1048576 < zs.length
  · go_enter Try.func10, Try.ntmps10
    go_wp2
    go_ret
    exact ⟨rfl, Below.refl _ _⟩
  · have C0 := Lib.hid (spec_DrawRecordValid _ zs w h (by omega))
    clear h
    go_enter Try.func10, Try.ntmps10
    go_wp2_with fail
    refine C0.out.mono ?_
    rintro e w1 ⟨⟨off, time, hk, key, hv, val⟩, u, rfl, ⟨kv, vv, rfl, ok, ov⟩, f1, f2, f3, f4, f5, f6, B1⟩
    simp only at ok ov f1 f2 f3 f4 f5 f6
    obtain ⟨a1, cap1, rfl, _, _, _⟩ := ok.ints
    obtain ⟨a2, cap2, rfl, _, _, _⟩ := ov.ints
    have bx := alloc_below' w1 (.cells #[.int .i64 off, .int .i64 time, .bool hk, .slice a1 key.length cap1, .bool hv, .slice a2 val.length cap2] 25)
    have xA := Blk.made w1 #[.int .i64 off, .int .i64 time, .bool hk, .slice a1 key.length cap1, .bool hv, .slice a2 val.length cap2] 25
    go_upto_region 4 with (fail)
    generalize hw2 : w1.alloc (.cells #[.int .i64 off, .int .i64 time, .bool hk, .slice a1 key.length cap1, .bool hv, .slice a2 val.length cap2] 25) = w2 at bx xA ⊢
    obtain ⟨A, hA⟩ : ∃ A, w1.heap.size = A := ⟨_, rfl⟩
    have B2 := Bstep B1 bx
    have rv : RecV w2 (.agg #[.int .i64 off, .int .i64 time, .bool hk, .slice a1 key.length cap1, .bool hv, .slice a2 val.length cap2]) ⟨off, time, hk, key, hv, val⟩ := ⟨_, _, rfl, (ok.below bx).ints, (ov.below bx).ints⟩
    rw [hA] at xA ⊢
    clear hw2 bx B1 hA ok ov C0
    have C1 : Hid (∀ wn, Below w2.heap.size w2 wn → Calls Try.prog 24 #[.agg #[.int .i64 off, .int .i64 time, .bool hk, .slice a1 key.length cap1, .bool hv, .slice a2 val.length cap2]] wn (SaysB (recOk ⟨off, time, hk, key, hv, val⟩) wn)) := fun wn hb => impl_RecordValid _ ⟨off, time, hk, key, hv, val⟩ wn (rv.below hb)
    have C2 : Hid (∀ wn, Below w2.heap.size w2 wn → Calls Try.prog 29 #[.agg #[.int .i64 off, .int .i64 time, .bool hk, .slice a1 key.length cap1, .bool hv, .slice a2 val.length cap2]] wn (SaysB (recOk ⟨off, time, hk, key, hv, val⟩) wn)) := fun wn hb => spec_RecordValid _ ⟨off, time, hk, key, hv, val⟩ wn (rv.below hb)
    have iKV : Hid (∀ wn, Below w2.heap.size w2 wn → Ints wn (.slice a1 key.length cap1) key ∧ Ints wn (.slice a2 val.length cap2) val) := Lib.hid fun wn hb => by
      obtain ⟨kv, vv, e, ik, iv⟩ := rv.below hb
      simp only [Value.agg.injEq, Array.mk.injEq, List.cons.injEq, and_true] at e
      obtain ⟨_, _, _, rfl, _, rfl⟩ := e
      exact ⟨ik, iv⟩
    have C3 : Hid (∀ wn E, Below w2.heap.size w2 wn → wn.cell? ⟨E, 0, none⟩ = some (.int .i64 1) → Calls Try.prog 24 #[.agg #[.int .i64 off, .int .i64 time, .bool hk, .slice a1 key.length cap1, .bool false, .slice (some ⟨E, 0, none⟩) 1 1]] wn (SaysB false wn)) := fun wn E hb hc => by
      have := impl_RecordValid _ ⟨off, time, hk, key, false, [1]⟩ wn ⟨_, _, rfl, (iKV.out wn hb).1, ⟨some ⟨E, 0, none⟩, 1, rfl, by simp, by unfold maxLen; simp, fun _ => ⟨E, 0, rfl, fun i hi => by
        have : i = 0 := by simpa using hi
        subst this
        exact hc⟩⟩⟩
      have e : recOk ⟨off, time, hk, key, false, [1]⟩ = false := by
        cases h : recOk ⟨off, time, hk, key, false, [1]⟩ with
        | false => rfl
        | true => exact absurd ((partOk_iff.1 (recOk_iff.1 h).2.2.2).1 rfl) (by simp)
      rwa [e] at this
    have C4 : Hid (∀ wn, Below w2.heap.size w2 wn → Calls Try.prog 24 #[.agg #[.int .i64 (-1), .int .i64 time, .bool hk, .slice a1 key.length cap1, .bool hv, .slice a2 val.length cap2]] wn (SaysB false wn)) := fun wn hb => by
      have := impl_RecordValid _ ⟨-1, time, hk, key, hv, val⟩ wn ⟨_, _, rfl, (iKV.out wn hb).1, (iKV.out wn hb).2⟩
      have e : recOk ⟨-1, time, hk, key, hv, val⟩ = false := by
        cases h : recOk ⟨-1, time, hk, key, hv, val⟩ with
        | false => rfl
        | true => exact absurd (recOk_iff.1 h).1.1 (by simp)
      rwa [e] at this
    obtain ⟨b, hb⟩ : ∃ b, recOk ⟨off, time, hk, key, hv, val⟩ = b := ⟨_, rfl⟩
    rw [hb] at C1 C2
    clear hb
    obtain ⟨c0, c1, c2, c3, c4, c5⟩ := xA.six?
    go_wp2_with fail
    refine (C1.out w2 (Below.refl _ _)).mono ?_
    rintro e w3 ⟨rfl, b3⟩
    have x3 := xA.belowS b3
    clear c0 c1 c2 c3 c4 c5
    obtain ⟨c0, c1, c2, c3, c4, c5⟩ := x3.six?
    go_wp2_with fail
    refine (C2.out w3 b3).mono ?_
    rintro e w4 ⟨rfl, b4⟩
    have D4 := Bstep b3 b4
    have x4 := x3.belowS b4
    clear c0 c1 c2 c3 c4 c5 x3 b3 b4
    cases b with
    | false =>
      go_wp2_with fail
      go_ret
      exact ⟨rfl, B2.trans (D4.mono B2.size)⟩
    | true =>
      obtain ⟨c0, c1, c2, c3, c4, c5⟩ := x4.six?
      have bx := alloc_below' w4 (.cells #[.int .i64 off, .int .i64 time, .bool hk, .slice a1 key.length cap1, .bool hv, .slice a2 val.length cap2] 25)
      have xX := Blk.made w4 #[.int .i64 off, .int .i64 time, .bool hk, .slice a1 key.length cap1, .bool hv, .slice a2 val.length cap2] 25
      go_upto_region 9 with (fail)
      generalize hw5 : w4.alloc (.cells #[.int .i64 off, .int .i64 time, .bool hk, .slice a1 key.length cap1, .bool hv, .slice a2 val.length cap2] 25) = w5 at bx xX ⊢
      have D5 := Bstep D4 bx
      have x5 := x4.belowS bx
      obtain ⟨X, hX⟩ : ∃ X, w4.heap.size = X := ⟨_, rfl⟩
      have hAX : A ≠ X := by have := x4.lt; omega
      rw [hX] at xX ⊢
      have hXw : w2.heap.size ≤ X := by rw [← hX]; exact D4.size
      clear hw5 bx x4 D4 c0 c1 c2 c3 c4 c5 hX
      have fx := xX.free
      have lx := xX.lt
      obtain ⟨d0, d1, d2, d3, d4, d5⟩ := xX.six?
      go_upto_region 10 with (fail)
      have xX6 : Blk (w5.setCell ⟨X, 4, none⟩ (.bool false)) X #[.int .i64 off, .int .i64 time, .bool hk, .slice a1 key.length cap1, .bool false, .slice a2 val.length cap2] := xX.set 4 (.bool false)
      have x6 : Blk (w5.setCell ⟨X, 4, none⟩ (.bool false)) A _ := x5.other hAX
      have D6 : Below w2.heap.size w2 (w5.setCell ⟨X, 4, none⟩ (.bool false)) := D5.setCell hXw _
      generalize hw6 : w5.setCell ⟨X, 4, none⟩ (.bool false) = w6 at xX6 x6 D6 ⊢
      clear hw6 xX x5 D5 d0 d1 d2 d3 d4 d5 fx lx
      have fx := xX6.free
      have lx := xX6.lt
      obtain ⟨d0, d1, d2, d3, d4, d5⟩ := xX6.six?
      go_upto_region 11 with (fail)
      obtain ⟨E, hE⟩ : ∃ E, w6.heap.size = E := ⟨_, rfl⟩
      have hEX : X < E := by rw [← hE]; exact lx
      have hAE : A < E := by rw [← hE]; exact x6.lt
      have W7 := heap_alloc_new (w6.setCell ⟨X, 5, none⟩ (.slice (some ⟨w6.heap.size, 0, none⟩) 1 1)) (.cells #[.int .i64 1] 3)
      have eS : (w6.setCell ⟨X, 5, none⟩ (.slice (some ⟨w6.heap.size, 0, none⟩) 1 1)).heap.size = w6.heap.size := by simp
      rw [eS, hE] at W7
      rw [hE]
      have xX7 : Blk ((w6.setCell ⟨X, 5, none⟩ (.slice (some ⟨E, 0, none⟩) 1 1)).alloc (.cells #[.int .i64 1] 3)) X #[.int .i64 off, .int .i64 time, .bool hk, .slice a1 key.length cap1, .bool false, .slice (some ⟨E, 0, none⟩) 1 1] := (xX6.set 5 (.slice (some ⟨E, 0, none⟩) 1 1)).belowS (alloc_below' _ _)
      have x7 : Blk ((w6.setCell ⟨X, 5, none⟩ (.slice (some ⟨E, 0, none⟩) 1 1)).alloc (.cells #[.int .i64 1] 3)) A _ := (x6.other hAX).belowS (alloc_below' _ _)
      have D7 : Below w2.heap.size w2 ((w6.setCell ⟨X, 5, none⟩ (.slice (some ⟨E, 0, none⟩) 1 1)).alloc (.cells #[.int .i64 1] 3)) := Bstep (D6.setCell hXw _) (alloc_below' _ _)
      have hBE : Blk ((w6.setCell ⟨X, 5, none⟩ (.slice (some ⟨E, 0, none⟩) 1 1)).alloc (.cells #[.int .i64 1] 3)) E #[.int .i64 1] := ⟨_, W7⟩
      generalize hw7 : (w6.setCell ⟨X, 5, none⟩ (.slice (some ⟨E, 0, none⟩) 1 1)).alloc (.cells #[.int .i64 1] 3) = w7 at xX7 x7 D7 hBE ⊢
      clear hw7 xX6 x6 D6 d0 d1 d2 d3 d4 d5 fx lx W7 eS hE
      have bx := alloc_below' w7 (.cells #[.int .i64 off, .int .i64 time, .bool hk, .slice a1 key.length cap1, .bool hv, .slice a2 val.length cap2] 25)
      have xY := Blk.made w7 #[.int .i64 off, .int .i64 time, .bool hk, .slice a1 key.length cap1, .bool hv, .slice a2 val.length cap2] 25
      obtain ⟨c0, c1, c2, c3, c4, c5⟩ := x7.six?
      go_upto_region 12 with (fail)
      generalize hw8 : w7.alloc (.cells #[.int .i64 off, .int .i64 time, .bool hk, .slice a1 key.length cap1, .bool hv, .slice a2 val.length cap2] 25) = w8 at bx xY ⊢
      have xX8 := xX7.belowS bx
      have hBE8 := hBE.belowS bx
      have D8 := Bstep D7 bx
      obtain ⟨Y, hY⟩ : ∃ Y, w7.heap.size = Y := ⟨_, rfl⟩
      have hXY : X ≠ Y := by have := xX7.lt; omega
      have hEY : E ≠ Y := by have := hBE.lt; omega
      rw [hY] at xY ⊢
      have hYw : w2.heap.size ≤ Y := by rw [← hY]; exact D7.size
      clear hw8 bx xX7 x7 D7 c0 c1 c2 c3 c4 c5 hY hBE
      have fy := xY.free
      have ly := xY.lt
      obtain ⟨d0, d1, d2, d3, d4, d5⟩ := xY.six?
      go_upto_region 13 with (fail)
      have xY9 : Blk (w8.setCell ⟨Y, 0, none⟩ (.int .i64 (-1))) Y #[.int .i64 (-1), .int .i64 time, .bool hk, .slice a1 key.length cap1, .bool hv, .slice a2 val.length cap2] := xY.set 0 (.int .i64 (-1))
      have xX9 : Blk (w8.setCell ⟨Y, 0, none⟩ (.int .i64 (-1))) X _ := xX8.other hXY
      have hBE9 : Blk (w8.setCell ⟨Y, 0, none⟩ (.int .i64 (-1))) E _ := hBE8.other hEY
      have D9 : Below w2.heap.size w2 (w8.setCell ⟨Y, 0, none⟩ (.int .i64 (-1))) := D8.setCell hYw _
      generalize hw9 : w8.setCell ⟨Y, 0, none⟩ (.int .i64 (-1)) = w9 at xY9 xX9 D9 hBE9 ⊢
      clear hw9 xY xX8 D8 d0 d1 d2 d3 d4 d5 fy ly hBE8
      obtain ⟨d0, d1, d2, d3, d4, d5⟩ := xX9.six?
      go_wp2_with fail
      refine (C3.out w9 E D9 (hBE9.cell 0)).mono ?_
      rintro e w10 ⟨rfl, b10⟩
      have D10 := Bstep D9 b10
      have xY10 := xY9.belowS b10
      clear d0 d1 d2 d3 d4 d5 xX9 hBE9 D9 xY9 b10
      obtain ⟨d0, d1, d2, d3, d4, d5⟩ := xY10.six?
      go_wp2_with fail
      refine (C4.out w10 D10).mono ?_
      rintro e w11 ⟨rfl, b11⟩
      go_wp2_with fail
      go_ret
      exact ⟨rfl, B2.trans ((Bstep D10 b11).mono B2.size)⟩
end Go.Proofs.Ytkkfnpcldogglaa
