/- Chapter 3: the laws on a record's bytes. -/
import Derived.Test.YtkkfnpcldogglaaK3c
import Derived.Test.YtkkfnpcldogglaaP3d
import Derived.Test.YtkkfnpcldogglaaD3e
namespace Go.Proofs.Ytkkfnpcldogglaa
open Go.ChangeShapes Go.WideShapes Go.ChangeAt Go.RowKit
set_option linter.unusedVariables false

theorem recBi_yes {r : Rec} {o t : Int} (h : (recOk r && baseOk o t) = true) : recBi r o t = recBytes r o t := by unfold recBi; rw [if_pos h]

set_option maxHeartbeats 1000000 in
theorem law_FnRecord (w : World) (v : Value) (zs : List Int) (h : U8s w v zs) : Calls Try.prog 3 #[v] w (Yes w) := by
  have hU := h
  obtain ⟨a, cap, rfl, hl, hm, hc, hr⟩ := hU
  unfold maxLen at hm
  clear hc hr
  by_cases hlen : 1048576 < zs.length
  · go_enter Try.func3, Try.ntmps3
    go_wp2
    go_ret
    exact ⟨rfl, Below.refl _ _⟩
  · have C0 := Lib.hid (spec_DrawRecordBytes _ zs w h (by omega))
    clear h
    go_enter Try.func3, Try.ntmps3
    go_wp2_with fail
    refine C0.out.mono ?_
    rintro e w1 ⟨⟨off, time, hk, key, hv, val⟩, u, o, t, rfl, ⟨kv, vv, rfl, ok, ov⟩, f1, f2, f3, f4, f5, f6, f7, f8, f9, f10, B1⟩
    simp only at ok ov f1 f2 f3 f4 f5 f6
    obtain ⟨a1, cap1, rfl, _, _, _⟩ := ok.ints
    obtain ⟨a2, cap2, rfl, _, _, _⟩ := ov.ints
    have bx := alloc_below' w1 (.cells #[.int .i64 off, .int .i64 time, .bool hk, .slice a1 key.length cap1, .bool hv, .slice a2 val.length cap2] 25)
    have xA := Blk.made w1 #[.int .i64 off, .int .i64 time, .bool hk, .slice a1 key.length cap1, .bool hv, .slice a2 val.length cap2] 25
    go_upto_region 4 with (fail)
    generalize hw2 : w1.alloc (.cells #[.int .i64 off, .int .i64 time, .bool hk, .slice a1 key.length cap1, .bool hv, .slice a2 val.length cap2] 25) = w2 at bx xA ⊢
    obtain ⟨A, hA⟩ : ∃ A, w1.heap.size = A := ⟨_, rfl⟩
    have B2 := Bstep B1 bx
    have rv : RecV w2 (.agg #[.int .i64 off, .int .i64 time, .bool hk, .slice a1 key.length cap1, .bool hv, .slice a2 val.length cap2]) ⟨off, time, hk, key, hv, val⟩ := ⟨_, _, rfl, (ok.below bx).ints, (ov.below bx).ints⟩
    rw [hA] at xA ⊢
    clear hw2 bx B1 hA ok ov C0
    have C1 : Hid (∀ wn, Below w2.heap.size w2 wn → Calls Try.prog 16 #[.agg #[.int .i64 off, .int .i64 time, .bool hk, .slice a1 key.length cap1, .bool hv, .slice a2 val.length cap2], .int .i64 o, .int .i64 t] wn (NewInts wn (recBi ⟨off, time, hk, key, hv, val⟩ o t) (recOk ⟨off, time, hk, key, hv, val⟩ && baseOk o t))) := fun wn hb => impl_RecordBytes _ ⟨off, time, hk, key, hv, val⟩ o t wn (rv.below hb)
    have C2 : Hid (∀ wn, Below w2.heap.size w2 wn → Calls Try.prog 17 #[.agg #[.int .i64 off, .int .i64 time, .bool hk, .slice a1 key.length cap1, .bool hv, .slice a2 val.length cap2], .int .i64 o, .int .i64 t] wn (NewInts wn (recBi ⟨off, time, hk, key, hv, val⟩ o t) (recOk ⟨off, time, hk, key, hv, val⟩ && baseOk o t))) := fun wn hb => spec_RecordBytes _ ⟨off, time, hk, key, hv, val⟩ o t wn (rv.below hb)
    have hxl := recBi_len ⟨off, time, hk, key, hv, val⟩ o t
    have hfacts : (recOk ⟨off, time, hk, key, hv, val⟩ && baseOk o t) = true → recOk ⟨off, time, hk, key, hv, val⟩ = true ∧ baseOk o t = true ∧ recBi ⟨off, time, hk, key, hv, val⟩ o t = recBytes ⟨off, time, hk, key, hv, val⟩ o t := fun hb => ⟨(Bool.and_eq_true_iff.1 hb).1, (Bool.and_eq_true_iff.1 hb).2, recBi_yes hb⟩
    obtain ⟨b, hb⟩ : ∃ b, (recOk ⟨off, time, hk, key, hv, val⟩ && baseOk o t) = b := ⟨_, rfl⟩
    obtain ⟨xs, hxs⟩ : ∃ xs, recBi ⟨off, time, hk, key, hv, val⟩ o t = xs := ⟨_, rfl⟩
    rw [hb, hxs] at C1 C2
    rw [hb, hxs] at hfacts
    rw [hxs] at hxl
    have HF := Lib.hid hfacts
    have C5 : Hid (∀ wn u v, Ints wn u xs → Ints wn v xs → Calls Try.prog 18 #[u, v] wn (Same wn (xs == xs))) := fun wn u v hu hv => laws_sameInts u v xs xs wn hu hv
    rw [beq_self] at C5
    have qb : (b != b) = false := by simp
    have qe : (b == b) = true := by simp
    clear hfacts hb hxs
    obtain ⟨c0, c1, c2, c3, c4, c5⟩ := xA.six?
    go_wp2_with fail
    refine (C1.out w2 (Below.refl _ _)).mono ?_
    rintro e w3 ⟨v1, rfl, own1, b3⟩
    obtain ⟨a3, cap3, rfl, l3, m3, _⟩ := own1.ints
    unfold maxLen at m3
    have x3 := xA.belowS b3
    clear c0 c1 c2 c3 c4 c5
    obtain ⟨c0, c1, c2, c3, c4, c5⟩ := x3.six?
    go_wp2_with fail
    refine (C2.out w3 b3).mono ?_
    rintro e w4 ⟨v2, rfl, own2, b4⟩
    obtain ⟨a4, cap4, rfl, l4, m4, _⟩ := own2.ints
    unfold maxLen at m4
    have D4 := Bstep b3 b4
    have x4 := x3.belowS b4
    have j4 := own1.ints.below b4
    have i4 := own2.ints
    clear b3 b4 x3 own1 own2 c0 c1 c2 c3 c4 c5 xA
    obtain ⟨c0, c1, c2, c3, c4, c5⟩ := x4.six?
    cases b with
    | false =>
      go_wp2_with fail
      refine (C5.out w4 _ _ j4 i4).mono ?_
      rintro e w5 ⟨rfl, b5⟩
      go_wp2_with fail
      refine (C5.out w5 _ _ (j4.below b5) (i4.below b5)).mono ?_
      rintro e w6 ⟨rfl, b6⟩
      go_wp2_with fail
      go_ret
      exact ⟨rfl, B2.trans ((Bstep (Bstep D4 b5) b6).mono B2.size)⟩
    | true =>
      have G := Lib.hid (HF.out (by simp))
      go_wp2_with fail
      refine (C5.out w4 _ _ j4 i4).mono ?_
      rintro e w5 ⟨rfl, b5⟩
      have D5 := Bstep D4 b5
      have j5 := j4.below b5
      have i5 := i4.below b5
      have x5 := x4.belowS b5
      clear D4 j4 i4 x4 b5 c0 c1 c2 c3 c4 c5
      obtain ⟨c0, c1, c2, c3, c4, c5⟩ := x5.six?
      obtain ⟨g1, g2, g3⟩ := G.out
      have hx := rdRecI_bytes g1 g2
      rw [← g3] at hx
      have D := Lib.hid (impl_RecordFrom (.slice a3 xs.length cap3) xs 0 o t w5 j5 ⟨by omega, by omega⟩)
      rw [hx] at D
      have C6 : Hid (∀ wn u v, RecV wn u ⟨off, time, hk, key, hv, val⟩ → RecV wn v ⟨off, time, hk, key, hv, val⟩ → Calls Try.prog 20 #[u, v] wn (Same wn true)) := fun wn u v hu hv => laws_sameRecord u v _ wn hu hv
      have qn : ((xs.length : Int) == (xs.length : Int)) = true := by simp
      clear hx g1 g2 g3
      go_wp2_with fail
      refine D.out.mono ?_
      rintro e w6 hr
      obtain ⟨r1, rfl, ownG, b6⟩ := hr.own
      obtain ⟨k1, u1, rfl, p0, p1, ap1⟩ := ownG
      simp only at p0 p1
      obtain ⟨a6, cap6, rfl, _, _, _⟩ := p0.ints
      obtain ⟨a8, cap8, rfl, _, _, _⟩ := p1.ints
      have bx := alloc_below' w6 (.cells #[.int .i64 off, .int .i64 time, .bool hk, .slice a6 key.length cap6, .bool hv, .slice a8 val.length cap8] 25)
      have xQ := Blk.made w6 #[.int .i64 off, .int .i64 time, .bool hk, .slice a6 key.length cap6, .bool hv, .slice a8 val.length cap8] 25
      have x6 := x5.belowS b6
      have D6 := Bstep D5 b6
      clear hr b6 x5 D5 c0 c1 c2 c3 c4 c5
      go_upto_region 9 with (fail)
      generalize hw7 : w6.alloc (.cells #[.int .i64 off, .int .i64 time, .bool hk, .slice a6 key.length cap6, .bool hv, .slice a8 val.length cap8] 25) = w7 at bx xQ ⊢
      have x7 := x6.belowS bx
      have D7 := Bstep D6 bx
      have rq : RecV w7 (.agg #[.int .i64 off, .int .i64 time, .bool hk, .slice a6 key.length cap6, .bool hv, .slice a8 val.length cap8]) ⟨off, time, hk, key, hv, val⟩ := ⟨_, _, rfl, (p0.below bx).ints, (p1.below bx).ints⟩
      clear hw7 bx x6 D6 p0 p1
      obtain ⟨c0, c1, c2, c3, c4, c5⟩ := x7.six?
      obtain ⟨d0, d1, d2, d3, d4, d5⟩ := xQ.six?
      go_wp2_with fail
      refine (C6.out w7 _ _ rq (rv.below D7)).mono ?_
      rintro e w8 ⟨rfl, b8⟩
      go_wp2_with fail
      go_ret
      exact ⟨rfl, B2.trans ((Bstep D7 b8).mono B2.size)⟩

set_option maxHeartbeats 1000000 in
theorem law_FnRecordLength (w : World) (v : Value) (zs : List Int) (h : U8s w v zs) : Calls Try.prog 5 #[v] w (Yes w) := by
  have hU := h
  obtain ⟨a, cap, rfl, hl, hm, hc, hr⟩ := hU
  unfold maxLen at hm
  clear hc hr
  by_cases hlen : 1048576 < zs.length
  · go_enter Try.func5, Try.ntmps5
    go_wp2
    go_ret
    exact ⟨rfl, Below.refl _ _⟩
  · have C0 := Lib.hid (spec_DrawRecordBytes _ zs w h (by omega))
    clear h
    go_enter Try.func5, Try.ntmps5
    go_wp2_with fail
    refine C0.out.mono ?_
    rintro e w1 ⟨⟨off, time, hk, key, hv, val⟩, u, o, t, rfl, ⟨kv, vv, rfl, ok, ov⟩, f1, f2, f3, f4, f5, f6, f7, f8, f9, f10, B1⟩
    simp only at ok ov f1 f2 f3 f4 f5 f6
    obtain ⟨a1, cap1, rfl, _, _, _⟩ := ok.ints
    obtain ⟨a2, cap2, rfl, _, _, _⟩ := ov.ints
    have bx := alloc_below' w1 (.cells #[.int .i64 off, .int .i64 time, .bool hk, .slice a1 key.length cap1, .bool hv, .slice a2 val.length cap2] 25)
    have xA := Blk.made w1 #[.int .i64 off, .int .i64 time, .bool hk, .slice a1 key.length cap1, .bool hv, .slice a2 val.length cap2] 25
    go_upto_region 4 with (fail)
    generalize hw2 : w1.alloc (.cells #[.int .i64 off, .int .i64 time, .bool hk, .slice a1 key.length cap1, .bool hv, .slice a2 val.length cap2] 25) = w2 at bx xA ⊢
    obtain ⟨A, hA⟩ : ∃ A, w1.heap.size = A := ⟨_, rfl⟩
    have B2 := Bstep B1 bx
    have rv : RecV w2 (.agg #[.int .i64 off, .int .i64 time, .bool hk, .slice a1 key.length cap1, .bool hv, .slice a2 val.length cap2]) ⟨off, time, hk, key, hv, val⟩ := ⟨_, _, rfl, (ok.below bx).ints, (ov.below bx).ints⟩
    rw [hA] at xA ⊢
    clear hw2 bx B1 hA ok ov C0
    have C1 : Hid (∀ wn, Below w2.heap.size w2 wn → Calls Try.prog 16 #[.agg #[.int .i64 off, .int .i64 time, .bool hk, .slice a1 key.length cap1, .bool hv, .slice a2 val.length cap2], .int .i64 o, .int .i64 t] wn (NewInts wn (recBi ⟨off, time, hk, key, hv, val⟩ o t) (recOk ⟨off, time, hk, key, hv, val⟩ && baseOk o t))) := fun wn hb => impl_RecordBytes _ ⟨off, time, hk, key, hv, val⟩ o t wn (rv.below hb)
    have C2 : Hid (∀ wn, Below w2.heap.size w2 wn → Calls Try.prog 17 #[.agg #[.int .i64 off, .int .i64 time, .bool hk, .slice a1 key.length cap1, .bool hv, .slice a2 val.length cap2], .int .i64 o, .int .i64 t] wn (NewInts wn (recBi ⟨off, time, hk, key, hv, val⟩ o t) (recOk ⟨off, time, hk, key, hv, val⟩ && baseOk o t))) := fun wn hb => spec_RecordBytes _ ⟨off, time, hk, key, hv, val⟩ o t wn (rv.below hb)
    have hxl := recBi_len ⟨off, time, hk, key, hv, val⟩ o t
    have hfacts : (recOk ⟨off, time, hk, key, hv, val⟩ && baseOk o t) = true → recOk ⟨off, time, hk, key, hv, val⟩ = true ∧ baseOk o t = true ∧ recBi ⟨off, time, hk, key, hv, val⟩ o t = recBytes ⟨off, time, hk, key, hv, val⟩ o t := fun hb => ⟨(Bool.and_eq_true_iff.1 hb).1, (Bool.and_eq_true_iff.1 hb).2, recBi_yes hb⟩
    obtain ⟨b, hb⟩ : ∃ b, (recOk ⟨off, time, hk, key, hv, val⟩ && baseOk o t) = b := ⟨_, rfl⟩
    obtain ⟨xs, hxs⟩ : ∃ xs, recBi ⟨off, time, hk, key, hv, val⟩ o t = xs := ⟨_, rfl⟩
    rw [hb, hxs] at C1 C2
    rw [hb, hxs] at hfacts
    rw [hxs] at hxl
    have HF := Lib.hid hfacts
    have C5 : Hid (∀ wn u v, Ints wn u xs → Ints wn v xs → Calls Try.prog 18 #[u, v] wn (Same wn (xs == xs))) := fun wn u v hu hv => laws_sameInts u v xs xs wn hu hv
    rw [beq_self] at C5
    have qb : (b != b) = false := by simp
    have qe : (b == b) = true := by simp
    clear hfacts hb hxs
    obtain ⟨c0, c1, c2, c3, c4, c5⟩ := xA.six?
    go_wp2_with fail
    refine (C1.out w2 (Below.refl _ _)).mono ?_
    rintro e w3 ⟨v1, rfl, own1, b3⟩
    obtain ⟨a3, cap3, rfl, l3, m3, _⟩ := own1.ints
    unfold maxLen at m3
    have x3 := xA.belowS b3
    clear c0 c1 c2 c3 c4 c5
    obtain ⟨c0, c1, c2, c3, c4, c5⟩ := x3.six?
    go_wp2_with fail
    refine (C2.out w3 b3).mono ?_
    rintro e w4 ⟨v2, rfl, own2, b4⟩
    obtain ⟨a4, cap4, rfl, l4, m4, _⟩ := own2.ints
    unfold maxLen at m4
    have D4 := Bstep b3 b4
    have x4 := x3.belowS b4
    have j4 := own1.ints.below b4
    have i4 := own2.ints
    clear b3 b4 x3 own1 own2 c0 c1 c2 c3 c4 c5 xA
    obtain ⟨c0, c1, c2, c3, c4, c5⟩ := x4.six?
    cases b with
    | false =>
      go_wp2_with fail
      refine (C5.out w4 _ _ j4 i4).mono ?_
      rintro e w5 ⟨rfl, b5⟩
      go_wp2_with fail
      refine (C5.out w5 _ _ (j4.below b5) (i4.below b5)).mono ?_
      rintro e w6 ⟨rfl, b6⟩
      go_wp2_with fail
      go_ret
      exact ⟨rfl, B2.trans ((Bstep (Bstep D4 b5) b6).mono B2.size)⟩
    | true =>
      have G := Lib.hid (HF.out (by simp))
      go_wp2_with fail
      refine (C5.out w4 _ _ j4 i4).mono ?_
      rintro e w5 ⟨rfl, b5⟩
      have D5 := Bstep D4 b5
      have j5 := j4.below b5
      have i5 := i4.below b5
      have x5 := x4.belowS b5
      clear D4 j4 i4 x4 b5 c0 c1 c2 c3 c4 c5
      obtain ⟨c0, c1, c2, c3, c4, c5⟩ := x5.six?
      obtain ⟨g1, g2, g3⟩ := G.out
      obtain ⟨hh, hl1, hl2⟩ := recBytes_head g1 g2
      rw [← g3] at hh hl1
      have D := Lib.hid (impl_VarFrom (.slice a3 xs.length cap3) xs 0 w5 j5 ⟨by omega, by omega⟩)
      rw [hh] at D
      obtain ⟨n, hn⟩ : ∃ n, (recBody ⟨off, time, hk, key, hv, val⟩ o t).length = n := ⟨_, rfl⟩
      rw [hn] at D hl1 hl2
      have qn : ((n : Int) == (xs.length : Int) - 1) = true := by rw [beq_iff_eq]; omega
      have ql : decide ((xs.length : Int) ≤ 33) = true := decide_eq_true (by omega)
      have HL := Lib.hid hl1
      clear hh g1 g2 g3 hn hl1
      go_wp2_with fail
      refine D.out.mono ?_
      rintro e w6 ⟨rfl, rfl⟩
      go_wp2_with fail
      go_ret
      exact ⟨rfl, B2.trans (D5.mono B2.size)⟩
end Go.Proofs.Ytkkfnpcldogglaa
