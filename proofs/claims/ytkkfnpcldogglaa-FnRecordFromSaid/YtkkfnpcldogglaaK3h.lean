/- Chapter 3: the laws on reading records. -/
import Derived.Test.YtkkfnpcldogglaaK3c
import Derived.Test.YtkkfnpcldogglaaP3d
import Derived.Test.YtkkfnpcldogglaaD3e
namespace Go.Proofs.Ytkkfnpcldogglaa
open Go.ChangeShapes Go.WideShapes Go.ChangeAt Go.RowKit
set_option linter.unusedVariables false

theorem rdRecI_facts {xs : List Int} {k o t nx : Int} {r : Rec} (h : rdRecI xs k o t = (r, nx, true)) : okBs xs = true ∧ baseOk o t = true := by
  unfold rdRecI at h
  split at h
  · rename_i h1
    split at h
    · simp at h
    · split at h
      · rename_i h3; exact ⟨h1, h3⟩
      · simp at h
  · simp at h

set_option maxHeartbeats 2000000 in
theorem law_FnRecordFrom (w : World) (v : Value) (zs : List Int) (h : U8s w v zs) : Calls Try.prog 6 #[v] w (Yes w) := by
  have hU := h
  obtain ⟨a, cap, rfl, hl, hm, hc, hr⟩ := hU
  unfold maxLen at hm
  clear hc hr
  by_cases hlen : 1048576 < zs.length
  · go_enter Try.func6, Try.ntmps6
    go_wp2
    go_ret
    exact ⟨rfl, Below.refl _ _⟩
  · have C0 := Lib.hid (spec_DrawRecordFrom _ zs w h (by omega))
    clear h
    go_enter Try.func6, Try.ntmps6
    go_wp2_with fail
    refine C0.out.mono ?_
    rintro e w1 ⟨vb, bs, k, o, t, rfl, ib, lb, k0, k1, o0, o1, t0, t1, B1⟩
    have ib' := ib
    obtain ⟨ab, capb, rfl, lbc, mb, _⟩ := ib'
    unfold maxLen at mb
    obtain ⟨k, rfl⟩ := Int.eq_ofNat_of_zero_le k0
    have C1 : Hid (∀ wn, Below w1.heap.size w1 wn → Calls Try.prog 19 #[.slice ab bs.length capb, .int .i64 (k : Int), .int .i64 o, .int .i64 t] wn (RecOut wn (rdRecI bs (k : Int) o t))) := fun wn hb => impl_RecordFrom _ bs (k : Int) o t wn (ib.below hb) ⟨by omega, by omega⟩
    have C2 : Hid (∀ wn, Below w1.heap.size w1 wn → Calls Try.prog 23 #[.slice ab bs.length capb, .int .i64 (k : Int), .int .i64 o, .int .i64 t] wn (RecOut wn (rdRecI bs (k : Int) o t))) := fun wn hb => spec_RecordFrom _ bs (k : Int) o t wn (ib.below hb) (by omega)
    obtain ⟨l1, l2⟩ := rdRecI_len bs (k : Int) o t
    obtain ⟨⟨⟨off, time, hk, key, hv, val⟩, nx, b⟩, hg⟩ : ∃ g, rdRecI bs (k : Int) o t = g := ⟨_, rfl⟩
    rw [hg] at C1 C2 l1 l2
    simp only at l1 l2
    have HG := Lib.hid hg
    have iB : Hid (∀ wn, Below w1.heap.size w1 wn → Ints wn (.slice ab bs.length capb) bs) := Lib.hid fun wn hb => ib.below hb
    have C4 : Hid (∀ wn u v, RecV wn u ⟨off, time, hk, key, hv, val⟩ → RecV wn v ⟨off, time, hk, key, hv, val⟩ → Calls Try.prog 20 #[u, v] wn (Same wn true)) := fun wn u v hu hv => laws_sameRecord u v _ wn hu hv
    clear hg
    have q1 : (nx != nx) = false := by simp
    have q2 : (nx == nx) = true := by simp
    go_wp2_with fail
    refine (C1.out w1 (Below.refl _ _)).mono ?_
    rintro e w2 hr
    obtain ⟨r0, rfl, ownR, D2⟩ := hr.own
    obtain ⟨k0', u0, rfl, p0, p1, ap0⟩ := ownR
    simp only at p0 p1
    obtain ⟨a5, cap5, rfl, _, _, _⟩ := p0.ints
    obtain ⟨b5, cbp5, rfl, _, _, _⟩ := p1.ints
    have bx := alloc_below' w2 (.cells #[.int .i64 off, .int .i64 time, .bool hk, .slice a5 key.length cap5, .bool hv, .slice b5 val.length cbp5] 25)
    have xP := Blk.made w2 #[.int .i64 off, .int .i64 time, .bool hk, .slice a5 key.length cap5, .bool hv, .slice b5 val.length cbp5] 25
    clear hr
    go_upto_region 5 with (fail)
    generalize hw3 : w2.alloc (.cells #[.int .i64 off, .int .i64 time, .bool hk, .slice a5 key.length cap5, .bool hv, .slice b5 val.length cbp5] 25) = w3 at bx xP ⊢
    obtain ⟨P, hP⟩ : ∃ P, w2.heap.size = P := ⟨_, rfl⟩
    have D3 := Bstep D2 bx
    have rP : RecV w3 (.agg #[.int .i64 off, .int .i64 time, .bool hk, .slice a5 key.length cap5, .bool hv, .slice b5 val.length cbp5]) ⟨off, time, hk, key, hv, val⟩ := ⟨_, _, rfl, (p0.below bx).ints, (p1.below bx).ints⟩
    rw [hP] at xP ⊢
    clear hw3 bx p0 p1 D2 hP
    go_wp2_with fail
    refine (C2.out w3 D3).mono ?_
    rintro e w4 hr
    obtain ⟨r0, rfl, ownR, b4⟩ := hr.own
    have D4 := Bstep D3 b4
    have rP4 := rP.below b4
    have xP4 := xP.belowS b4
    obtain ⟨k0', u0, rfl, p0, p1, ap1⟩ := ownR
    simp only at p0 p1
    obtain ⟨a6, cap6, rfl, _, _, _⟩ := p0.ints
    obtain ⟨b6, cbp6, rfl, _, _, _⟩ := p1.ints
    have bx := alloc_below' w4 (.cells #[.int .i64 off, .int .i64 time, .bool hk, .slice a6 key.length cap6, .bool hv, .slice b6 val.length cbp6] 25)
    have xQ := Blk.made w4 #[.int .i64 off, .int .i64 time, .bool hk, .slice a6 key.length cap6, .bool hv, .slice b6 val.length cbp6] 25
    clear hr b4 D3 rP xP
    go_upto_region 6 with (fail)
    generalize hw5 : w4.alloc (.cells #[.int .i64 off, .int .i64 time, .bool hk, .slice a6 key.length cap6, .bool hv, .slice b6 val.length cbp6] 25) = w5 at bx xQ ⊢
    obtain ⟨Q, hQ⟩ : ∃ Q, w4.heap.size = Q := ⟨_, rfl⟩
    have D5 := Bstep D4 bx
    have rP5 := rP4.below bx
    have xP5 := xP4.belowS bx
    have rQ5 : RecV w5 (.agg #[.int .i64 off, .int .i64 time, .bool hk, .slice a6 key.length cap6, .bool hv, .slice b6 val.length cbp6]) ⟨off, time, hk, key, hv, val⟩ := ⟨_, _, rfl, (p0.below bx).ints, (p1.below bx).ints⟩
    rw [hQ] at xQ ⊢
    clear hw5 bx p0 p1 D4 hQ rP4 xP4
    obtain ⟨c0, c1, c2, c3, c4, c5⟩ := xP5.six?
    obtain ⟨d0, d1, d2, d3, d4, d5⟩ := xQ.six?
    cases b with
    | false =>
      go_wp2_with fail
      refine (C4.out w5 _ _ rP5 rQ5).mono ?_
      rintro e w6 ⟨rfl, b6'⟩
      have rP6 := rP5.below b6'
      have rQ6 := rQ5.below b6'
      have xP6 := xP5.belowS b6'
      have xQ6 := xQ.belowS b6'
      clear c0 c1 c2 c3 c4 c5 d0 d1 d2 d3 d4 d5
      obtain ⟨c0, c1, c2, c3, c4, c5⟩ := xP6.six?
      obtain ⟨d0, d1, d2, d3, d4, d5⟩ := xQ6.six?
      go_wp2_with fail
      refine (C4.out w6 _ _ rP6 rQ6).mono ?_
      rintro e w7 ⟨rfl, b7⟩
      go_wp2_with fail
      go_ret
      exact ⟨rfl, B1.trans ((Bstep (Bstep D5 b6') b7).mono B1.size)⟩
    | true =>
      obtain ⟨hok, hbk⟩ := rdRecI_facts HG.out
      have htorn := rdRec_torn hok hbk HG.out
      obtain ⟨_, hkn, hnl, hrok, hbytes⟩ := htorn
      obtain ⟨m, rfl⟩ : ∃ m : Nat, nx = (k : Int) + (m : Int) := ⟨(nx - k).toNat, by omega⟩
      obtain ⟨u, hu, iu⟩ := run_part ib k m (by omega)
      rw [show ((k : Int) + (m : Int)).toNat - k = m by omega] at hbytes
      have C7 : Hid (∀ wn, RecV wn (.agg #[.int .i64 off, .int .i64 time, .bool hk, .slice a5 key.length cap5, .bool hv, .slice b5 val.length cbp5]) ⟨off, time, hk, key, hv, val⟩ → Calls Try.prog 16 #[.agg #[.int .i64 off, .int .i64 time, .bool hk, .slice a5 key.length cap5, .bool hv, .slice b5 val.length cbp5], .int .i64 o, .int .i64 t] wn (NewInts wn ((bs.drop k).take m) true)) := fun wn hr => by
        have := impl_RecordBytes _ ⟨off, time, hk, key, hv, val⟩ o t wn hr
        unfold IfInts at this
        rw [hrok, hbk] at this
        rw [← hbytes]
        exact this
      have C8 : Hid (∀ wn, RecV wn (.agg #[.int .i64 off, .int .i64 time, .bool hk, .slice a5 key.length cap5, .bool hv, .slice b5 val.length cbp5]) ⟨off, time, hk, key, hv, val⟩ → Calls Try.prog 24 #[.agg #[.int .i64 off, .int .i64 time, .bool hk, .slice a5 key.length cap5, .bool hv, .slice b5 val.length cbp5]] wn (SaysB true wn)) := fun wn hr => by
        have := impl_RecordValid _ ⟨off, time, hk, key, hv, val⟩ wn hr
        rwa [hrok] at this
      have IU := Lib.hid iu
      obtain ⟨ys, hys⟩ : ∃ ys, (bs.drop k).take m = ys := ⟨_, rfl⟩
      rw [hys] at C7 IU
      have C9 : Hid (∀ wn u v, Ints wn u ys → Ints wn v ys → Calls Try.prog 18 #[u, v] wn (Same wn true)) := fun wn u v hu hv => by
        have := laws_sameInts u v ys ys wn hu hv
        rwa [beq_self] at this
      clear hok hbk hrok hbytes iu hys C1 C2
      go_wp2_with fail
      refine (C4.out w5 _ _ rP5 rQ5).mono ?_
      rintro e w6 ⟨rfl, b6'⟩
      have D6 := Bstep D5 b6'
      have rP6 := rP5.below b6'
      have xP6 := xP5.belowS b6'
      clear c0 c1 c2 c3 c4 c5 d0 d1 d2 d3 d4 d5 rP5 rQ5 xP5 xQ D5 b6'
      obtain ⟨c0, c1, c2, c3, c4, c5⟩ := xP6.six?
      go_wp2_with fail
      refine (C7.out w6 rP6).mono ?_
      rintro e w7 ⟨v7, rfl, own7, b7⟩
      have D7 := Bstep D6 b7
      have rP7 := rP6.below b7
      have xP7 := xP6.belowS b7
      clear c0 c1 c2 c3 c4 c5
      obtain ⟨c0, c1, c2, c3, c4, c5⟩ := xP7.six?
      go_wp2_with fail
      refine (C8.out w7 rP7).mono ?_
      rintro e w8 ⟨rfl, b8⟩
      have D8 := Bstep D7 b8
      go_wp2_with fail
      refine (C9.out w8 _ _ (own7.ints.below b8) (IU.out w8 (iB.out w8 D8))).mono ?_
      rintro e w9 ⟨rfl, b9⟩
      go_wp2_with fail
      go_ret
      exact ⟨rfl, B1.trans ((Bstep D8 b9).mono B1.size)⟩

set_option maxHeartbeats 2000000 in
theorem law_FnRecordTorn (w : World) (v : Value) (zs : List Int) (h : U8s w v zs) : Calls Try.prog 7 #[v] w (Yes w) := by
  have hU := h
  obtain ⟨a, cap, rfl, hl, hm, hc, hr⟩ := hU
  unfold maxLen at hm
  clear hc hr
  by_cases hlen : 1048576 < zs.length
  · go_enter Try.func7, Try.ntmps7
    go_wp2
    go_ret
    exact ⟨rfl, Below.refl _ _⟩
  · have C0 := Lib.hid (spec_DrawRecordFrom _ zs w h (by omega))
    clear h
    go_enter Try.func7, Try.ntmps7
    go_wp2_with fail
    refine C0.out.mono ?_
    rintro e w1 ⟨vb, bs, k, o, t, rfl, ib, lb, k0, k1, o0, o1, t0, t1, B1⟩
    have ib' := ib
    obtain ⟨ab, capb, rfl, lbc, mb, _⟩ := ib'
    unfold maxLen at mb
    obtain ⟨k, rfl⟩ := Int.eq_ofNat_of_zero_le k0
    have C1 : Hid (∀ wn, Below w1.heap.size w1 wn → Calls Try.prog 19 #[.slice ab bs.length capb, .int .i64 (k : Int), .int .i64 o, .int .i64 t] wn (RecOut wn (rdRecI bs (k : Int) o t))) := fun wn hb => impl_RecordFrom _ bs (k : Int) o t wn (ib.below hb) ⟨by omega, by omega⟩
    have C2 : Hid (∀ wn, Below w1.heap.size w1 wn → Calls Try.prog 23 #[.slice ab bs.length capb, .int .i64 (k : Int), .int .i64 o, .int .i64 t] wn (RecOut wn (rdRecI bs (k : Int) o t))) := fun wn hb => spec_RecordFrom _ bs (k : Int) o t wn (ib.below hb) (by omega)
    obtain ⟨l1, l2⟩ := rdRecI_len bs (k : Int) o t
    obtain ⟨⟨⟨off, time, hk, key, hv, val⟩, nx, b⟩, hg⟩ : ∃ g, rdRecI bs (k : Int) o t = g := ⟨_, rfl⟩
    rw [hg] at C1 C2 l1 l2
    simp only at l1 l2
    have HG := Lib.hid hg
    have iB : Hid (∀ wn, Below w1.heap.size w1 wn → Ints wn (.slice ab bs.length capb) bs) := Lib.hid fun wn hb => ib.below hb
    have C4 : Hid (∀ wn u v, RecV wn u ⟨off, time, hk, key, hv, val⟩ → RecV wn v ⟨off, time, hk, key, hv, val⟩ → Calls Try.prog 20 #[u, v] wn (Same wn true)) := fun wn u v hu hv => laws_sameRecord u v _ wn hu hv
    clear hg
    have q1 : (nx != nx) = false := by simp
    have q2 : (nx == nx) = true := by simp
    go_wp2_with fail
    refine (C1.out w1 (Below.refl _ _)).mono ?_
    rintro e w2 hr
    obtain ⟨r0, rfl, ownR, D2⟩ := hr.own
    obtain ⟨k0', u0, rfl, p0, p1, ap0⟩ := ownR
    simp only at p0 p1
    obtain ⟨a5, cap5, rfl, _, _, _⟩ := p0.ints
    obtain ⟨b5, cbp5, rfl, _, _, _⟩ := p1.ints
    have bx := alloc_below' w2 (.cells #[.int .i64 off, .int .i64 time, .bool hk, .slice a5 key.length cap5, .bool hv, .slice b5 val.length cbp5] 25)
    have xP := Blk.made w2 #[.int .i64 off, .int .i64 time, .bool hk, .slice a5 key.length cap5, .bool hv, .slice b5 val.length cbp5] 25
    clear hr
    go_upto_region 5 with (fail)
    generalize hw3 : w2.alloc (.cells #[.int .i64 off, .int .i64 time, .bool hk, .slice a5 key.length cap5, .bool hv, .slice b5 val.length cbp5] 25) = w3 at bx xP ⊢
    obtain ⟨P, hP⟩ : ∃ P, w2.heap.size = P := ⟨_, rfl⟩
    have D3 := Bstep D2 bx
    have rP : RecV w3 (.agg #[.int .i64 off, .int .i64 time, .bool hk, .slice a5 key.length cap5, .bool hv, .slice b5 val.length cbp5]) ⟨off, time, hk, key, hv, val⟩ := ⟨_, _, rfl, (p0.below bx).ints, (p1.below bx).ints⟩
    rw [hP] at xP ⊢
    clear hw3 bx p0 p1 D2 hP
    go_wp2_with fail
    refine (C2.out w3 D3).mono ?_
    rintro e w4 hr
    obtain ⟨r0, rfl, ownR, b4⟩ := hr.own
    have D4 := Bstep D3 b4
    have rP4 := rP.below b4
    have xP4 := xP.belowS b4
    obtain ⟨k0', u0, rfl, p0, p1, ap1⟩ := ownR
    simp only at p0 p1
    obtain ⟨a6, cap6, rfl, _, _, _⟩ := p0.ints
    obtain ⟨b6, cbp6, rfl, _, _, _⟩ := p1.ints
    have bx := alloc_below' w4 (.cells #[.int .i64 off, .int .i64 time, .bool hk, .slice a6 key.length cap6, .bool hv, .slice b6 val.length cbp6] 25)
    have xQ := Blk.made w4 #[.int .i64 off, .int .i64 time, .bool hk, .slice a6 key.length cap6, .bool hv, .slice b6 val.length cbp6] 25
    clear hr b4 D3 rP xP
    go_upto_region 6 with (fail)
    generalize hw5 : w4.alloc (.cells #[.int .i64 off, .int .i64 time, .bool hk, .slice a6 key.length cap6, .bool hv, .slice b6 val.length cbp6] 25) = w5 at bx xQ ⊢
    obtain ⟨Q, hQ⟩ : ∃ Q, w4.heap.size = Q := ⟨_, rfl⟩
    have D5 := Bstep D4 bx
    have rP5 := rP4.below bx
    have xP5 := xP4.belowS bx
    have rQ5 : RecV w5 (.agg #[.int .i64 off, .int .i64 time, .bool hk, .slice a6 key.length cap6, .bool hv, .slice b6 val.length cbp6]) ⟨off, time, hk, key, hv, val⟩ := ⟨_, _, rfl, (p0.below bx).ints, (p1.below bx).ints⟩
    rw [hQ] at xQ ⊢
    clear hw5 bx p0 p1 D4 hQ rP4 xP4
    obtain ⟨c0, c1, c2, c3, c4, c5⟩ := xP5.six?
    obtain ⟨d0, d1, d2, d3, d4, d5⟩ := xQ.six?
    cases b with
    | false =>
      go_wp2_with fail
      refine (C4.out w5 _ _ rP5 rQ5).mono ?_
      rintro e w6 ⟨rfl, b6'⟩
      have rP6 := rP5.below b6'
      have rQ6 := rQ5.below b6'
      have xP6 := xP5.belowS b6'
      have xQ6 := xQ.belowS b6'
      clear c0 c1 c2 c3 c4 c5 d0 d1 d2 d3 d4 d5
      obtain ⟨c0, c1, c2, c3, c4, c5⟩ := xP6.six?
      obtain ⟨d0, d1, d2, d3, d4, d5⟩ := xQ6.six?
      go_wp2_with fail
      refine (C4.out w6 _ _ rP6 rQ6).mono ?_
      rintro e w7 ⟨rfl, b7⟩
      go_wp2_with fail
      go_ret
      exact ⟨rfl, B1.trans ((Bstep (Bstep D5 b6') b7).mono B1.size)⟩
    | true =>
      obtain ⟨hok, hbk⟩ := rdRecI_facts HG.out
      have htorn := rdRec_torn hok hbk HG.out
      obtain ⟨hno, hkn, hnl, hrok, hbytes⟩ := htorn
      obtain ⟨p, rfl⟩ : ∃ p : Nat, nx = (p : Int) + 1 := ⟨(nx - 1).toNat, by omega⟩
      rw [show ((p : Int) + 1 - 1).toNat = p by omega] at hno
      have C7 : Hid (∀ wn, Below w1.heap.size w1 wn → Calls Try.prog 19 #[.slice ab p capb, .int .i64 (k : Int), .int .i64 o, .int .i64 t] wn (RecOut wn (Rec.zero, 0, false))) := fun wn hb => by
        have := impl_RecordFrom _ (bs.take p) (k : Int) o t wn ((ib.below hb).take p (by omega)) ⟨by omega, by omega⟩
        rwa [hno] at this
      have hpc : (p : Int) ≤ (capb : Int) := by omega
      have hpl : p ≤ bs.length := by omega
      clear hok hbk hrok hbytes hno C1 C2
      go_wp2_with fail
      refine (C4.out w5 _ _ rP5 rQ5).mono ?_
      rintro e w6 ⟨rfl, b6'⟩
      have D6 := Bstep D5 b6'
      have rP6 := rP5.below b6'
      have xP6 := xP5.belowS b6'
      clear c0 c1 c2 c3 c4 c5 d0 d1 d2 d3 d4 d5 rP5 rQ5 xP5 xQ D5 b6'
      obtain ⟨c0, c1, c2, c3, c4, c5⟩ := xP6.six?
      go_wp2_with fail
      refine (C7.out w6 D6).mono ?_
      rintro e w7 hr
      obtain ⟨r0, rfl, ownR, b7⟩ := hr.own
      obtain ⟨k0', u0, rfl, p0, p1, ap2⟩ := ownR
      obtain ⟨a9, cap9, rfl, _, _, _⟩ := p0.ints
      obtain ⟨b9, cbp9, rfl, _, _, _⟩ := p1.ints
      clear hr p0 p1 ap2
      simp only [Rec.zero]
      go_wp2_with fail
      go_ret
      exact ⟨rfl, B1.trans ((Bstep (Bstep D6 b7) (alloc_below' _ _)).mono B1.size)⟩
end Go.Proofs.Ytkkfnpcldogglaa
