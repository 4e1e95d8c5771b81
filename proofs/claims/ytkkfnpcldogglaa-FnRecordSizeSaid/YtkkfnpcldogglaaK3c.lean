/- Chapter 3: the exact law of reading records. -/
import Derived.Test.YtkkfnpcldogglaaK3b
namespace Go.Proofs.Ytkkfnpcldogglaa
open Go.ChangeShapes Go.WideShapes Go.ChangeAt Go.RowKit
set_option linter.unusedVariables false

theorem rdRecI_len (xs : List Int) (k o t : Int) : (rdRecI xs k o t).1.key.length ≤ 12 ∧ (rdRecI xs k o t).1.val.length ≤ 12 := by
  have z : Rec.zero.key.length ≤ 12 ∧ Rec.zero.val.length ≤ 12 := by decide
  unfold rdRecI
  split
  · split
    · exact z
    · split
      · rcases rdRec_cases xs k.toNat o t with h | ⟨r, nx, h, hr, _⟩
        · rw [h]; exact z
        · rw [h]; exact recOk_len hr
      · exact z
  · exact z
theorem RecOut.own {w : World} {g : Rec × Int × Bool} {e : Ending} {w' : World} (h : RecOut w g e w') :
    ∃ v, e = .returned (.tuple #[v, .int .i64 g.2.1, .bool g.2.2]) ∧ RecOwn w' w.heap.size v g.1 ∧ Below w.heap.size w w' := by
  obtain ⟨kv, vv, rfl, h1, h2, h3, h4⟩ := h
  exact ⟨_, rfl, ⟨kv, vv, rfl, h1, h2, h3⟩, h4⟩

theorem RecOwn.turned {w w' : World} {base lo hi top : Nat} {v : Value} {r : Rec} (h : RecOwn w base v r) (ht : Turned w w' lo hi) (htop : RecTop v top) (ho : top ≤ lo ∨ False) : RecOwn w' base v r := by
  obtain ⟨kv, vv, rfl, h1, h2, h3⟩ := h
  obtain ⟨t1, t2⟩ : (∀ k, kv.ownBlock = some k → k < top) ∧ ∀ k, vv.ownBlock = some k → k < top := by
    obtain ⟨_, _, _, _, _, _, et, t1, t2⟩ := htop
    simp only [Value.agg.injEq, Array.mk.injEq, List.cons.injEq, and_true] at et
    obtain ⟨_, _, _, rfl, _, rfl⟩ := et
    exact ⟨t1, t2⟩
  have hlo : top ≤ lo := ho.elim id False.elim
  exact ⟨kv, vv, rfl, h1.turned ht (fun b hb => .inl (Nat.lt_of_lt_of_le (t1 b hb) hlo)), h2.turned ht (fun b hb => .inl (Nat.lt_of_lt_of_le (t2 b hb) hlo)), h3⟩
theorem RecOwn.turnedHi {w w' : World} {base lo hi : Nat} {v : Value} {r : Rec} (h : RecOwn w base v r) (ht : Turned w w' lo hi) (hb : hi ≤ base) : RecOwn w' base v r := by
  obtain ⟨kv, vv, rfl, h1, h2, h3⟩ := h
  exact ⟨kv, vv, rfl, h1.turned ht (fun b hk => .inr (Nat.le_trans hb (h1.lt b hk))), h2.turned ht (fun b hk => .inr (Nat.le_trans hb (h2.lt b hk))), h3⟩
theorem RecMarked.below {w w' : World} {base : Nat} {v : Value} {r : Rec} {k : Int} (h : RecMarked w base v r k) (hb : Below w.heap.size w w') : RecMarked w' base v r k := by
  obtain ⟨kv, vv, rfl, h1, h2⟩ := h
  exact ⟨kv, vv, rfl, h1.below hb, h2.below hb⟩

set_option maxHeartbeats 2000000 in
theorem law_FnExactRecordFrom (w : World) (v : Value) (zs : List Int) (h : IntsIn w v zs) (k : Int) (hk : I64 k) (o : Int) (ho : I64 o) (t : Int) (ht : I64 t) : Calls Try.prog 13 #[v, .int .i64 k, .int .i64 o, .int .i64 t] w (Yes w) := by
  have hv := h.1
  obtain ⟨a, cap, rfl, hl, hm, hc⟩ := h.1
  clear hc
  unfold maxLen at hm
  by_cases hlen : 1048576 < zs.length
  · go_enter Try.func13, Try.ntmps13
    go_wp2
    go_ret
    exact ⟨rfl, Below.refl _ _⟩
  · have C1 : Hid (∀ v w, Ints w v zs → Calls Try.prog 23 #[v, .int .i64 k, .int .i64 o, .int .i64 t] w (RecOut w (rdRecI zs k o t))) := fun v w h => spec_RecordFrom v zs k o t w h (by omega)
    have C2 : Hid (∀ v w, Ints w v zs → Calls Try.prog 19 #[v, .int .i64 k, .int .i64 o, .int .i64 t] w (RecOut w (rdRecI zs k o t))) := fun v w h => impl_RecordFrom v zs k o t w h hk
    have C3 : Hid (∀ v w, Ints w v zs → Calls Try.prog 37 #[v] w (NewInts1 w zs)) := fun v w h => laws_toIntS v zs w h (by omega)
    have C5 : Hid (∀ wn u v, Ints wn u zs → Ints wn v zs → Calls Try.prog 33 #[u, v] wn (Same wn (zs == zs))) := fun wn u v hu hv => laws_eqIntS u v zs zs wn hu hv
    rw [beq_self] at C5
    obtain ⟨l1, l2⟩ := rdRecI_len zs k o t
    obtain ⟨⟨⟨off, time, hk1, key, hv1, val⟩, nx, b⟩, hg⟩ : ∃ g, rdRecI zs k o t = g := ⟨_, rfl⟩
    rw [hg] at C1 C2 l1 l2
    simp only at l1 l2
    have C4 : Hid (∀ wn u v, RecV wn u ⟨off, time, hk1, key, hv1, val⟩ → RecV wn v ⟨off, time, hk1, key, hv1, val⟩ → Calls Try.prog 32 #[u, v] wn (Same wn true)) := fun wn u v hu hv => laws_eqRecord u v _ wn hu hv
    have q1 : (nx != nx) = false := by simp
    have q2 : (b != b) = false := by simp
    have q3 : (1 + (key.length : Int) + (val.length : Int) != 1 + (key.length : Int) + (val.length : Int)) = false := by simp
    have HV : Hid (∀ W : World, Below w.heap.size w W → Ints W (.slice a zs.length cap) zs) := Lib.hid fun W hW => hv.below hW
    clear hg h hv
    cases b
    all_goals
      go_enter Try.func13, Try.ntmps13
      go_wp2_with fail
      refine (C3.out _ _ (HV.out w (Below.refl _ _))).mono ?_
      rintro e w1 ⟨v0, rfl, own0, B1⟩
      go_wp2_with fail
      refine (C1.out v0 w1 own0.ints).mono ?_
      rintro e w2 hr
      obtain ⟨r0, rfl, ownR, b2⟩ := hr.own
      have B2 := Bstep B1 b2
      have ownR' := ownR
      obtain ⟨k0, u0, rfl, p0, p1, ap0⟩ := ownR'
      simp only at p0 p1
      obtain ⟨a5, cap5, rfl, _, _, _⟩ := p0.ints
      obtain ⟨a7, cap7, rfl, _, _, _⟩ := p1.ints
      have bx := alloc_below' w2 (.cells #[.int .i64 off, .int .i64 time, .bool hk1, .slice a5 key.length cap5, .bool hv1, .slice a7 val.length cap7] 25)
      have xP := Blk.made w2 #[.int .i64 off, .int .i64 time, .bool hk1, .slice a5 key.length cap5, .bool hv1, .slice a7 val.length cap7] 25
      have top0 := ownR.top
      clear hr p0 p1 b2 own0 B1
      go_wp2_with fail
      generalize hw3 : w2.alloc (.cells #[.int .i64 off, .int .i64 time, .bool hk1, .slice a5 key.length cap5, .bool hv1, .slice a7 val.length cap7] 25) = w3 at bx xP ⊢
      have B3 := Bstep B2 bx
      have ownR3 := ownR.below bx
      have ltP : w2.heap.size < w3.heap.size := xP.lt
      have hsw3 : w.heap.size ≤ w3.heap.size := B3.size
      clear hw3 bx ownR B2
      refine (C3.out _ _ (HV.out w3 B3)).mono ?_
      rintro e w4 ⟨v1, rfl, own1, b4⟩
      have B4 := Bstep B3 b4
      have xP4 := xP.belowS b4
      have ownR4 := ownR3.below b4
      have s34 := b4.size
      clear b4 xP ownR3 B3
      go_wp2_with fail
      refine (C2.out v1 w4 own1.ints).mono ?_
      rintro e w5 hr
      obtain ⟨r1, rfl, ownG, b5⟩ := hr.own
      have B5 := Bstep B4 b5
      have xP5 := xP4.belowS b5
      have ownR5 := ownR4.below b5
      have own15 := own1.below b5
      have topG := ownG.top
      have lt1 := own1.lt2
      have s45 := b5.size
      have ownG' := ownG
      obtain ⟨k1, u1, rfl, p0, p1, ap1⟩ := ownG'
      simp only at p0 p1
      obtain ⟨a6, cap6, rfl, _, _, _⟩ := p0.ints
      obtain ⟨a8, cap8, rfl, _, _, _⟩ := p1.ints
      have bx := alloc_below' w5 (.cells #[.int .i64 off, .int .i64 time, .bool hk1, .slice a6 key.length cap6, .bool hv1, .slice a8 val.length cap8] 25)
      have xQ := Blk.made w5 #[.int .i64 off, .int .i64 time, .bool hk1, .slice a6 key.length cap6, .bool hv1, .slice a8 val.length cap8] 25
      clear hr p0 p1 b5 own1 B4 xP4 ownR4
      go_upto_region 6 with (fail)
      generalize hw6 : w5.alloc (.cells #[.int .i64 off, .int .i64 time, .bool hk1, .slice a6 key.length cap6, .bool hv1, .slice a8 val.length cap8] 25) = w6 at bx xQ ⊢
      have B6 := Bstep B5 bx
      have ownR6 := ownR5.below bx
      have ownG6 := ownG.below bx
      have own16 := own15.below bx
      have xP6 := xP5.belowS bx
      have ltQ : w5.heap.size < w6.heap.size := xQ.lt
      clear hw6 bx ownR5 B5 ownG own15 xP5
      obtain ⟨c0, c1, c2, c3, c4, c5⟩ := xP6.six?
      obtain ⟨d0, d1, d2, d3, d4, d5⟩ := xQ.six?
      go_wp2_with fail
      refine (C4.out w6 _ _ ownG6.recV ownR6.recV).mono ?_
      rintro e w7 ⟨rfl, b7⟩
      have B7 := Bstep B6 b7
      have ownR7 := ownR6.below b7
      have ownG7 := ownG6.below b7
      have own17 := own16.below b7
      have xP7 := xP6.belowS b7
      have xQ7 := xQ.belowS b7
      have s67 := b7.size
      clear b7 ownR6 B6 ownG6 own16 xP6 xQ c0 c1 c2 c3 c4 c5 d0 d1 d2 d3 d4 d5
      go_wp2_with fail
      refine (C3.out _ _ (HV.out w7 B7)).mono ?_
      rintro e w8 ⟨v8, rfl, own8, b8⟩
      have B8 := Bstep B7 b8
      have own18 := own17.below b8
      go_wp2_with fail
      refine (C5.out w8 _ _ own18.ints own8.ints).mono ?_
      rintro e w9 ⟨rfl, b9⟩
      have b79 := Bstep b8 b9
      have B9 := Bstep B7 b79
      have ownR9 := ownR7.below b79
      have ownG9 := ownG7.below b79
      have own19 := own17.below b79
      have xP9 := xP7.belowS b79
      have xQ9 := xQ7.belowS b79
      have s79 := b79.size
      clear b8 b9 b79 ownR7 B7 ownG7 own17 xP7 xQ7 B8 own18 own8
      go_wp2_with fail
      refine (laws_markIntS v1 _ zs 1 w9 own19 (by omega) (by omega) (by omega)).mono ?_
      rintro e w10 ⟨rfl, mk10, g10⟩
      have lo1 := own19.lt
      have T10 : Turned w9 w10 w3.heap.size w4.heap.size := Turned.of_grown g10 fun q hq => ⟨lo1 q hq, lt1 q hq⟩
      have s910 : w9.heap.size ≤ w10.heap.size := T10.2.2.2.1
      have B10 := B9.trans (T10.belowLo (n := w.heap.size) hsw3 (by omega))
      have xP10 := xP9.turned T10 (.inl ltP)
      have xQ10 := xQ9.turned T10 (.inr s45)
      have ownR10 := ownR9.turned T10 top0 (.inl (Nat.le_of_lt ltP))
      have ownG10 := ownG9.turnedHi T10 (Nat.le_refl _)
      clear xP9 xQ9 ownR9 ownG9 own19 B9 T10 g10 mk10 lo1
      obtain ⟨c0, c1, c2, c3, c4, c5⟩ := xP10.six?
      obtain ⟨d0, d1, d2, d3, d4, d5⟩ := xQ10.six?
      go_wp2_with fail
      refine (C4.out w10 _ _ ownG10.recV ownR10.recV).mono ?_
      rintro e w11 ⟨rfl, b11⟩
      have B11 := Bstep B10 b11
      have ownR11 := ownR10.below b11
      have ownG11 := ownG10.below b11
      have xP11 := xP10.belowS b11
      have xQ11 := xQ10.belowS b11
      have s911 : w9.heap.size ≤ w11.heap.size := Nat.le_trans s910 b11.size
      clear b11 ownR10 ownG10 xP10 xQ10 c0 c1 c2 c3 c4 c5 d0 d1 d2 d3 d4 d5 B10
      obtain ⟨c0, c1, c2, c3, c4, c5⟩ := xP11.six?
      obtain ⟨d0, d1, d2, d3, d4, d5⟩ := xQ11.six?
      go_wp2_with fail
      refine (laws_markRecord _ w4.heap.size w5.heap.size _ 1 w11 ownG11 topG (by omega) (by omega) (by simp only; omega) (by simp only; omega)).mono ?_
      rintro e w12 ⟨rfl, mk12, T12⟩
      have B12 := B11.trans (T12.belowLo (n := w.heap.size) (by omega) (by omega))
      have xP12 := xP11.turned T12 (.inl (by omega))
      have xQ12 := xQ11.turned T12 (.inr (Nat.le_refl _))
      have ownR12 := ownR11.turned T12 top0 (.inl (by omega))
      clear c0 c1 c2 c3 c4 c5 d0 d1 d2 d3 d4 d5 B11 T12 xP11 xQ11 ownR11 ownG11
      obtain ⟨c0, c1, c2, c3, c4, c5⟩ := xP12.six?
      obtain ⟨d0, d1, d2, d3, d4, d5⟩ := xQ12.six?
      go_wp2_with fail
      refine (laws_heldRecord _ w4.heap.size _ 1 w12 mk12 (by omega) (by omega) (by simp only; omega) (by simp only; omega)).mono ?_
      rintro e w13 ⟨rfl, b13⟩
      have B13 := Bstep B12 b13
      have mk13 := mk12.below b13
      have ownR13 := ownR12.below b13
      have xP13 := xP12.belowS b13
      have xQ13 := xQ12.belowS b13
      clear b13 mk12 ownR12 xP12 xQ12 c0 c1 c2 c3 c4 c5 d0 d1 d2 d3 d4 d5 B12
      go_wp2_with fail
      refine (C3.out _ _ (HV.out w13 B13)).mono ?_
      rintro e w14 ⟨v14, rfl, own14, b14⟩
      have B14 := Bstep B13 b14
      have mk14 := mk13.below b14
      have ownR14 := ownR13.below b14
      have xP14 := xP13.belowS b14
      have xQ14 := xQ13.belowS b14
      clear b14 mk13 ownR13 xP13 xQ13 B13
      go_wp2_with fail
      refine (C2.out v14 w14 own14.ints).mono ?_
      rintro e w15 hr
      obtain ⟨r2, rfl, ownH, b15⟩ := hr.own
      have B15 := Bstep B14 b15
      have mk15 := mk14.below b15
      have ownR15 := ownR14.below b15
      have xP15 := xP14.belowS b15
      have xQ15 := xQ14.belowS b15
      have ownH' := ownH
      obtain ⟨k2, u2, rfl, p0, p1, ap2⟩ := ownH'
      simp only at p0 p1
      obtain ⟨a9, cap9, rfl, _, _, _⟩ := p0.ints
      obtain ⟨a10, cap10, rfl, _, _, _⟩ := p1.ints
      have bx := alloc_below' w15 (.cells #[.int .i64 off, .int .i64 time, .bool hk1, .slice a9 key.length cap9, .bool hv1, .slice a10 val.length cap10] 25)
      have xH := Blk.made w15 #[.int .i64 off, .int .i64 time, .bool hk1, .slice a9 key.length cap9, .bool hv1, .slice a10 val.length cap10] 25
      clear hr p0 p1 b15 mk14 ownR14 xP14 xQ14 B14
      go_upto_region 23 with (fail)
      generalize hw16 : w15.alloc (.cells #[.int .i64 off, .int .i64 time, .bool hk1, .slice a9 key.length cap9, .bool hv1, .slice a10 val.length cap10] 25) = w16 at bx xH ⊢
      have B16 := Bstep B15 bx
      have ownR16 := ownR15.below bx
      have ownH16 := ownH.below bx
      have mk16 := mk15.below bx
      have xP16 := xP15.belowS bx
      have xQ16 := xQ15.belowS bx
      clear hw16 bx ownR15 B15 ownH mk15 xP15 xQ15
      obtain ⟨c0, c1, c2, c3, c4, c5⟩ := xP16.six?
      obtain ⟨d0, d1, d2, d3, d4, d5⟩ := xH.six?
      go_wp2_with fail
      refine (C4.out w16 _ _ ownH16.recV ownR16.recV).mono ?_
      rintro e w17 ⟨rfl, b17⟩
      have B17 := Bstep B16 b17
      have mk17 := mk16.below b17
      have xQ17 := xQ16.belowS b17
      clear b17 mk16 xQ16 c0 c1 c2 c3 c4 c5 d0 d1 d2 d3 d4 d5 B16 ownR16 ownH16 xP16
      obtain ⟨d0, d1, d2, d3, d4, d5⟩ := xQ17.six?
      go_wp2_with fail
      refine (laws_heldRecord _ w4.heap.size _ 1 w17 mk17 (by omega) (by omega) (by simp only; omega) (by simp only; omega)).mono ?_
      rintro e w18 ⟨rfl, b18⟩
      go_wp2_with fail
      go_ret
      exact ⟨rfl, Bstep B17 b18⟩
end Go.Proofs.Ytkkfnpcldogglaa
