/- Chapter 11: the exact law of reading. -/
import Derived.Test.YthlboonobepdaaaK11e
import Derived.Test.YthlboonobepdaaaW11j
namespace Go.Proofs.Ythlboonobepdaaa
open Go.ChangeShapes Go.WideShapes Go.ChangeAt Go.RowKit
set_option linter.unusedVariables false

/-- what the reading of a message's bytes answers -/
def MOutX (w : World) (m : Mes) (b : Bool) (e : Ending) (w' : World) : Prop := ∃ v, e = .returned (.tuple #[v, .bool b]) ∧ MesOwn w' w.heap.size v m ∧ Below w.heap.size w w'
theorem OldOut.asX {w w' : World} {xs : List Int} {m : Mes} {b : Bool} {e : Ending} (h : OldOut w xs e w') (hg : rdM xs = (m, b)) : MOutX w m b e w' := by
  obtain ⟨v, h1, h2, h3⟩ := h
  rw [hg] at h1 h2
  exact ⟨v, h1, h2, h3⟩
theorem rdM_len12 (xs : List Int) : (rdM xs).1.key.length ≤ 12 ∧ (rdM xs).1.val.length ≤ 12 := by
  rcases rdM_cases xs with h | ⟨m, h, hok, _⟩
  · rw [h]; decide
  · rw [h]
    obtain ⟨⟨_, _, p1, p2⟩, _⟩ := mOk_iff.1 hok
    exact ⟨(partOk_iff.1 p1).2.2, (partOk_iff.1 p2).2.2⟩
theorem MesOwn.turned {w w' : World} {base lo hi top : Nat} {v : Value} {r : Mes} (h : MesOwn w base v r) (ht : Turned w w' lo hi) (htop : MesTop v top) (ho : top ≤ lo ∨ False) : MesOwn w' base v r := by
  obtain ⟨kv, vv, rfl, h1, h2, h3⟩ := h
  obtain ⟨t1, t2⟩ : (∀ k, kv.ownBlock = some k → k < top) ∧ ∀ k, vv.ownBlock = some k → k < top := by
    obtain ⟨_, _, _, _, _, _, _, et, t1, t2⟩ := htop
    simp only [Value.agg.injEq, Array.mk.injEq, List.cons.injEq, and_true] at et
    obtain ⟨_, _, _, rfl, rfl, _, _⟩ := et
    exact ⟨t1, t2⟩
  have hlo : top ≤ lo := ho.elim id False.elim
  exact ⟨kv, vv, rfl, h1.turned ht (fun b hb => .inl (Nat.lt_of_lt_of_le (t1 b hb) hlo)), h2.turned ht (fun b hb => .inl (Nat.lt_of_lt_of_le (t2 b hb) hlo)), h3⟩
theorem MesOwn.turnedHi {w w' : World} {base lo hi : Nat} {v : Value} {r : Mes} (h : MesOwn w base v r) (ht : Turned w w' lo hi) (hb : hi ≤ base) : MesOwn w' base v r := by
  obtain ⟨kv, vv, rfl, h1, h2, h3⟩ := h
  exact ⟨kv, vv, rfl, h1.turned ht (fun b hk => .inr (Nat.le_trans hb (h1.lt b hk))), h2.turned ht (fun b hk => .inr (Nat.le_trans hb (h2.lt b hk))), h3⟩

set_option maxHeartbeats 4000000 in
theorem law_FnExactOldFrom (w : World) (v : Value) (zs : List Int) (h : IntsIn w v zs) : Calls Try.prog 11 #[v] w (Yes w) := by
  have hv := h.1
  obtain ⟨a, cap, rfl, hl, hm, hc⟩ := h.1
  clear hc
  unfold maxLen at hm
  by_cases hlen : 1048576 < zs.length
  · go_enter Try.func11, Try.ntmps11
    go_wp2
    go_ret
    exact ⟨rfl, Below.refl _ _⟩
  · have l12 := rdM_len12 zs
    have C3 : Hid (∀ v w, Ints w v zs → Calls Try.prog 30 #[v] w (NewInts1 w zs)) := fun v w h => laws_toIntS v zs w h (by omega)
    have C5 : Hid (∀ wn u v, Ints wn u zs → Ints wn v zs → Calls Try.prog 26 #[u, v] wn (Same wn (zs == zs))) := fun wn u v hu hv => laws_eqIntS u v zs zs wn hu hv
    rw [beq_self] at C5
    obtain ⟨⟨m, b⟩, hg⟩ : ∃ g, rdM zs = g := ⟨_, rfl⟩
    rw [hg] at l12
    have C1 : Hid (∀ W u, Ints W u zs → Calls Try.prog 19 #[u] W (MOutX W m b)) := Lib.hid fun W u hu => (spec_OldFrom u zs W hu (by omega)).mono fun e w' h => h.asX hg
    have C2 : Hid (∀ W u, Ints W u zs → Calls Try.prog 16 #[u] W (MOutX W m b)) := Lib.hid fun W u hu => (impl_OldFrom u zs W hu).mono fun e w' h => h.asX hg
    obtain ⟨off, timed, time, key, val, hk, miss⟩ := m
    obtain ⟨l1, l2⟩ := l12
    simp only at l1 l2
    have C4 : Hid (∀ wn u v, MesV wn u ⟨off, timed, time, key, val, hk, miss⟩ → MesV wn v ⟨off, timed, time, key, val, hk, miss⟩ → Calls Try.prog 25 #[u, v] wn (Same wn true)) := Lib.hid fun wn u v hu hv => laws_eqOld u v _ wn hu hv
    have q2 : (b != b) = false := by simp
    have q3 : (1 + (key.length : Int) + (val.length : Int) != 1 + (key.length : Int) + (val.length : Int)) = false := by simp
    have HV : Hid (∀ W : World, Below w.heap.size w W → Ints W (.slice a zs.length cap) zs) := Lib.hid fun W hW => hv.below hW
    clear hg h hv
    cases b
    all_goals
      go_enter Try.func11, Try.ntmps11
      go_wp2_with fail
      refine (C3.out _ _ (HV.out w (Below.refl _ _))).mono ?_
      rintro e w1 ⟨v0, rfl, own0, B1⟩
      go_wp2_with fail
      refine (C1.out w1 v0 own0.ints).mono ?_
      rintro e w2 hr
      obtain ⟨r0, rfl, ownR, b2⟩ := hr
      have B2 := Bstep B1 b2
      have ownR' := ownR
      obtain ⟨k0, u0, rfl, p0, p1, ap0⟩ := ownR'
      simp only at p0 p1
      obtain ⟨a5, cap5, rfl, _, _, _⟩ := p0.ints
      obtain ⟨a7, cap7, rfl, _, _, _⟩ := p1.ints
      have bx := alloc_below' w2 (.cells #[.int .i64 off, .bool timed, .int .i64 time, .slice a5 key.length cap5, .slice a7 val.length cap7, .bool hk, .bool miss] 25)
      have xP := Blk.made w2 #[.int .i64 off, .bool timed, .int .i64 time, .slice a5 key.length cap5, .slice a7 val.length cap7, .bool hk, .bool miss] 25
      have top0 := ownR.top
      clear p0 p1 b2 own0 B1
      go_wp2_with fail
      generalize hw3 : w2.alloc (.cells #[.int .i64 off, .bool timed, .int .i64 time, .slice a5 key.length cap5, .slice a7 val.length cap7, .bool hk, .bool miss] 25) = w3 at bx xP ⊢
      have B3 := Bstep B2 bx
      have ownR3 := ownR.below bx
      have ltP : w2.heap.size < w3.heap.size := xP.lt
      have hsw3 : w.heap.size ≤ w3.heap.size := B3.size
      clear hw3 bx ownR B2
      refine (C3.out _ _ (HV.out w3 B3)).mono ?_
      rintro e w4 ⟨v1, rfl, own1, b4⟩
      have B4 := Bstep B3 b4
      have xP4 := xP.belowS b4
      have ownR4 := ownR3.below b4
      have s34 := b4.size
      clear b4 xP ownR3 B3
      go_wp2_with fail
      refine (C2.out w4 v1 own1.ints).mono ?_
      rintro e w5 hr
      obtain ⟨r1, rfl, ownG, b5⟩ := hr
      have B5 := Bstep B4 b5
      have xP5 := xP4.belowS b5
      have ownR5 := ownR4.below b5
      have own15 := own1.below b5
      have topG := ownG.top
      have lt1 := own1.lt2
      have s45 := b5.size
      have ownG' := ownG
      obtain ⟨k1, u1, rfl, p0, p1, ap1⟩ := ownG'
      simp only at p0 p1
      obtain ⟨a6, cap6, rfl, _, _, _⟩ := p0.ints
      obtain ⟨a8, cap8, rfl, _, _, _⟩ := p1.ints
      have bx := alloc_below' w5 (.cells #[.int .i64 off, .bool timed, .int .i64 time, .slice a6 key.length cap6, .slice a8 val.length cap8, .bool hk, .bool miss] 25)
      have xQ := Blk.made w5 #[.int .i64 off, .bool timed, .int .i64 time, .slice a6 key.length cap6, .slice a8 val.length cap8, .bool hk, .bool miss] 25
      clear p0 p1 b5 own1 B4 xP4 ownR4
      go_upto_region 6 with (fail)
      generalize hw6 : w5.alloc (.cells #[.int .i64 off, .bool timed, .int .i64 time, .slice a6 key.length cap6, .slice a8 val.length cap8, .bool hk, .bool miss] 25) = w6 at bx xQ ⊢
      have B6 := Bstep B5 bx
      have ownR6 := ownR5.below bx
      have ownG6 := ownG.below bx
      have own16 := own15.below bx
      have xP6 := xP5.belowS bx
      have ltQ : w5.heap.size < w6.heap.size := xQ.lt
      clear hw6 bx ownR5 B5 ownG own15 xP5
      obtain ⟨c0, c1, c2, c3, c4, c5, c6⟩ := xP6.seven?
      obtain ⟨d0, d1, d2, d3, d4, d5, d6⟩ := xQ.seven?
      go_wp2_with fail
      refine (C4.out w6 _ _ ownG6.mesV ownR6.mesV).mono ?_
      rintro e w7 ⟨rfl, b7⟩
      have B7 := Bstep B6 b7
      have ownR7 := ownR6.below b7
      have ownG7 := ownG6.below b7
      have own17 := own16.below b7
      have xP7 := xP6.belowS b7
      have xQ7 := xQ.belowS b7
      have s67 := b7.size
      clear b7 ownR6 B6 ownG6 own16 xP6 xQ c0 c1 c2 c3 c4 c5 c6 d0 d1 d2 d3 d4 d5 d6
      go_wp2_with fail
      refine (C3.out _ _ (HV.out w7 B7)).mono ?_
      rintro e w8 ⟨v8, rfl, own8, b8⟩
      have B8 := Bstep B7 b8
      have own18 := own17.below b8
      go_wp2_with fail
      refine (C5.out w8 _ _ own18.ints own8.ints).mono ?_
      rintro e w9 ⟨rfl, b9⟩
      have b79 := Bstep b8 b9
      have B9 := Bstep B7 b79
      have ownR9 := ownR7.below b79
      have ownG9 := ownG7.below b79
      have own19 := own17.below b79
      have xP9 := xP7.belowS b79
      have xQ9 := xQ7.belowS b79
      have s79 := b79.size
      clear b8 b9 b79 ownR7 B7 ownG7 own17 xP7 xQ7 B8 own18 own8
      go_wp2_with fail
      refine (laws_markIntS v1 _ zs 1 w9 own19 (by omega) (by omega) (by omega)).mono ?_
      rintro e w10 ⟨rfl, mk10, g10⟩
      have lo1 := own19.lt
      have T10 : Turned w9 w10 w3.heap.size w4.heap.size := Turned.of_grown g10 fun q hq => ⟨lo1 q hq, lt1 q hq⟩
      have s910 : w9.heap.size ≤ w10.heap.size := T10.2.2.2.1
      have B10 := B9.trans (T10.belowLo (n := w.heap.size) hsw3 (by omega))
      have xP10 := xP9.turned T10 (.inl ltP)
      have xQ10 := xQ9.turned T10 (.inr s45)
      have ownR10 := ownR9.turned T10 top0 (.inl (Nat.le_of_lt ltP))
      have ownG10 := ownG9.turnedHi T10 (Nat.le_refl _)
      clear xP9 xQ9 ownR9 ownG9 own19 B9 T10 g10 mk10 lo1
      obtain ⟨c0, c1, c2, c3, c4, c5, c6⟩ := xP10.seven?
      obtain ⟨d0, d1, d2, d3, d4, d5, d6⟩ := xQ10.seven?
      go_wp2_with fail
      refine (C4.out w10 _ _ ownG10.mesV ownR10.mesV).mono ?_
      rintro e w11 ⟨rfl, b11⟩
      have B11 := Bstep B10 b11
      have ownR11 := ownR10.below b11
      have ownG11 := ownG10.below b11
      have xP11 := xP10.belowS b11
      have xQ11 := xQ10.belowS b11
      have s911 : w9.heap.size ≤ w11.heap.size := Nat.le_trans s910 b11.size
      clear b11 ownR10 ownG10 xP10 xQ10 c0 c1 c2 c3 c4 c5 c6 d0 d1 d2 d3 d4 d5 d6 B10
      obtain ⟨c0, c1, c2, c3, c4, c5, c6⟩ := xP11.seven?
      obtain ⟨d0, d1, d2, d3, d4, d5, d6⟩ := xQ11.seven?
      go_wp2_with fail
      refine (laws_markOld _ w4.heap.size w5.heap.size _ 1 w11 ownG11 topG (by omega) (by omega) (by simp only; omega) (by simp only; omega)).mono ?_
      rintro e w12 ⟨rfl, mk12, T12⟩
      have B12 := B11.trans (T12.belowLo (n := w.heap.size) (by omega) (by omega))
      have xP12 := xP11.turned T12 (.inl (by omega))
      have xQ12 := xQ11.turned T12 (.inr (Nat.le_refl _))
      have ownR12 := ownR11.turned T12 top0 (.inl (by omega))
      clear c0 c1 c2 c3 c4 c5 c6 d0 d1 d2 d3 d4 d5 d6 B11 T12 xP11 xQ11 ownR11 ownG11
      obtain ⟨c0, c1, c2, c3, c4, c5, c6⟩ := xP12.seven?
      obtain ⟨d0, d1, d2, d3, d4, d5, d6⟩ := xQ12.seven?
      go_wp2_with fail
      refine (laws_heldOld _ w4.heap.size _ 1 w12 mk12 (by omega) (by omega) (by simp only; omega) (by simp only; omega)).mono ?_
      rintro e w13 ⟨rfl, b13⟩
      have B13 := Bstep B12 b13
      have mk13 := mk12.below b13
      have ownR13 := ownR12.below b13
      have xP13 := xP12.belowS b13
      have xQ13 := xQ12.belowS b13
      clear b13 mk12 ownR12 xP12 xQ12 c0 c1 c2 c3 c4 c5 c6 d0 d1 d2 d3 d4 d5 d6 B12
      go_wp2_with fail
      refine (C3.out _ _ (HV.out w13 B13)).mono ?_
      rintro e w14 ⟨v14, rfl, own14, b14⟩
      have B14 := Bstep B13 b14
      have mk14 := mk13.below b14
      have ownR14 := ownR13.below b14
      have xP14 := xP13.belowS b14
      have xQ14 := xQ13.belowS b14
      clear b14 mk13 ownR13 xP13 xQ13 B13
      go_wp2_with fail
      refine (C2.out w14 v14 own14.ints).mono ?_
      rintro e w15 hr
      obtain ⟨r2, rfl, ownH, b15⟩ := hr
      have B15 := Bstep B14 b15
      have mk15 := mk14.below b15
      have ownR15 := ownR14.below b15
      have xP15 := xP14.belowS b15
      have xQ15 := xQ14.belowS b15
      have ownH' := ownH
      obtain ⟨k2, u2, rfl, p0, p1, ap2⟩ := ownH'
      simp only at p0 p1
      obtain ⟨a9, cap9, rfl, _, _, _⟩ := p0.ints
      obtain ⟨a10, cap10, rfl, _, _, _⟩ := p1.ints
      have bx := alloc_below' w15 (.cells #[.int .i64 off, .bool timed, .int .i64 time, .slice a9 key.length cap9, .slice a10 val.length cap10, .bool hk, .bool miss] 25)
      have xH := Blk.made w15 #[.int .i64 off, .bool timed, .int .i64 time, .slice a9 key.length cap9, .slice a10 val.length cap10, .bool hk, .bool miss] 25
      clear p0 p1 b15 mk14 ownR14 xP14 xQ14 B14
      go_upto_region 23 with (fail)
      generalize hw16 : w15.alloc (.cells #[.int .i64 off, .bool timed, .int .i64 time, .slice a9 key.length cap9, .slice a10 val.length cap10, .bool hk, .bool miss] 25) = w16 at bx xH ⊢
      have B16 := Bstep B15 bx
      have ownR16 := ownR15.below bx
      have ownH16 := ownH.below bx
      have mk16 := mk15.below bx
      have xP16 := xP15.belowS bx
      have xQ16 := xQ15.belowS bx
      clear hw16 bx ownR15 B15 ownH mk15 xP15 xQ15
      obtain ⟨c0, c1, c2, c3, c4, c5, c6⟩ := xP16.seven?
      obtain ⟨d0, d1, d2, d3, d4, d5, d6⟩ := xH.seven?
      go_wp2_with fail
      refine (C4.out w16 _ _ ownH16.mesV ownR16.mesV).mono ?_
      rintro e w17 ⟨rfl, b17⟩
      have B17 := Bstep B16 b17
      have mk17 := mk16.below b17
      have xQ17 := xQ16.belowS b17
      clear b17 mk16 xQ16 c0 c1 c2 c3 c4 c5 c6 d0 d1 d2 d3 d4 d5 d6 B16 ownR16 ownH16 xP16
      obtain ⟨d0, d1, d2, d3, d4, d5, d6⟩ := xQ17.seven?
      go_wp2_with fail
      refine (laws_heldOld _ w4.heap.size _ 1 w17 mk17 (by omega) (by omega) (by simp only; omega) (by simp only; omega)).mono ?_
      rintro e w18 ⟨rfl, b18⟩
      go_wp2_with fail
      go_ret
      exact ⟨rfl, Bstep B17 b18⟩
end Go.Proofs.Ythlboonobepdaaa
