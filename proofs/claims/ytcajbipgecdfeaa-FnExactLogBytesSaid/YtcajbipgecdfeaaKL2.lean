/- Chapter 12: the exact law of a segment's bytes. -/
import Derived.Test.YtcajbipgecdfeaaKL
import Derived.Test.YtcajbipgecdfeaaLLX
import Derived.Test.YtcajbipgecdfeaaWXL
namespace Go.Proofs.Ytcajbipgecdfeaa
open Go.ChangeShapes Go.WideShapes Go.ChangeAt Go.RowKit
set_option linter.unusedVariables false

set_option maxHeartbeats 4000000 in
theorem law_FnExactLogBytes (w : World) (v : Value) (bs : List Bat) (h : Bats w v bs) : Calls Try.prog 4 #[v] w (Yes w) := by
  have hv := h
  obtain ⟨a, cap, rfl, hl, hm, hc⟩ := h
  unfold maxLen at hm
  clear hc
  have C0 := Lib.hid (laws_szBatchS (.slice a bs.length cap) bs 1048576 w hv (by omega) (by omega))
  go_enter Try.func4, Try.ntmps4
  go_wp2_with fail
  (with_reducible refine C0.out.mono ?_)
  rintro e w1 ⟨⟨n, rfl, hn⟩, B1⟩
  clear C0
  rcases hn with ⟨rfl, hn⟩ | ⟨n0, hn⟩
  · clear hn
    go_wp2_with fail
    go_ret
    exact ⟨rfl, B1⟩
  have d0 : decide (n < 0) = false := decide_eq_false (by omega)
  have hsz : bs.length + szB bs ≤ 100000000 := by omega
  have C3 : Hid (∀ W, Below w.heap.size w W → Calls Try.prog 7 #[.slice a bs.length cap] W (BatsCopy W bs)) := Lib.hid fun W hW => laws_toBatchS _ bs W (hv.below hW) hsz
  have C1 : Hid (∀ W u, Bats W u bs → Calls Try.prog 10 #[u] W (NewInts W (logB bs) (logOk bs))) := Lib.hid fun W u hu => spec_LogBytes u bs W hu (by omega)
  have C2 : Hid (∀ W u, Bats W u bs → Calls Try.prog 11 #[u] W (NewInts W (logB bs) (logOk bs))) := Lib.hid fun W u hu => impl_LogBytes u bs W hu
  have C4 : Hid (∀ W u v, Bats W u bs → Bats W v bs → Calls Try.prog 9 #[u, v] W (Same W true)) := Lib.hid fun W u v hu hv => laws_eqBatchS u v bs W hu hv
  have hlen := logB_len bs
  obtain ⟨b, hb⟩ : ∃ b, logOk bs = b := ⟨_, rfl⟩
  obtain ⟨xs, hxs⟩ : ∃ xs, logB bs = xs := ⟨_, rfl⟩
  rw [hxs, hb] at C1 C2
  rw [hxs] at hlen
  have C5 : Hid (∀ wn u v, Ints wn u xs → Ints wn v xs → Calls Try.prog 12 #[u, v] wn (Same wn (xs == xs))) := fun wn u v hu hv => laws_eqIntS u v xs xs wn hu hv
  rw [beq_self] at C5
  have hq : (1 + (xs.length : Int) != 1 + (xs.length : Int)) = false := by simp
  have hbb : (b != b) = false := by simp
  have HSZ := Lib.hid hsz
  clear hb hxs hn n0 hsz hv
  go_wp2_with fail
  (with_reducible refine (C3.out w1 B1).mono ?_)
  rintro e w2 ⟨v2, rfl, own2, b2⟩
  have B2 := Bstep B1 b2
  go_wp2_with fail
  (with_reducible refine (C1.out w2 v2 own2.bats).mono ?_)
  rintro e w3 ⟨v0, rfl, own0, b3⟩
  have B3 := Bstep B2 b3
  clear own2 b2 b3 B2 B1
  go_wp2_with fail
  (with_reducible refine (C3.out w3 B3).mono ?_)
  rintro e w4 ⟨v4, rfl, own4, b4⟩
  have B4 := Bstep B3 b4
  have T4 := own4.top
  have i4 := own4.bats
  have i04 := own0.below b4
  have q0 := own0.lt2
  have hw3 : w.heap.size ≤ w3.heap.size := B3.size
  have hs34 : w3.heap.size ≤ w4.heap.size := b4.size
  clear own4 own0 b4 B3
  go_wp2_with fail
  (with_reducible refine (C2.out w4 v4 i4).mono ?_)
  rintro e w5 ⟨v1, rfl, own1, b5⟩
  have q1 := own1.lt
  have B5 := Bstep B4 b5
  have T5 := T4.below b5
  have i5 := i4.below b5
  have i05 := i04.below b5
  have hs45 : w4.heap.size ≤ w5.heap.size := b5.size
  clear i4 b5 B4 T4 i04
  go_wp2_with fail
  (with_reducible refine (C5.out w5 v1 v0 own1.ints i05.ints).mono ?_)
  rintro e w6 ⟨rfl, b6⟩
  have B6 := Bstep B5 b6
  have T6 := T5.below b6
  have i6 := i5.below b6
  have i06 := i05.below b6
  have j6 := own1.below b6
  have hs56 : w5.heap.size ≤ w6.heap.size := b6.size
  clear i5 b6 B5 T5 i05 own1
  cases b
  all_goals
    go_wp2_with fail
    (with_reducible refine (C3.out w6 B6).mono ?_)
    rintro e w7 ⟨v7, rfl, own7, b7⟩
    have B7 := Bstep B6 b7
    have T7 := T6.below b7
    have i7 := i6.below b7
    have i07 := i06.below b7
    have j7 := j6.below b7
    have hs67 : w6.heap.size ≤ w7.heap.size := b7.size
    clear i6 b7 B6 T6 i06 j6
    go_wp2_with fail
    (with_reducible refine (C4.out w7 v4 v7 i7 own7.bats).mono ?_)
    rintro e w8 ⟨rfl, b8⟩
    have B8 := Bstep B7 b8
    have T8 := T7.below b8
    have i08 := i07.below b8
    have j8 := j7.below b8
    have hs38 : w3.heap.size ≤ w8.heap.size := by have := b8.size; omega
    clear i7 b8 B7 T7 i07 j7 own7
    go_wp2_with fail
    refine (laws_markBatchS _ w3.heap.size w4.heap.size bs 1 w8 T8 (by omega) (by omega) HSZ.out).mono ?_
    rintro e w9 ⟨n1, rfl, hn1, _, tt⟩
    have dn1 : decide (n1 < 0) = false := decide_eq_false (by omega)
    have i09 := i08.turned tt (fun b hb => .inl (q0 b hb))
    have j9 := j8.turned tt (fun b hb => .inr (q1 b hb))
    have B9 : Below w.heap.size w w9 := B8.trans (tt.belowLo hw3 hs38)
    clear i08 j8 B8 T8 tt hn1
    go_wp2_with fail
    refine (C5.out w9 v1 v0 j9.ints i09.ints).mono ?_
    rintro e w10 ⟨rfl, b10⟩
    have B10 := Bstep B9 b10
    have i010 := i09.below b10
    have j10 := j9.below b10
    clear i09 j9 B9 b10
    go_wp2_with fail
    refine (laws_markIntS v1 _ xs 1 w10 j10 (by omega) (by omega) (by omega)).mono ?_
    rintro e w12 ⟨rfl, mk12, g12⟩
    have i012 : Ints w12 v0 xs := i010.ints.grown g12 fun k hk e => by have := q1 k hk; have := q0 k e; omega
    have B12 : Below w.heap.size w w12 := B10.grown g12 B10.size fun k hk => by have := q1 k hk; omega
    clear i010 j10 B10 g12
    go_wp2_with fail
    refine (laws_heldIntS v1 1 xs.length w12 mk12.ints (by omega) (by omega) (by omega)).mono ?_
    rintro e w13 ⟨rfl, rfl⟩
    go_wp2_with fail
    (with_reducible refine (C3.out w12 B12).mono ?_)
    rintro e w14 ⟨v14, rfl, own14, b14⟩
    have B14 := Bstep B12 b14
    have i014 := i012.below b14
    have mk14 := mk12.below b14
    clear i012 mk12 B12 b14
    go_wp2_with fail
    (with_reducible refine (C2.out w14 v14 own14.bats).mono ?_)
    rintro e w15 ⟨v15, rfl, own15, b15⟩
    have B15 := Bstep B14 b15
    have i015 := i014.below b15
    have mk15 := mk14.below b15
    clear i014 mk14 B14 b15 own14
    go_wp2_with fail
    refine (C5.out w15 v15 v0 own15.ints i015).mono ?_
    rintro e w16 ⟨rfl, b16⟩
    have B16 := Bstep B15 b16
    have mk16 := mk15.below b16
    clear i015 mk15 B15 b16 own15
    go_wp2_with fail
    refine (laws_heldIntS v1 1 xs.length w16 mk16.ints (by omega) (by omega) (by omega)).mono ?_
    rintro e w17 ⟨rfl, rfl⟩
    go_wp2_with fail
    go_ret
    exact ⟨rfl, B16⟩
end Go.Proofs.Ytcajbipgecdfeaa
