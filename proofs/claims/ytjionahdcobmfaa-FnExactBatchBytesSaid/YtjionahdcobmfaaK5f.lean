/- Chapter 5: the exact law of a batch's bytes. -/
import Derived.Test.YtjionahdcobmfaaK5
import Derived.Test.YtjionahdcobmfaaL5d
import Derived.Test.YtjionahdcobmfaaWX5
namespace Go.Proofs.Ytjionahdcobmfaa
open Go.ChangeShapes Go.WideShapes Go.ChangeAt Go.RowKit
set_option linter.unusedVariables false

set_option maxHeartbeats 2000000 in
theorem law_FnExactBatchBytes (w : World) (v : Value) (b : Bat) (h : BatV w v b) : Calls Try.prog 3 #[v] w (Yes w) := by
  have hv := h
  obtain ⟨a, cap, rfl, hr, hl, hm⟩ := h.parts
  obtain ⟨packed, mark, prod, epoch, seq, recs⟩ := b
  simp only at hr hl hv ⊢
  clear h hr
  have bw := alloc_below' w (.cells #[.bool packed, .bool mark, .int .i64 prod, .int .i64 epoch, .int .i64 seq, .slice a recs.length cap] 24)
  have xA := Blk.made w #[.bool packed, .bool mark, .int .i64 prod, .int .i64 epoch, .int .i64 seq, .slice a recs.length cap] 24
  go_enter Try.func3, Try.ntmps3
  go_wp2_with fail
  generalize hwb : w.alloc (.cells #[.bool packed, .bool mark, .int .i64 prod, .int .i64 epoch, .int .i64 seq, .slice a recs.length cap] 24) = wb at bw xA ⊢
  clear hwb
  have hAl : w.heap.size < wb.heap.size := xA.lt
  obtain ⟨A, hA⟩ : ∃ A, w.heap.size = A := ⟨_, rfl⟩
  rw [hA] at xA hAl ⊢
  (with_reducible refine (laws_szBatch _ ⟨packed, mark, prod, epoch, seq, recs⟩ 1048576 wb (hv.below bw) (by omega) (by omega)).mono ?_)
  rintro e w1 ⟨⟨n, rfl, hn⟩, b1⟩
  have B1 := Bstep bw b1
  have x1 := xA.belowS b1
  have HA := Lib.hid hA
  clear xA hA
  rcases hn with ⟨rfl, hn⟩ | ⟨n0, hn⟩
  · clear hn
    go_wp2_with fail
    go_ret
    exact ⟨rfl, B1⟩
  have d0 : decide (n < 0) = false := decide_eq_false (by omega)
  have hsz : recs.length + szL recs ≤ 100000000 := by simp only at hn; omega
  have C3 : Hid (∀ wn, Below w.heap.size w wn → Calls Try.prog 6 #[.agg #[.bool packed, .bool mark, .int .i64 prod, .int .i64 epoch, .int .i64 seq, .slice a recs.length cap]] wn (BatCopy wn ⟨packed, mark, prod, epoch, seq, recs⟩)) := Lib.hid fun wn hw => laws_toBatch _ ⟨packed, mark, prod, epoch, seq, recs⟩ wn (hv.below hw) hsz
  have C1 : Hid (∀ wn u, BatV wn u ⟨packed, mark, prod, epoch, seq, recs⟩ → Calls Try.prog 5 #[u] wn (NewInts wn (if batOk ⟨packed, mark, prod, epoch, seq, recs⟩ = true then batB ⟨packed, mark, prod, epoch, seq, recs⟩ else []) (batOk ⟨packed, mark, prod, epoch, seq, recs⟩))) := Lib.hid fun wn u hu => spec_BatchBytes u _ wn hu
  have C2 : Hid (∀ wn u, BatV wn u ⟨packed, mark, prod, epoch, seq, recs⟩ → Calls Try.prog 7 #[u] wn (NewInts wn (if batOk ⟨packed, mark, prod, epoch, seq, recs⟩ = true then batB ⟨packed, mark, prod, epoch, seq, recs⟩ else []) (batOk ⟨packed, mark, prod, epoch, seq, recs⟩))) := Lib.hid fun wn u hu => impl_BatchBytes u _ wn hu
  have C4 : Hid (∀ wn u v, BatV wn u ⟨packed, mark, prod, epoch, seq, recs⟩ → BatV wn v ⟨packed, mark, prod, epoch, seq, recs⟩ → Calls Try.prog 9 #[u, v] wn (Same wn true)) := Lib.hid fun wn u v hu hv => laws_eqBatch u v _ wn hu hv
  have hlen : (if batOk ⟨packed, mark, prod, epoch, seq, recs⟩ = true then batB ⟨packed, mark, prod, epoch, seq, recs⟩ else []).length ≤ 228 := by
    split
    · rename_i h; exact (batB_size h).2
    · simp
  obtain ⟨b, hb⟩ : ∃ b, batOk ⟨packed, mark, prod, epoch, seq, recs⟩ = b := ⟨_, rfl⟩
  obtain ⟨xs, hxs⟩ : ∃ xs, (if batOk ⟨packed, mark, prod, epoch, seq, recs⟩ = true then batB ⟨packed, mark, prod, epoch, seq, recs⟩ else []) = xs := ⟨_, rfl⟩
  rw [hxs, hb] at C1 C2
  rw [hxs] at hlen
  have C5 : Hid (∀ wn u v, Ints wn u xs → Ints wn v xs → Calls Try.prog 8 #[u, v] wn (Same wn (xs == xs))) := fun wn u v hu hv => laws_eqIntS u v xs xs wn hu hv
  rw [beq_self] at C5
  have hq : (1 + (xs.length : Int) != 1 + (xs.length : Int)) = false := by simp
  have hbb : (b != b) = false := by simp
  have HSZ := Lib.hid hsz
  clear hb hxs hn bw b1 hAl hsz
  obtain ⟨c0, c1, c2, c3, c4, c5⟩ := x1.sixC
  go_wp2_with fail
  refine (C3.out w1 B1).mono ?_
  rintro e w2 ⟨v2, rfl, own2, b2⟩
  have B2 := Bstep B1 b2
  have x2 := x1.belowS b2
  clear c0 c1 c2 c3 c4 c5
  go_wp2_with fail
  refine (C1.out w2 v2 own2.batV).mono ?_
  rintro e w3 ⟨v0, rfl, own0, b3⟩
  have B3 := Bstep B2 b3
  have x3 := x2.belowS b3
  clear x1 x2 own2 b2 b3 B2 B1
  obtain ⟨c0, c1, c2, c3, c4, c5⟩ := x3.sixC
  go_wp2_with fail
  refine (C3.out w3 B3).mono ?_
  rintro e w4 ⟨v4, rfl, own4, b4⟩
  have B4 := Bstep B3 b4
  have x4 := x3.belowS b4
  obtain ⟨r4, rfl, o4⟩ := own4
  simp only at o4
  obtain ⟨a5, cap5, rfl⟩ := o4.form
  have own4 := o4.top
  have i04 : Own w4 w2.heap.size v0 xs := own0.below b4
  have q0 := own0.lt2
  have hs34 : w3.heap.size ≤ w4.heap.size := b4.size
  have hA3 : A < w3.heap.size := x3.lt
  have hw3 : w.heap.size ≤ w3.heap.size := B3.size
  clear c0 c1 c2 c3 c4 c5 x3 b4
  have bx := alloc_below' w4 (.cells #[.bool packed, .bool mark, .int .i64 prod, .int .i64 epoch, .int .i64 seq, .slice a5 recs.length cap5] 31)
  have xx := Blk.made w4 #[.bool packed, .bool mark, .int .i64 prod, .int .i64 epoch, .int .i64 seq, .slice a5 recs.length cap5] 31
  go_wp2_with fail
  generalize hw5 : w4.alloc (.cells #[.bool packed, .bool mark, .int .i64 prod, .int .i64 epoch, .int .i64 seq, .slice a5 recs.length cap5] 31) = w5 at bx xx ⊢
  obtain ⟨X, hX⟩ : ∃ X, w4.heap.size = X := ⟨_, rfl⟩
  have x5 := x4.belowS bx
  have B5 := Bstep B4 bx
  have own5 := own4.below bx
  have i05 := i04.below bx
  have hXw5 : X < w5.heap.size := by rw [← hX]; exact xx.lt
  rw [hX] at xx own5 hs34 ⊢
  clear hw5 x4 B4 bx o4 hX i04 own4
  refine (C2.out w5 _ (⟨_, rfl, own5.recs⟩ : BatV w5 (.agg #[.bool packed, .bool mark, .int .i64 prod, .int .i64 epoch, .int .i64 seq, .slice a5 recs.length cap5]) ⟨packed, mark, prod, epoch, seq, recs⟩)).mono ?_
  rintro e w6 ⟨v1, rfl, own1, b6⟩
  have q1 : ∀ b, v1.ownBlock = some b → X ≤ b := fun b hb => Nat.le_trans (Nat.le_of_lt hXw5) (own1.lt b hb)
  have B6 := Bstep B5 b6
  have x6 := x5.belowS b6
  have xx6 := xx.belowS b6
  have hs56 : w5.heap.size ≤ w6.heap.size := b6.size
  have own6 := own5.below b6
  have i06 := i05.below b6
  clear x5 B5 b6 xx own5 i05
  go_wp2_with fail
  refine (C5.out w6 v1 v0 own1.ints i06.ints).mono ?_
  rintro e w7 ⟨rfl, b7⟩
  have B7 := Bstep B6 b7
  have x7 := x6.belowS b7
  have xx7 := xx6.belowS b7
  have own7 := own6.below b7
  have i07 := i06.below b7
  have j7 := own1.below b7
  have hs37 : w3.heap.size ≤ w7.heap.size := Nat.le_trans (Nat.le_trans hs34 (Nat.le_of_lt hXw5)) (Nat.le_trans hs56 b7.size)
  clear x6 B6 b7 xx6 own6 i06 own1
  have HS : Hid (∀ W, Below w7.heap.size w7 W → TwoBats W A X (.bool packed) (.bool mark) (.int .i64 prod) (.int .i64 epoch) (.int .i64 seq) (.slice a recs.length cap) (.slice a5 recs.length cap5)) := Lib.hid fun W hW => two_bats (x7.belowS hW) (xx7.belowS hW)
  have bdr : Below w7.heap.size w7 w7.drew := below_drewN (Below.refl _ _) 1
  have S6 := HS.out w7.drew bdr
  have D3 := Lib.hid (C3.out w7.drew (Bstep B7 bdr))
  have D4 : Hid (∀ W u, Below w7.heap.size w7 W → BatV W u ⟨packed, mark, prod, epoch, seq, recs⟩ → Calls Try.prog 9 #[.agg #[.bool packed, .bool mark, .int .i64 prod, .int .i64 epoch, .int .i64 seq, .slice a5 recs.length cap5], u] W (Same W true)) := Lib.hid fun W u hW hu => C4.out W _ u ⟨_, rfl, (own7.below hW).recs⟩ hu
  cases b
  all_goals
    go_wp2_with fail
    unfold TwoBats at S6
    go_region_held3 (fun W => W.cell? ⟨A, 0, none⟩ = some (.bool packed) ∧ W.cell? ⟨A, 1, none⟩ = some (.bool mark) ∧ W.cell? ⟨A, 2, none⟩ = some (.int .i64 prod) ∧ W.cell? ⟨A, 3, none⟩ = some (.int .i64 epoch) ∧ W.cell? ⟨A, 4, none⟩ = some (.int .i64 seq) ∧ W.cell? ⟨A, 5, none⟩ = some (.slice a recs.length cap) ∧ W.cell? ⟨X, 0, none⟩ = some (.bool packed) ∧ W.cell? ⟨X, 1, none⟩ = some (.bool mark) ∧ W.cell? ⟨X, 2, none⟩ = some (.int .i64 prod) ∧ W.cell? ⟨X, 3, none⟩ = some (.int .i64 epoch) ∧ W.cell? ⟨X, 4, none⟩ = some (.int .i64 seq) ∧ W.cell? ⟨X, 5, none⟩ = some (.slice a5 recs.length cap5)) (first | with_reducible exact S6 | exact HS.out _ (Bstep bdr b8) | exact HS.out _ (Bstep (Bstep bdr b8) b9) | go_keep)
      (first
        | (go_at_call 6; ((with_reducible refine D3.out.mono ?_); rintro e w8 ⟨v8, rfl, own8, b8⟩))
        | (go_at_call 9; ((with_reducible refine (D4.out _ _ (Bstep bdr b8) own8.batV).mono ?_); rintro e w9 ⟨rfl, b9⟩)))
    have b79 : Below w7.heap.size w7 w9 := Bstep (Bstep bdr b8) b9
    have B9 := Bstep B7 b79
    have x9 := x7.belowS b79
    have xx9 := xx7.belowS b79
    have own9 := own7.below b79
    have i09 := i07.below b79
    have j9 := j7.below b79
    have hs39 : w3.heap.size ≤ w9.heap.size := Nat.le_trans hs37 b79.size
    clear S6 D3 D4 HS bdr b8 b9 own8 b79 x7 xx7 own7 i07 j7 B7
    obtain ⟨c0, c1, c2, c3, c4, c5⟩ := xx9.sixC
    go_wp2_with fail
    refine (laws_markBatch packed mark prod epoch seq _ w3.heap.size X recs 1 w9 own9 (by omega) (by omega) HSZ.out).mono ?_
    rintro e w10 ⟨n1, rfl, hn1, tt⟩
    have dn1 : decide (n1 < 0) = false := decide_eq_false (by omega)
    have x10 := x9.turned tt (.inl hA3)
    have i010 := i09.turned tt (fun b hb => .inl (q0 b hb))
    have j10 := j9.turned tt (fun b hb => .inr (q1 b hb))
    have B10 : Below w.heap.size w w10 := B9.trans (tt.belowLo hw3 hs39)
    clear c0 c1 c2 c3 c4 c5 x9 xx9 own9 i09 j9 B9 tt hn1
    go_wp2_with fail
    refine (C5.out w10 v1 v0 j10.ints i010.ints).mono ?_
    rintro e w11 ⟨rfl, b11⟩
    have B11 := Bstep B10 b11
    have x11 := x10.belowS b11
    have i011 := i010.below b11
    have j11 := j10.below b11
    clear x10 i010 j10 B10 b11
    go_wp2_with fail
    refine (laws_markIntS v1 _ xs 1 w11 j11 (by omega) (by omega) (by omega)).mono ?_
    rintro e w12 ⟨rfl, mk12, g12⟩
    have x12 : Blk w12 A _ := x11.grown (fun e => by have := q1 A e; omega) g12
    have i012 : Ints w12 v0 xs := i011.ints.grown g12 fun k hk e => by have := q1 k hk; have := q0 k e; omega
    have B12 : Below w.heap.size w w12 := B11.grown g12 B11.size fun k hk => by have := q1 k hk; omega
    clear x11 i011 j11 B11 g12
    go_wp2_with fail
    refine (laws_heldIntS v1 1 xs.length w12 mk12.ints (by omega) (by omega) (by omega)).mono ?_
    rintro e w13 ⟨rfl, rfl⟩
    obtain ⟨c0, c1, c2, c3, c4, c5⟩ := x12.sixC
    go_wp2_with fail
    refine (C3.out w12 B12).mono ?_
    rintro e w14 ⟨v14, rfl, own14, b14⟩
    have B14 := Bstep B12 b14
    have i014 := i012.below b14
    have mk14 := mk12.below b14
    clear c0 c1 c2 c3 c4 c5 x12 i012 mk12 B12 b14
    go_wp2_with fail
    refine (C2.out w14 v14 own14.batV).mono ?_
    rintro e w15 ⟨v15, rfl, own15, b15⟩
    have B15 := Bstep B14 b15
    have i015 := i014.below b15
    have mk15 := mk14.below b15
    clear i014 mk14 B14 b15 own14
    go_wp2_with fail
    refine (C5.out w15 v15 v0 own15.ints i015).mono ?_
    rintro e w16 ⟨rfl, b16⟩
    have B16 := Bstep B15 b16
    have mk16 := mk15.below b16
    clear i015 mk15 B15 b16 own15
    go_wp2_with fail
    refine (laws_heldIntS v1 1 xs.length w16 mk16.ints (by omega) (by omega) (by omega)).mono ?_
    rintro e w17 ⟨rfl, rfl⟩
    go_wp2_with fail
    go_ret
    exact ⟨rfl, B16⟩
end Go.Proofs.Ytjionahdcobmfaa
