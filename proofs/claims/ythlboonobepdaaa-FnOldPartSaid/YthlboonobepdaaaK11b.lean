/- Chapter 11: the law of parts that are missing. -/
import Derived.Test.YthlboonobepdaaaD11b
import Derived.Test.YthlboonobepdaaaW11d
namespace Go.Proofs.Ythlboonobepdaaa
open Go.ChangeShapes Go.WideShapes Go.ChangeAt Go.RowKit
set_option linter.unusedVariables false

set_option maxHeartbeats 4000000 in
theorem law_FnOldPart (w : World) (v : Value) (zs : List Int) (h : U8s w v zs) : Calls Try.prog 8 #[v] w (Yes w) := by
  have hU := h
  obtain ⟨a, cap, rfl, hl, hm, hc, hr⟩ := hU
  unfold maxLen at hm
  clear hc hr
  by_cases hlen : 1048576 < zs.length
  · have d0 : decide ((1048576 : Int) < (zs.length : Int)) = true := decide_eq_true (by omega)
    go_enter Try.func8, Try.ntmps8
    go_wp2_with fail
    go_ret
    exact ⟨rfl, Below.refl _ _⟩
  have d0 : decide ((1048576 : Int) < (zs.length : Int)) = false := decide_eq_false (by omega)
  have C0 := Lib.hid (spec_DrawOldValid _ zs w h (by omega))
  clear h
  go_enter Try.func8, Try.ntmps8
  go_wp2_with fail
  refine C0.out.mono ?_
  rintro e w1 ⟨m, u, rfl, own, l1, l2, B1⟩
  have C1 : Hid (∀ W u, MesV W u m → Calls Try.prog 22 #[u] W (Same W (mOk m))) := fun W u hu => spec_OldValid u m W hu (by omega) (by omega)
  have C2 : Hid (∀ W u, MesV W u m → Calls Try.prog 20 #[u] W (Same W (mOk m))) := fun W u hu => impl_OldValid u m W hu (by omega) (by omega)
  obtain ⟨rb, hrb⟩ : ∃ rb, mOk m = rb := ⟨_, rfl⟩
  rw [hrb] at C1 C2
  have qb : (rb != rb) = false := by simp
  have qe : (rb == rb) = true := by simp
  have l1' : m.key.length ≤ 1000000000 := by omega
  obtain ⟨off, timed, time, key, val, hk, miss⟩ := m
  obtain ⟨kv, vv, rfl, o1, o2⟩ := own
  simp only at o1 o2 l1 l2 l1' ⊢
  obtain ⟨ak, ck, rfl, _, _, _⟩ := o1.ints
  obtain ⟨av, cv, rfl, _, _, _⟩ := o2.ints
  have bX := alloc_below' w1 (.cells #[.int .i64 off, .bool timed, .int .i64 time, .slice ak key.length ck, .slice av val.length cv, .bool hk, .bool miss] 25)
  have xX := Blk.made w1 #[.int .i64 off, .bool timed, .int .i64 time, .slice ak key.length ck, .slice av val.length cv, .bool hk, .bool miss] 25
  clear C0 hrb
  go_wp2_with fail
  generalize hWx : w1.alloc (.cells #[.int .i64 off, .bool timed, .int .i64 time, .slice ak key.length ck, .slice av val.length cv, .bool hk, .bool miss] 25) = wx at bX xX ⊢
  clear hWx
  obtain ⟨X, hX⟩ : ∃ X, w1.heap.size = X := ⟨_, rfl⟩
  rw [hX] at xX ⊢
  have HX := Lib.hid hX
  have BX := Bstep B1 bX
  have i1 := o1.ints.below bX
  have i2 := o2.ints.below bX
  clear hX bX o1 o2 B1
  refine (C2.out wx _ ⟨_, _, rfl, i1, i2⟩).mono ?_
  rintro e w2 ⟨rfl, b2⟩
  have x2 := xX.belowS b2
  have B2 := Bstep BX b2
  have j1 := i1.below b2
  have j2 := i2.below b2
  clear xX BX i1 i2 b2
  obtain ⟨c0, c1, c2, c3, c4, c5, c6⟩ := x2.seven?
  go_wp2_with fail
  refine (C1.out w2 _ ⟨_, _, rfl, j1, j2⟩).mono ?_
  rintro e w3 ⟨rfl, b3⟩
  have x3 := x2.belowS b3
  have B3 := Bstep B2 b3
  have i1 := j1.below b3
  have i2 := j2.below b3
  clear x2 B2 j1 j2 b3 c0 c1 c2 c3 c4 c5 c6 C1 C2
  cases rb with
  | false =>
    go_wp2_with fail
    go_ret
    exact ⟨rfl, B3⟩
  | true =>
    obtain ⟨c0, c1, c2, c3, c4, c5, c6⟩ := x3.seven?
    have bP := alloc_below' w3 (.cells #[.int .i64 off, .bool false, .int .i64 7, .slice ak key.length ck, .slice av val.length cv, .bool hk, .bool miss] 25)
    have xP := Blk.made w3 #[.int .i64 off, .bool false, .int .i64 7, .slice ak key.length ck, .slice av val.length cv, .bool hk, .bool miss] 25
    go_upto_region 11 with (fail)
    generalize hWp : w3.alloc (.cells #[.int .i64 off, .bool false, .int .i64 7, .slice ak key.length ck, .slice av val.length cv, .bool hk, .bool miss] 25) = w4 at bP xP ⊢
    clear hWp
    obtain ⟨P, hP⟩ : ∃ P, w3.heap.size = P := ⟨_, rfl⟩
    rw [hP] at xP ⊢
    have HP := Lib.hid hP
    have x4 := x3.belowS bP
    have B4 := Bstep B3 bP
    have j1 := i1.below bP
    have j2 := i2.below bP
    clear hP bP x3 B3 i1 i2 c0 c1 c2 c3 c4 c5 c6
    obtain ⟨c0, c1, c2, c3, c4, c5, c6⟩ := x4.seven?
    have bY := alloc_below' w4 (.cells #[.int .i64 off, .bool timed, .int .i64 time, .slice ak key.length ck, .slice av val.length cv, .bool hk, .bool true] 25)
    have xY := Blk.made w4 #[.int .i64 off, .bool timed, .int .i64 time, .slice ak key.length ck, .slice av val.length cv, .bool hk, .bool true] 25
    go_upto_region 13 with (fail)
    generalize hWy : w4.alloc (.cells #[.int .i64 off, .bool timed, .int .i64 time, .slice ak key.length ck, .slice av val.length cv, .bool hk, .bool true] 25) = w5 at bY xY ⊢
    clear hWy
    obtain ⟨Y, hY⟩ : ∃ Y, w4.heap.size = Y := ⟨_, rfl⟩
    rw [hY] at xY ⊢
    have HY := Lib.hid hY
    have xP5 := xP.belowS bY
    have hPY : P ≠ Y := by have := xP.lt; omega
    have hwY : w.heap.size ≤ Y := by have := B4.size; omega
    have B5 := Bstep B4 bY
    have i1 := j1.below bY
    have i2 := j2.below bY
    have hlk : ∀ k, (Value.slice ak key.length ck).ownBlock = some k → 0 < key.length → k ≠ Y := fun k hk h0 => by have := j1.lt h0 k hk; omega
    have hlv : ∀ k, (Value.slice av val.length cv).ownBlock = some k → 0 < val.length → k ≠ Y := fun k hk h0 => by have := j2.lt h0 k hk; omega
    have hY5 := xY.lt
    clear hY bY x4 xP B4 j1 j2 c0 c1 c2 c3 c4 c5 c6
    obtain ⟨L, hL⟩ : ∃ L, w5.heap.size = L := ⟨_, rfl⟩
    have bL := alloc_below' w5 (.cells #[.int .i64 1] 3)
    have xL := Blk.made w5 #[.int .i64 1] 3
    rw [hL] at xL
    have x6 := xY.belowS bL
    have p6 := xP5.belowS bL
    have x7 := x6.set 4 (.slice (some ⟨L, 0, none⟩) 1 1)
    have g7 : (w5.alloc (.cells #[.int .i64 1] 3)).grownBy ((w5.alloc (.cells #[.int .i64 1] 3)).setCell ⟨Y, 4, none⟩ (.slice (some ⟨L, 0, none⟩) 1 1)) (some Y) := set_grown _ _ _ _
    have xL7 := xL.by (by omega) g7
    have p7 := p6.by hPY g7
    have B7 : Below w.heap.size w ((w5.alloc (.cells #[.int .i64 1] 3)).setCell ⟨Y, 4, none⟩ (.slice (some ⟨L, 0, none⟩) 1 1)) := (Bstep B5 bL).setCell hwY _
    have k1 := (i1.below bL).keepZ g7 (fun k hk h0 => hlk k hk h0)
    have k2 := (i2.below bL).keepZ g7 (fun k hk h0 => hlv k hk h0)
    have k3 : Ints ((w5.alloc (.cells #[.int .i64 1] 3)).setCell ⟨Y, 4, none⟩ (.slice (some ⟨L, 0, none⟩) 1 1)) (.slice (some ⟨L, 0, none⟩) 1 1) [1] := ⟨_, 1, rfl, by simp, by unfold maxLen; omega, fun _ => ⟨L, 0, rfl, fun i hi => by
      obtain rfl : i = 0 := by simp at hi; omega
      exact xL7.cell 0⟩⟩
    simp only [List.setIfInBounds_toArray, List.set_cons_zero, List.set_cons_succ] at x7
    obtain ⟨c0, c1, c2, c3, c4, c5, c6⟩ := x6.seven?
    have fy := x6.free
    go_upto_region 14 with (fail)
    generalize hW7 : (w5.alloc (.cells #[.int .i64 1] 3)).setCell ⟨Y, 4, none⟩ (.slice (some ⟨L, 0, none⟩) 1 1) = w7 at x7 p7 B7 k1 k2 k3 ⊢
    have F1 : mOk ⟨off, false, 7, key, val, hk, miss⟩ = false := by unfold mOk; simp
    have F2 : mOk ⟨off, timed, time, key, [1], hk, true⟩ = false := by unfold mOk recOk mRec partOk; simp
    clear hW7 g7 xL7 xL x6 p6 fy c0 c1 c2 c3 c4 c5 c6 bL hL xY xP5 i1 i2 B5
    have D1 := Lib.hid (impl_OldValid _ ⟨off, false, 7, key, val, hk, miss⟩ w7 ⟨_, _, rfl, k1, k2⟩ (by simp only; omega) (by simp only; omega))
    rw [F1] at D1
    obtain ⟨c0, c1, c2, c3, c4, c5, c6⟩ := p7.seven?
    go_wp2_with fail
    refine D1.out.mono ?_
    rintro e w8 ⟨rfl, b8⟩
    have D2 := Lib.hid (impl_OldValid _ ⟨off, timed, time, key, [1], hk, true⟩ w8 ⟨_, _, rfl, k1.below b8, k3.below b8⟩ (by simp only; omega) (by simp))
    rw [F2] at D2
    have B8 := Bstep B7 b8
    have x8 := x7.belowS b8
    clear c0 c1 c2 c3 c4 c5 c6 D1
    obtain ⟨c0, c1, c2, c3, c4, c5, c6⟩ := x8.seven?
    go_wp2_with fail
    refine D2.out.mono ?_
    rintro e w9 ⟨rfl, b9⟩
    go_wp2_with fail
    go_ret
    exact ⟨rfl, Bstep B8 b9⟩
end Go.Proofs.Ythlboonobepdaaa
