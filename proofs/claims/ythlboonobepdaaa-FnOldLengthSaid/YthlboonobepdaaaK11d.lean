/- Chapter 11: the law of the number of bytes of a message. -/
import Derived.Test.YthlboonobepdaaaK11c
namespace Go.Proofs.Ythlboonobepdaaa
open Go.ChangeShapes Go.WideShapes Go.ChangeAt Go.RowKit
set_option linter.unusedVariables false

set_option maxHeartbeats 4000000 in
theorem law_FnOldLength (w : World) (v : Value) (zs : List Int) (h : U8s w v zs) : Calls Try.prog 4 #[v] w (Yes w) := by
  have hU := h
  obtain ⟨a, cap, rfl, hl, hm, hc, hr⟩ := hU
  unfold maxLen at hm
  clear hc hr
  by_cases hlen : 1048576 < zs.length
  · have d0 : decide ((1048576 : Int) < (zs.length : Int)) = true := decide_eq_true (by omega)
    go_enter Try.func4, Try.ntmps4
    go_wp2_with fail
    go_ret
    exact ⟨rfl, Below.refl _ _⟩
  have d0 : decide ((1048576 : Int) < (zs.length : Int)) = false := decide_eq_false (by omega)
  have C0 := Lib.hid (spec_DrawOldBytes _ zs w h (by omega))
  clear h
  go_enter Try.func4, Try.ntmps4
  go_wp2_with fail
  refine C0.out.mono ?_
  rintro e w1 ⟨m, u, rfl, own, l1, l2, B1⟩
  have C1 : Hid (∀ W u, MesV W u m → Calls Try.prog 14 #[u] W (NewInts W (mBi m) (mOk m))) := fun W u hu => spec_OldBytes u m W hu (by omega) (by omega)
  have C2 : Hid (∀ W u, MesV W u m → Calls Try.prog 13 #[u] W (NewInts W (mBi m) (mOk m))) := fun W u hu => impl_OldBytes u m W hu (by omega) (by omega)
  have hxl := mBi_len m
  have HY : Hid (mOk m = true → mBi m = mBytes m) := Lib.hid fun h => mBi_yes h
  obtain ⟨rb, hrb⟩ : ∃ rb, mOk m = rb := ⟨_, rfl⟩
  obtain ⟨xs, hxs⟩ : ∃ xs, mBi m = xs := ⟨_, rfl⟩
  rw [hrb] at C1 C2
  rw [hxs] at C1 C2 hxl
  have C5 : Hid (∀ W u v, Ints W u xs → Ints W v xs → Calls Try.prog 15 #[u, v] W (Same W true)) := Lib.hid fun W u v hu hv => by have := laws_sameInts u v xs xs W hu hv; rwa [beq_self] at this
  have qb : (rb != rb) = false := by simp
  have qe : (rb == rb) = true := by simp
  have HOK := Lib.hid hrb
  have HXS := Lib.hid hxs
  clear hrb hxs
  obtain ⟨off, timed, time, key, val, hk, miss⟩ := m
  obtain ⟨kv, vv, rfl, o1, o2⟩ := own
  simp only at o1 o2 l1 l2 ⊢
  obtain ⟨ak, ck, rfl, _, _, _⟩ := o1.ints
  obtain ⟨av, cv, rfl, _, _, _⟩ := o2.ints
  have bX := alloc_below' w1 (.cells #[.int .i64 off, .bool timed, .int .i64 time, .slice ak key.length ck, .slice av val.length cv, .bool hk, .bool miss] 25)
  have xX := Blk.made w1 #[.int .i64 off, .bool timed, .int .i64 time, .slice ak key.length ck, .slice av val.length cv, .bool hk, .bool miss] 25
  clear C0
  go_wp2_with fail
  generalize hWx : w1.alloc (.cells #[.int .i64 off, .bool timed, .int .i64 time, .slice ak key.length ck, .slice av val.length cv, .bool hk, .bool miss] 25) = wx at bX xX ⊢
  clear hWx
  obtain ⟨X, hX⟩ : ∃ X, w1.heap.size = X := ⟨_, rfl⟩
  rw [hX] at xX ⊢
  have hwX : w.heap.size ≤ X := by have := B1.size; omega
  have HX := Lib.hid hX
  have BX := Bstep B1 bX
  have i1 := o1.ints.below bX
  have i2 := o2.ints.below bX
  clear hX bX o1 o2 B1
  refine (C2.out wx _ ⟨_, _, rfl, i1, i2⟩).mono ?_
  rintro e w2 ⟨v1, rfl, p1, b2⟩
  have x2 := xX.belowS b2
  have B2 := Bstep BX b2
  have hX1 : X < wx.heap.size := xX.lt
  have hwx : w.heap.size ≤ wx.heap.size := BX.size
  have j1 := i1.below b2
  have j2 := i2.below b2
  obtain ⟨a1, k1, rfl⟩ := AppRes.lenOf p1
  clear xX BX i1 i2 b2
  obtain ⟨c0, c1, c2, c3, c4, c5, c6⟩ := x2.seven?
  go_wp2_with fail
  refine (C1.out w2 _ ⟨_, _, rfl, j1, j2⟩).mono ?_
  rintro e w3 ⟨v2, rfl, p2, b3⟩
  have x3 := x2.belowS b3
  have B3 := Bstep B2 b3
  have p13 := p1.below b3
  have i1 := j1.below b3
  have i2 := j2.below b3
  obtain ⟨a2, k2, rfl⟩ := AppRes.lenOf p2
  have p2i := p2.ints
  clear x2 B2 j1 j2 b3 c0 c1 c2 c3 c4 c5 c6 C1 p1 p2
  go_wp2_with fail
  refine (C5.out w3 _ _ p13.ints p2i).mono ?_
  rintro e w4 ⟨rfl, b4⟩
  have x4 := x3.belowS b4
  have B4 := Bstep B3 b4
  have p14 := p13.below b4
  have p24 := p2i.below b4
  have i1' := i1.below b4
  have i2' := i2.below b4
  clear x3 B3 p13 p2i b4 i1 i2
  cases rb with
  | false =>
    go_wp2_with fail
    refine (C5.out w4 _ _ p14.ints p24).mono ?_
    rintro e w5 ⟨rfl, b5⟩
    go_wp2_with fail
    go_ret
    exact ⟨rfl, Bstep B4 b5⟩
  | true =>
    have hx : xs = mBytes ⟨off, timed, time, key, val, hk, miss⟩ := by rw [← HXS.out]; exact HY.out HOK.out
    have hln := mBytes_len HOK.out
    rw [← hx] at hln
    obtain ⟨N, hN⟩ : ∃ N, xs.length = N := ⟨_, rfl⟩
    rw [hN] at hln p14 ⊢
    simp only at hln
    obtain ⟨c0, c1, c2, c3, c4, c5, c6⟩ := x4.seven?
    cases timed with
    | true =>
      have qn : ((N : Int) == 8 + (key.length : Int) + (val.length : Int) + 3) = true := by rw [beq_iff_eq]; simp at hln; omega
      clear hln hx hN
      go_wp2_with fail
      go_ret
      exact ⟨rfl, B4⟩
    | false =>
      have qn : ((N : Int) == 8 + (key.length : Int) + (val.length : Int)) = true := by rw [beq_iff_eq]; simp at hln; omega
      clear hln hx hN
      go_wp2_with fail
      go_ret
      exact ⟨rfl, B4⟩
end Go.Proofs.Ythlboonobepdaaa
