/- Chapter 11: laws of messages that are read, and of damaged bytes. -/
import Derived.Test.YthlboonobepdaaaK11c
import Derived.Test.YthlboonobepdaaaP11c
import Derived.Test.YthlboonobepdaaaWX11
namespace Go.Proofs.Ythlboonobepdaaa
open Go.ChangeShapes Go.WideShapes Go.ChangeAt Go.RowKit
set_option linter.unusedVariables false

set_option maxHeartbeats 4000000 in
theorem law_FnOld (w : World) (v : Value) (zs : List Int) (h : U8s w v zs) : Calls Try.prog 3 #[v] w (Yes w) := by
  have hU := h
  obtain ⟨a, cap, rfl, hl, hm, hc, hr⟩ := hU
  unfold maxLen at hm
  clear hc hr
  by_cases hlen : 1048576 < zs.length
  · have d0 : decide ((1048576 : Int) < (zs.length : Int)) = true := decide_eq_true (by omega)
    go_enter Try.func3, Try.ntmps3
    go_wp2_with fail
    go_ret
    exact ⟨rfl, Below.refl _ _⟩
  have d0 : decide ((1048576 : Int) < (zs.length : Int)) = false := decide_eq_false (by omega)
  have C0 := Lib.hid (spec_DrawOldBytes _ zs w h (by omega))
  clear h
  go_enter Try.func3, Try.ntmps3
  go_wp2_with fail
  refine C0.out.mono ?_
  rintro e w1 ⟨m, u, rfl, own, l1, l2, B1⟩
  have C1 : Hid (∀ W u, MesV W u m → Calls Try.prog 14 #[u] W (NewInts W (mBi m) (mOk m))) := fun W u hu => spec_OldBytes u m W hu (by omega) (by omega)
  have C2 : Hid (∀ W u, MesV W u m → Calls Try.prog 13 #[u] W (NewInts W (mBi m) (mOk m))) := fun W u hu => impl_OldBytes u m W hu (by omega) (by omega)
  have hxl := mBi_len m
  have HY : Hid (mOk m = true → mBi m = mBytes m) := Lib.hid fun h => mBi_yes h
  obtain ⟨rb, hrb⟩ : ∃ rb, mOk m = rb := ⟨_, rfl⟩
  obtain ⟨xs, hxs⟩ : ∃ xs, mBi m = xs := ⟨_, rfl⟩
  rw [hrb] at C1 C2
  rw [hxs] at C1 C2 hxl
  have C5 : Hid (∀ W u v, Ints W u xs → Ints W v xs → Calls Try.prog 15 #[u, v] W (Same W true)) := Lib.hid fun W u v hu hv => by have := laws_sameInts u v xs xs W hu hv; rwa [beq_self] at this
  have qb : (rb != rb) = false := by simp
  have qe : (rb == rb) = true := by simp
  have HOK := Lib.hid hrb
  have HXS := Lib.hid hxs
  clear hrb hxs
  obtain ⟨off, timed, time, key, val, hk, miss⟩ := m
  obtain ⟨kv, vv, rfl, o1, o2⟩ := own
  simp only at o1 o2 l1 l2 ⊢
  obtain ⟨ak, ck, rfl, _, _, _⟩ := o1.ints
  obtain ⟨av, cv, rfl, _, _, _⟩ := o2.ints
  have bX := alloc_below' w1 (.cells #[.int .i64 off, .bool timed, .int .i64 time, .slice ak key.length ck, .slice av val.length cv, .bool hk, .bool miss] 25)
  have xX := Blk.made w1 #[.int .i64 off, .bool timed, .int .i64 time, .slice ak key.length ck, .slice av val.length cv, .bool hk, .bool miss] 25
  clear C0
  go_wp2_with fail
  generalize hWx : w1.alloc (.cells #[.int .i64 off, .bool timed, .int .i64 time, .slice ak key.length ck, .slice av val.length cv, .bool hk, .bool miss] 25) = wx at bX xX ⊢
  clear hWx
  obtain ⟨X, hX⟩ : ∃ X, w1.heap.size = X := ⟨_, rfl⟩
  rw [hX] at xX ⊢
  have hwX : w.heap.size ≤ X := by have := B1.size; omega
  have HX := Lib.hid hX
  have BX := Bstep B1 bX
  have i1 := o1.ints.below bX
  have i2 := o2.ints.below bX
  clear hX bX o1 o2 B1
  refine (C2.out wx _ ⟨_, _, rfl, i1, i2⟩).mono ?_
  rintro e w2 ⟨v1, rfl, p1, b2⟩
  have x2 := xX.belowS b2
  have B2 := Bstep BX b2
  have hX1 : X < wx.heap.size := xX.lt
  have hwx : w.heap.size ≤ wx.heap.size := BX.size
  have j1 := i1.below b2
  have j2 := i2.below b2
  obtain ⟨a1, k1, rfl⟩ := AppRes.lenOf p1
  clear xX BX i1 i2 b2
  obtain ⟨c0, c1, c2, c3, c4, c5, c6⟩ := x2.seven?
  go_wp2_with fail
  refine (C1.out w2 _ ⟨_, _, rfl, j1, j2⟩).mono ?_
  rintro e w3 ⟨v2, rfl, p2, b3⟩
  have x3 := x2.belowS b3
  have B3 := Bstep B2 b3
  have p13 := p1.below b3
  have i1 := j1.below b3
  have i2 := j2.below b3
  obtain ⟨a2, k2, rfl⟩ := AppRes.lenOf p2
  have p2i := p2.ints
  clear x2 B2 j1 j2 b3 c0 c1 c2 c3 c4 c5 c6 C1 p1 p2
  go_wp2_with fail
  refine (C5.out w3 _ _ p13.ints p2i).mono ?_
  rintro e w4 ⟨rfl, b4⟩
  have x4 := x3.belowS b4
  have B4 := Bstep B3 b4
  have p14 := p13.below b4
  have p24 := p2i.below b4
  have i1' := i1.below b4
  have i2' := i2.below b4
  clear x3 B3 p13 p2i b4 i1 i2
  cases rb with
  | false =>
    go_wp2_with fail
    refine (C5.out w4 _ _ p14.ints p24).mono ?_
    rintro e w5 ⟨rfl, b5⟩
    go_wp2_with fail
    go_ret
    exact ⟨rfl, Bstep B4 b5⟩
  | true =>
    have hx : xs = mBytes ⟨off, timed, time, key, val, hk, miss⟩ := by rw [← HXS.out]; exact HY.out HOK.out
    have HR : rdM xs = (⟨off, timed, time, key, val, hk, miss⟩, true) := by rw [hx]; exact rdM_of HOK.out
    have C6 := impl_OldFrom _ xs w4 p14.ints
    unfold OldOut at C6
    rw [HR] at C6
    have C6 := Lib.hid C6
    clear hx HR C5 HY
    go_wp2_with fail
    refine C6.out.mono ?_
    rintro e w5 ⟨v5, rfl, own5, b5⟩
    have x5 := x4.belowS b5
    have B5 := Bstep B4 b5
    have i15 := i1'.below b5
    have i25 := i2'.below b5
    obtain ⟨kv5, vv5, rfl, o5, o6, _⟩ := own5
    simp only at o5 o6 ⊢
    obtain ⟨a5, k5, rfl⟩ := AppRes.lenOf o5
    obtain ⟨a6, k6, rfl⟩ := AppRes.lenOf o6
    have bN := alloc_below' w5 (.cells #[.int .i64 off, .bool timed, .int .i64 time, .slice a5 key.length k5, .slice a6 val.length k6, .bool hk, .bool miss] 25)
    have xN := Blk.made w5 #[.int .i64 off, .bool timed, .int .i64 time, .slice a5 key.length k5, .slice a6 val.length k6, .bool hk, .bool miss] 25
    go_upto_region 9 with (fail)
    generalize hWn : w5.alloc (.cells #[.int .i64 off, .bool timed, .int .i64 time, .slice a5 key.length k5, .slice a6 val.length k6, .bool hk, .bool miss] 25) = w6 at bN xN ⊢
    clear hWn
    have x6 := x5.belowS bN
    have B6 := Bstep B5 bN
    have CS := Lib.hid (laws_sameOld (.agg #[.int .i64 off, .bool timed, .int .i64 time, .slice a5 key.length k5, .slice a6 val.length k6, .bool hk, .bool miss]) (.agg #[.int .i64 off, .bool timed, .int .i64 time, .slice ak key.length ck, .slice av val.length cv, .bool hk, .bool miss]) ⟨off, timed, time, key, val, hk, miss⟩ w6 ⟨_, _, rfl, o5.ints.below bN, o6.ints.below bN⟩ ⟨_, _, rfl, i15.below bN, i25.below bN⟩)
    obtain ⟨c0, c1, c2, c3, c4, c5, c6⟩ := x6.seven?
    obtain ⟨f0, f1, f2, f3, f4, f5, f6⟩ := xN.seven?
    clear x4 x5 B4 B5 i1' i2' i15 i25 o5 o6 b5 bN
    go_wp2_with fail
    refine CS.out.mono ?_
    rintro e w7 ⟨rfl, b7⟩
    go_wp2_with fail
    go_ret
    exact ⟨rfl, Bstep B6 b7⟩
set_option maxHeartbeats 4000000 in
theorem law_FnOldDamage (w : World) (v : Value) (zs : List Int) (h : U8s w v zs) (v' : Value) (zs' : List Int) (h' : U8s w v' zs') : Calls Try.prog 5 #[v, v'] w (Yes w) := by
  have hU := h
  obtain ⟨a, cap, rfl, hl, hm, hc, hr⟩ := hU
  unfold maxLen at hm
  clear hc hr
  obtain ⟨a', cap', rfl, hl', hm', hc', hr'⟩ := h'
  unfold maxLen at hm'
  clear hc' hr'
  by_cases hlen : 1048576 < zs.length
  · have d0 : decide ((1048576 : Int) < (zs.length : Int)) = true := decide_eq_true (by omega)
    go_enter Try.func5, Try.ntmps5
    go_wp2_with fail
    go_ret
    exact ⟨rfl, Below.refl _ _⟩
  have d0 : decide ((1048576 : Int) < (zs.length : Int)) = false := decide_eq_false (by omega)
  by_cases hlen' : 1048576 < zs'.length
  · have d0' : decide ((1048576 : Int) < (zs'.length : Int)) = true := decide_eq_true (by omega)
    go_enter Try.func5, Try.ntmps5
    go_wp2_with fail
    go_ret
    exact ⟨rfl, Below.refl _ _⟩
  have d0' : decide ((1048576 : Int) < (zs'.length : Int)) = false := decide_eq_false (by omega)
  have C0 := Lib.hid (spec_DrawOldBytes _ zs w h (by omega))
  clear h
  go_enter Try.func5, Try.ntmps5
  go_wp2_with fail
  refine C0.out.mono ?_
  rintro e w1 ⟨m, u, rfl, own, l1, l2, B1⟩
  have C1 : Hid (∀ W u, MesV W u m → Calls Try.prog 14 #[u] W (NewInts W (mBi m) (mOk m))) := fun W u hu => spec_OldBytes u m W hu (by omega) (by omega)
  have C2 : Hid (∀ W u, MesV W u m → Calls Try.prog 13 #[u] W (NewInts W (mBi m) (mOk m))) := fun W u hu => impl_OldBytes u m W hu (by omega) (by omega)
  have hxl := mBi_len m
  have HY : Hid (mOk m = true → mBi m = mBytes m) := Lib.hid fun h => mBi_yes h
  obtain ⟨rb, hrb⟩ : ∃ rb, mOk m = rb := ⟨_, rfl⟩
  obtain ⟨xs, hxs⟩ : ∃ xs, mBi m = xs := ⟨_, rfl⟩
  rw [hrb] at C1 C2
  rw [hxs] at C1 C2 hxl
  have C5 : Hid (∀ W u v, Ints W u xs → Ints W v xs → Calls Try.prog 15 #[u, v] W (Same W true)) := Lib.hid fun W u v hu hv => by have := laws_sameInts u v xs xs W hu hv; rwa [beq_self] at this
  have qb : (rb != rb) = false := by simp
  have qe : (rb == rb) = true := by simp
  have HOK := Lib.hid hrb
  have HXS := Lib.hid hxs
  clear hrb hxs
  obtain ⟨off, timed, time, key, val, hk, miss⟩ := m
  obtain ⟨kv, vv, rfl, o1, o2⟩ := own
  simp only at o1 o2 l1 l2 ⊢
  obtain ⟨ak, ck, rfl, _, _, _⟩ := o1.ints
  obtain ⟨av, cv, rfl, _, _, _⟩ := o2.ints
  have bX := alloc_below' w1 (.cells #[.int .i64 off, .bool timed, .int .i64 time, .slice ak key.length ck, .slice av val.length cv, .bool hk, .bool miss] 25)
  have xX := Blk.made w1 #[.int .i64 off, .bool timed, .int .i64 time, .slice ak key.length ck, .slice av val.length cv, .bool hk, .bool miss] 25
  clear C0
  go_wp2_with fail
  generalize hWx : w1.alloc (.cells #[.int .i64 off, .bool timed, .int .i64 time, .slice ak key.length ck, .slice av val.length cv, .bool hk, .bool miss] 25) = wx at bX xX ⊢
  clear hWx
  obtain ⟨X, hX⟩ : ∃ X, w1.heap.size = X := ⟨_, rfl⟩
  rw [hX] at xX ⊢
  have hwX : w.heap.size ≤ X := by have := B1.size; omega
  have HX := Lib.hid hX
  have BX := Bstep B1 bX
  have i1 := o1.ints.below bX
  have i2 := o2.ints.below bX
  clear hX bX o1 o2 B1
  refine (C2.out wx _ ⟨_, _, rfl, i1, i2⟩).mono ?_
  rintro e w2 ⟨v1, rfl, p1, b2⟩
  have x2 := xX.belowS b2
  have B2 := Bstep BX b2
  have hX1 : X < wx.heap.size := xX.lt
  have hwx : w.heap.size ≤ wx.heap.size := BX.size
  have j1 := i1.below b2
  have j2 := i2.below b2
  obtain ⟨a1, k1, rfl⟩ := AppRes.lenOf p1
  clear xX BX i1 i2 b2
  obtain ⟨c0, c1, c2, c3, c4, c5, c6⟩ := x2.seven?
  go_wp2_with fail
  refine (C1.out w2 _ ⟨_, _, rfl, j1, j2⟩).mono ?_
  rintro e w3 ⟨v2, rfl, p2, b3⟩
  have x3 := x2.belowS b3
  have B3 := Bstep B2 b3
  have p13 := p1.below b3
  have i1 := j1.below b3
  have i2 := j2.below b3
  obtain ⟨a2, k2, rfl⟩ := AppRes.lenOf p2
  have p2i := p2.ints
  clear x2 B2 j1 j2 b3 c0 c1 c2 c3 c4 c5 c6 C1 p1 p2
  go_wp2_with fail
  refine (C5.out w3 _ _ p13.ints p2i).mono ?_
  rintro e w4 ⟨rfl, b4⟩
  have x4 := x3.belowS b4
  have B4 := Bstep B3 b4
  have p14 := p13.below b4
  have p24 := p2i.below b4
  have i1' := i1.below b4
  have i2' := i2.below b4
  clear x3 B3 p13 p2i b4 i1 i2
  cases rb with
  | false =>
    go_wp2_with fail
    refine (C5.out w4 _ _ p14.ints p24).mono ?_
    rintro e w5 ⟨rfl, b5⟩
    go_wp2_with fail
    go_ret
    exact ⟨rfl, Bstep B4 b5⟩
  | true =>
    have hx : xs = mBytes ⟨off, timed, time, key, val, hk, miss⟩ := by rw [← HXS.out]; exact HY.out HOK.out
    have hN8 : 8 ≤ xs.length := by
      have := mBytes_len HOK.out
      rw [← hx] at this
      split at this <;> omega
    have hxok : okBs xs = true := by rw [hx]; exact mBytes_ok HOK.out
    have HDM : Hid (∀ k y, 3 ≤ k → k < xs.length → 0 ≤ y → y ≤ 255 → y ≠ xs.getD k 0 → rdM (xs.set k y) = (Mes.zero, false)) := Lib.hid fun k y h1 h2 h3 h4 h5 => by
      rw [hx] at h2 h5 ⊢
      exact rdM_damage HOK.out h1 h2 h3 h4 h5
    obtain ⟨MM, hMM⟩ : ∃ MM, zs'.length = MM := ⟨_, rfl⟩
    rw [hMM] at hl' hlen' d0' ⊢
    obtain ⟨j, hj⟩ : ∃ j, MM % (xs.length - 3) = j := ⟨_, rfl⟩
    have jl : j < xs.length - 3 := by rw [← hj]; exact Nat.mod_lt _ (by omega)
    have t0 : ((xs.length : Int) - 3) = ((xs.length - 3 : Nat) : Int) := by omega
    have t1 : (MM : Int).tmod ((xs.length : Int) - 3) = (j : Int) := by rw [t0, ← hj]; rfl
    have t2 : (MM : Int) % ((xs.length : Int) - 3) = (j : Int) := by rw [t0, ← hj]; rfl
    have s0 : IntKind.i64.wrap ((xs.length : Int) - 3) = (xs.length : Int) - 3 := IntWalk.i64_in _ ⟨by omega, by omega⟩
    obtain ⟨k, hk⟩ : ∃ k, 3 + j = k := ⟨_, rfl⟩
    have kI : (3 : Int) + (j : Int) = (k : Int) := by omega
    have k3 : 3 ≤ k := by omega
    have kl : k < xs.length := by omega
    obtain ⟨n, hn⟩ : ∃ n, xs.getD k 0 = n := ⟨_, rfl⟩
    have hnr := okBs_at hxok k kl
    rw [hn] at hnr
    have HN := Lib.hid hn
    have z3 : ((xs.length : Int) - 3 == 0) = false := by rw [beq_eq_false_iff_ne]; omega
    have z3' : ¬ ((xs.length : Int) - 3 = 0) := by omega
    clear hj hk t0 hx hxok hn hMM C5 HY HXS
    have own0 := own_empty w4 w4.heap.size (Nat.le_refl _)
    have bE := alloc_below' w4 (.cells #[] 3)
    have iu := p14.ints.below bE
    have hyl : ([] : List Int).length + xs.length < 10000000000 := by simp; omega
    have hsE : w4.heap.size ≤ (w4.alloc (.cells #[] 3)).heap.size := bE.size
    have BE := Bstep B4 bE
    have hw4 : w.heap.size ≤ w4.heap.size := B4.size
    clear bE B4 p24 p14 x4 i1' i2'
    go_upto_region 10 with (at_builtin; refine wp_appI rfl (.tmp 62) (.tmp 63) rfl w4.heap.size (.slice (some ⟨w4.heap.size, 0, none⟩) 0 0) _ [] xs rfl rfl own0 iu hyl hsE ?_; intro v5 w5 own5 g5; rw [List.nil_append] at own5; obtain ⟨gg, cap5, rfl⟩ := own5.form (by omega))
    have B5 : Below w.heap.size w w5 := BE.grown g5 BE.size (fun q hq => by have := own0.lt q hq; omega)
    have hmy := own5.ints.sizes.2
    unfold maxLen at hmy
    obtain ⟨hmy1, hmy2⟩ := hmy
    have hcx := own5.ints.cell k kl
    rw [HN.out, Nat.zero_add] at hcx
    have hgg := own5.lt gg rfl
    have i0 : (0 : Int) ≤ (k : Int) := by omega
    have i1 : (k : Int) < (xs.length : Int) := by omega
    have hwg : w.heap.size ≤ gg := by omega
    clear own0 iu BE g5
    by_cases h255 : n = 255
    · have e5 : (n == 255) = true := by rw [beq_iff_eq]; exact h255
      obtain ⟨_, hf, hnew, hgr⟩ := own5.store rfl k kl 254
      have B6 : Below w.heap.size w (w5.setCell ⟨gg, k, none⟩ (.int .i64 254)) := B5.setCell hwg _
      have HM := HDM.out k 254 k3 kl (by omega) (by omega) (by rw [HN.out]; omega)
      have hl6 : (xs.set k 254).length = xs.length := List.length_set
      have C6 := impl_OldFrom _ (xs.set k 254) _ hnew.ints
      unfold OldOut at C6
      rw [HM] at C6
      have C6 := Lib.hid C6
      clear h255 hnew hl6 HM HDM own5 hgr B5
      go_wp2_with fail
      refine C6.out.mono ?_
      rintro e w7 ⟨v7, rfl, own7, b7⟩
      obtain ⟨kv7, vv7, rfl, o7, o8, _⟩ := own7
      simp only at o7 o8 ⊢
      obtain ⟨a7, k7, rfl⟩ := AppRes.lenOf o7
      obtain ⟨a8, k8, rfl⟩ := AppRes.lenOf o8
      have B7 := Bstep B6 b7
      have bF := alloc_below' w7 (.cells #[.int .i64 Mes.zero.off, .bool Mes.zero.timed, .int .i64 Mes.zero.time, .slice a7 Mes.zero.key.length k7, .slice a8 Mes.zero.val.length k8, .bool Mes.zero.hk, .bool Mes.zero.miss] 25)
      go_wp2_with fail
      go_ret
      exact ⟨rfl, Bstep B7 bF⟩
    · have e5 : (n == 255) = false := by rw [beq_eq_false_iff_ne]; exact h255
      obtain ⟨_, hf, hnew, hgr⟩ := own5.store rfl k kl (n + 1)
      have B6 : Below w.heap.size w (w5.setCell ⟨gg, k, none⟩ (.int .i64 (n + 1))) := B5.setCell hwg _
      have HM := HDM.out k (n + 1) k3 kl (by omega) (by omega) (by rw [HN.out]; omega)
      have C6 := impl_OldFrom _ (xs.set k (n + 1)) _ hnew.ints
      unfold OldOut at C6
      rw [HM] at C6
      have C6 := Lib.hid C6
      clear h255 hnew HM HDM own5 hgr B5
      go_wp2_with fail
      refine C6.out.mono ?_
      rintro e w7 ⟨v7, rfl, own7, b7⟩
      obtain ⟨kv7, vv7, rfl, o7, o8, _⟩ := own7
      simp only at o7 o8 ⊢
      obtain ⟨a7, k7, rfl⟩ := AppRes.lenOf o7
      obtain ⟨a8, k8, rfl⟩ := AppRes.lenOf o8
      have B7 := Bstep B6 b7
      have bF := alloc_below' w7 (.cells #[.int .i64 Mes.zero.off, .bool Mes.zero.timed, .int .i64 Mes.zero.time, .slice a7 Mes.zero.key.length k7, .slice a8 Mes.zero.val.length k8, .bool Mes.zero.hk, .bool Mes.zero.miss] 25)
      go_wp2_with fail
      go_ret
      exact ⟨rfl, Bstep B7 bF⟩
end Go.Proofs.Ythlboonobepdaaa
