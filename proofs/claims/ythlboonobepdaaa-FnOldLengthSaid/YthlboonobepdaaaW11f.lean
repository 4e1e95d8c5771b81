/- Chapter 11: the bytes of a message, by the program and by the model. -/
import Derived.Test.YthlboonobepdaaaW11e
import Derived.Test.YthlboonobepdaaaW11d
namespace Go.Proofs.Ythlboonobepdaaa
open Go.ChangeShapes Go.WideShapes Go.ChangeAt Go.RowKit
set_option linter.unusedVariables false

set_option maxHeartbeats 2000000 in
theorem impl_OldBytes (v : Value) (m : Mes) (w : World) (h : MesV w v m) (l1 : m.key.length ≤ 1000000000) (l2 : m.val.length ≤ 1000000000) : Calls Try.prog 13 #[v] w (NewInts w (mBi m) (mOk m)) := by
  have hm := h
  obtain ⟨off, timed, time, key, val, hk, miss⟩ := m
  obtain ⟨kv, vv, rfl, ik, iv⟩ := h
  simp only at ik iv
  obtain ⟨ak, ck, rfl, _, _, _⟩ := id ik
  obtain ⟨av, cv, rfl, _, _, _⟩ := id iv
  have bA := alloc_below' w (.cells #[.int .i64 off, .bool timed, .int .i64 time, .slice ak key.length ck, .slice av val.length cv, .bool hk, .bool miss] 25)
  have xA := Blk.made w #[.int .i64 off, .bool timed, .int .i64 time, .slice ak key.length ck, .slice av val.length cv, .bool hk, .bool miss] 25
  have C1 := Lib.hid (impl_OldValid _ ⟨off, timed, time, key, val, hk, miss⟩ _ (hm.below bA) l1 l2)
  have HBi : Hid (mOk ⟨off, timed, time, key, val, hk, miss⟩ = true → mBi ⟨off, timed, time, key, val, hk, miss⟩ = sfx 3 off ++ sfx 2 (sumB (restO ⟨off, timed, time, key, val, hk, miss⟩)) ++ restO ⟨off, timed, time, key, val, hk, miss⟩) := Lib.hid fun h => if_pos h
  have HNo : Hid (mOk ⟨off, timed, time, key, val, hk, miss⟩ = false → mBi ⟨off, timed, time, key, val, hk, miss⟩ = []) := Lib.hid fun h => if_neg (by rw [h]; simp)
  have HOK : Hid (mOk ⟨off, timed, time, key, val, hk, miss⟩ = true → okBs (restO ⟨off, timed, time, key, val, hk, miss⟩) = true ∧ (restO ⟨off, timed, time, key, val, hk, miss⟩).length ≤ 40 ∧ 0 ≤ off ∧ off ≤ 99999) := Lib.hid fun h => by
    have h1 := restO_len h
    obtain ⟨⟨o1, _, p1, p2⟩, _⟩ := mOk_iff.1 h
    have q1 := (partOk_iff.1 p1).2.2
    have q2 := (partOk_iff.1 p2).2.2
    simp only at q1 q2 o1
    refine ⟨restO_ok h, ?_, o1⟩
    simp only at h1
    split at h1 <;> omega
  have HC : Hid (mOk ⟨off, timed, time, key, val, hk, miss⟩ = true → ∀ W, Below w.heap.size w W → Calls Try.prog 35 #[.agg #[.int .i64 off, .bool timed, .int .i64 time, .slice ak key.length ck, .slice av val.length cv, .bool hk, .bool miss]] W (NewInts1 W (restO ⟨off, timed, time, key, val, hk, miss⟩))) := Lib.hid fun h W hW => impl_summedBytes _ _ W (hm.below hW) h
  obtain ⟨ok, hok⟩ : ∃ ok, mOk ⟨off, timed, time, key, val, hk, miss⟩ = ok := ⟨_, rfl⟩
  obtain ⟨R, hR⟩ : ∃ R, restO ⟨off, timed, time, key, val, hk, miss⟩ = R := ⟨_, rfl⟩
  obtain ⟨X, hX⟩ : ∃ X, mBi ⟨off, timed, time, key, val, hk, miss⟩ = X := ⟨_, rfl⟩
  rw [hok] at C1 HBi HNo HOK HC
  rw [hR] at HBi HOK HC
  rw [hX] at HBi HNo
  rw [hok, hX]
  clear hok hR hX hm
  cases ok with
  | false =>
    obtain rfl := HNo.out rfl
    go_enter Try.func13, Try.ntmps13
    go_wp2_with fail
    refine C1.out.mono ?_
    rintro e w1 ⟨rfl, b1⟩
    go_wp2_with fail
    go_ret2
    exact ⟨_, rfl, own_nilI _ _, Bstep bA b1⟩
  | true =>
    obtain ⟨hRok, hRl, o0, o1⟩ := HOK.out rfl
    have HX := Lib.hid (HBi.out rfl)
    have CS := Lib.hid (HC.out rfl)
    have hs := sumB_bound R
    have CM : Hid (∀ W v, Ints W v R → Calls Try.prog 37 #[v] W fun e w' => e = .returned (.int .i64 (sumB R)) ∧ W = w') := Lib.hid fun W v hv => by have := impl_SumOf v R W hv; rwa [sumV_yes hRok] at this
    obtain ⟨S, hS⟩ : ∃ S, sumB R = S := ⟨_, rfl⟩
    rw [hS] at CM HX hs
    clear hS HBi HNo HOK HC
    go_enter Try.func13, Try.ntmps13
    go_wp2_with fail
    generalize hwb : w.alloc (.cells #[.int .i64 off, .bool timed, .int .i64 time, .slice ak key.length ck, .slice av val.length cv, .bool hk, .bool miss] 25) = wb at bA xA C1 ⊢
    clear hwb
    obtain ⟨A, hA⟩ : ∃ A, w.heap.size = A := ⟨_, rfl⟩
    rw [hA] at xA ⊢
    have HA := Lib.hid hA
    clear hA
    refine C1.out.mono ?_
    rintro e w1 ⟨rfl, b1⟩
    have B1 := Bstep bA b1
    have x1 := xA.belowS b1
    obtain ⟨c0, c1, c2, c3, c4, c5, c6⟩ := x1.seven?
    clear xA b1 C1
    go_wp2_with fail
    refine (CS.out w1 B1).mono ?_
    rintro e w2 ⟨u1, rfl, own1, b2⟩
    have B2 := Bstep B1 b2
    have x2 := x1.belowS b2
    clear c0 c1 c2 c3 c4 c5 c6 x1
    obtain ⟨c0, c1, c2, c3, c4, c5, c6⟩ := x2.seven?
    obtain ⟨a1, k1, rfl⟩ := AppRes.lenOf own1
    have i1 := own1.ints
    have t1 := own1.lt2
    have C3 := Lib.hid (impl_withInt (.slice none 0 0) [] off 3 w2.heap.size w2 (own_nilI _ _) (Nat.le_refl _) (by simp) (by omega) (by omega) o0 (by omega))
    rw [List.nil_append] at C3
    have f3 := sfx_len 3 off
    obtain ⟨F, hF⟩ : ∃ F, sfx 3 off = F := ⟨_, rfl⟩
    rw [hF] at C3 HX f3
    have fl : F.length ≤ 3 := by omega
    clear hF f3 own1
    go_wp2_with fail
    refine C3.out.mono ?_
    rintro e w3 ⟨u2, rfl, own2, b3⟩
    obtain ⟨a2, k2, rfl⟩ := AppRes.lenOf own2
    have hs23 : w2.heap.size ≤ w3.heap.size := b3.size
    have i13 := i1.below b3
    clear c0 c1 c2 c3 c4 c5 c6
    go_wp2_with fail
    refine (CM.out w3 _ i13).mono ?_
    rintro e w3' ⟨rfl, rfl⟩
    have C4 := Lib.hid (impl_withInt _ F S 2 w2.heap.size w3 own2 hs23 (by omega) (by omega) (by omega) hs.1 (by omega))
    have f2 := sfx_len 2 S
    obtain ⟨T, hT⟩ : ∃ T, sfx 2 S = T := ⟨_, rfl⟩
    rw [hT] at C4 HX f2
    have tl : T.length ≤ 2 := by omega
    clear hT f2
    go_wp2_with fail
    refine C4.out.mono ?_
    rintro e w4 ⟨u4, rfl, own4, b4⟩
    have B24 : Below w2.heap.size w2 w4 := b3.trans b4
    have hs24 : w2.heap.size ≤ w4.heap.size := B24.size
    have i14 := i1.below B24
    obtain ⟨G, hG⟩ : ∃ G, F ++ T = G := ⟨_, rfl⟩
    have gl : G.length + R.length < 10000000000 := by rw [← hG, List.length_append]; omega
    rw [hG] at own4 HX
    obtain ⟨a4, k4, rfl⟩ := AppRes.lenOf own4
    clear hG
    go_wp2_with (at_builtin; refine wp_appI rfl (.tmp 18) (.tmp 19) rfl w2.heap.size _ _ G R rfl rfl own4 i14 gl hs24 ?_; intro v5 w5 own5 g5)
    go_ret2
    rw [← HX.out] at own5
    have hw2 : w.heap.size ≤ w2.heap.size := B2.size
    exact ⟨_, rfl, own5.base hw2, B2.trans ((B24.grown g5 hs24 own4.lt).mono hw2)⟩
theorem spec_l11Part (has : Bool) (v : Value) (xs : List Int) (w : World) (h : Ints w v xs) (hl : xs.length ≤ 1000) : Calls Try.prog 55 #[.bool has, v] w (NewInts1 w (partO has xs)) := by
  obtain ⟨a, cap, rfl, _, hm, _⟩ := id h
  unfold maxLen at hm
  cases has with
  | false =>
    rw [show partO false xs = [255] from rfl]
    have o := own_lit1 w w.heap.size 255 (Nat.le_refl _)
    go_enter Try.func55, Try.ntmps55
    go_wp2_with fail
    go_ret
    exact ⟨_, rfl, o, alloc_below' _ _⟩
  | true =>
    rw [show partO true xs = [(xs.length : Int)] ++ xs from rfl]
    have o := own_lit1 w w.heap.size (xs.length : Int) (Nat.le_refl _)
    have b := alloc_below' w (.cells #[.int .i64 (xs.length : Int)] 3)
    have i := h.below b
    have hs : w.heap.size ≤ (w.alloc (.cells #[.int .i64 (xs.length : Int)] 3)).heap.size := b.size
    have hl1 : [(xs.length : Int)].length + xs.length < 10000000000 := by simp; omega
    have HI : Hid (Ints (w.alloc (.cells #[.int .i64 (xs.length : Int)] 3)) (.slice a xs.length cap) xs) := Lib.hid i
    go_enter Try.func55, Try.ntmps55
    go_wp2_with (at_builtin; refine wp_appI rfl (.tmp 10) (.tmp 11) rfl w.heap.size (.slice (some ⟨w.heap.size, 0, none⟩) 1 1) (.slice a xs.length cap) [(xs.length : Int)] xs rfl rfl o HI.out hl1 hs ?_; intro v2 w2 own2 g2)
    go_ret
    exact ⟨_, rfl, own2, b.grown g2 b.size o.lt⟩
set_option maxHeartbeats 4000000 in
theorem spec_l11Bytes (v : Value) (m : Mes) (w : World) (h : MesV w v m) (hok : mOk m = true) : Calls Try.prog 38 #[v] w (NewInts1 w (mBytes m)) := by
  have hRok := restO_ok hok
  obtain ⟨⟨⟨o0, o1⟩, ⟨t0, t1⟩, p1, p2⟩, _⟩ := mOk_iff.1 hok
  have k12 := (partOk_iff.1 p1).2.2
  have v12 := (partOk_iff.1 p2).2.2
  have hlk := partO_len p1
  have hlv := partO_len p2
  have hm := h
  obtain ⟨off, timed, time, key, val, hk, miss⟩ := m
  obtain ⟨kv, vv, rfl, ik, iv⟩ := h
  simp only at ik iv o0 o1 t0 t1 k12 v12 hlk hlv
  obtain ⟨ak, ck, rfl, _, _, _⟩ := id ik
  obtain ⟨av, cv, rfl, _, _, _⟩ := id iv
  have bA := alloc_below' w (.cells #[.int .i64 off, .bool timed, .int .i64 time, .slice ak key.length ck, .slice av val.length cv, .bool hk, .bool miss] 25)
  have xA := Blk.made w #[.int .i64 off, .bool timed, .int .i64 time, .slice ak key.length ck, .slice av val.length cv, .bool hk, .bool miss] 25
  have C2 : Hid (∀ W, Below w.heap.size w W → Calls Try.prog 55 #[.bool hk, .slice ak key.length ck] W (NewInts1 W (partO hk key))) := Lib.hid fun W hW => spec_l11Part hk _ key W (ik.below hW) (by omega)
  have C3 : Hid (∀ W, Below w.heap.size w W → Calls Try.prog 55 #[.bool (!miss), .slice av val.length cv] W (NewInts1 W (partO (!miss) val))) := Lib.hid fun W hW => spec_l11Part (!miss) _ val W (iv.below hW) (by omega)
  have hR : headO ⟨off, timed, time, key, val, hk, miss⟩ ++ partO hk key ++ partO (!miss) val = restO ⟨off, timed, time, key, val, hk, miss⟩ := rfl
  have hB : mBytes ⟨off, timed, time, key, val, hk, miss⟩ = sfx 3 off ++ sfx 2 (sumB (restO ⟨off, timed, time, key, val, hk, miss⟩)) ++ restO ⟨off, timed, time, key, val, hk, miss⟩ := rfl
  obtain ⟨P1, hP1⟩ : ∃ P1, partO hk key = P1 := ⟨_, rfl⟩
  obtain ⟨P2, hP2⟩ : ∃ P2, partO (!miss) val = P2 := ⟨_, rfl⟩
  rw [hP1] at C2 hlk hR
  rw [hP2] at C3 hlv hR
  obtain ⟨R, hR'⟩ : ∃ R, restO ⟨off, timed, time, key, val, hk, miss⟩ = R := ⟨_, rfl⟩
  rw [hR'] at hR hB hRok
  obtain ⟨X, hX⟩ : ∃ X, mBytes ⟨off, timed, time, key, val, hk, miss⟩ = X := ⟨_, rfl⟩
  rw [hX] at hB ⊢
  have hs := sumB_bound R
  have CM : Hid (∀ W v, Ints W v R → Calls Try.prog 56 #[v] W fun e w' => e = .returned (.int .i64 (sumB R)) ∧ W = w') := Lib.hid fun W v hv => spec_l2Sum v R W hv hRok
  obtain ⟨S, hS⟩ : ∃ S, sumB R = S := ⟨_, rfl⟩
  rw [hS] at CM hB hs
  have HR := Lib.hid hR
  have HB := Lib.hid hB
  have lk1 : P1.length ≤ 13 := by omega
  have lv1 : P2.length ≤ 13 := by omega
  clear hP1 hP2 hR' hX hR hB hS hlk hlv p1 p2 hok hm
  go_enter Try.func38, Try.ntmps38
  go_upto_region 1 with (fail)
  generalize hwb : w.alloc (.cells #[.int .i64 off, .bool timed, .int .i64 time, .slice ak key.length ck, .slice av val.length cv, .bool hk, .bool miss] 25) = wb at bA xA ⊢
  clear hwb
  obtain ⟨A, hA⟩ : ∃ A, w.heap.size = A := ⟨_, rfl⟩
  rw [hA] at xA ⊢
  have HA := Lib.hid hA
  clear hA
  have b0 := alloc_below' wb (.cells #[.int .i64 0] 3)
  have o00 := own_lit1 wb wb.heap.size 0 (Nat.le_refl _)
  have x0 := xA.belowS b0
  obtain ⟨c0, c1, c2, c3, c4, c5, c6⟩ := x0.seven?
  go_upto_region 2 with (fail)
  obtain ⟨L0, hL0⟩ : ∃ L0, wb.heap.size = L0 := ⟨_, rfl⟩
  have hs0 : w.heap.size ≤ L0 := by rw [← hL0]; exact bA.size
  have hAL : A < L0 := by rw [← hL0]; exact xA.lt
  rw [hL0] at o00 ⊢
  generalize hw0 : wb.alloc (.cells #[.int .i64 0] 3) = w0 at b0 o00 x0 c0 c1 c2 c3 c4 c5 c6 ⊢
  have B0 : Below L0 wb w0 := by rw [← hL0]; exact b0
  have bA' : ∀ W, Below L0 wb W → Below w.heap.size w W := fun W h => bA.trans (h.mono hs0)
  have HBA := Lib.hid bA'
  have HXA : Hid (∀ W, Below L0 wb W → Seven W A (.int .i64 off) (.bool timed) (.int .i64 time) (.slice ak key.length ck) (.slice av val.length cv) (.bool hk) (.bool miss)) := Lib.hid fun W h => (xA.below hAL h).seven?
  have hLw : ∀ W, Below L0 wb W → L0 ≤ W.heap.size := fun W h => by have := h.size; omega
  have HLw := Lib.hid hLw
  clear hw0 hL0 b0 bA' hLw bA xA x0
  cases timed with
  | false =>
    have HH : Hid (headO ⟨off, false, time, key, val, hk, miss⟩ = [0]) := Lib.hid rfl
    have hh4 : ([0] : List Int).length ≤ 4 := by simp
    obtain ⟨H, hH⟩ : ∃ H, ([0] : List Int) = H := ⟨_, rfl⟩
    rw [hH] at o00 hh4 HH
    clear hH
    go_upto_region 4 with (fail)
    have ownH := o00
    have BH := B0
    have lH := HLw.out w0 B0
    obtain ⟨ah, ch, hvh⟩ : ∃ a c, Value.slice (some ⟨L0, 0, none⟩) 1 1 = .slice a 1 c := ⟨_, _, rfl⟩
    clear hvh
    obtain ⟨d0, d1, d2, d3, d4, d5, d6⟩ := HXA.out _ BH
    clear c0 c1 c2 c3 c4 c5 c6
    go_wp2_with fail
    refine (C2.out _ (HBA.out _ BH)).mono ?_
    rintro e w4 ⟨v4, rfl, own4, b4⟩
    have B4 : Below L0 wb w4 := BH.trans (b4.mono lH)
    have l4 := HLw.out w4 B4
    have oH4 := ownH.below b4
    have i4 := own4.ints
    obtain ⟨a4, k4, rfl⟩ := AppRes.lenOf own4
    have hl4 : H.length + P1.length < 10000000000 := by omega
    obtain ⟨Q, hQ⟩ : ∃ Q, H ++ P1 = Q := ⟨_, rfl⟩
    have ql : Q.length ≤ 20 := by rw [← hQ, List.length_append]; omega
    have HQ := Lib.hid hQ
    clear d0 d1 d2 d3 d4 d5 d6 hQ ownH own4
    go_upto_region 5 with (at_builtin; refine wp_appI rfl (.tmp 13) (.tmp 18) rfl L0 _ _ H P1 rfl rfl oH4 i4 hl4 l4 ?_; intro v5 w5 own5 g5)
    rw [HQ.out] at own5
    have B5 : Below L0 wb w5 := B4.grown g5 (by have := B4.size; omega) oH4.lt
    have l5 := HLw.out w5 B5
    obtain ⟨a5, k5, rfl⟩ := AppRes.lenOf own5
    obtain ⟨d0, d1, d2, d3, d4, d5, d6⟩ := HXA.out _ B5
    clear oH4 i4 g5 B4 BH b4
    go_wp2_with fail
    refine (C3.out _ (HBA.out _ B5)).mono ?_
    rintro e w6 ⟨v6, rfl, own6, b6⟩
    have B6 : Below L0 wb w6 := B5.trans (b6.mono l5)
    have l6 := HLw.out w6 B6
    have o56 := own5.below b6
    have i6 := own6.ints
    obtain ⟨a6, k6, rfl⟩ := AppRes.lenOf own6
    have hl6 : Q.length + P2.length < 10000000000 := by omega
    have HR2 : Hid (Q ++ P2 = R) := Lib.hid (by rw [← HQ.out, ← HH.out]; exact HR.out)
    clear d0 d1 d2 d3 d4 d5 d6 own5 own6
    go_upto_region 6 with (at_builtin; refine wp_appI rfl (.tmp 20) (.tmp 26) rfl L0 _ _ Q P2 rfl rfl o56 i6 hl6 l6 ?_; intro v7 w7 own7 g7)
    have hl7 : (Q ++ P2).length ≤ 40 := by rw [List.length_append]; omega
    rw [HR2.out] at own7 hl7
    have B7 : Below L0 wb w7 := B6.grown g7 (by have := B6.size; omega) o56.lt
    have l7 := HLw.out w7 B7
    obtain ⟨a7, k7, rfl⟩ := AppRes.lenOf own7
    obtain ⟨d0, d1, d2, d3, d4, d5, d6⟩ := HXA.out _ B7
    clear o56 i6 g7 B6 b6 B5
    have C5 := Lib.hid (spec_l2Int off 3 w7 (by omega) (by omega) o0 (by omega))
    have f5 := sfx_len 3 off
    obtain ⟨F, hF⟩ : ∃ F, sfx 3 off = F := ⟨_, rfl⟩
    rw [hF] at C5 HB f5
    have fl : F.length ≤ 3 := by omega
    clear hF f5
    go_wp2_with fail
    refine C5.out.mono ?_
    rintro e w8 ⟨v8, rfl, own8, b8⟩
    have i78 := own7.ints.below b8
    have t7 := own7.lt2
    obtain ⟨a8, k8, rfl⟩ := AppRes.lenOf own8
    clear d0 d1 d2 d3 d4 d5 d6
    go_wp2_with fail
    refine (CM.out w8 _ i78).mono ?_
    rintro e w8' ⟨rfl, rfl⟩
    have C6 := Lib.hid (spec_l2Int S 2 w8 (by omega) (by omega) hs.1 (by omega))
    have f6 := sfx_len 2 S
    obtain ⟨T, hT⟩ : ∃ T, sfx 2 S = T := ⟨_, rfl⟩
    rw [hT] at C6 HB f6
    have tl : T.length ≤ 2 := by omega
    clear hT f6
    go_wp2_with fail
    refine C6.out.mono ?_
    rintro e w9 ⟨v9, rfl, own9, b9'⟩
    have b79 := Bstep b8 b9'
    have hs79 : w7.heap.size ≤ w9.heap.size := b79.size
    have o89 := own8.below b9'
    have i9 := own9.ints
    obtain ⟨a9, k9, rfl⟩ := AppRes.lenOf own9
    have hl9 : F.length + T.length < 10000000000 := by omega
    obtain ⟨G, hG⟩ : ∃ G, F ++ T = G := ⟨_, rfl⟩
    have gl : G.length + R.length < 10000000000 := by rw [← hG, List.length_append]; omega
    rw [hG] at HB
    have HG := Lib.hid hG
    clear hG own9
    go_upto_region 7 with (at_builtin; refine wp_appI rfl (.tmp 30) (.tmp 33) rfl w7.heap.size _ _ F T rfl rfl o89 i9 hl9 hs79 ?_; intro v10 w10 own10 g10)
    rw [HG.out] at own10
    have b710 : Below w7.heap.size w7 w10 := b79.grown g10 hs79 o89.lt
    have hs710 : w7.heap.size ≤ w10.heap.size := b710.size
    have i710 := own7.ints.below b710
    obtain ⟨a10, k10, rfl⟩ := AppRes.lenOf own10
    go_wp2_with (at_builtin; refine wp_appI rfl (.tmp 35) (.tmp 36) rfl w7.heap.size _ _ G R rfl rfl own10 i710 gl hs710 ?_; intro v11 w11 own11 g11)
    go_ret
    rw [← HB.out] at own11
    have hw7 : w.heap.size ≤ w7.heap.size := Nat.le_trans hs0 l7
    exact ⟨_, rfl, own11.base hw7, (HBA.out _ B7).trans ((b710.grown g11 hs710 own10.lt).mono hw7)⟩
  | true =>
    have HH : Hid (headO ⟨off, true, time, key, val, hk, miss⟩ = [1] ++ sfx 3 time) := Lib.hid rfl
    have hh : (headO ⟨off, true, time, key, val, hk, miss⟩).length = 4 := headO_len _
    rw [HH.out] at hh
    have f3 := sfx_len 3 time
    have b9 := alloc_below' w0 (.cells #[.int .i64 1] 3)
    have o9 := own_lit1 w0 L0 1 (HLw.out w0 B0)
    have B9 : Below L0 wb (w0.alloc (.cells #[.int .i64 1] 3)) := B0.trans (b9.mono (HLw.out w0 B0))
    have l9 := HLw.out _ B9
    have C4 := Lib.hid (spec_l2Int time 3 (w0.alloc (.cells #[.int .i64 1] 3)) (by omega) (by omega) t0 (by omega))
    obtain ⟨F3, hF3⟩ : ∃ F3, sfx 3 time = F3 := ⟨_, rfl⟩
    rw [hF3] at C4 hh HH f3
    have fl3 : F3.length ≤ 3 := by omega
    clear hF3 f3
    obtain ⟨f0, f1, f2, f3', f4, f5, f6⟩ := HXA.out _ B9
    go_wp2_with fail
    refine C4.out.mono ?_
    rintro e w2 ⟨v2, rfl, own2, b2⟩
    have B2 : Below L0 wb w2 := B9.trans (b2.mono l9)
    have l2 := HLw.out w2 B2
    have o92 := o9.below b2
    have i2 := own2.ints
    have hl92 : ([1] : List Int).length + F3.length < 10000000000 := by simp; omega
    obtain ⟨H, hH⟩ : ∃ H, [1] ++ F3 = H := ⟨_, rfl⟩
    rw [hH] at HH hh
    have hh4 : H.length ≤ 4 := by omega
    have HH1 := Lib.hid hH
    clear f0 f1 f2 f3' f4 f5 f6 hh hH
    obtain ⟨a2, k2, rfl⟩ := AppRes.lenOf own2
    go_upto_region 4 with (at_builtin; refine wp_appI rfl (.tmp 8) (.tmp 11) rfl L0 _ _ [1] F3 rfl rfl o92 i2 hl92 l2 ?_; intro v3 w3 own3 g3)
    rw [HH1.out] at own3
    have ownH := own3
    have BH : Below L0 wb w3 := B2.grown g3 (by have := B2.size; have := HLw.out w2 B2; omega) o92.lt
    have lH := HLw.out w3 BH
    obtain ⟨ah, ch, rfl⟩ := AppRes.lenOf own3
    clear own3 g3
    obtain ⟨d0, d1, d2, d3, d4, d5, d6⟩ := HXA.out _ BH
    clear c0 c1 c2 c3 c4 c5 c6
    go_wp2_with fail
    refine (C2.out _ (HBA.out _ BH)).mono ?_
    rintro e w4 ⟨v4, rfl, own4, b4⟩
    have B4 : Below L0 wb w4 := BH.trans (b4.mono lH)
    have l4 := HLw.out w4 B4
    have oH4 := ownH.below b4
    have i4 := own4.ints
    obtain ⟨a4, k4, rfl⟩ := AppRes.lenOf own4
    have hl4 : H.length + P1.length < 10000000000 := by omega
    obtain ⟨Q, hQ⟩ : ∃ Q, H ++ P1 = Q := ⟨_, rfl⟩
    have ql : Q.length ≤ 20 := by rw [← hQ, List.length_append]; omega
    have HQ := Lib.hid hQ
    clear d0 d1 d2 d3 d4 d5 d6 hQ ownH own4
    go_upto_region 5 with (at_builtin; refine wp_appI rfl (.tmp 13) (.tmp 18) rfl L0 _ _ H P1 rfl rfl oH4 i4 hl4 l4 ?_; intro v5 w5 own5 g5)
    rw [HQ.out] at own5
    have B5 : Below L0 wb w5 := B4.grown g5 (by have := B4.size; omega) oH4.lt
    have l5 := HLw.out w5 B5
    obtain ⟨a5, k5, rfl⟩ := AppRes.lenOf own5
    obtain ⟨d0, d1, d2, d3, d4, d5, d6⟩ := HXA.out _ B5
    clear oH4 i4 g5 B4 BH b4
    go_wp2_with fail
    refine (C3.out _ (HBA.out _ B5)).mono ?_
    rintro e w6 ⟨v6, rfl, own6, b6⟩
    have B6 : Below L0 wb w6 := B5.trans (b6.mono l5)
    have l6 := HLw.out w6 B6
    have o56 := own5.below b6
    have i6 := own6.ints
    obtain ⟨a6, k6, rfl⟩ := AppRes.lenOf own6
    have hl6 : Q.length + P2.length < 10000000000 := by omega
    have HR2 : Hid (Q ++ P2 = R) := Lib.hid (by rw [← HQ.out, ← HH.out]; exact HR.out)
    clear d0 d1 d2 d3 d4 d5 d6 own5 own6
    go_upto_region 6 with (at_builtin; refine wp_appI rfl (.tmp 20) (.tmp 26) rfl L0 _ _ Q P2 rfl rfl o56 i6 hl6 l6 ?_; intro v7 w7 own7 g7)
    have hl7 : (Q ++ P2).length ≤ 40 := by rw [List.length_append]; omega
    rw [HR2.out] at own7 hl7
    have B7 : Below L0 wb w7 := B6.grown g7 (by have := B6.size; omega) o56.lt
    have l7 := HLw.out w7 B7
    obtain ⟨a7, k7, rfl⟩ := AppRes.lenOf own7
    obtain ⟨d0, d1, d2, d3, d4, d5, d6⟩ := HXA.out _ B7
    clear o56 i6 g7 B6 b6 B5
    have C5 := Lib.hid (spec_l2Int off 3 w7 (by omega) (by omega) o0 (by omega))
    have f5 := sfx_len 3 off
    obtain ⟨F, hF⟩ : ∃ F, sfx 3 off = F := ⟨_, rfl⟩
    rw [hF] at C5 HB f5
    have fl : F.length ≤ 3 := by omega
    clear hF f5
    go_wp2_with fail
    refine C5.out.mono ?_
    rintro e w8 ⟨v8, rfl, own8, b8⟩
    have i78 := own7.ints.below b8
    have t7 := own7.lt2
    obtain ⟨a8, k8, rfl⟩ := AppRes.lenOf own8
    clear d0 d1 d2 d3 d4 d5 d6
    go_wp2_with fail
    refine (CM.out w8 _ i78).mono ?_
    rintro e w8' ⟨rfl, rfl⟩
    have C6 := Lib.hid (spec_l2Int S 2 w8 (by omega) (by omega) hs.1 (by omega))
    have f6 := sfx_len 2 S
    obtain ⟨T, hT⟩ : ∃ T, sfx 2 S = T := ⟨_, rfl⟩
    rw [hT] at C6 HB f6
    have tl : T.length ≤ 2 := by omega
    clear hT f6
    go_wp2_with fail
    refine C6.out.mono ?_
    rintro e w9 ⟨v9, rfl, own9, b9'⟩
    have b79 := Bstep b8 b9'
    have hs79 : w7.heap.size ≤ w9.heap.size := b79.size
    have o89 := own8.below b9'
    have i9 := own9.ints
    obtain ⟨a9, k9, rfl⟩ := AppRes.lenOf own9
    have hl9 : F.length + T.length < 10000000000 := by omega
    obtain ⟨G, hG⟩ : ∃ G, F ++ T = G := ⟨_, rfl⟩
    have gl : G.length + R.length < 10000000000 := by rw [← hG, List.length_append]; omega
    rw [hG] at HB
    have HG := Lib.hid hG
    clear hG own9
    go_upto_region 7 with (at_builtin; refine wp_appI rfl (.tmp 30) (.tmp 33) rfl w7.heap.size _ _ F T rfl rfl o89 i9 hl9 hs79 ?_; intro v10 w10 own10 g10)
    rw [HG.out] at own10
    have b710 : Below w7.heap.size w7 w10 := b79.grown g10 hs79 o89.lt
    have hs710 : w7.heap.size ≤ w10.heap.size := b710.size
    have i710 := own7.ints.below b710
    obtain ⟨a10, k10, rfl⟩ := AppRes.lenOf own10
    go_wp2_with (at_builtin; refine wp_appI rfl (.tmp 35) (.tmp 36) rfl w7.heap.size _ _ G R rfl rfl own10 i710 gl hs710 ?_; intro v11 w11 own11 g11)
    go_ret
    rw [← HB.out] at own11
    have hw7 : w.heap.size ≤ w7.heap.size := Nat.le_trans hs0 l7
    exact ⟨_, rfl, own11.base hw7, (HBA.out _ B7).trans ((b710.grown g11 hs710 own10.lt).mono hw7)⟩
end Go.Proofs.Ythlboonobepdaaa
