/- Chapter 21: laws on batches that producers take. -/
import Derived.Test.YtlppnhkgadcgdaaK22b
import Derived.Test.YtlppnhkgadcgdaaW21h
import Derived.Test.YtlppnhkgadcgdaaL12b
namespace Go.Proofs.Ytlppnhkgadcgdaa
open Go.ChangeShapes Go.WideShapes Go.ChangeAt Go.RowKit
set_option linter.unusedVariables false

set_option maxHeartbeats 2000000 in
theorem law_FnPutFine (w : World) (v : Value) (zs : List Int) (h : U8s w v zs) : Calls Try.prog 9 #[v] w (Yes w) := by
  have hU := h
  obtain ⟨a, cap, rfl, hl, hm, hc, hr⟩ := hU
  unfold maxLen at hm
  clear hc hr
  by_cases hlen : 1048576 < zs.length
  · have d0 : decide ((1048576 : Int) < (zs.length : Int)) = true := decide_eq_true (by omega)
    go_enter Try.func9, Try.ntmps9
    go_wp2_with fail
    go_ret
    exact ⟨rfl, Below.refl _ _⟩
  have d0 : decide ((1048576 : Int) < (zs.length : Int)) = false := decide_eq_false (by omega)
  have C0 := Lib.hid (spec_DrawProducersPut _ zs w h (by omega))
  clear h
  go_enter Try.func9, Try.ntmps9
  go_wp2_with fail
  refine C0.out.mono ?_
  rintro e w1 ⟨u, ts, b, vb, rfl, hT, hb, hl9, B1⟩
  obtain ⟨ra, rc, rfl, -, -, hrc⟩ := hb.parts
  have hT0 := hT
  obtain ⟨ua, uc, rfl, -, huc, -⟩ := hT0
  unfold maxLen at huc
  obtain ⟨packed, mark, prod, epoch, seq, recs⟩ := b
  simp only at hb ⊢
  clear C0
  have bX := alloc_below' w1 (.cells #[.bool packed, .bool mark, .int .i64 prod, .int .i64 epoch, .int .i64 seq, .slice ra recs.length rc] 33)
  have xX := Blk.made w1 #[.bool packed, .bool mark, .int .i64 prod, .int .i64 epoch, .int .i64 seq, .slice ra recs.length rc] 33
  go_wp2_with fail
  generalize w1.alloc (.cells #[.bool packed, .bool mark, .int .i64 prod, .int .i64 epoch, .int .i64 seq, .slice ra recs.length rc] 33) = w2 at bX xX ⊢
  obtain ⟨X, hX⟩ : ∃ X, w1.heap.size = X := ⟨_, rfl⟩
  have B2 := Bstep B1 bX
  have hT2 := hT.below bX
  have hb2 := hb.below bX
  have hwX : w.heap.size ≤ X := by rw [← hX]; exact B1.size
  rw [hX] at xX ⊢
  clear hX bX B1 hT hb
  have C1 : Hid (∀ W u v b, Ts W u ts → BatV W v b → Calls Try.prog 27 #[u, v] W (PutRes W (putList ts b) (putCode ts b))) := Lib.hid fun W u v b hu hv => impl_ProducersPut u v ts b W hu hv
  have C2 := Lib.hid (C1.out w2 _ _ _ hT2 hb2)
  have C3 : Hid (∀ W u v, Ts W u ts → BatV W v ⟨packed, mark, prod, epoch, seq, recs⟩ → Calls Try.prog 26 #[u, v] W (PutRes W (putList ts ⟨packed, mark, prod, epoch, seq, recs⟩) (putCode ts ⟨packed, mark, prod, epoch, seq, recs⟩))) := Lib.hid fun W u v hu hv => spec_ProducersPut u v ts _ W hu hv
  have HF : Hid (putCode ts ⟨packed, mark, prod, epoch, seq, recs⟩ = 0 → tsOk (putList ts ⟨packed, mark, prod, epoch, seq, recs⟩) = true ∧ checkP (putList ts ⟨packed, mark, prod, epoch, seq, recs⟩) ⟨packed, mark, prod, epoch, seq, recs⟩ = 1) := Lib.hid fun h0 => ⟨(put_fine h0).1, (put_fine h0).2.1⟩
  obtain ⟨N, hN⟩ : ∃ N, putCode ts ⟨packed, mark, prod, epoch, seq, recs⟩ = N := ⟨_, rfl⟩
  obtain ⟨Ls, hLs⟩ : ∃ Ls, putList ts ⟨packed, mark, prod, epoch, seq, recs⟩ = Ls := ⟨_, rfl⟩
  rw [hN, hLs] at C2 C3 HF
  clear hN hLs C1
  have C6 : Hid (∀ W u v ss, Ts W u ss → Ts W v ss → Calls Try.prog 32 #[u, v] W (Same W true)) := Lib.hid fun W u v ss hu hv => laws_sameProducers u v ss W hu hv
  have hNN : (N != N) = false := by simp
  have hNe : (N == N) = true := by simp
  (with_reducible refine C2.out.mono ?_)
  rintro e w3 ⟨v5, rfl, own5, b3⟩
  have B3 := Bstep B2 b3
  have x3 := xX.belowS b3
  have hT3 := hT2.below b3
  have hb3 := hb2.below b3
  clear xX B2 hT2 hb2 b3 C2
  obtain ⟨c0, c1, c2, c3, c4, c5⟩ := x3.sixC
  go_wp2_with fail
  (with_reducible refine (C3.out w3 _ _ hT3 hb3).mono ?_)
  rintro e w4 ⟨v7, rfl, own7, b4⟩
  have B4 := Bstep B3 b4
  have x4 := x3.belowS b4
  have hT4 := hT3.below b4
  have hb4 := hb3.below b4
  have o54 := own5.ts.below b4
  have o74 := own7.ts
  clear c0 c1 c2 c3 c4 c5 x3 B3 hT3 hb3 b4 C3 own5 own7
  go_wp2_with fail
  (with_reducible refine (C6.out w4 _ _ _ o54 o74).mono ?_)
  rintro e w5 ⟨rfl, b5⟩
  have B5 := Bstep B4 b5
  have x5 := x4.belowS b5
  have hT5 := hT4.below b5
  have hb5 := hb4.below b5
  have o55 := o54.below b5
  have o75 := o74.below b5
  clear x4 B4 hT4 hb4 b5 o54 o74
  by_cases h5 : N = 0
  rotate_left
  · have d5 : (N != 0) = true := by simp [h5]
    clear HF h5
    go_wp2_with fail
    (with_reducible refine (C6.out w5 _ _ _ o55 o75).mono ?_)
    rintro e w6 ⟨rfl, b6⟩
    go_wp2_with fail
    go_ret
    exact ⟨rfl, Bstep B5 b6⟩
  have d5 : (N != 0) = false := by simp [h5]
  obtain ⟨p, q⟩ := HF.out h5
  have D1 : Hid (∀ W u, Ts W u Ls → Calls Try.prog 24 #[u] W (Same W true)) := Lib.hid fun W u hu => by rw [← p]; exact impl_ProducersValid u Ls W hu
  have D2 : Hid (∀ W u v, Ts W u Ls → BatV W v ⟨packed, mark, prod, epoch, seq, recs⟩ → Calls Try.prog 20 #[u, v] W (SaysN 1 W)) := Lib.hid fun W u v hu hv => by rw [← q]; exact impl_ProducersCheck u v Ls _ W hu hv
  clear HF h5 p q
  go_wp2_with fail
  (with_reducible refine (D1.out w5 _ o55).mono ?_)
  rintro e w6 ⟨rfl, b6⟩
  have B6 := Bstep B5 b6
  have x6 := x5.belowS b6
  have hb6 := hb5.below b6
  have o56 := o55.below b6
  obtain ⟨y0, y1, y2, y3, y4, y5⟩ := x6.sixC
  go_wp2_with fail
  (with_reducible refine (D2.out w6 _ _ o56 hb6).mono ?_)
  rintro e w7 ⟨rfl, b7⟩
  go_wp2_with fail
  go_ret
  exact ⟨rfl, Bstep B6 b7⟩
set_option maxHeartbeats 2000000 in
theorem law_FnPutKeep (w : World) (v : Value) (zs : List Int) (h : U8s w v zs) : Calls Try.prog 11 #[v] w (Yes w) := by
  have hU := h
  obtain ⟨a, cap, rfl, hl, hm, hc, hr⟩ := hU
  unfold maxLen at hm
  clear hc hr
  by_cases hlen : 1048576 < zs.length
  · have d0 : decide ((1048576 : Int) < (zs.length : Int)) = true := decide_eq_true (by omega)
    go_enter Try.func11, Try.ntmps11
    go_wp2_with fail
    go_ret
    exact ⟨rfl, Below.refl _ _⟩
  have d0 : decide ((1048576 : Int) < (zs.length : Int)) = false := decide_eq_false (by omega)
  have C0 := Lib.hid (spec_DrawProducersPut _ zs w h (by omega))
  clear h
  go_enter Try.func11, Try.ntmps11
  go_wp2_with fail
  refine C0.out.mono ?_
  rintro e w1 ⟨u, ts, b, vb, rfl, hT, hb, hl9, B1⟩
  obtain ⟨ra, rc, rfl, -, -, hrc⟩ := hb.parts
  have hT0 := hT
  obtain ⟨ua, uc, rfl, -, huc, -⟩ := hT0
  unfold maxLen at huc
  obtain ⟨packed, mark, prod, epoch, seq, recs⟩ := b
  simp only at hb ⊢
  clear C0
  have bX := alloc_below' w1 (.cells #[.bool packed, .bool mark, .int .i64 prod, .int .i64 epoch, .int .i64 seq, .slice ra recs.length rc] 33)
  have xX := Blk.made w1 #[.bool packed, .bool mark, .int .i64 prod, .int .i64 epoch, .int .i64 seq, .slice ra recs.length rc] 33
  go_wp2_with fail
  generalize w1.alloc (.cells #[.bool packed, .bool mark, .int .i64 prod, .int .i64 epoch, .int .i64 seq, .slice ra recs.length rc] 33) = w2 at bX xX ⊢
  obtain ⟨X, hX⟩ : ∃ X, w1.heap.size = X := ⟨_, rfl⟩
  have B2 := Bstep B1 bX
  have hT2 := hT.below bX
  have hb2 := hb.below bX
  have hwX : w.heap.size ≤ X := by rw [← hX]; exact B1.size
  rw [hX] at xX ⊢
  clear hX bX B1 hT hb
  have C1 : Hid (∀ W u v b, Ts W u ts → BatV W v b → Calls Try.prog 27 #[u, v] W (PutRes W (putList ts b) (putCode ts b))) := Lib.hid fun W u v b hu hv => impl_ProducersPut u v ts b W hu hv
  have C2 := Lib.hid (C1.out w2 _ _ _ hT2 hb2)
  have C3 : Hid (∀ W u v, Ts W u ts → BatV W v ⟨packed, mark, prod, epoch, seq, recs⟩ → Calls Try.prog 26 #[u, v] W (PutRes W (putList ts ⟨packed, mark, prod, epoch, seq, recs⟩) (putCode ts ⟨packed, mark, prod, epoch, seq, recs⟩))) := Lib.hid fun W u v hu hv => spec_ProducersPut u v ts _ W hu hv
  have HF : Hid (putCode ts ⟨packed, mark, prod, epoch, seq, recs⟩ ≠ 0 → putCode ts ⟨packed, mark, prod, epoch, seq, recs⟩ ≠ 5 → putList ts ⟨packed, mark, prod, epoch, seq, recs⟩ = ts) := Lib.hid put_keep
  obtain ⟨N, hN⟩ : ∃ N, putCode ts ⟨packed, mark, prod, epoch, seq, recs⟩ = N := ⟨_, rfl⟩
  obtain ⟨Ls, hLs⟩ : ∃ Ls, putList ts ⟨packed, mark, prod, epoch, seq, recs⟩ = Ls := ⟨_, rfl⟩
  rw [hN, hLs] at C2 C3 HF
  clear hN hLs C1
  have C6 : Hid (∀ W u v ss, Ts W u ss → Ts W v ss → Calls Try.prog 32 #[u, v] W (Same W true)) := Lib.hid fun W u v ss hu hv => laws_sameProducers u v ss W hu hv
  have hNN : (N != N) = false := by simp
  have hNe : (N == N) = true := by simp
  (with_reducible refine C2.out.mono ?_)
  rintro e w3 ⟨v5, rfl, own5, b3⟩
  have B3 := Bstep B2 b3
  have x3 := xX.belowS b3
  have hT3 := hT2.below b3
  have hb3 := hb2.below b3
  clear xX B2 hT2 hb2 b3 C2
  obtain ⟨c0, c1, c2, c3, c4, c5⟩ := x3.sixC
  go_wp2_with fail
  (with_reducible refine (C3.out w3 _ _ hT3 hb3).mono ?_)
  rintro e w4 ⟨v7, rfl, own7, b4⟩
  have B4 := Bstep B3 b4
  have x4 := x3.belowS b4
  have hT4 := hT3.below b4
  have hb4 := hb3.below b4
  have o54 := own5.ts.below b4
  have o74 := own7.ts
  clear c0 c1 c2 c3 c4 c5 x3 B3 hT3 hb3 b4 C3 own5 own7
  go_wp2_with fail
  (with_reducible refine (C6.out w4 _ _ _ o54 o74).mono ?_)
  rintro e w5 ⟨rfl, b5⟩
  have B5 := Bstep B4 b5
  have x5 := x4.belowS b5
  have hT5 := hT4.below b5
  have hb5 := hb4.below b5
  have o55 := o54.below b5
  have o75 := o74.below b5
  clear x4 B4 hT4 hb4 b5 o54 o74
  by_cases h0 : N = 0
  · have e0 : (N == 0) = true := by rw [beq_iff_eq]; exact h0
    clear HF h0
    go_wp2_with fail
    (with_reducible refine (C6.out w5 _ _ _ o55 o75).mono ?_)
    rintro e w6 ⟨rfl, b6⟩
    go_wp2_with fail
    go_ret
    exact ⟨rfl, Bstep B5 b6⟩
  have e0 : (N == 0) = false := by rw [beq_eq_false_iff_ne]; exact h0
  by_cases h5 : N = 5
  · have e5 : (N == 5) = true := by rw [beq_iff_eq]; exact h5
    clear HF h0 h5
    go_wp2_with fail
    (with_reducible refine (C6.out w5 _ _ _ o55 o75).mono ?_)
    rintro e w6 ⟨rfl, b6⟩
    go_wp2_with fail
    go_ret
    exact ⟨rfl, Bstep B5 b6⟩
  have e5 : (N == 5) = false := by rw [beq_eq_false_iff_ne]; exact h5
  have el := HF.out h0 h5
  subst el
  clear HF h0 h5
  go_wp2_with fail
  (with_reducible refine (C6.out w5 _ _ _ o55 hT5).mono ?_)
  rintro e w6 ⟨rfl, b6⟩
  go_wp2_with fail
  go_ret
  exact ⟨rfl, Bstep B5 b6⟩
set_option maxHeartbeats 2000000 in
theorem law_FnPutNext (w : World) (v : Value) (zs : List Int) (h : U8s w v zs) : Calls Try.prog 10 #[v] w (Yes w) := by
  have hU := h
  obtain ⟨a, cap, rfl, hl, hm, hc, hr⟩ := hU
  unfold maxLen at hm
  clear hc hr
  by_cases hlen : 1048576 < zs.length
  · have d0 : decide ((1048576 : Int) < (zs.length : Int)) = true := decide_eq_true (by omega)
    go_enter Try.func10, Try.ntmps10
    go_wp2_with fail
    go_ret
    exact ⟨rfl, Below.refl _ _⟩
  have d0 : decide ((1048576 : Int) < (zs.length : Int)) = false := decide_eq_false (by omega)
  have C0 := Lib.hid (spec_DrawProducersPut _ zs w h (by omega))
  clear h
  go_enter Try.func10, Try.ntmps10
  go_wp2_with fail
  refine C0.out.mono ?_
  rintro e w1 ⟨u, ts, b, vb, rfl, hT, hb, hl9, B1⟩
  obtain ⟨ra, rc, rfl, -, -, hrc⟩ := hb.parts
  have hT0 := hT
  obtain ⟨ua, uc, rfl, -, huc, -⟩ := hT0
  unfold maxLen at huc
  obtain ⟨packed, mark, prod, epoch, seq, recs⟩ := b
  simp only at hb ⊢
  clear C0
  have bX := alloc_below' w1 (.cells #[.bool packed, .bool mark, .int .i64 prod, .int .i64 epoch, .int .i64 seq, .slice ra recs.length rc] 33)
  have xX := Blk.made w1 #[.bool packed, .bool mark, .int .i64 prod, .int .i64 epoch, .int .i64 seq, .slice ra recs.length rc] 33
  go_wp2_with fail
  generalize w1.alloc (.cells #[.bool packed, .bool mark, .int .i64 prod, .int .i64 epoch, .int .i64 seq, .slice ra recs.length rc] 33) = w2 at bX xX ⊢
  obtain ⟨X, hX⟩ : ∃ X, w1.heap.size = X := ⟨_, rfl⟩
  have B2 := Bstep B1 bX
  have hT2 := hT.below bX
  have hb2 := hb.below bX
  have hwX : w.heap.size ≤ X := by rw [← hX]; exact B1.size
  rw [hX] at xX ⊢
  clear hX bX B1 hT hb
  have C1 : Hid (∀ W u v b, Ts W u ts → BatV W v b → Calls Try.prog 27 #[u, v] W (PutRes W (putList ts b) (putCode ts b))) := Lib.hid fun W u v b hu hv => impl_ProducersPut u v ts b W hu hv
  have C2 := Lib.hid (C1.out w2 _ _ _ hT2 hb2)
  have C3 : Hid (∀ W u v, Ts W u ts → BatV W v ⟨packed, mark, prod, epoch, seq, recs⟩ → Calls Try.prog 26 #[u, v] W (PutRes W (putList ts ⟨packed, mark, prod, epoch, seq, recs⟩) (putCode ts ⟨packed, mark, prod, epoch, seq, recs⟩))) := Lib.hid fun W u v hu hv => spec_ProducersPut u v ts _ W hu hv
  have HF : Hid (putCode ts ⟨packed, mark, prod, epoch, seq, recs⟩ = 0 → (0 ≤ seq ∧ seq ≤ 9999 ∧ recs.length ≤ 6) ∧ (batOk ⟨packed, mark, prod, epoch, seq + (recs.length : Int), recs⟩ = true → checkP (putList ts ⟨packed, mark, prod, epoch, seq, recs⟩) ⟨packed, mark, prod, epoch, seq + (recs.length : Int), recs⟩ = 0)) := Lib.hid fun h0 => by
    have hq := (checkP_ok (ts := ts) (b := ⟨packed, mark, prod, epoch, seq, recs⟩) (by have := (put_zero h0).1; omega)).2
    exact ⟨⟨(batOk_prod hq).2.2.2.2.1, (batOk_prod hq).2.2.2.2.2, (batOk_iff.1 hq).1.2⟩, (put_fine h0).2.2⟩
  obtain ⟨N, hN⟩ : ∃ N, putCode ts ⟨packed, mark, prod, epoch, seq, recs⟩ = N := ⟨_, rfl⟩
  obtain ⟨Ls, hLs⟩ : ∃ Ls, putList ts ⟨packed, mark, prod, epoch, seq, recs⟩ = Ls := ⟨_, rfl⟩
  rw [hN, hLs] at C2 C3 HF
  clear hN hLs C1
  have C6 : Hid (∀ W u v ss, Ts W u ss → Ts W v ss → Calls Try.prog 32 #[u, v] W (Same W true)) := Lib.hid fun W u v ss hu hv => laws_sameProducers u v ss W hu hv
  have hNN : (N != N) = false := by simp
  have hNe : (N == N) = true := by simp
  (with_reducible refine C2.out.mono ?_)
  rintro e w3 ⟨v5, rfl, own5, b3⟩
  have B3 := Bstep B2 b3
  have x3 := xX.belowS b3
  have hT3 := hT2.below b3
  have hb3 := hb2.below b3
  clear xX B2 hT2 hb2 b3 C2
  obtain ⟨c0, c1, c2, c3, c4, c5⟩ := x3.sixC
  go_wp2_with fail
  (with_reducible refine (C3.out w3 _ _ hT3 hb3).mono ?_)
  rintro e w4 ⟨v7, rfl, own7, b4⟩
  have B4 := Bstep B3 b4
  have x4 := x3.belowS b4
  have hT4 := hT3.below b4
  have hb4 := hb3.below b4
  have o54 := own5.ts.below b4
  have o74 := own7.ts
  clear c0 c1 c2 c3 c4 c5 x3 B3 hT3 hb3 b4 C3 own5 own7
  go_wp2_with fail
  (with_reducible refine (C6.out w4 _ _ _ o54 o74).mono ?_)
  rintro e w5 ⟨rfl, b5⟩
  have B5 := Bstep B4 b5
  have x5 := x4.belowS b5
  have hT5 := hT4.below b5
  have hb5 := hb4.below b5
  have o55 := o54.below b5
  have o75 := o74.below b5
  clear x4 B4 hT4 hb4 b5 o54 o74
  by_cases h5 : N = 0
  rotate_left
  · have d5 : (N != 0) = true := by simp [h5]
    clear HF h5
    go_wp2_with fail
    (with_reducible refine (C6.out w5 _ _ _ o55 o75).mono ?_)
    rintro e w6 ⟨rfl, b6⟩
    go_wp2_with fail
    go_ret
    exact ⟨rfl, Bstep B5 b6⟩
  have d5 : (N != 0) = false := by simp [h5]
  obtain ⟨⟨s0, s1, n6⟩, q⟩ := HF.out h5
  obtain ⟨sq, hsq⟩ : ∃ sq, seq + (recs.length : Int) = sq := ⟨_, rfl⟩
  rw [hsq] at q
  have D1 : Hid (∀ W v, BatV W v ⟨packed, mark, prod, epoch, sq, recs⟩ → Calls Try.prog 25 #[v] W (SaysB (batOk ⟨packed, mark, prod, epoch, sq, recs⟩) W)) := Lib.hid fun W v hv => impl_BatchValid v _ W hv
  have D2 : Hid (batOk ⟨packed, mark, prod, epoch, sq, recs⟩ = true → ∀ W u v, Ts W u Ls → BatV W v ⟨packed, mark, prod, epoch, sq, recs⟩ → Calls Try.prog 20 #[u, v] W (SaysN 0 W)) := Lib.hid fun hx W u v hu hv => by rw [← q hx]; exact impl_ProducersCheck u v Ls _ W hu hv
  have hrec := Lib.hid (recs_lt hb5.recsOf)
  have hTT : Hid (∀ W : World, (∀ k, k < w5.heap.size → W.heap[k]? = w5.heap[k]?) → Ts W v5 Ls) := Lib.hid fun W hk => o55.keep fun _ b _ hb => hk b hb
  have bY := alloc_below' w5 (.cells #[.bool packed, .bool mark, .int .i64 prod, .int .i64 epoch, .int .i64 seq, .slice ra recs.length rc] 33)
  have xY := Blk.made w5 #[.bool packed, .bool mark, .int .i64 prod, .int .i64 epoch, .int .i64 seq, .slice ra recs.length rc] 33
  have x6 := x5.belowS bY
  have B6 := Bstep B5 bY
  clear HF h5 q hT5 o75
  obtain ⟨c0, c1, c2, c3, c4, c5⟩ := x5.sixC
  go_upto_region 9 with (fail)
  clear c0 c1 c2 c3 c4 c5
  generalize w5.alloc (.cells #[.bool packed, .bool mark, .int .i64 prod, .int .i64 epoch, .int .i64 seq, .slice ra recs.length rc] 33) = w6 at xY x6 bY B6 ⊢
  obtain ⟨Y, hY⟩ : ∃ Y, w5.heap.size = Y := ⟨_, rfl⟩
  have K6 : Hid (∀ k, k < Y → w6.heap[k]? = w5.heap[k]?) := Lib.hid fun k hk => bY.block k (by omega)
  have hwY : w.heap.size ≤ Y := by have := B5.size; omega
  rw [hY] at xY hTT hrec ⊢
  clear hY bY x5 hb5 o55 B5
  obtain ⟨y0, y1, y2, y3, y4, y5⟩ := x6.sixC
  have q4 := xY.cell 4
  have f4 := xY.free 4
  have xZ : Blk (w6.setCell ⟨Y, 4, none⟩ (.int .i64 sq)) Y #[.bool packed, .bool mark, .int .i64 prod, .int .i64 epoch, .int .i64 sq, .slice ra recs.length rc] := xY.set 4 (.int .i64 sq)
  have K7 : Hid (∀ k, k < Y → (w6.setCell ⟨Y, 4, none⟩ (.int .i64 sq)).heap[k]? = w5.heap[k]?) := Lib.hid fun k hk => (Below.heap_setCell w6 _ _ k (Nat.ne_of_lt hk)).trans (K6.out k hk)
  have B7 : Below w.heap.size w (w6.setCell ⟨Y, 4, none⟩ (.int .i64 sq)) := B6.setCell (p := ⟨Y, 4, none⟩) hwY _
  have HSQ := Lib.hid hsq
  clear hsq
  go_upto_region 10 with (fail)
  rw [HSQ.out]
  generalize w6.setCell ⟨Y, 4, none⟩ (.int .i64 sq) = w7 at xZ K7 B7 ⊢
  clear y0 y1 y2 y3 y4 y5 q4 f4 xY x6 K6 B6
  have hr7 := hrec.out w7 K7.out
  have hT7 := hTT.out w7 K7.out
  have hb7 : BatV w7 (.agg #[.bool packed, .bool mark, .int .i64 prod, .int .i64 epoch, .int .i64 sq, .slice ra recs.length rc]) ⟨packed, mark, prod, epoch, sq, recs⟩ := ⟨_, rfl, hr7⟩
  obtain ⟨y0, y1, y2, y3, y4, y5⟩ := xZ.sixC
  go_wp2_with fail
  (with_reducible refine (D1.out w7 _ hb7).mono ?_)
  rintro e w8 ⟨rfl, b8⟩
  have B8 := Bstep B7 b8
  have x8 := xZ.belowS b8
  have hb8 := hb7.below b8
  have hT8 := hT7.below b8
  clear y0 y1 y2 y3 y4 y5 xZ K7 hr7 hT7 hb7 b8 B7
  obtain ⟨y0, y1, y2, y3, y4, y5⟩ := x8.sixC
  obtain ⟨ok, hok⟩ : ∃ ok, batOk ⟨packed, mark, prod, epoch, sq, recs⟩ = ok := ⟨_, rfl⟩
  rw [hok] at D2 ⊢
  clear hok
  cases ok with
  | false =>
    go_wp2_with fail
    go_ret
    exact ⟨rfl, B8⟩
  | true =>
    have D3 : Hid (∀ W u v, Ts W u Ls → BatV W v ⟨packed, mark, prod, epoch, sq, recs⟩ → Calls Try.prog 20 #[u, v] W (SaysN 0 W)) := Lib.hid (D2.out rfl)
    clear D2
    go_wp2_with fail
    (with_reducible refine (D3.out w8 _ _ hT8 hb8).mono ?_)
    rintro e w9 ⟨rfl, b9⟩
    go_wp2_with fail
    go_ret
    exact ⟨rfl, Bstep B8 b9⟩
end Go.Proofs.Ytlppnhkgadcgdaa
