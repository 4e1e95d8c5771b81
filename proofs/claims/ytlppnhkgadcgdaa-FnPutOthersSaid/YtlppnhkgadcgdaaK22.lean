/- Chapter 21: laws on whether a batch follows. -/
import Derived.Test.YtlppnhkgadcgdaaW21c
import Derived.Test.YtlppnhkgadcgdaaP22
import Derived.Test.YtlppnhkgadcgdaaD21b
namespace Go.Proofs.Ytlppnhkgadcgdaa
open Go.ChangeShapes Go.WideShapes Go.ChangeAt Go.RowKit
set_option linter.unusedVariables false

set_option maxHeartbeats 2000000 in
theorem law_FnCheckFree (w : World) (v : Value) (zs : List Int) (h : U8s w v zs) : Calls Try.prog 5 #[v] w (Yes w) := by
  have hU := h
  obtain ⟨a, cap, rfl, hl, hm, hc, hr⟩ := hU
  unfold maxLen at hm
  clear hc hr
  by_cases hlen : 1048576 < zs.length
  · have d0 : decide ((1048576 : Int) < (zs.length : Int)) = true := decide_eq_true (by omega)
    go_enter Try.func5, Try.ntmps5
    go_wp2_with fail
    go_ret
    exact ⟨rfl, Below.refl _ _⟩
  have d0 : decide ((1048576 : Int) < (zs.length : Int)) = false := decide_eq_false (by omega)
  have C0 := Lib.hid (spec_DrawProducersCheck _ zs w h (by omega))
  clear h
  go_enter Try.func5, Try.ntmps5
  go_wp2_with fail
  refine C0.out.mono ?_
  rintro e w1 ⟨u, ts, b, vb, rfl, hT, hb, hl9, B1⟩
  obtain ⟨ra, rc, rfl, -, -, hrc⟩ := hb.parts
  have hT0 := hT
  obtain ⟨ua, uc, rfl, -, huc, -⟩ := hT0
  unfold maxLen at huc
  obtain ⟨packed, mark, prod, epoch, seq, recs⟩ := b
  simp only at hb ⊢
  clear C0
  have bX := alloc_below' w1 (.cells #[.bool packed, .bool mark, .int .i64 prod, .int .i64 epoch, .int .i64 seq, .slice ra recs.length rc] 33)
  have xX := Blk.made w1 #[.bool packed, .bool mark, .int .i64 prod, .int .i64 epoch, .int .i64 seq, .slice ra recs.length rc] 33
  go_wp2_with fail
  generalize w1.alloc (.cells #[.bool packed, .bool mark, .int .i64 prod, .int .i64 epoch, .int .i64 seq, .slice ra recs.length rc] 33) = w2 at bX xX ⊢
  obtain ⟨X, hX⟩ : ∃ X, w1.heap.size = X := ⟨_, rfl⟩
  have B2 := Bstep B1 bX
  have hT2 := hT.below bX
  have hb2 := hb.below bX
  have hwX : w.heap.size ≤ X := by rw [← hX]; exact B1.size
  rw [hX] at xX ⊢
  clear hX bX B1 hT hb
  have C1 : Hid (∀ W u v b, Ts W u ts → BatV W v b → Calls Try.prog 20 #[u, v] W (SaysN (checkP ts b) W)) := Lib.hid fun W u v b hu hv => impl_ProducersCheck u v ts b W hu hv
  have C2 := Lib.hid (C1.out w2 _ _ _ hT2 hb2)
  have C3 : Hid (∀ W u v, Ts W u ts → BatV W v ⟨packed, mark, prod, epoch, seq, recs⟩ → Calls Try.prog 17 #[u, v] W (SaysN (checkP ts ⟨packed, mark, prod, epoch, seq, recs⟩) W)) := Lib.hid fun W u v hu hv => spec_ProducersCheck u v ts _ W hu hv
  have HF : Hid (checkP ts ⟨packed, mark, prod, epoch, seq, recs⟩ ≠ 5 → (tsOk ts = true ∧ batOk ⟨packed, mark, prod, epoch, seq, recs⟩ = true) ∧ (checkP ts ⟨packed, mark, prod, epoch, seq, recs⟩ = 4 ↔ prod = 255)) := Lib.hid fun h5 => ⟨checkP_ok h5, checkP_free h5⟩
  obtain ⟨N, hN⟩ : ∃ N, checkP ts ⟨packed, mark, prod, epoch, seq, recs⟩ = N := ⟨_, rfl⟩
  rw [hN] at C2 C3 HF
  clear hN
  have hNN : (N != N) = false := by simp
  have hNe : (N == N) = true := by simp
  (with_reducible refine C2.out.mono ?_)
  rintro e w3 ⟨rfl, b3⟩
  have B3 := Bstep B2 b3
  have x3 := xX.belowS b3
  have hT3 := hT2.below b3
  have hb3 := hb2.below b3
  clear xX B2 hT2 hb2 b3 C2
  obtain ⟨c0, c1, c2, c3, c4, c5⟩ := x3.sixC
  go_wp2_with fail
  (with_reducible refine (C3.out w3 _ _ hT3 hb3).mono ?_)
  rintro e w4 ⟨rfl, b4⟩
  have B4 := Bstep B3 b4
  have x4 := x3.belowS b4
  have hT4 := hT3.below b4
  have hb4 := hb3.below b4
  clear c0 c1 c2 c3 c4 c5 x3 B3 hT3 hb3 b4 C3
  obtain ⟨c0, c1, c2, c3, c4, c5⟩ := x4.sixC
  by_cases h5 : N = 5
  · have d5 : (N == 5) = true := by rw [beq_iff_eq]; exact h5
    clear HF h5
    go_wp2_with fail
    go_ret
    exact ⟨rfl, B4⟩
  have d5 : (N == 5) = false := by rw [beq_eq_false_iff_ne]; exact h5
  obtain ⟨⟨p, q⟩, hiff⟩ := HF.out h5
  have D1 : Hid (∀ W u, Ts W u ts → Calls Try.prog 24 #[u] W (Same W true)) := Lib.hid fun W u hu => by rw [← p]; exact impl_ProducersValid u ts W hu
  have D2 : Hid (∀ W v, BatV W v ⟨packed, mark, prod, epoch, seq, recs⟩ → Calls Try.prog 25 #[v] W (SaysB true W)) := Lib.hid fun W v hv => by rw [← q]; exact impl_BatchValid v _ W hv
  obtain ⟨pb, hpb⟩ : ∃ pb, (prod == 255) = pb := ⟨_, rfl⟩
  have d4 : (N == 4) = pb := by
    rw [← hpb]
    rcases Decidable.em (prod = 255) with e | e
    · rw [beq_iff_eq.2 e, beq_iff_eq.2 (hiff.2 e)]
    · rw [beq_eq_false_iff_ne.2 e, beq_eq_false_iff_ne.2 (fun e2 => e (hiff.1 e2))]
  clear HF h5 p q hiff
  cases pb
  all_goals
    go_wp2_with fail
    (with_reducible refine (D1.out w4 _ hT4).mono ?_)
    rintro e w5 ⟨rfl, b5⟩
    have B5 := Bstep B4 b5
    have x5 := x4.belowS b5
    have hb5 := hb4.below b5
    obtain ⟨y0, y1, y2, y3, y4, y5⟩ := x5.sixC
    go_wp2_with fail
    (with_reducible refine (D2.out w5 _ hb5).mono ?_)
    rintro e w6 ⟨rfl, b6⟩
    have B6 := Bstep B5 b6
    go_wp2_with fail
    go_ret
    exact ⟨rfl, B6⟩
set_option maxHeartbeats 2000000 in
theorem law_FnCheck (w : World) (v : Value) (zs : List Int) (h : U8s w v zs) : Calls Try.prog 4 #[v] w (Yes w) := by
  have hU := h
  obtain ⟨a, cap, rfl, hl, hm, hc, hr⟩ := hU
  unfold maxLen at hm
  clear hc hr
  by_cases hlen : 1048576 < zs.length
  · have d0 : decide ((1048576 : Int) < (zs.length : Int)) = true := decide_eq_true (by omega)
    go_enter Try.func4, Try.ntmps4
    go_wp2_with fail
    go_ret
    exact ⟨rfl, Below.refl _ _⟩
  have d0 : decide ((1048576 : Int) < (zs.length : Int)) = false := decide_eq_false (by omega)
  have C0 := Lib.hid (spec_DrawProducersCheck _ zs w h (by omega))
  clear h
  go_enter Try.func4, Try.ntmps4
  go_wp2_with fail
  refine C0.out.mono ?_
  rintro e w1 ⟨u, ts, b, vb, rfl, hT, hb, hl9, B1⟩
  obtain ⟨ra, rc, rfl, -, -, hrc⟩ := hb.parts
  have hT0 := hT
  obtain ⟨ua, uc, rfl, -, huc, -⟩ := hT0
  unfold maxLen at huc
  obtain ⟨packed, mark, prod, epoch, seq, recs⟩ := b
  simp only at hb ⊢
  clear C0
  have bX := alloc_below' w1 (.cells #[.bool packed, .bool mark, .int .i64 prod, .int .i64 epoch, .int .i64 seq, .slice ra recs.length rc] 33)
  have xX := Blk.made w1 #[.bool packed, .bool mark, .int .i64 prod, .int .i64 epoch, .int .i64 seq, .slice ra recs.length rc] 33
  go_wp2_with fail
  generalize w1.alloc (.cells #[.bool packed, .bool mark, .int .i64 prod, .int .i64 epoch, .int .i64 seq, .slice ra recs.length rc] 33) = w2 at bX xX ⊢
  obtain ⟨X, hX⟩ : ∃ X, w1.heap.size = X := ⟨_, rfl⟩
  have B2 := Bstep B1 bX
  have hT2 := hT.below bX
  have hb2 := hb.below bX
  have hwX : w.heap.size ≤ X := by rw [← hX]; exact B1.size
  rw [hX] at xX ⊢
  clear hX bX B1 hT hb
  have C1 : Hid (∀ W u v b, Ts W u ts → BatV W v b → Calls Try.prog 20 #[u, v] W (SaysN (checkP ts b) W)) := Lib.hid fun W u v b hu hv => impl_ProducersCheck u v ts b W hu hv
  have C2 := Lib.hid (C1.out w2 _ _ _ hT2 hb2)
  have C3 : Hid (∀ W u v, Ts W u ts → BatV W v ⟨packed, mark, prod, epoch, seq, recs⟩ → Calls Try.prog 17 #[u, v] W (SaysN (checkP ts ⟨packed, mark, prod, epoch, seq, recs⟩) W)) := Lib.hid fun W u v hu hv => spec_ProducersCheck u v ts _ W hu hv
  have HF : Hid (checkP ts ⟨packed, mark, prod, epoch, seq, recs⟩ = 0 → prod ≠ 255 ∧ (∀ i, i < ts.length → (tAt ts i).num = prod → ¬ epoch < (tAt ts i).first ∧ (epoch = (tAt ts i).first → seq = (tAt ts i).third)) ∧ ((∀ i, i < ts.length → (tAt ts i).num = prod → epoch ≠ (tAt ts i).first) → seq = 0)) := Lib.hid fun h0 => fine_at h0
  obtain ⟨N, hN⟩ : ∃ N, checkP ts ⟨packed, mark, prod, epoch, seq, recs⟩ = N := ⟨_, rfl⟩
  rw [hN] at C2 C3 HF
  clear hN
  have hNN : (N != N) = false := by simp
  have hNe : (N == N) = true := by simp
  (with_reducible refine C2.out.mono ?_)
  rintro e w3 ⟨rfl, b3⟩
  have B3 := Bstep B2 b3
  have x3 := xX.belowS b3
  have hT3 := hT2.below b3
  have hb3 := hb2.below b3
  clear xX B2 hT2 hb2 b3 C2
  obtain ⟨c0, c1, c2, c3, c4, c5⟩ := x3.sixC
  go_wp2_with fail
  (with_reducible refine (C3.out w3 _ _ hT3 hb3).mono ?_)
  rintro e w4 ⟨rfl, b4⟩
  have B4 := Bstep B3 b4
  have x4 := x3.belowS b4
  have hT4 := hT3.below b4
  have hb4 := hb3.below b4
  clear c0 c1 c2 c3 c4 c5 x3 B3 hT3 hb3 b4 C3
  obtain ⟨c0, c1, c2, c3, c4, c5⟩ := x4.sixC
  by_cases h5 : N = 0
  rotate_left
  · have d5 : (N != 0) = true := by simp [h5]
    clear HF h5
    go_wp2_with fail
    go_ret
    exact ⟨rfl, B4⟩
  have d5 : (N != 0) = false := by simp [h5]
  obtain ⟨hp, hAt, hEnd⟩ := HF.out h5
  have HP := Lib.hid hp
  have HA := Lib.hid hAt
  have HE := Lib.hid hEnd
  clear HF h5 hp hAt hEnd c0 c1 c2 c3 c4 c5
  go_wp2_with fail
  go_loopw [7] (fun i wr => ∃ k : Nat, k ≤ ts.length ∧ i = .int .i64 k ∧ Hid (∀ j, j < k → (tAt ts j).num = prod → epoch ≠ (tAt ts j).first) ∧ Ts wr (.slice ua ts.length uc) ts ∧ Blk wr X #[.bool packed, .bool mark, .int .i64 prod, .int .i64 epoch, .int .i64 seq, .slice ra recs.length rc] ∧ Below w.heap.size w wr) (fun i _ => ts.length - (intOf i).toNat)
  case atStart => exact ⟨0, Nat.zero_le _, rfl, Lib.hid fun j hj => by omega, hT4, x4, B4⟩
  case round =>
    clear hT4 x4 B4
    obtain ⟨k, hk, rfl, hrel, hT, xW, bel⟩ := hrel
    obtain ⟨y0, y1, y2, y3, y4, y5⟩ := xW.sixC
    by_cases hlt : k < ts.length
    · obtain ⟨b1, off, cp, e, -, -, -⟩ := hT.form (by omega)
      simp only [Value.slice.injEq, true_and] at e
      obtain ⟨rfl, rfl⟩ := e
      obtain ⟨q0, q1, q2⟩ := hT.cells k hlt
      have hA := HA.out k hlt
      obtain ⟨t, ht⟩ : ∃ t, tAt ts k = t := ⟨_, rfl⟩
      rw [ht] at q0 q1 q2 hA
      have HT := Lib.hid ht
      obtain ⟨x, y, z⟩ := t
      simp only at q0 q1 q2 hA
      have HA2 := Lib.hid hA
      clear ht hA
      have i0 : (0 : Int) ≤ (k : Int) := by omega
      have i1 : (k : Int) < (ts.length : Int) := by omega
      by_cases e0 : x = prod
      · have dx : (x == prod) = true := by rw [beq_iff_eq]; exact e0
        obtain ⟨hn, hs⟩ := HA2.out e0
        have de : decide (epoch < y) = false := decide_eq_false (by omega)
        by_cases e1 : y = epoch
        · have dy : (y == epoch) = true := by rw [beq_iff_eq]; exact e1
          have dz : (seq == z) = true := by rw [beq_iff_eq]; exact hs e1.symm
          clear e0 e1 hn hs HA2
          go_wp2_with fail
          go_quiet (fail)
          go_wp2_with fail
          go_quiet (fail)
          go_wp2_with fail
          go_ret
          exact ⟨rfl, below_drewN (below_drewN bel _) _⟩
        · have dy : (y == epoch) = false := by rw [beq_eq_false_iff_ne]; exact e1
          have E1 := Lib.hid e1
          clear e0 e1 hn hs HA2
          go_wp2_with fail
          go_quiet (fail)
          go_wp2_with fail
          go_quiet (fail)
          go_wp2_with fail
          go_roundw
          case rel => exact ⟨k + 1, by omega, by go_num, Lib.hid (fun j hj => if q : j < k then hrel.out j q else by rw [show j = k by omega, HT.out]; exact fun _ e2 => E1.out e2.symm), hT.below (below_drewN (Below.refl _ _) _), xW.drew _, below_drewN bel _⟩
          case measure => simp [intOf]; omega
      · have dx : (x == prod) = false := by rw [beq_eq_false_iff_ne]; exact e0
        have E0 := Lib.hid e0
        clear e0 HA2
        go_wp2_with fail
        go_quiet (fail)
        go_wp2_with fail
        go_quiet (fail)
        go_wp2_with fail
        go_roundw
        case rel => exact ⟨k + 1, by omega, by go_num, Lib.hid (fun j hj => if q : j < k then hrel.out j q else by rw [show j = k by omega, HT.out]; exact fun e2 => absurd e2 E0.out), hT.below (below_drewN (Below.refl _ _) _), xW.drew _, below_drewN bel _⟩
        case measure => simp [intOf]; omega
    · obtain rfl : k = ts.length := by omega
      have ds : (seq == 0) = true := by rw [beq_iff_eq]; exact HE.out hrel.out
      have dp : (prod != 255) = true := by have := HP.out; simp [this]
      clear HE HP hrel
      go_wp2_with fail
      go_ret
      exact ⟨rfl, bel⟩
end Go.Proofs.Ytlppnhkgadcgdaa
