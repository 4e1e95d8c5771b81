/- Chapter 21: a gap can be closed. -/
import Derived.Test.YtlppnhkgadcgdaaK22b
namespace Go.Proofs.Ytlppnhkgadcgdaa
open Go.ChangeShapes Go.WideShapes Go.ChangeAt Go.RowKit
set_option linter.unusedVariables false

set_option maxHeartbeats 2000000 in
theorem law_FnCheckGap (w : World) (v : Value) (zs : List Int) (h : U8s w v zs) : Calls Try.prog 7 #[v] w (Yes w) := by
  have hU := h
  obtain ⟨a, cap, rfl, hl, hm, hc, hr⟩ := hU
  unfold maxLen at hm
  clear hc hr
  by_cases hlen : 1048576 < zs.length
  · have d0 : decide ((1048576 : Int) < (zs.length : Int)) = true := decide_eq_true (by omega)
    go_enter Try.func7, Try.ntmps7
    go_wp2_with fail
    go_ret
    exact ⟨rfl, Below.refl _ _⟩
  have d0 : decide ((1048576 : Int) < (zs.length : Int)) = false := decide_eq_false (by omega)
  have C0 := Lib.hid (spec_DrawProducersCheck _ zs w h (by omega))
  clear h
  go_enter Try.func7, Try.ntmps7
  go_wp2_with fail
  refine C0.out.mono ?_
  rintro e w1 ⟨u, ts, b, vb, rfl, hT, hb, hl9, B1⟩
  obtain ⟨ra, rc, rfl, -, -, hrc⟩ := hb.parts
  have hT0 := hT
  obtain ⟨ua, uc, rfl, -, huc, -⟩ := hT0
  unfold maxLen at huc
  obtain ⟨packed, mark, prod, epoch, seq, recs⟩ := b
  simp only at hb ⊢
  clear C0
  have bX := alloc_below' w1 (.cells #[.bool packed, .bool mark, .int .i64 prod, .int .i64 epoch, .int .i64 seq, .slice ra recs.length rc] 33)
  have xX := Blk.made w1 #[.bool packed, .bool mark, .int .i64 prod, .int .i64 epoch, .int .i64 seq, .slice ra recs.length rc] 33
  go_wp2_with fail
  generalize w1.alloc (.cells #[.bool packed, .bool mark, .int .i64 prod, .int .i64 epoch, .int .i64 seq, .slice ra recs.length rc] 33) = w2 at bX xX ⊢
  obtain ⟨X, hX⟩ : ∃ X, w1.heap.size = X := ⟨_, rfl⟩
  have B2 := Bstep B1 bX
  have hT2 := hT.below bX
  have hb2 := hb.below bX
  have hwX : w.heap.size ≤ X := by rw [← hX]; exact B1.size
  rw [hX] at xX ⊢
  clear hX bX B1 hT hb
  have C1 : Hid (∀ W u v b, Ts W u ts → BatV W v b → Calls Try.prog 20 #[u, v] W (SaysN (checkP ts b) W)) := Lib.hid fun W u v b hu hv => impl_ProducersCheck u v ts b W hu hv
  have C2 := Lib.hid (C1.out w2 _ _ _ hT2 hb2)
  have C3 : Hid (∀ W u v, Ts W u ts → BatV W v ⟨packed, mark, prod, epoch, seq, recs⟩ → Calls Try.prog 17 #[u, v] W (SaysN (checkP ts ⟨packed, mark, prod, epoch, seq, recs⟩) W)) := Lib.hid fun W u v hu hv => spec_ProducersCheck u v ts _ W hu hv
  have HF : Hid (checkP ts ⟨packed, mark, prod, epoch, seq, recs⟩ = 2 → ∃ nx : Int, (0 ≤ nx ∧ nx < seq) ∧ ∀ s : Int, 0 ≤ s → s ≤ 9999 → checkP ts ⟨packed, mark, prod, epoch, s, recs⟩ = cmpN s nx) := Lib.hid fun h0 => by
    have hc := checkP_cmp (ts := ts) (b := ⟨packed, mark, prod, epoch, seq, recs⟩) (by omega)
    have p := (checkP_ok (ts := ts) (b := ⟨packed, mark, prod, epoch, seq, recs⟩) (by omega)).1
    refine ⟨nxtP ts ⟨packed, mark, prod, epoch, seq, recs⟩, ⟨(nxtP_range _ p).1, ?_⟩, fun s s0 s1 => checkP_seq (b := ⟨packed, mark, prod, epoch, seq, recs⟩) (by omega) s s0 s1⟩
    have e := hc.2
    rw [h0] at e
    unfold cmpN at e
    simp only at e
    split at e
    · omega
    · split at e
      · assumption
      · omega
  obtain ⟨N, hN⟩ : ∃ N, checkP ts ⟨packed, mark, prod, epoch, seq, recs⟩ = N := ⟨_, rfl⟩
  rw [hN] at C2 C3 HF
  clear hN
  have hNN : (N != N) = false := by simp
  have hNe : (N == N) = true := by simp
  (with_reducible refine C2.out.mono ?_)
  rintro e w3 ⟨rfl, b3⟩
  have B3 := Bstep B2 b3
  have x3 := xX.belowS b3
  have hT3 := hT2.below b3
  have hb3 := hb2.below b3
  clear xX B2 hT2 hb2 b3 C2
  obtain ⟨c0, c1, c2, c3, c4, c5⟩ := x3.sixC
  go_wp2_with fail
  (with_reducible refine (C3.out w3 _ _ hT3 hb3).mono ?_)
  rintro e w4 ⟨rfl, b4⟩
  have B4 := Bstep B3 b4
  have x4 := x3.belowS b4
  have hT4 := hT3.below b4
  have hb4 := hb3.below b4
  clear c0 c1 c2 c3 c4 c5 x3 B3 hT3 hb3 b4 C3
  obtain ⟨c0, c1, c2, c3, c4, c5⟩ := x4.sixC
  by_cases h5 : N = 2
  rotate_left
  · have d5 : (N != 2) = true := by simp [h5]
    clear HF h5
    go_wp2_with fail
    go_ret
    exact ⟨rfl, B4⟩
  have d5 : (N != 2) = false := by simp [h5]
  by_cases h6 : 100 < seq
  · have d6 : decide (100 < seq) = true := decide_eq_true h6
    clear HF h5 h6
    go_wp2_with fail
    go_ret
    exact ⟨rfl, B4⟩
  have d6 : decide (100 < seq) = false := decide_eq_false h6
  obtain ⟨nx, ⟨n0, n1⟩, hall⟩ := HF.out h5
  have D1 : Hid (∀ W u v s, 0 ≤ s → s ≤ 9999 → Ts W u ts → BatV W v ⟨packed, mark, prod, epoch, s, recs⟩ → Calls Try.prog 20 #[u, v] W (SaysN (cmpN s nx) W)) := Lib.hid fun W u v s s0 s1 hu hv => by rw [← hall s s0 s1]; exact C1.out W u v _ hu hv
  have s1 : seq ≤ 100 := by omega
  have s0 : 0 < seq := by omega
  have HS := Lib.hid s1
  have HN := Lib.hid n0
  have HN1 := Lib.hid n1
  clear HF h5 hall C1 n0 n1 h6
  have bY := alloc_below' w4 (.cells #[.bool packed, .bool mark, .int .i64 prod, .int .i64 epoch, .int .i64 seq, .slice ra recs.length rc] 33)
  have xY := Blk.made w4 #[.bool packed, .bool mark, .int .i64 prod, .int .i64 epoch, .int .i64 seq, .slice ra recs.length rc] 33
  have x5 := x4.belowS bY
  have B5 := Bstep B4 bY
  go_upto_region 9 with (fail)
  generalize w4.alloc (.cells #[.bool packed, .bool mark, .int .i64 prod, .int .i64 epoch, .int .i64 seq, .slice ra recs.length rc] 33) = w5 at xY x5 bY B5 ⊢
  obtain ⟨Y, hY⟩ : ∃ Y, w4.heap.size = Y := ⟨_, rfl⟩
  have HK : Hid (∀ W : World, (∀ k, k < Y → W.heap[k]? = w4.heap[k]?) → Ts W (.slice ua ts.length uc) ts ∧ Recs W (.slice ra recs.length rc) recs) := Lib.hid fun W hk => ⟨hT4.keep fun _ b _ hb => hk b (by omega), recs_lt hb4.recsOf W fun k hk2 => hk k (by omega)⟩
  have K5 : Hid (∀ k, k < Y → w5.heap[k]? = w4.heap[k]?) := Lib.hid fun k hk => bY.block k (by omega)
  have hwY : w.heap.size ≤ Y := by have := B4.size; omega
  rw [hY] at xY ⊢
  clear hY bY c0 c1 c2 c3 c4 c5 x4 hT4 hb4 B4
  obtain ⟨y0, y1, y2, y3, y4, y5⟩ := x5.sixC
  go_wp2_with fail
  clear y0 y1 y2 y3 y4 y5 x5
  go_loopw [8] (fun i wr => ∃ (z s : Int), i = .int .i64 z ∧ Hid (nx ≤ z ∧ z ≤ 99) ∧ Blk wr Y #[.bool packed, .bool mark, .int .i64 prod, .int .i64 epoch, .int .i64 s, .slice ra recs.length rc] ∧ Hid (∀ k, k < Y → wr.heap[k]? = w4.heap[k]?) ∧ Below w.heap.size w wr) (fun i _ => (intOf i).toNat)
  case atStart =>
    have := HS.out
    have := HN.out
    have := HN1.out
    exact ⟨seq - 1, seq, by go_num, Lib.hid ⟨by omega, by omega⟩, xY, K5, B5⟩
  case round =>
    clear xY K5 B5
    obtain ⟨z, s, rfl, hz, xW, KW, bel⟩ := hrel
    have z0 : 0 ≤ z := by have := hz.out; have := HN.out; omega
    have z1 : z ≤ 99 := hz.out.2
    have dz : decide (0 ≤ z) = true := decide_eq_true z0
    have q4 := xW.cell 4
    have f4 := xW.free 4
    have x6 : Blk (wr.setCell ⟨Y, 4, none⟩ (.int .i64 z)) Y #[.bool packed, .bool mark, .int .i64 prod, .int .i64 epoch, .int .i64 z, .slice ra recs.length rc] := xW.set 4 (.int .i64 z)
    have K6 : Hid (∀ k, k < Y → (wr.setCell ⟨Y, 4, none⟩ (.int .i64 z)).heap[k]? = w4.heap[k]?) := Lib.hid fun k hk => (Below.heap_setCell wr _ _ k (Nat.ne_of_lt hk)).trans (KW.out k hk)
    have B6 : Below w.heap.size w (wr.setCell ⟨Y, 4, none⟩ (.int .i64 z)) := bel.setCell (p := ⟨Y, 4, none⟩) hwY _
    clear xW KW bel
    go_upto_region 13 with (fail)
    generalize wr.setCell ⟨Y, 4, none⟩ (.int .i64 z) = w6 at x6 K6 B6 ⊢
    clear q4 f4
    obtain ⟨hT6, hr6⟩ := HK.out w6 K6.out
    have hY6 := x6.lt
    have hb6 : BatV w6 (.agg #[.bool packed, .bool mark, .int .i64 prod, .int .i64 epoch, .int .i64 z, .slice ra recs.length rc]) ⟨packed, mark, prod, epoch, z, recs⟩ := ⟨_, rfl, hr6⟩
    obtain ⟨y0, y1, y2, y3, y4, y5⟩ := x6.sixC
    go_wp2_with fail
    (with_reducible refine (D1.out w6 _ _ z z0 (by omega) hT6 hb6).mono ?_)
    rintro e w7 ⟨rfl, b7⟩
    have B7 := Bstep B6 b7
    have x7 := x6.belowS b7
    have K7 : Hid (∀ k, k < Y → w7.heap[k]? = w4.heap[k]?) := Lib.hid fun k hk => (b7.block k (by omega)).trans (K6.out k hk)
    clear y0 y1 y2 y3 y4 y5 hT6 hb6 hr6 x6 K6 B6 b7
    by_cases e0 : z = nx
    · have e1 : cmpN z nx = 0 := by unfold cmpN; rw [if_neg (by omega), if_neg (by omega)]
      rw [e1]
      clear e1 e0
      go_wp2_with fail
      go_ret
      exact ⟨rfl, B7⟩
    · have e1 : cmpN z nx = 2 := by have := hz.out; unfold cmpN; rw [if_neg (by omega), if_pos (by omega)]
      rw [e1]
      have E0 := Lib.hid e0
      clear e1 e0
      go_wp2_with fail
      go_roundw
      case rel => exact ⟨z - 1, z, by go_num, Lib.hid (by have := hz.out; have := E0.out; omega), x7, K7, B7⟩
      case measure => have := E0.out; have := hz.out; have := HN.out; simp [intOf]; omega
end Go.Proofs.Ytlppnhkgadcgdaa
