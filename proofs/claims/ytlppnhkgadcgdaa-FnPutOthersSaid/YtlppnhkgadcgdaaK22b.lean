/- Chapter 21: laws on old epochs and on gaps. -/
import Derived.Test.YtlppnhkgadcgdaaK22
namespace Go.Proofs.Ytlppnhkgadcgdaa
open Go.ChangeShapes Go.WideShapes Go.ChangeAt Go.RowKit
set_option linter.unusedVariables false

theorem BatV.recsOf {w : World} {b : Bat} {x0 x1 : Bool} {x2 x3 x4 : Int} {rv : Value} (h : BatV w (.agg #[.bool x0, .bool x1, .int .i64 x2, .int .i64 x3, .int .i64 x4, rv]) b) : Recs w rv b.recs := by
  obtain ⟨rv', e, hr⟩ := h
  simp only [Value.agg.injEq, Array.mk.injEq, List.cons.injEq, and_true] at e
  rw [e.2.2.2.2.2]
  exact hr
/-- a row of records keeps what it is while blocks at hi or behind are written -/
theorem recs_lt {w : World} {v : Value} {rs : List Rec} (h : Recs w v rs) : ∀ W' : World, (∀ k, k < w.heap.size → W'.heap[k]? = w.heap[k]?) → Recs W' v rs := fun W' hk => by
  obtain ⟨a, cap, rfl, hl, hm, hc⟩ := h
  refine ⟨a, cap, rfl, hl, hm, fun h0 => ?_⟩
  obtain ⟨b, off, rfl, hcell⟩ := hc h0
  refine ⟨b, off, rfl, fun i hi => ?_⟩
  obtain ⟨kv, vv, hr⟩ := hcell i hi
  exact ⟨kv, vv, hr.keep (hk b hr.lt) (hr.2.2.2.2.2.2.1.keep fun k _ hl => hk k hl) (hr.2.2.2.2.2.2.2.keep fun k _ hl => hk k hl)⟩
set_option maxHeartbeats 2000000 in
theorem law_FnCheckOld (w : World) (v : Value) (zs : List Int) (h : U8s w v zs) (v' : Value) (zs' : List Int) (h' : U8s w v' zs') : Calls Try.prog 6 #[v, v'] w (Yes w) := by
  have hU := h
  obtain ⟨a, cap, rfl, hl, hm, hc, hr⟩ := hU
  obtain ⟨a', cap', rfl, hl', hm', hc', hr'⟩ := h'
  unfold maxLen at hm hm'
  clear hc hr hc' hr'
  by_cases hlen : 1048576 < zs.length
  · have d0 : decide ((1048576 : Int) < (zs.length : Int)) = true := decide_eq_true (by omega)
    go_enter Try.func6, Try.ntmps6
    go_wp2_with fail
    go_ret
    exact ⟨rfl, Below.refl _ _⟩
  have d0 : decide ((1048576 : Int) < (zs.length : Int)) = false := decide_eq_false (by omega)
  by_cases hlen' : 1048576 < zs'.length
  · have d0' : decide ((1048576 : Int) < (zs'.length : Int)) = true := decide_eq_true (by omega)
    go_enter Try.func6, Try.ntmps6
    go_wp2_with fail
    go_ret
    exact ⟨rfl, Below.refl _ _⟩
  have d0' : decide ((1048576 : Int) < (zs'.length : Int)) = false := decide_eq_false (by omega)
  have C0 := Lib.hid (spec_DrawProducersCheck _ zs w h (by omega))
  clear h
  go_enter Try.func6, Try.ntmps6
  go_wp2_with fail
  refine C0.out.mono ?_
  rintro e w1 ⟨u, ts, b, vb, rfl, hT, hb, hl9, B1⟩
  obtain ⟨ra, rc, rfl, -, -, hrc⟩ := hb.parts
  have hT0 := hT
  obtain ⟨ua, uc, rfl, -, huc, -⟩ := hT0
  unfold maxLen at huc
  obtain ⟨packed, mark, prod, epoch, seq, recs⟩ := b
  simp only at hb ⊢
  clear C0
  have bX := alloc_below' w1 (.cells #[.bool packed, .bool mark, .int .i64 prod, .int .i64 epoch, .int .i64 seq, .slice ra recs.length rc] 33)
  have xX := Blk.made w1 #[.bool packed, .bool mark, .int .i64 prod, .int .i64 epoch, .int .i64 seq, .slice ra recs.length rc] 33
  go_wp2_with fail
  generalize w1.alloc (.cells #[.bool packed, .bool mark, .int .i64 prod, .int .i64 epoch, .int .i64 seq, .slice ra recs.length rc] 33) = w2 at bX xX ⊢
  obtain ⟨X, hX⟩ : ∃ X, w1.heap.size = X := ⟨_, rfl⟩
  have B2 := Bstep B1 bX
  have hT2 := hT.below bX
  have hb2 := hb.below bX
  have hwX : w.heap.size ≤ X := by rw [← hX]; exact B1.size
  rw [hX] at xX ⊢
  clear hX bX B1 hT hb
  have C1 : Hid (∀ W u v b, Ts W u ts → BatV W v b → Calls Try.prog 20 #[u, v] W (SaysN (checkP ts b) W)) := Lib.hid fun W u v b hu hv => impl_ProducersCheck u v ts b W hu hv
  have C2 := Lib.hid (C1.out w2 _ _ _ hT2 hb2)
  have C3 : Hid (∀ W u v, Ts W u ts → BatV W v ⟨packed, mark, prod, epoch, seq, recs⟩ → Calls Try.prog 17 #[u, v] W (SaysN (checkP ts ⟨packed, mark, prod, epoch, seq, recs⟩) W)) := Lib.hid fun W u v hu hv => spec_ProducersCheck u v ts _ W hu hv
  have HF : Hid (checkP ts ⟨packed, mark, prod, epoch, seq, recs⟩ = 3 → (∃ i, i < ts.length ∧ (tAt ts i).num = prod ∧ epoch < (tAt ts i).first) ∧ ∀ s : Int, 0 ≤ s → s ≤ 9999 → checkP ts ⟨packed, mark, prod, epoch, s, recs⟩ = 3) := Lib.hid fun h0 => old_at h0
  obtain ⟨N, hN⟩ : ∃ N, checkP ts ⟨packed, mark, prod, epoch, seq, recs⟩ = N := ⟨_, rfl⟩
  rw [hN] at C2 C3 HF
  clear hN
  have hNN : (N != N) = false := by simp
  have hNe : (N == N) = true := by simp
  (with_reducible refine C2.out.mono ?_)
  rintro e w3 ⟨rfl, b3⟩
  have B3 := Bstep B2 b3
  have x3 := xX.belowS b3
  have hT3 := hT2.below b3
  have hb3 := hb2.below b3
  clear xX B2 hT2 hb2 b3 C2
  obtain ⟨c0, c1, c2, c3, c4, c5⟩ := x3.sixC
  go_wp2_with fail
  (with_reducible refine (C3.out w3 _ _ hT3 hb3).mono ?_)
  rintro e w4 ⟨rfl, b4⟩
  have B4 := Bstep B3 b4
  have x4 := x3.belowS b4
  have hT4 := hT3.below b4
  have hb4 := hb3.below b4
  clear c0 c1 c2 c3 c4 c5 x3 B3 hT3 hb3 b4 C3
  obtain ⟨c0, c1, c2, c3, c4, c5⟩ := x4.sixC
  by_cases h5 : N = 3
  rotate_left
  · have d5 : (N != 3) = true := by simp [h5]
    clear HF h5
    go_wp2_with fail
    go_ret
    exact ⟨rfl, B4⟩
  have d5 : (N != 3) = false := by simp [h5]
  obtain ⟨M, hM⟩ : ∃ M, zs'.length = M := ⟨_, rfl⟩
  rw [hM] at hl' hlen' d0' ⊢
  obtain ⟨m, hm9⟩ : ∃ m, M % 100 = m := ⟨_, rfl⟩
  have m9 : m < 100 := by omega
  have t1 : (M : Int).tmod 100 = (m : Int) := by rw [← hm9]; rfl
  obtain ⟨hex, hseq⟩ := HF.out h5
  have hq := hseq (m : Int) (by omega) (by omega)
  have D1 : Hid (∀ W u v, Ts W u ts → BatV W v ⟨packed, mark, prod, epoch, (m : Int), recs⟩ → Calls Try.prog 20 #[u, v] W (SaysN 3 W)) := Lib.hid fun W u v hu hv => by rw [← hq]; exact C1.out W u v _ hu hv
  have HX := Lib.hid hex
  clear HF h5 hex hseq hq hm9 hM C1
  have bY := alloc_below' w4 (.cells #[.bool packed, .bool mark, .int .i64 prod, .int .i64 epoch, .int .i64 seq, .slice ra recs.length rc] 33)
  have xY := Blk.made w4 #[.bool packed, .bool mark, .int .i64 prod, .int .i64 epoch, .int .i64 seq, .slice ra recs.length rc] 33
  have x5 := x4.belowS bY
  have hT5 := hT4.below bY
  have hB45 := bY
  have B5 := Bstep B4 bY
  have hXY := x4.lt
  go_upto_region 9 with (fail)
  generalize w4.alloc (.cells #[.bool packed, .bool mark, .int .i64 prod, .int .i64 epoch, .int .i64 seq, .slice ra recs.length rc] 33) = w5 at xY x5 hT5 hB45 B5 ⊢
  obtain ⟨Y, hY⟩ : ∃ Y, w4.heap.size = Y := ⟨_, rfl⟩
  have hs4 := B4.size
  rw [hY] at xY hXY hs4 ⊢
  have hTl := hT4.lt
  have hrl := Lib.hid (recs_lt hb4.recsOf)
  have hbk : Hid (∀ k, k < Y → w5.heap[k]? = w4.heap[k]?) := Lib.hid fun k hk => hB45.block k (by omega)
  rw [hY] at hTl hrl
  clear hY hB45 c0 c1 c2 c3 c4 c5 x4 hT4 hb4 B4
  have gY := set_grown w5 Y 4 (.int .i64 (m : Int))
  have xY6 := xY.set 4 (.int .i64 (m : Int))
  have x6 := x5.by (show X ≠ Y by omega) gY
  have hT6 := hT5.grown gY (fun h0 k e e2 => by have := hTl h0 k e2; simp only [Option.some.injEq] at e; omega)
  have hr6 := hrl.out (w5.setCell ⟨Y, 4, none⟩ (.int .i64 (m : Int))) (fun k hk => (Below.heap_setCell w5 _ _ k (Nat.ne_of_lt hk)).trans (hbk.out k hk))
  have B6 := B5.grown gY B5.size (fun k hk => by simp only [Option.some.injEq] at hk; omega)
  have q4 := xY.cell 4
  have f4 := xY.free 4
  go_upto_region 10 with (fail)
  generalize w5.setCell ⟨Y, 4, none⟩ (.int .i64 (m : Int)) = w6 at xY6 x6 hT6 hr6 B6 ⊢
  clear gY xY x5 hT5 B5 q4 f4
  have xY6 : Blk w6 Y #[.bool packed, .bool mark, .int .i64 prod, .int .i64 epoch, .int .i64 (m : Int), .slice ra recs.length rc] := xY6
  go_wp2_with fail
  go_loopw [10, 11] (fun sv i wr => ∃ (k : Nat) (s : Bool), k ≤ ts.length ∧ i = .int .i64 k ∧ sv = .bool s ∧ Hid (s = true ∨ ∀ j, j < k → ¬ ((tAt ts j).num = prod ∧ epoch < (tAt ts j).first)) ∧ Below w6.heap.size w6 wr) (fun _ i _ => ts.length - (intOf i).toNat)
  case atStart => exact ⟨0, false, Nat.zero_le _, rfl, rfl, Lib.hid (.inr fun j hj => by omega), Below.refl _ _⟩
  case round =>
    obtain ⟨k, s, hk, rfl, rfl, hrel, bel⟩ := hrel
    have hT := hT6.below bel
    have xW := x6.belowS bel
    obtain ⟨y0, y1, y2, y3, y4, y5⟩ := xW.sixC
    by_cases hlt : k < ts.length
    · obtain ⟨b1, off, cp, e, -, -, -⟩ := hT.form (by omega)
      simp only [Value.slice.injEq, true_and] at e
      obtain ⟨rfl, rfl⟩ := e
      obtain ⟨q0, q1, q2⟩ := hT.cells k hlt
      obtain ⟨t, ht⟩ : ∃ t, tAt ts k = t := ⟨_, rfl⟩
      rw [ht] at q0 q1 q2
      have HT := Lib.hid ht
      obtain ⟨x, y, z⟩ := t
      simp only at q0 q1 q2
      clear ht
      have i0 : (0 : Int) ≤ (k : Int) := by omega
      have i1 : (k : Int) < (ts.length : Int) := by omega
      cases s with
      | true =>
        go_wp2_with fail
        go_quiet (fail)
        go_wp2_with fail
        go_roundw
        case rel => exact ⟨k + 1, true, by omega, by go_num, rfl, Lib.hid (.inl rfl), below_drewN bel _⟩
        case measure => simp [intOf]; omega
      | false =>
        have hno := hrel.out.resolve_left (by decide)
        have HNO := Lib.hid hno
        clear hno hrel
        by_cases e0 : x = prod
        · have dx : (x == prod) = true := by rw [beq_iff_eq]; exact e0
          by_cases e1 : epoch < y
          · have dy : decide (epoch < y) = true := decide_eq_true e1
            clear e0 e1
            go_wp2_with fail
            go_quiet (fail)
            go_wp2_with fail
            go_roundw
            case rel => exact ⟨k + 1, true, by omega, by go_num, rfl, Lib.hid (.inl rfl), below_drewN bel _⟩
            case measure => simp [intOf]; omega
          · have dy : decide (epoch < y) = false := decide_eq_false e1
            have E1 := Lib.hid e1
            clear e0 e1
            go_wp2_with fail
            go_quiet (fail)
            go_wp2_with fail
            go_roundw
            case rel => exact ⟨k + 1, false, by omega, by go_num, rfl, Lib.hid (.inr fun j hj => if q : j < k then HNO.out j q else by rw [show j = k by omega, HT.out]; exact fun e2 => by have h2 : epoch < y := e2.2; have := E1.out; omega), below_drewN bel _⟩
            case measure => simp [intOf]; omega
        · have dx : (x == prod) = false := by rw [beq_eq_false_iff_ne]; exact e0
          have E0 := Lib.hid e0
          clear e0
          go_wp2_with fail
          go_quiet (fail)
          go_wp2_with fail
          go_roundw
          case rel => exact ⟨k + 1, false, by omega, by go_num, rfl, Lib.hid (.inr fun j hj => if q : j < k then HNO.out j q else by rw [show j = k by omega, HT.out]; exact fun e2 => absurd e2.1 E0.out), below_drewN bel _⟩
          case measure => simp [intOf]; omega
    · obtain rfl : k = ts.length := by omega
      have hs : s = true := by
        rcases hrel.out with h0 | h0
        · exact h0
        · obtain ⟨i, hi, hn, he⟩ := HX.out
          exact absurd ⟨hn, he⟩ (h0 i hi)
      subst hs
      have xYW := xY6.belowS bel
      have hrW := hr6.below bel
      have hbW : BatV wr (.agg #[.bool packed, .bool mark, .int .i64 prod, .int .i64 epoch, .int .i64 (m : Int), .slice ra recs.length rc]) ⟨packed, mark, prod, epoch, (m : Int), recs⟩ := ⟨_, rfl, hrW⟩
      have BW := Bstep B6 bel
      clear HX hrel y0 y1 y2 y3 y4 y5
      obtain ⟨y0, y1, y2, y3, y4, y5⟩ := xYW.sixC
      go_wp2_with fail
      (with_reducible refine (D1.out wr _ _ hT hbW).mono ?_)
      rintro e w9 ⟨rfl, b9⟩
      go_wp2_with fail
      go_ret
      exact ⟨rfl, Bstep BW b9⟩
end Go.Proofs.Ytlppnhkgadcgdaa
