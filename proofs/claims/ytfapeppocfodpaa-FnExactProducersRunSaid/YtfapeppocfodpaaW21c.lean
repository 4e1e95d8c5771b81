/- Chapter 21: whether a batch follows, as the model tells it. -/
import Derived.Test.YtfapeppocfodpaaW21b
namespace Go.Proofs.Ytfapeppocfodpaa
open Go.ChangeShapes Go.WideShapes Go.ChangeAt Go.RowKit
set_option linter.unusedVariables false

set_option maxHeartbeats 4000000 in
theorem spec_l21Check (u v : Value) (ts : List Trm) (b : Bat) (w : World) (g : Ts w u ts) (h : BatV w v b) (ok : tsOk ts = true) (hb : batOk b = true) : Calls Try.prog 67 #[u, v] w (SaysC (checkP ts b) w) := by
  have C1 : Hid (∀ W, Below w.heap.size w W → Calls Try.prog 84 #[u, .int .i64 b.prod] W (AtRes ts b.prod W)) := Lib.hid fun W hW => spec_l21At u ts _ W (g.below hW)
  have HV : Hid (0 ≤ b.prod ∧ b.prod ≤ 255) := Lib.hid ⟨(batOk_prod hb).1, (batOk_prod hb).2.1⟩
  have HA : Hid (∀ i, i < ts.length → (tAt ts i).num = b.prod → b.prod ≠ 255 → checkP ts b = if b.epoch < (tAt ts i).first then 3 else cmpN b.seq (if b.epoch = (tAt ts i).first then (tAt ts i).third else 0)) := Lib.hid fun i hi e hp => code_at ok hb hp hi e
  have HB : Hid ((∀ j, j < ts.length → (tAt ts j).num ≠ b.prod) → b.prod ≠ 255 → checkP ts b = cmpN b.seq 0) := Lib.hid fun hj hp => code_none ok hb hp hj
  have HF : Hid (b.prod = 255 → checkP ts b = 4) := Lib.hid fun hp => code_free ok hb hp
  obtain ⟨N, hN⟩ : ∃ N, checkP ts b = N := ⟨_, rfl⟩
  rw [hN] at HA HB HF ⊢
  clear hN ok hb
  obtain ⟨a, cap, rfl, hr, hl, hm⟩ := h.parts
  have hu := g
  obtain ⟨a', cap', rfl, hl', hm', hc'⟩ := g
  unfold maxLen at hm'
  clear hc' h hr
  obtain ⟨n, hn⟩ : ∃ n, b.recs.length = n := ⟨_, rfl⟩
  rw [hn] at hl ⊢
  clear hn
  obtain ⟨packed, mark, prod, epoch, seq, recs⟩ := b
  simp only at C1 HV HA HB HF ⊢
  have x0 := Blk.made w #[.bool packed, .bool mark, .int .i64 prod, .int .i64 epoch, .int .i64 seq, .slice a n cap] 43
  have b0 := alloc_below' w (.cells #[.bool packed, .bool mark, .int .i64 prod, .int .i64 epoch, .int .i64 seq, .slice a n cap] 43)
  by_cases hp : prod = 255
  · have d0 : (prod == 255) = true := by rw [beq_iff_eq]; exact hp
    have HP := Lib.hid hp
    clear hp x0
    go_enter Try.func67, Try.ntmps67
    go_wp2_with fail
    go_ret
    exact ⟨ret_int (HF.out HP.out).symm, b0⟩
  have d0 : (prod == 255) = false := by rw [beq_eq_false_iff_ne]; exact hp
  have HP := Lib.hid hp
  clear hp HF
  go_enter Try.func67, Try.ntmps67
  go_wp2_with fail
  generalize w.alloc (.cells #[.bool packed, .bool mark, .int .i64 prod, .int .i64 epoch, .int .i64 seq, .slice a n cap] 43) = w0 at x0 b0 ⊢
  obtain ⟨B, hB⟩ : ∃ B, w.heap.size = B := ⟨_, rfl⟩
  rw [hB] at x0 ⊢
  clear hB
  refine (C1.out w0 b0).mono ?_
  rintro e w1 ⟨M, rfl, rfl, hM⟩
  obtain ⟨c0, c1, c2, c3, c4, c5⟩ := x0.sixC
  rcases hM with ⟨i, hi, rfl, hnum⟩ | ⟨rfl, hno⟩
  · have e1 := HA.out i hi hnum HP.out
    clear HA HB hnum C1
    obtain ⟨b1, off, cp, e, _, _, hcell⟩ := (hu.below b0).form (by omega)
    simp only [Value.slice.injEq, true_and] at e
    obtain ⟨rfl, rfl⟩ := e
    obtain ⟨_, y1, y2⟩ := hcell i hi
    obtain ⟨y, hy⟩ : ∃ y, (tAt ts i).first = y := ⟨_, rfl⟩
    obtain ⟨z, hz⟩ : ∃ z, (tAt ts i).third = z := ⟨_, rfl⟩
    rw [hy] at y1 e1
    rw [hz] at y2 e1
    have E1 := Lib.hid e1
    clear e1 hy hz hcell
    have i0 : (0 : Int) ≤ (i : Int) := by omega
    have i1 : (i : Int) < (ts.length : Int) := by omega
    have d1 : decide ((0 : Int) ≤ (i : Int)) = true := decide_eq_true i0
    by_cases h3 : epoch < y
    · have d3 : decide (epoch < y) = true := decide_eq_true h3
      have H3 := Lib.hid h3
      clear h3
      go_wp2_with fail
      go_quiet (fail)
      go_wp2_with fail
      go_ret
      exact ⟨ret_int (by rw [E1.out, if_pos H3.out]), below_drewN b0 _⟩
    have d3 : decide (epoch < y) = false := decide_eq_false h3
    have H3 := Lib.hid h3
    clear h3
    go_wp2_with fail
    go_quiet (fail)
    have H4 : Hid (epoch = y ∨ epoch ≠ y) := Lib.hid (Decidable.em _)
    rcases H4.out with h4 | h4
    · have d4 : (epoch == y) = true := by rw [beq_iff_eq]; exact h4
      have H5 := Lib.hid h4
      clear h4 H4
      have e2 := E1.out
      rw [if_neg (by have := H3.out; omega), if_pos H5.out] at e2
      have E2 := Lib.hid e2
      clear e2 E1 H3 H5
      unfold cmpN at E2
      go_wp2_with fail
      go_quiet (fail)
      by_cases h6 : seq < z
      · have d6 : decide (seq < z) = true := decide_eq_true h6
        have H6 := Lib.hid h6
        clear h6
        go_wp2_with fail
        go_ret
        exact ⟨ret_int (by rw [E2.out, if_pos H6.out]), below_drewN b0 _⟩
      have d6 : decide (seq < z) = false := decide_eq_false h6
      have H6 := Lib.hid h6
      clear h6
      by_cases h7 : z < seq
      · have d7 : decide (z < seq) = true := decide_eq_true h7
        have H7 := Lib.hid h7
        clear h7
        go_wp2_with fail
        go_ret
        exact ⟨ret_int (by rw [E2.out, if_neg (by have := H6.out; omega), if_pos H7.out]), below_drewN b0 _⟩
      have d7 : decide (z < seq) = false := decide_eq_false h7
      have H7 := Lib.hid h7
      clear h7
      go_wp2_with fail
      go_ret
      exact ⟨ret_int (by rw [E2.out, if_neg (by have := H6.out; omega), if_neg (by have := H7.out; omega)]), below_drewN b0 _⟩
    · have d4 : (epoch == y) = false := by rw [beq_eq_false_iff_ne]; exact h4
      have H5 := Lib.hid h4
      clear h4 H4
      have e2 := E1.out
      rw [if_neg (by have := H3.out; omega), if_neg H5.out] at e2
      have E2 := Lib.hid e2
      clear e2 E1 H3 H5
      unfold cmpN at E2
      go_wp2_with fail
      go_quiet (fail)
      by_cases h6 : seq < 0
      · have d6 : decide (seq < 0) = true := decide_eq_true h6
        have H6 := Lib.hid h6
        clear h6
        go_wp2_with fail
        go_ret
        exact ⟨ret_int (by rw [E2.out, if_pos H6.out]), below_drewN b0 _⟩
      have d6 : decide (seq < 0) = false := decide_eq_false h6
      have H6 := Lib.hid h6
      clear h6
      by_cases h7 : 0 < seq
      · have d7 : decide (0 < seq) = true := decide_eq_true h7
        have H7 := Lib.hid h7
        clear h7
        go_wp2_with fail
        go_ret
        exact ⟨ret_int (by rw [E2.out, if_neg (by have := H6.out; omega), if_pos H7.out]), below_drewN b0 _⟩
      have d7 : decide (0 < seq) = false := decide_eq_false h7
      have H7 := Lib.hid h7
      clear h7
      go_wp2_with fail
      go_ret
      exact ⟨ret_int (by rw [E2.out, if_neg (by have := H6.out; omega), if_neg (by have := H7.out; omega)]), below_drewN b0 _⟩
  · have e2 := HB.out hno HP.out
    have E2 := Lib.hid e2
    clear e2 HA HB hno C1
    unfold cmpN at E2
    have d1 : decide ((0 : Int) ≤ -1) = false := by decide
    by_cases h6 : seq < 0
    · have d6 : decide (seq < 0) = true := decide_eq_true h6
      have H6 := Lib.hid h6
      clear h6
      go_wp2_with fail
      go_ret
      exact ⟨ret_int (by rw [E2.out, if_pos H6.out]), b0⟩
    have d6 : decide (seq < 0) = false := decide_eq_false h6
    have H6 := Lib.hid h6
    clear h6
    by_cases h7 : 0 < seq
    · have d7 : decide (0 < seq) = true := decide_eq_true h7
      have H7 := Lib.hid h7
      clear h7
      go_wp2_with fail
      go_ret
      exact ⟨ret_int (by rw [E2.out, if_neg (by have := H6.out; omega), if_pos H7.out]), b0⟩
    have d7 : decide (0 < seq) = false := decide_eq_false h7
    have H7 := Lib.hid h7
    clear h7
    go_wp2_with fail
    go_ret
    exact ⟨ret_int (by rw [E2.out, if_neg (by have := H6.out; omega), if_neg (by have := H7.out; omega)]), b0⟩

set_option maxHeartbeats 2000000 in
theorem spec_ProducersCheck (u v : Value) (ts : List Trm) (b : Bat) (w : World) (g : Ts w u ts) (h : BatV w v b) : Calls Try.prog 51 #[u, v] w (SaysC (checkP ts b) w) := by
  have C1 : Hid (∀ W, Below w.heap.size w W → Calls Try.prog 53 #[u] W (Same W (tsOk ts))) := Lib.hid fun W hW => spec_ProducersValid u ts W (g.below hW)
  have C2 : Hid (∀ W, Below w.heap.size w W → Calls Try.prog 58 #[v] W (SaysB (batOk b) W)) := Lib.hid fun W hW => spec_BatchValid v b W (h.below hW)
  have C3 : Hid (∀ W, Below w.heap.size w W → tsOk ts = true → batOk b = true → Calls Try.prog 67 #[u, v] W (SaysC (checkP ts b) W)) := Lib.hid fun W hW p q => spec_l21Check u v ts b W (g.below hW) (h.below hW) p q
  have HB : Hid (tsOk ts = false ∨ batOk b = false → checkP ts b = 5) := Lib.hid code_bad
  obtain ⟨N, hN⟩ : ∃ N, checkP ts b = N := ⟨_, rfl⟩
  rw [hN] at C3 HB ⊢
  obtain ⟨p, hp⟩ : ∃ p, tsOk ts = p := ⟨_, rfl⟩
  obtain ⟨q, hq⟩ : ∃ q, batOk b = q := ⟨_, rfl⟩
  rw [hp] at C1 C3 HB
  rw [hq] at C2 C3 HB
  clear hp hq hN
  obtain ⟨a, cap, rfl, hr, hl, hm⟩ := h.parts
  obtain ⟨a', cap', rfl, hl', hm', hc'⟩ := g
  clear hc' h hr
  obtain ⟨n, hn⟩ : ∃ n, b.recs.length = n := ⟨_, rfl⟩
  rw [hn] at C2 C3 hl ⊢
  clear hn
  obtain ⟨packed, mark, prod, epoch, seq, recs⟩ := b
  simp only at C2 C3 ⊢
  have x0 := Blk.made w #[.bool packed, .bool mark, .int .i64 prod, .int .i64 epoch, .int .i64 seq, .slice a n cap] 43
  have b0 := alloc_below' w (.cells #[.bool packed, .bool mark, .int .i64 prod, .int .i64 epoch, .int .i64 seq, .slice a n cap] 43)
  go_enter Try.func51, Try.ntmps51
  go_wp2_with fail
  generalize w.alloc (.cells #[.bool packed, .bool mark, .int .i64 prod, .int .i64 epoch, .int .i64 seq, .slice a n cap] 43) = w0 at x0 b0 ⊢
  obtain ⟨B, hB⟩ : ∃ B, w.heap.size = B := ⟨_, rfl⟩
  rw [hB] at x0 ⊢
  clear hB
  refine (C1.out w0 b0).mono ?_
  rintro e w1 ⟨rfl, b1⟩
  have x1 := x0.belowS b1
  have B1 := Bstep b0 b1
  obtain ⟨c0, c1, c2, c3, c4, c5⟩ := x1.sixC
  clear x0 b0 b1 C1
  cases p with
  | false =>
    have e5 := HB.out (.inl rfl)
    subst e5
    clear HB C2 C3
    go_wp2_with fail
    go_ret
    exact ⟨rfl, B1⟩
  | true =>
  go_wp2_with fail
  refine (C2.out w1 B1).mono ?_
  rintro e w2 ⟨rfl, b2⟩
  have x2 := x1.belowS b2
  have B2 := Bstep B1 b2
  clear c0 c1 c2 c3 c4 c5
  obtain ⟨c0, c1, c2, c3, c4, c5⟩ := x2.sixC
  clear x1 B1 b2 C2
  cases q with
  | false =>
    have e5 := HB.out (.inr rfl)
    subst e5
    clear HB C3
    go_wp2_with fail
    go_ret
    exact ⟨rfl, B2⟩
  | true =>
  have C4 := Lib.hid (C3.out w2 B2 (by trivial) (by trivial))
  clear C3 HB
  go_wp2_with fail
  refine C4.out.mono ?_
  rintro e w3 ⟨rfl, b3⟩
  have B3 := Bstep B2 b3
  go_wp2_with fail
  go_ret
  exact ⟨rfl, B3⟩
end Go.Proofs.Ytfapeppocfodpaa
