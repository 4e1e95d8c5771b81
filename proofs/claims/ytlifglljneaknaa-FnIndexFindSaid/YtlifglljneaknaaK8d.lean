/- Chapter 13: laws of the entry that is found, drawn. -/
import Derived.Test.YtlifglljneaknaaK8c
import Derived.BigQuiet
namespace Go.Proofs.Ytlifglljneaknaa
open Go.ChangeShapes Go.WideShapes Go.ChangeAt Go.RowKit
set_option linter.unusedVariables false

set_option maxHeartbeats 2000000 in
theorem law_FnIndexFindWhen (w : World) (v : Value) (zs : List Int) (h : U8s w v zs) : Calls Try.prog 4 #[v] w (Yes w) := by
  have hU := h
  obtain ⟨a, cap, rfl, hl, hm, hc, hr⟩ := hU
  unfold maxLen at hm
  clear hc hr
  by_cases hlen : 1048576 < zs.length
  · go_enter Try.func4, Try.ntmps4
    go_wp2
    go_ret
    exact ⟨rfl, Below.refl _ _⟩
  · have C0 := Lib.hid (spec_DrawIndexFind _ zs w h (by omega))
    have hgd := fun (w : World) (op : BinOp) (x y : Operand) (xs ys : Array Value) => run_eqGuard_agg (P := Try.prog) w op 27 x y xs ys term_guard
    clear h
    go_enter Try.func4, Try.ntmps4
    go_wp2_with fail
    refine C0.out.mono ?_
    rintro e w1 ⟨u, ts, o, rfl, own1, hT, B1⟩
    have C1 : Hid (∀ W u, Ts W u ts → Calls Try.prog 8 #[u, .int .i64 o] W (FoundR W ts o)) := Lib.hid fun W u hu => spec_IndexFind u ts o W hu
    have C2 : Hid (∀ W u, Ts W u ts → Calls Try.prog 7 #[u, .int .i64 o] W (FoundR W ts o)) := Lib.hid fun W u hu => impl_IndexFind u ts o W hu
    have C4 : Hid (∀ W u, Ts W u ts → Calls Try.prog 9 #[u] W (Same W (tsOk ts))) := Lib.hid fun W u hu => spec_IndexValid u ts W hu
    obtain ⟨ad, cp, rfl⟩ := own1.form'
    have hT9 := hT.1
    have z1 := own1.ts.sizes.2
    unfold maxLen at z1
    have ts1 := own1.ts
    clear C0 hT own1
    go_wp2_with fail
    refine (C2.out w1 _ ts1).mono ?_
    rintro e w2 ⟨⟨p, q⟩, b, rfl, hF, b2⟩
    have B2 := Bstep B1 b2
    have ts2 := ts1.below b2
    have bX := alloc_below' w2 (.cells #[.int .i64 p, .int .i64 q] 27)
    have xX := Blk.made w2 #[.int .i64 p, .int .i64 q] 27
    clear b2 ts1 B1
    go_wp2_with fail
    generalize w2.alloc (.cells #[.int .i64 p, .int .i64 q] 27) = w3 at xX bX ⊢
    obtain ⟨X, hX⟩ : ∃ X, w2.heap.size = X := ⟨_, rfl⟩
    have B3 := Bstep B2 bX
    have ts3 := ts2.below bX
    rw [hX] at xX ⊢
    clear hX bX B2 ts2
    refine (C1.out w3 _ ts3).mono ?_
    rintro e w4 ⟨⟨p', q'⟩, b', rfl, hF', b4⟩
    obtain ⟨e1, rfl⟩ := hF.uniq hF'
    simp only [Trm.mk.injEq] at e1
    obtain ⟨rfl, rfl⟩ := e1
    have B4 := Bstep B3 b4
    have ts4 := ts3.below b4
    have x4 := xX.belowS b4
    have bY := alloc_below' w4 (.cells #[.int .i64 p, .int .i64 q] 27)
    have yY := Blk.made w4 #[.int .i64 p, .int .i64 q] 27
    have x5 := x4.belowS bY
    have ts5 := ts4.below bY
    have B5 := Bstep B4 bY
    have hbb : (b != b) = false := by simp
    have hbe : (b == b) = true := by simp
    have heql : ∀ w : World, (binOp .eql 27 (.agg #[.int .i64 p, .int .i64 q]) (.agg #[.int .i64 p, .int .i64 q])).run Try.prog w = .ok (.bool true) w := fun w => by
      rw [term_eql]; simp
    have hneq : ∀ w : World, (binOp .neq 27 (.agg #[.int .i64 p, .int .i64 q]) (.agg #[.int .i64 p, .int .i64 q])).run Try.prog w = .ok (.bool false) w := fun w => by
      rw [term_neq]; simp
    clear b4 ts3 B3 xX x4 ts4 B4 hF'
    have x50 := x5.cell 0
    have x51 := x5.cell 1
    obtain ⟨ok, hok⟩ : ∃ r, tsOk ts = r := ⟨_, rfl⟩
    rw [hok] at C4
    have HW : Hid (ok = true → (0 < ts.length ∧ (tAt ts 0).num ≤ o ∧ b = true) ∨ (0 < ts.length ∧ ¬ (tAt ts 0).num ≤ o ∧ b = false) ∨ (ts.length = 0 ∧ b = false)) := Lib.hid fun e => by
      subst e
      rcases hF with ⟨h1, _⟩ | ⟨_, h2⟩
      · rw [hok] at h1; cases h1
      · rcases h2 with ⟨rfl, _, h3⟩ | ⟨rfl, i, hi, _, h4, _⟩
        · by_cases h0 : ts.length = 0
          · exact .inr (.inr ⟨h0, rfl⟩)
          · exact .inr (.inl ⟨by omega, by have := h3 0 (by omega); omega, rfl⟩)
        · refine .inl ⟨by omega, ?_, rfl⟩
          by_cases e : i = 0
          · rw [e] at h4; exact h4
          · have := (tsOk_up hok (i := 0) (j := i) (by omega) hi).1
            omega
    clear hok hF
    go_wp2_with fail
    refine (C4.out _ _ ts5).mono ?_
    rintro e w6 ⟨rfl, b6⟩
    have B6 := Bstep B5 b6
    have ts6 := ts5.below b6
    have x6 := x5.belowS b6
    have y6 := yY.belowS b6
    obtain ⟨Y, hY⟩ : ∃ Y, w4.heap.size = Y := ⟨_, rfl⟩
    rw [hY] at y6 ⊢
    have m0 := x6.cell 0
    have m1 := x6.cell 1
    have n0 := y6.cell 0
    have n1 := y6.cell 1
    clear hY ts5 B5 x5 yY bY b6 x50 x51 x6 y6 C4
    cases ok with
    | false =>
      go_wp2_with fail
      go_ret
      exact ⟨rfl, B6⟩
    | true =>
      rcases HW.out rfl with ⟨h0, h1, rfl⟩ | ⟨h0, h1, rfl⟩ | ⟨h0, rfl⟩
      · obtain ⟨g, off, cp', e, _, _, hcell⟩ := ts6.form h0
        simp only [Value.slice.injEq, true_and] at e
        obtain ⟨rfl, rfl⟩ := e
        have c0 := (hcell 0 h0).1
        simp only [Nat.zero_mul, Nat.add_zero] at c0
        have d0 : decide ((0 : Int) < (ts.length : Int)) = true := decide_eq_true (by omega)
        have d0n : decide (0 < ts.length) = true := decide_eq_true h0
        have d1 : decide ((tAt ts 0).num ≤ o) = true := decide_eq_true (by omega)
        have i1 : (0 : Int) < (ts.length : Int) := by omega
        clear hcell h1
        go_wp2_with fail
        go_ret
        exact ⟨rfl, B6⟩
      · obtain ⟨g, off, cp', e, _, _, hcell⟩ := ts6.form h0
        simp only [Value.slice.injEq, true_and] at e
        obtain ⟨rfl, rfl⟩ := e
        have c0 := (hcell 0 h0).1
        simp only [Nat.zero_mul, Nat.add_zero] at c0
        have d0 : decide ((0 : Int) < (ts.length : Int)) = true := decide_eq_true (by omega)
        have d0n : decide (0 < ts.length) = true := decide_eq_true h0
        have d1 : decide ((tAt ts 0).num ≤ o) = false := decide_eq_false (by omega)
        have i1 : (0 : Int) < (ts.length : Int) := by omega
        clear hcell h1
        go_wp2_with fail
        go_ret
        exact ⟨rfl, B6⟩
      · have d0 : decide ((0 : Int) < (ts.length : Int)) = false := decide_eq_false (by omega)
        have d0n : decide (0 < ts.length) = false := decide_eq_false (by omega)
        go_wp2_with fail
        go_ret
        exact ⟨rfl, B6⟩
set_option maxHeartbeats 2000000 in
theorem law_FnIndexFind (w : World) (v : Value) (zs : List Int) (h : U8s w v zs) : Calls Try.prog 3 #[v] w (Yes w) := by
  have hU := h
  obtain ⟨a, cap, rfl, hl, hm, hc, hr⟩ := hU
  unfold maxLen at hm
  clear hc hr
  by_cases hlen : 1048576 < zs.length
  · go_enter Try.func3, Try.ntmps3
    go_wp2
    go_ret
    exact ⟨rfl, Below.refl _ _⟩
  · have C0 := Lib.hid (spec_DrawIndexFind _ zs w h (by omega))
    have hgd := fun (w : World) (op : BinOp) (x y : Operand) (xs ys : Array Value) => run_eqGuard_agg (P := Try.prog) w op 27 x y xs ys term_guard
    clear h
    go_enter Try.func3, Try.ntmps3
    go_wp2_with fail
    refine C0.out.mono ?_
    rintro e w1 ⟨u, ts, o, rfl, own1, hT, B1⟩
    have C1 : Hid (∀ W u, Ts W u ts → Calls Try.prog 8 #[u, .int .i64 o] W (FoundR W ts o)) := Lib.hid fun W u hu => spec_IndexFind u ts o W hu
    have C2 : Hid (∀ W u, Ts W u ts → Calls Try.prog 7 #[u, .int .i64 o] W (FoundR W ts o)) := Lib.hid fun W u hu => impl_IndexFind u ts o W hu
    have C4 : Hid (∀ W u, Ts W u ts → Calls Try.prog 9 #[u] W (Same W (tsOk ts))) := Lib.hid fun W u hu => spec_IndexValid u ts W hu
    obtain ⟨ad, cp, rfl⟩ := own1.form'
    have hT9 := hT.1
    have z1 := own1.ts.sizes.2
    unfold maxLen at z1
    have ts1 := own1.ts
    clear C0 hT own1
    go_wp2_with fail
    refine (C2.out w1 _ ts1).mono ?_
    rintro e w2 ⟨⟨p, q⟩, b, rfl, hF, b2⟩
    have B2 := Bstep B1 b2
    have ts2 := ts1.below b2
    have bX := alloc_below' w2 (.cells #[.int .i64 p, .int .i64 q] 27)
    have xX := Blk.made w2 #[.int .i64 p, .int .i64 q] 27
    clear b2 ts1 B1
    go_wp2_with fail
    generalize w2.alloc (.cells #[.int .i64 p, .int .i64 q] 27) = w3 at xX bX ⊢
    obtain ⟨X, hX⟩ : ∃ X, w2.heap.size = X := ⟨_, rfl⟩
    have B3 := Bstep B2 bX
    have ts3 := ts2.below bX
    rw [hX] at xX ⊢
    clear hX bX B2 ts2
    refine (C1.out w3 _ ts3).mono ?_
    rintro e w4 ⟨⟨p', q'⟩, b', rfl, hF', b4⟩
    obtain ⟨e1, rfl⟩ := hF.uniq hF'
    simp only [Trm.mk.injEq] at e1
    obtain ⟨rfl, rfl⟩ := e1
    have B4 := Bstep B3 b4
    have ts4 := ts3.below b4
    have x4 := xX.belowS b4
    have bY := alloc_below' w4 (.cells #[.int .i64 p, .int .i64 q] 27)
    have yY := Blk.made w4 #[.int .i64 p, .int .i64 q] 27
    have x5 := x4.belowS bY
    have ts5 := ts4.below bY
    have B5 := Bstep B4 bY
    have hbb : (b != b) = false := by simp
    have hbe : (b == b) = true := by simp
    have heql : ∀ w : World, (binOp .eql 27 (.agg #[.int .i64 p, .int .i64 q]) (.agg #[.int .i64 p, .int .i64 q])).run Try.prog w = .ok (.bool true) w := fun w => by
      rw [term_eql]; simp
    have hneq : ∀ w : World, (binOp .neq 27 (.agg #[.int .i64 p, .int .i64 q]) (.agg #[.int .i64 p, .int .i64 q])).run Try.prog w = .ok (.bool false) w := fun w => by
      rw [term_neq]; simp
    clear b4 ts3 B3 xX x4 ts4 B4 hF'
    obtain ⟨Y, hY⟩ : ∃ Y, w4.heap.size = Y := ⟨_, rfl⟩
    have m0 := x5.cell 0
    have m1 := x5.cell 1
    cases b with
    | false =>
      clear hY
      go_wp2_with fail
      go_ret
      exact ⟨rfl, B5⟩
    | true =>
      have hok : tsOk ts = true := by
        rcases hF with ⟨_, _, h⟩ | ⟨h, _⟩
        · cases h
        · exact h
      obtain ⟨i0, hi0, hat, hle, hgt⟩ : ∃ i0, i0 < ts.length ∧ tAt ts i0 = ⟨p, q⟩ ∧ p ≤ o ∧ ∀ j, i0 < j → j < ts.length → o < (tAt ts j).num := by
        rcases hF with ⟨_, _, h⟩ | ⟨_, ⟨h, _⟩ | ⟨_, i, hi, e, h4, h5⟩⟩
        · cases h
        · cases h
        · exact ⟨i, hi, e.symm, by rw [← e] at h4; exact h4, h5⟩
      have HUP : Hid (∀ k, k < ts.length → (k < i0 → (tAt ts k).num < p) ∧ (i0 < k → p < (tAt ts k).num)) := Lib.hid fun k hk => ⟨fun h => by
          have := (tsOk_up hok h hi0).1
          rw [hat] at this
          exact this, fun h => by
          have := (tsOk_up hok h hk).1
          rw [hat] at this
          exact this⟩
      have HAT := Lib.hid hat
      have HGT := Lib.hid hgt
      have dpo : decide (p ≤ o) = true := decide_eq_true hle
      clear hF hok hat hgt hY
      go_wp2_with fail
      generalize w4.alloc (.cells #[.int .i64 p, .int .i64 q] 27) = w5 at x5 B5 ts5 m0 m1 ⊢
      go_loopw [9, 10] (fun s i wr => ∃ (k : Nat) (sb : Bool), k ≤ ts.length ∧ i = .int .i64 k ∧ s = .bool sb ∧ sb = decide (i0 < k) ∧ Below w5.heap.size w5 wr) (fun _ i _ => ts.length - (intOf i).toNat)
      case atStart => exact ⟨0, false, Nat.zero_le _, rfl, rfl, by simp, Below.refl _ _⟩
      case round =>
        obtain ⟨k, sb, hk, rfl, rfl, hsb, bel⟩ := hrel
        have xr := x5.belowS bel
        have n0 := xr.cell 0
        have n1 := xr.cell 1
        have Br := Bstep B5 bel
        by_cases hlt : k < ts.length
        · obtain ⟨g, off, cp', e, _, _, hcell⟩ := (ts5.below bel).form (by omega)
          simp only [Value.slice.injEq, true_and] at e
          obtain ⟨rfl, rfl⟩ := e
          obtain ⟨c0, c1⟩ := hcell k hlt
          obtain ⟨u1, u2⟩ := HUP.out k hlt
          obtain ⟨⟨x, y⟩, Ht⟩ : ∃ t, Hid (tAt ts k = t) := ⟨_, Lib.hid rfl⟩
          rw [Ht.out] at c0 c1 u1 u2
          simp only at c0 c1 u1 u2
          have j0 : (0 : Int) ≤ (k : Int) := by omega
          have j1 : (k : Int) < (ts.length : Int) := by omega
          clear hcell
          rcases Nat.lt_trichotomy k i0 with hlo | rfl | hhi
          · obtain rfl : sb = false := by rw [hsb]; exact decide_eq_false (by omega)
            have hx := u1 hlo
            have d1 : decide (p < x) = false := decide_eq_false (by omega)
            have hq : ∀ w : World, (binOp .eql 27 (.agg #[.int .i64 x, .int .i64 y]) (.agg #[.int .i64 p, .int .i64 q])).run Try.prog w = .ok (.bool false) w := fun w => by
              rw [term_eql]
              have : (x == p) = false := by rw [beq_eq_false_iff_ne]; omega
              simp [this]
            clear u1 u2 hx hsb
            go_wp2_with fail
            go_quiet (fail)
            go_wp2_with fail
            go_quiet (fail)
            go_wp2_with fail
            go_roundw
            case rel => exact ⟨k + 1, false, by omega, by go_num, rfl, (decide_eq_false (by omega)).symm, below_drewN bel _⟩
            case measure => simp [intOf]; omega
          · obtain rfl : sb = false := by rw [hsb]; exact decide_eq_false (by omega)
            have hxy := Ht.out.symm.trans HAT.out
            simp only [Trm.mk.injEq] at hxy
            obtain ⟨rfl, rfl⟩ := hxy
            have d1 : decide (x < x) = false := decide_eq_false (by omega)
            clear u1 u2 hsb
            go_wp2_with fail
            go_quiet (fail)
            go_wp2_with fail
            go_quiet (fail)
            go_wp2_with fail
            go_roundw
            case rel => exact ⟨k + 1, true, by omega, by go_num, rfl, (decide_eq_true (by omega)).symm, below_drewN bel _⟩
            case measure => simp [intOf]; omega
          · obtain rfl : sb = true := by rw [hsb]; exact decide_eq_true hhi
            have hx := u2 hhi
            have hy := HGT.out k hhi hlt
            rw [Ht.out] at hy
            simp only at hy
            have d1 : decide (p < x) = true := decide_eq_true hx
            have d2 : decide (x ≤ o) = false := decide_eq_false (by omega)
            clear u1 u2 hsb
            go_wp2_with fail
            go_quiet (fail)
            go_wp2_with fail
            go_quiet (fail)
            go_wp2_with fail
            go_roundw
            case rel => exact ⟨k + 1, true, by omega, by go_num, rfl, (decide_eq_true (by omega)).symm, below_drewN bel _⟩
            case measure => simp [intOf]; omega
        · have dk : decide (i0 < k) = true := decide_eq_true (by omega)
          rw [dk] at hsb
          subst hsb
          clear dk
          go_wp2_with fail
          go_ret
          exact ⟨rfl, Br⟩
end Go.Proofs.Ytlifglljneaknaa
