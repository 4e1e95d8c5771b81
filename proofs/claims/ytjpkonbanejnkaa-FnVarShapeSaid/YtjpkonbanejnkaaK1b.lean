/- Chapter 1: the laws that draw a number. -/
import Derived.Test.YtjpkonbanejnkaaK1
namespace Go.Proofs.Ytjpkonbanejnkaa
open Go.ChangeShapes Go.WideShapes Go.ChangeAt Go.RowKit
set_option linter.unusedVariables false


theorem varF_cases (x : Int) (h0 : 0 ≤ x) (h1 : x ≤ 2000000) :
    (x < 128 ∧ varF 2 x = [x]) ∨ (128 ≤ x ∧ x < 16384 ∧ varF 2 x = [128 + x % 128, x / 128]) ∨ (16384 ≤ x ∧ varF 2 x = [128 + x % 128, 128 + x / 128 % 128, x / 128 / 128]) := by
  by_cases a : x < 128
  · exact .inl ⟨a, by simp [varF, a]⟩
  · by_cases b : x / 128 < 128
    · exact .inr (.inl ⟨by omega, by omega, by simp [varF, a, b]⟩)
    · exact .inr (.inr ⟨by omega, by simp [varF, a, b]⟩)
theorem joinV_varF (x : Int) (h0 : 0 ≤ x) (h1 : x ≤ 2000000) : joinV (varF 2 x) = (x, ((varF 2 x).length : Int)) := by
  rcases varF_cases x h0 h1 with ⟨a, e⟩ | ⟨a, b, e⟩ | ⟨a, e⟩
  · rw [e]; simp [joinV, a]
  · rw [e]
    have n1 : ¬ (128 + x % 128 < 128) := by omega
    have n2 : x / 128 < 128 := by omega
    have n3 : ¬ x / 128 = 0 := by omega
    simp [joinV, joinV.joinV1, n1, n2, n3]; omega
  · rw [e]
    have n1 : ¬ (128 + x % 128 < 128) := by omega
    have n2 : ¬ (128 + x / 128 % 128 < 128) := by omega
    have n3 : x / 128 / 128 < 128 := by omega
    have n4 : ¬ x / 128 / 128 = 0 := by omega
    simp [joinV, joinV.joinV1, joinV.joinV2, n1, n2, n3, n4]; omega
theorem varF_ok (x : Int) (h0 : 0 ≤ x) (h1 : x ≤ 2000000) : okBs (varF 2 x) = true := by
  rcases varF_cases x h0 h1 with ⟨a, e⟩ | ⟨a, b, e⟩ | ⟨a, e⟩
  · rw [e]; simp [okBs]; omega
  · rw [e]; simp [okBs]; omega
  · rw [e]; simp [okBs]; omega
theorem varF_shape (x : Int) (h0 : 0 ≤ x) (h1 : x ≤ 2000000) (i : Nat) (hi : i < (varF 2 x).length) : decide (128 ≤ (varF 2 x).getD i 0) = decide (i + 1 < (varF 2 x).length) := by
  rcases varF_cases x h0 h1 with ⟨a, e⟩ | ⟨a, b, e⟩ | ⟨a, e⟩
  · rw [e] at hi ⊢
    match i, hi with
    | 0, _ => simp; omega
  · rw [e] at hi ⊢
    match i, hi with
    | 0, _ => simp; omega
    | 1, _ => simp; omega
  · rw [e] at hi ⊢
    match i, hi with
    | 0, _ => simp; omega
    | 1, _ => simp; omega
    | 2, _ => simp; omega
theorem rdV_varB {n : Int} (h0 : -1000000 ≤ n) (h1 : n ≤ 1000000) : rdV (varB n) 0 = (n, ((varB n).length : Int), true) := by
  have hf := foldP_range h0 h1
  rw [varB_in (by omega) (by omega)]
  rw [show (0 : Int) = ((0 : Nat) : Int) from rfl, rdV_at 0 (varF_ok _ hf.1 hf.2), List.drop_zero, joinV_varF _ hf.1 hf.2]
  have hl := (varF_len 2 (foldP n)).2
  rw [rdR_yes (by show ¬ ((varF 2 (foldP n)).length : Int) = 0; omega) (by show ¬ 2000000 < foldP n; omega)]
  simp [unfoldP_foldP]
theorem varS_near (n : Int) (h0 : -1000000 ≤ n) (h1 : n ≤ 1000000) : varS n - 1 ≤ varS (-n) ∧ varS (-n) ≤ varS n + 1 := by
  have i1 : inV n = true := by unfold inV; simp; omega
  have i2 : inV (-n) = true := by unfold inV; simp; omega
  rw [varS_yes i1, varS_yes i2, varB_in (by omega) (by omega), varB_in (by omega) (by omega)]
  have f1 := foldP_range h0 h1
  have f2 := foldP_range (n := -n) (by omega) (by omega)
  have near : foldP (-n) ≤ foldP n + 1 ∧ foldP n ≤ foldP (-n) + 1 := by
    unfold foldP; split <;> split <;> omega
  rcases varF_cases _ f1.1 f1.2 with ⟨a, e⟩ | ⟨a, b, e⟩ | ⟨a, e⟩ <;> rcases varF_cases _ f2.1 f2.2 with ⟨c, g⟩ | ⟨c, d, g⟩ | ⟨c, g⟩ <;> rw [e, g] <;> simp <;> omega
theorem varB_sign (n : Int) (h0 : -1000000 ≤ n) (h1 : n ≤ 1000000) (hn : n ≠ 0) : (varB (-n) == varB n) = false := by
  rw [beq_eq_false_iff_ne]
  intro e
  have a := rdV_varB h0 h1
  have b := rdV_varB (n := -n) (by omega) (by omega)
  rw [e, a] at b
  simp only [Prod.mk.injEq] at b
  omega

theorem law_FnFold (w : World) (v : Value) (zs : List Int) (h : U8s w v zs) : Calls Try.prog 3 #[v] w (Yes w) := by
  have hv := h
  obtain ⟨a, cap, rfl, hl, hm, hc, hr⟩ := h
  clear hc hr
  unfold maxLen at hm
  by_cases hbig : 1048576 < zs.length
  · go_enter Try.func3, Try.ntmps3
    go_wp2
    go_ret
    exact ⟨rfl, Below.refl _ _⟩
  · have C1 := Lib.hid (spec_DrawFoldNumber _ zs w hv (by omega))
    clear hv
    go_enter Try.func3, Try.ntmps3
    go_wp2_with fail
    refine C1.out.mono ?_
    rintro e w1 ⟨n, rfl, n0, n1, bel⟩
    have C2 := Lib.hid (impl_FoldNumber n w1 ⟨by omega, by omega⟩)
    have C3 := Lib.hid (spec_FoldNumber n w1 ⟨by omega, by omega⟩)
    by_cases hin : -1000000 ≤ n ∧ n ≤ 1000000
    · have hf := foldP_range hin.1 hin.2
      have hu := unfoldP_foldP n
      rw [foldN_in (by omega) (by omega)] at C2 C3
      have par : (foldP n % 2 == 1) = decide (n < 0) := by
        by_cases hneg : n < 0
        · rw [foldP_neg hneg, decide_eq_true hneg, beq_iff_eq]; omega
        · rw [foldP_pos hneg, decide_eq_false hneg, beq_eq_false_iff_ne]; omega
      obtain ⟨x, hx⟩ : ∃ x, foldP n = x := ⟨_, rfl⟩
      rw [hx] at hf hu C2 C3 par
      have C4 := Lib.hid (impl_UnfoldNumber x w1 ⟨by omega, by omega⟩)
      rw [unfoldN_in (by omega) (by omega), hu] at C4
      have q1 : (x != x) = false := by simp
      have q2 : (n == n) = true := by simp
      clear hx hu
      obtain ⟨f1, f2⟩ := hf
      have d1 : decide (x < 0) = false := decide_eq_false (by omega)
      go_wp2_with fail
      refine C2.out.mono ?_
      rintro e w2 ⟨rfl, rfl⟩
      go_wp2_with fail
      refine C3.out.mono ?_
      rintro e w2 ⟨rfl, rfl⟩
      go_wp2_with fail
      refine C4.out.mono ?_
      rintro e w2 ⟨rfl, rfl⟩
      go_wp2_with fail
      go_ret
      exact ⟨rfl, bel⟩
    · have e3 : foldN n = -1 := by
        by_cases h : n < -1000000
        · exact foldN_lo h
        · exact foldN_hi h (by omega)
      rw [e3] at C2 C3
      clear e3
      go_wp2_with fail
      refine C2.out.mono ?_
      rintro e w2 ⟨rfl, rfl⟩
      go_wp2_with fail
      refine C3.out.mono ?_
      rintro e w2 ⟨rfl, rfl⟩
      go_wp2_with fail
      go_ret
      exact ⟨rfl, bel⟩

theorem law_FnFoldSmall (w : World) (v : Value) (zs : List Int) (h : U8s w v zs) : Calls Try.prog 4 #[v] w (Yes w) := by
  have hv := h
  obtain ⟨a, cap, rfl, hl, hm, hc, hr⟩ := h
  clear hc hr
  unfold maxLen at hm
  by_cases hbig : 1048576 < zs.length
  · go_enter Try.func4, Try.ntmps4
    go_wp2
    go_ret
    exact ⟨rfl, Below.refl _ _⟩
  · have C1 := Lib.hid (spec_DrawFoldNumber _ zs w hv (by omega))
    clear hv
    go_enter Try.func4, Try.ntmps4
    go_wp2_with fail
    refine C1.out.mono ?_
    rintro e w1 ⟨n, rfl, n0, n1, bel⟩
    have C2 := Lib.hid (impl_FoldNumber n w1 ⟨by omega, by omega⟩)
    have C3 := Lib.hid (spec_FoldNumber n w1 ⟨by omega, by omega⟩)
    by_cases hin : -1000000 ≤ n ∧ n ≤ 1000000
    · have hf := foldP_range hin.1 hin.2
      rw [foldN_in (by omega) (by omega)] at C2 C3
      have hs : foldP n ≤ 2 * n ∨ foldP n ≤ 2 * (-n) := by unfold foldP; split <;> omega
      obtain ⟨x, hx⟩ : ∃ x, foldP n = x := ⟨_, rfl⟩
      rw [hx] at hf hs C2 C3
      have q1 : (x != x) = false := by simp
      clear hx
      obtain ⟨f1, f2⟩ := hf
      have d1 : decide (x < 0) = false := decide_eq_false (by omega)
      have d2 : decide (0 ≤ x) = true := decide_eq_true (by omega)
      rcases Int.lt_or_le n 0 with hp | hp
      · have d3 : decide (x ≤ 2 * -n) = true := decide_eq_true (by omega)
        have d4 : n < -n := by omega
        have Hs := Lib.hid hs
        clear hs
        go_wp2_with fail
        refine C2.out.mono ?_
        rintro e w2 ⟨rfl, rfl⟩
        go_wp2_with fail
        refine C3.out.mono ?_
        rintro e w2 ⟨rfl, rfl⟩
        go_wp2_with fail
        go_ret
        exact ⟨rfl, bel⟩
      · have d3 : decide (x ≤ 2 * n) = true := decide_eq_true (by omega)
        have Hs := Lib.hid hs
        clear hs
        go_wp2_with fail
        refine C2.out.mono ?_
        rintro e w2 ⟨rfl, rfl⟩
        go_wp2_with fail
        refine C3.out.mono ?_
        rintro e w2 ⟨rfl, rfl⟩
        go_wp2_with fail
        go_ret
        exact ⟨rfl, bel⟩
    · have e3 : foldN n = -1 := by
        by_cases h : n < -1000000
        · exact foldN_lo h
        · exact foldN_hi h (by omega)
      rw [e3] at C2 C3
      clear e3
      go_wp2_with fail
      refine C2.out.mono ?_
      rintro e w2 ⟨rfl, rfl⟩
      go_wp2_with fail
      refine C3.out.mono ?_
      rintro e w2 ⟨rfl, rfl⟩
      go_wp2_with fail
      go_ret
      exact ⟨rfl, bel⟩

end Go.Proofs.Ytjpkonbanejnkaa
