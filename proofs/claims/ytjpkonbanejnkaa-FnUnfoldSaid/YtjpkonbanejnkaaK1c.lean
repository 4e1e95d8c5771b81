/- Chapter 1: more of the laws that draw a number. -/
import Derived.Test.YtjpkonbanejnkaaK1b
namespace Go.Proofs.Ytjpkonbanejnkaa
open Go.ChangeShapes Go.WideShapes Go.ChangeAt Go.RowKit
set_option linter.unusedVariables false

theorem law_FnUnfold (w : World) (v : Value) (zs : List Int) (h : U8s w v zs) : Calls Try.prog 5 #[v] w (Yes w) := by
  have hv := h
  obtain ⟨a, cap, rfl, hl, hm, hc, hr⟩ := h
  clear hc hr
  unfold maxLen at hm
  by_cases hbig : 1048576 < zs.length
  · go_enter Try.func5, Try.ntmps5
    go_wp2
    go_ret
    exact ⟨rfl, Below.refl _ _⟩
  · have C1 := Lib.hid (spec_DrawUnfoldNumber _ zs w hv (by omega))
    clear hv
    go_enter Try.func5, Try.ntmps5
    go_wp2_with fail
    refine C1.out.mono ?_
    rintro e w1 ⟨n, rfl, n0, n1, bel⟩
    have C2 := Lib.hid (impl_UnfoldNumber n w1 ⟨by omega, by omega⟩)
    have C3 := Lib.hid (spec_UnfoldNumber n w1 ⟨by omega, by omega⟩)
    by_cases hin : 0 ≤ n ∧ n ≤ 2000000
    · have hu := unfoldP_range hin.1 hin.2
      have hf := foldP_unfoldP n hin.1
      rw [unfoldN_in (by omega) (by omega)] at C2 C3
      obtain ⟨x, hx⟩ : ∃ x, unfoldP n = x := ⟨_, rfl⟩
      rw [hx] at hu hf C2 C3
      have C4 := Lib.hid (impl_FoldNumber x w1 ⟨by omega, by omega⟩)
      rw [foldN_in (by omega) (by omega), hf] at C4
      have q1 : (x != x) = false := by simp
      have q2 : (n == n) = true := by simp
      clear hx hf
      obtain ⟨i1, i2⟩ := hin
      have d1 : decide (n < 0) = false := decide_eq_false (by omega)
      have d2 : decide (2000000 < n) = false := decide_eq_false (by omega)
      go_wp2_with fail
      refine C2.out.mono ?_
      rintro e w2 ⟨rfl, rfl⟩
      go_wp2_with fail
      refine C3.out.mono ?_
      rintro e w2 ⟨rfl, rfl⟩
      go_wp2_with fail
      refine C4.out.mono ?_
      rintro e w2 ⟨rfl, rfl⟩
      go_wp2_with fail
      go_ret
      exact ⟨rfl, bel⟩
    · have e3 : unfoldN n = 0 := by
        by_cases h : n < 0
        · exact unfoldN_lo h
        · exact unfoldN_hi h (by omega)
      rw [e3] at C2 C3
      clear e3
      by_cases hneg : n < 0
      · go_wp2_with fail
        refine C2.out.mono ?_
        rintro e w2 ⟨rfl, rfl⟩
        go_wp2_with fail
        refine C3.out.mono ?_
        rintro e w2 ⟨rfl, rfl⟩
        go_wp2_with fail
        go_ret
        exact ⟨rfl, bel⟩
      · have d1 : decide (n < 0) = false := decide_eq_false hneg
        have d2 : decide (2000000 < n) = true := decide_eq_true (by omega)
        go_wp2_with fail
        refine C2.out.mono ?_
        rintro e w2 ⟨rfl, rfl⟩
        go_wp2_with fail
        refine C3.out.mono ?_
        rintro e w2 ⟨rfl, rfl⟩
        go_wp2_with fail
        go_ret
        exact ⟨rfl, bel⟩

theorem law_FnVar (w : World) (v : Value) (zs : List Int) (h : U8s w v zs) : Calls Try.prog 6 #[v] w (Yes w) := by
  have hv := h
  obtain ⟨a, cap, rfl, hl, hm, hc, hr⟩ := h
  clear hc hr
  unfold maxLen at hm
  by_cases hbig : 1048576 < zs.length
  · go_enter Try.func6, Try.ntmps6
    go_wp2
    go_ret
    exact ⟨rfl, Below.refl _ _⟩
  · have C1 := Lib.hid (spec_DrawVarBytes _ zs w hv (by omega))
    clear hv
    go_enter Try.func6, Try.ntmps6
    go_wp2_with fail
    refine C1.out.mono ?_
    rintro e w1 ⟨n, rfl, n0, n1, bel⟩
    have C2 : Hid (∀ w, Calls Try.prog 24 #[.int .i64 n] w (NewInts w (varB n) (inV n))) := fun w => impl_VarBytes n w ⟨by omega, by omega⟩
    have C3 : Hid (∀ w, Calls Try.prog 25 #[.int .i64 n] w (NewInts w (varB n) (inV n))) := fun w => spec_VarBytes n w ⟨by omega, by omega⟩
    have he := beq_self (varB n)
    by_cases hin : -1000000 ≤ n ∧ n ≤ 1000000
    · obtain ⟨i1, i2⟩ := hin
      have hi : inV n = true := by unfold inV; simp; omega
      have hr := rdV_varB i1 i2
      have hl := varB_len n
      have q2 : (n == n) = true := by simp
      obtain ⟨xs, hx⟩ : ∃ xs, varB n = xs := ⟨_, rfl⟩
      rw [hi, hx] at C2 C3
      rw [hx] at he hr hl
      clear hi hx
      go_wp2_with fail
      refine (C2.out _).mono ?_
      rintro e w2 ⟨v1, rfl, own1, bel1⟩
      go_wp2_with fail
      refine (C3.out _).mono ?_
      rintro e w3 ⟨v2, rfl, own2, bel2⟩
      go_wp2_with fail
      refine (laws_sameInts v1 v2 xs xs w3 (own1.ints.below bel2) own2.ints).mono ?_
      rintro e w4 ⟨rfl, bel3⟩
      have B3 := Bstep (Bstep (Bstep bel bel1) bel2) bel3
      have C4 := Lib.hid (impl_VarFrom v1 xs 0 w4 ((own1.ints.below bel2).below bel3) ⟨by omega, by omega⟩)
      rw [hr] at C4
      clear hr
      obtain ⟨a1, cap1, rfl, hi1⟩ := own1.ints
      have q3 : ((xs.length : Int) == (xs.length : Int)) = true := by simp
      go_wp2_with fail
      refine C4.out.mono ?_
      rintro e w5 ⟨rfl, rfl⟩
      go_wp2_with fail
      go_ret
      exact ⟨rfl, B3⟩
    · have hi : inV n = false := by unfold inV; simp; omega
      have hx : varB n = [] := by
        by_cases h : n < -1000000
        · exact varB_lo h
        · exact varB_hi h (by omega)
      rw [hi, hx] at C2 C3
      rw [hx] at he
      clear hi hx
      go_wp2_with fail
      refine (C2.out _).mono ?_
      rintro e w2 ⟨v1, rfl, own1, bel1⟩
      go_wp2_with fail
      refine (C3.out _).mono ?_
      rintro e w3 ⟨v2, rfl, own2, bel2⟩
      go_wp2_with fail
      refine (laws_sameInts v1 v2 [] [] w3 (own1.ints.below bel2) own2.ints).mono ?_
      rintro e w4 ⟨rfl, bel3⟩
      go_wp2_with fail
      refine (laws_sameInts v1 v2 [] [] w4 ((own1.ints.below bel2).below bel3) (own2.ints.below bel3)).mono ?_
      rintro e w5 ⟨rfl, bel4⟩
      go_wp2_with fail
      go_ret
      exact ⟨rfl, Bstep (Bstep (Bstep (Bstep bel bel1) bel2) bel3) bel4⟩

theorem law_FnVarShape (w : World) (v : Value) (zs : List Int) (h : U8s w v zs) : Calls Try.prog 7 #[v] w (Yes w) := by
  have hv := h
  obtain ⟨a, cap, rfl, hl, hm, hc, hr⟩ := h
  clear hc hr
  unfold maxLen at hm
  by_cases hbig : 1048576 < zs.length
  · go_enter Try.func7, Try.ntmps7
    go_wp2
    go_ret
    exact ⟨rfl, Below.refl _ _⟩
  · have C1 := Lib.hid (spec_DrawVarBytes _ zs w hv (by omega))
    clear hv
    go_enter Try.func7, Try.ntmps7
    go_wp2_with fail
    refine C1.out.mono ?_
    rintro e w1 ⟨n, rfl, n0, n1, bel⟩
    have C2 : Hid (∀ w, Calls Try.prog 24 #[.int .i64 n] w (NewInts w (varB n) (inV n))) := fun w => impl_VarBytes n w ⟨by omega, by omega⟩
    have C3 : Hid (∀ w, Calls Try.prog 25 #[.int .i64 n] w (NewInts w (varB n) (inV n))) := fun w => spec_VarBytes n w ⟨by omega, by omega⟩
    have he := beq_self (varB n)
    by_cases hin : -1000000 ≤ n ∧ n ≤ 1000000
    · obtain ⟨i1, i2⟩ := hin
      have hi : inV n = true := by unfold inV; simp; omega
      have hs : ∀ i, i < (varB n).length → decide (128 ≤ (varB n).getD i 0) = decide (i + 1 < (varB n).length) := by
        rw [varB_in (by omega) (by omega)]
        have hf := foldP_range i1 i2
        exact varF_shape _ hf.1 hf.2
      have hl := varB_len n
      have hl1 : 1 ≤ (varB n).length := by rw [varB_in (by omega) (by omega)]; exact (varF_len 2 _).2
      obtain ⟨xs, hx⟩ : ∃ xs, varB n = xs := ⟨_, rfl⟩
      rw [hi, hx] at C2 C3
      rw [hx] at he hs hl hl1
      clear hi hx
      go_wp2_with fail
      refine (C2.out _).mono ?_
      rintro e w2 ⟨v1, rfl, own1, bel1⟩
      go_wp2_with fail
      refine (C3.out _).mono ?_
      rintro e w3 ⟨v2, rfl, own2, bel2⟩
      go_wp2_with fail
      refine (laws_sameInts v1 v2 xs xs w3 (own1.ints.below bel2) own2.ints).mono ?_
      rintro e w4 ⟨rfl, bel3⟩
      have B3 := Bstep (Bstep (Bstep bel bel1) bel2) bel3
      have Hs := Lib.hid hs
      clear hs
      have hint := (own1.ints.below bel2).below bel3
      obtain ⟨a1, cap1, rfl, hl2, hm2, hc⟩ := hint
      have hc' := Lib.hid hc
      clear hc
      go_wp2_with fail
      go_loop [8] (fun i => ∃ k : Nat, k ≤ xs.length ∧ i = .int .i64 k) (fun i => xs.length - (intOf i).toNat)
      case atStart => exact ⟨0, Nat.zero_le _, rfl⟩
      case round =>
        obtain ⟨k, hk, rfl⟩ := hrel
        by_cases hlt : k < xs.length
        · obtain ⟨b, off, rfl, hcell⟩ := hc'.out (by omega)
          have hx := hcell k hlt
          clear hcell
          have hsk := Hs.out k hlt
          obtain ⟨x, ex⟩ : ∃ x, xs.getD k 0 = x := ⟨_, rfl⟩
          rw [ex] at hx hsk
          clear ex
          by_cases hlast : k + 1 < xs.length
          · have d1 : decide (128 ≤ x) = true := by rw [hsk]; exact decide_eq_true hlast
            have d2 : decide ((k : Int) + 1 < (xs.length : Int)) = true := decide_eq_true (by omega)
            clear hsk
            go_wp2_with fail
            go_round
            case rel => exact ⟨k + 1, by omega, by go_num⟩
            case measure => simp [intOf]; omega
          · have d1 : decide (128 ≤ x) = false := by rw [hsk]; exact decide_eq_false hlast
            have d2 : decide ((k : Int) + 1 < (xs.length : Int)) = false := decide_eq_false (by omega)
            clear hsk
            go_wp2_with fail
            go_round
            case rel => exact ⟨k + 1, by omega, by go_num⟩
            case measure => simp [intOf]; omega
        · have d3 : decide ((xs.length : Int) ≤ 3) = true := decide_eq_true (by omega)
          have d4 : decide ((1 : Int) ≤ (xs.length : Int)) = true := decide_eq_true (by omega)
          have d5 : (1 : Int) ≤ (xs.length : Int) := by omega
          go_wp2_with fail
          go_ret
          exact ⟨rfl, B3⟩
    · have hi : inV n = false := by unfold inV; simp; omega
      have hx : varB n = [] := by
        by_cases h : n < -1000000
        · exact varB_lo h
        · exact varB_hi h (by omega)
      rw [hi, hx] at C2 C3
      rw [hx] at he
      clear hi hx
      go_wp2_with fail
      refine (C2.out _).mono ?_
      rintro e w2 ⟨v1, rfl, own1, bel1⟩
      go_wp2_with fail
      refine (C3.out _).mono ?_
      rintro e w3 ⟨v2, rfl, own2, bel2⟩
      go_wp2_with fail
      refine (laws_sameInts v1 v2 [] [] w3 (own1.ints.below bel2) own2.ints).mono ?_
      rintro e w4 ⟨rfl, bel3⟩
      go_wp2_with fail
      refine (laws_sameInts v1 v2 [] [] w4 ((own1.ints.below bel2).below bel3) (own2.ints.below bel3)).mono ?_
      rintro e w5 ⟨rfl, bel4⟩
      go_wp2_with fail
      go_ret
      exact ⟨rfl, Bstep (Bstep (Bstep (Bstep bel bel1) bel2) bel3) bel4⟩

theorem law_FnVarSign (w : World) (v : Value) (zs : List Int) (h : U8s w v zs) : Calls Try.prog 11 #[v] w (Yes w) := by
  have hv := h
  obtain ⟨a, cap, rfl, hl, hm, hc, hr⟩ := h
  clear hc hr
  unfold maxLen at hm
  by_cases hbig : 1048576 < zs.length
  · go_enter Try.func11, Try.ntmps11
    go_wp2
    go_ret
    exact ⟨rfl, Below.refl _ _⟩
  · have C1 := Lib.hid (spec_DrawVarBytes _ zs w hv (by omega))
    clear hv
    go_enter Try.func11, Try.ntmps11
    go_wp2_with fail
    refine C1.out.mono ?_
    rintro e w1 ⟨n, rfl, n0, n1, bel⟩
    have C2 : Hid (∀ w, Calls Try.prog 24 #[.int .i64 n] w (NewInts w (varB n) (inV n))) := fun w => impl_VarBytes n w ⟨by omega, by omega⟩
    have C3 : Hid (∀ w, Calls Try.prog 25 #[.int .i64 n] w (NewInts w (varB n) (inV n))) := fun w => spec_VarBytes n w ⟨by omega, by omega⟩
    have he := beq_self (varB n)
    by_cases hin : -1000000 ≤ n ∧ n ≤ 1000000
    · obtain ⟨i1, i2⟩ := hin
      have hi : inV n = true := by unfold inV; simp; omega
      by_cases hz : n = 0
      · subst hz
        have e1 : varB 0 = [0] := rfl
        rw [hi, e1] at C2 C3
        rw [e1] at he
        clear hi
        go_wp2_with fail
        refine (C2.out _).mono ?_
        rintro e w2 ⟨v1, rfl, own1, bel1⟩
        go_wp2_with fail
        refine (C3.out _).mono ?_
        rintro e w3 ⟨v2, rfl, own2, bel2⟩
        go_wp2_with fail
        refine (laws_sameInts v1 v2 [0] [0] w3 (own1.ints.below bel2) own2.ints).mono ?_
        rintro e w4 ⟨rfl, bel3⟩
        go_wp2_with fail
        refine (laws_sameInts v1 v2 [0] [0] w4 ((own1.ints.below bel2).below bel3) (own2.ints.below bel3)).mono ?_
        rintro e w5 ⟨rfl, bel4⟩
        go_wp2_with fail
        go_ret
        exact ⟨rfl, Bstep (Bstep (Bstep (Bstep bel bel1) bel2) bel3) bel4⟩
      have C4 : Hid (∀ w, Calls Try.prog 24 #[.int .i64 (-n)] w (NewInts w (varB (-n)) (inV (-n)))) := fun w => impl_VarBytes (-n) w ⟨by omega, by omega⟩
      have hi2 : inV (-n) = true := by unfold inV; simp; omega
      have hq := varB_sign n i1 i2 hz
      have z1 : (n == 0) = false := by rw [beq_eq_false_iff_ne]; exact hz
      rw [hi2] at C4
      clear hi2 hz
      obtain ⟨ys, hy⟩ : ∃ ys, varB (-n) = ys := ⟨_, rfl⟩
      rw [hy] at C4 hq
      clear hy
      obtain ⟨xs, hx⟩ : ∃ xs, varB n = xs := ⟨_, rfl⟩
      rw [hi, hx] at C2 C3
      rw [hx] at he hq
      clear hi hx
      go_wp2_with fail
      refine (C2.out _).mono ?_
      rintro e w2 ⟨v1, rfl, own1, bel1⟩
      go_wp2_with fail
      refine (C3.out _).mono ?_
      rintro e w3 ⟨v2, rfl, own2, bel2⟩
      go_wp2_with fail
      refine (laws_sameInts v1 v2 xs xs w3 (own1.ints.below bel2) own2.ints).mono ?_
      rintro e w4 ⟨rfl, bel3⟩
      have B3 := Bstep (Bstep (Bstep bel bel1) bel2) bel3
      go_wp2_with fail
      refine (C4.out _).mono ?_
      rintro e w5 ⟨v3, rfl, own3, bel4⟩
      go_wp2_with fail
      refine (laws_sameInts v3 v1 ys xs w5 own3.ints (((own1.ints.below bel2).below bel3).below bel4)).mono ?_
      rintro e w6 ⟨rfl, bel5⟩
      go_wp2_with fail
      go_ret
      exact ⟨rfl, Bstep (Bstep B3 bel4) bel5⟩
    · have hi : inV n = false := by unfold inV; simp; omega
      have hx : varB n = [] := by
        by_cases h : n < -1000000
        · exact varB_lo h
        · exact varB_hi h (by omega)
      rw [hi, hx] at C2 C3
      rw [hx] at he
      clear hi hx
      go_wp2_with fail
      refine (C2.out _).mono ?_
      rintro e w2 ⟨v1, rfl, own1, bel1⟩
      go_wp2_with fail
      refine (C3.out _).mono ?_
      rintro e w3 ⟨v2, rfl, own2, bel2⟩
      go_wp2_with fail
      refine (laws_sameInts v1 v2 [] [] w3 (own1.ints.below bel2) own2.ints).mono ?_
      rintro e w4 ⟨rfl, bel3⟩
      go_wp2_with fail
      refine (laws_sameInts v1 v2 [] [] w4 ((own1.ints.below bel2).below bel3) (own2.ints.below bel3)).mono ?_
      rintro e w5 ⟨rfl, bel4⟩
      go_wp2_with fail
      go_ret
      exact ⟨rfl, Bstep (Bstep (Bstep (Bstep bel bel1) bel2) bel3) bel4⟩

theorem law_FnVarSize (w : World) (v : Value) (zs : List Int) (h : U8s w v zs) : Calls Try.prog 10 #[v] w (Yes w) := by
  have hv := h
  obtain ⟨a, cap, rfl, hl, hm, hc, hr⟩ := h
  clear hc hr
  unfold maxLen at hm
  by_cases hbig : 1048576 < zs.length
  · go_enter Try.func10, Try.ntmps10
    go_wp2
    go_ret
    exact ⟨rfl, Below.refl _ _⟩
  · have C1 := Lib.hid (spec_DrawVarSize _ zs w hv (by omega))
    clear hv
    go_enter Try.func10, Try.ntmps10
    go_wp2_with fail
    refine C1.out.mono ?_
    rintro e w1 ⟨n, rfl, n0, n1, bel⟩
    have C2 : Hid (∀ w, Calls Try.prog 31 #[.int .i64 n] w fun e w' => e = .returned (.int .i64 (varS n)) ∧ Below w.heap.size w w') := fun w => impl_VarSize n w ⟨by omega, by omega⟩
    have C3 : Hid (∀ w, Calls Try.prog 32 #[.int .i64 n] w fun e w' => e = .returned (.int .i64 (varS n)) ∧ Below w.heap.size w w') := fun w => spec_VarSize n w ⟨by omega, by omega⟩
    by_cases hin : -1000000 ≤ n ∧ n ≤ 1000000
    · obtain ⟨i1, i2⟩ := hin
      have hi : inV n = true := by unfold inV; simp; omega
      have hnear := varS_near n i1 i2
      have C4 : Hid (∀ w, Calls Try.prog 24 #[.int .i64 n] w (NewInts w (varB n) (inV n))) := fun w => impl_VarBytes n w ⟨by omega, by omega⟩
      have C5 : Hid (∀ w, Calls Try.prog 31 #[.int .i64 (-n)] w fun e w' => e = .returned (.int .i64 (varS (-n))) ∧ Below w.heap.size w w') := fun w => impl_VarSize (-n) w ⟨by omega, by omega⟩
      have hl := varB_len n
      rw [hi] at C4
      rw [varS_yes hi] at C2 C3 hnear
      clear hi
      obtain ⟨xs, hx⟩ : ∃ xs, varB n = xs := ⟨_, rfl⟩
      obtain ⟨m, hm2⟩ : ∃ m, varS (-n) = m := ⟨_, rfl⟩
      rw [hx] at C2 C3 C4 hl hnear
      rw [hm2] at C5 hnear
      clear hx hm2
      obtain ⟨n2, n3⟩ := hnear
      have q1 : ((xs.length : Int) != (xs.length : Int)) = false := by simp
      have q2 : ((xs.length : Int) == (xs.length : Int)) = true := by simp
      have d1 : decide ((xs.length : Int) < 0) = false := decide_eq_false (by omega)
      have d2 : decide ((xs.length : Int) - 1 ≤ m) = true := decide_eq_true (by omega)
      have d3 : decide (m ≤ (xs.length : Int) + 1) = true := decide_eq_true (by omega)
      go_wp2_with fail
      refine (C2.out _).mono ?_
      rintro e w2 ⟨rfl, bel1⟩
      go_wp2_with fail
      refine (C3.out _).mono ?_
      rintro e w3 ⟨rfl, bel2⟩
      go_wp2_with fail
      refine (C4.out _).mono ?_
      rintro e w4 ⟨v1, rfl, own1, bel3⟩
      obtain ⟨a1, cap1, rfl, hi1⟩ := own1.ints
      go_wp2_with fail
      refine (C5.out _).mono ?_
      rintro e w5 ⟨rfl, bel4⟩
      go_wp2_with fail
      go_ret
      exact ⟨rfl, Bstep (Bstep (Bstep (Bstep bel bel1) bel2) bel3) bel4⟩
    · have hi : inV n = false := by unfold inV; simp; omega
      rw [varS_no hi] at C2 C3
      clear hi
      go_wp2_with fail
      refine (C2.out _).mono ?_
      rintro e w2 ⟨rfl, bel1⟩
      go_wp2_with fail
      refine (C3.out _).mono ?_
      rintro e w3 ⟨rfl, bel2⟩
      go_wp2_with fail
      go_ret
      exact ⟨rfl, Bstep (Bstep bel bel1) bel2⟩

end Go.Proofs.Ytjpkonbanejnkaa
