/- Chapter 2: the laws that change bytes and look again. -/
import Derived.Test.YtppppgkcgocgaaaK2b
namespace Go.Proofs.Ytppppgkcgocgaaa
open Go.ChangeShapes Go.WideShapes Go.ChangeAt Go.RowKit
set_option linter.unusedVariables false

theorem sum_differs {w1 w4 : World} {g5 cap5 k : Nat} {xs : List Int} {n x y : Int} (hok : okBs xs = true) (hn : sumB xs = n) (hk : k < xs.length) (hx : xs.getD k 0 = x) (x0 : 0 ≤ x) (x1 : x ≤ 255) (y0 : 0 ≤ y) (y1 : y ≤ 255) (hy : y ≠ x)
    (hown : Own (w4.setCell ⟨g5, k, none⟩ (.int .i64 y)) w1.heap.size (.slice (some ⟨g5, 0, none⟩) xs.length cap5) (xs.set k y)) :
    ∃ s : Int, (s != n) = true ∧ Calls Try.prog 24 #[.slice (some ⟨g5, 0, none⟩) xs.length cap5] (w4.setCell ⟨g5, k, none⟩ (.int .i64 y)) fun e w' => e = .returned (.int .i64 s) ∧ (w4.setCell ⟨g5, k, none⟩ (.int .i64 y)) = w' := by
  have hok2 : okBs (xs.set k y) = true := okBs_true fun i hi => by
    rw [List.length_set] at hi
    by_cases e : i = k
    · subst e; simp [List.getD, hi]; omega
    · have := okBs_at hok i hi
      simpa [List.getD, List.getElem?_set_ne (Ne.symm e)] using this
  refine ⟨sumB (xs.set k y), ?_, ?_⟩
  · rw [bne_iff_ne, ← hn]
    exact sumB_byte xs k hk y y0 y1 (by rw [hx]; exact x0) (by rw [hx]; exact x1) (by rw [hx]; exact hy)
  · have := impl_SumOf _ (xs.set k y) _ hown.ints
    rwa [sumV_yes hok2] at this

theorem law_FnSumByte (w : World) (v : Value) (zs : List Int) (h : U8s w v zs) (v2 : Value) (ms : List Int) (h2 : U8s w v2 ms) : Calls Try.prog 8 #[v, v2] w (Yes w) := by
  have hv := h
  obtain ⟨a, cap, rfl, hl, hm, hc, hr⟩ := h
  clear hc hr
  unfold maxLen at hm
  obtain ⟨a2, cap2, rfl, hl2, hm2, hc2, hr2⟩ := h2
  clear hc2 hr2
  unfold maxLen at hm2
  by_cases hbig : 1048576 < zs.length
  · go_enter Try.func8, Try.ntmps8
    go_wp2
    go_ret
    exact ⟨rfl, Below.refl _ _⟩
  have b1 : decide ((1048576 : Int) < (zs.length : Int)) = false := decide_eq_false (by omega)
  by_cases hbig2 : 1048576 < ms.length
  · have b2 : decide ((1048576 : Int) < (ms.length : Int)) = true := decide_eq_true (by omega)
    go_enter Try.func8, Try.ntmps8
    go_wp2
    go_ret
    exact ⟨rfl, Below.refl _ _⟩
  have b2 : decide ((1048576 : Int) < (ms.length : Int)) = false := decide_eq_false (by omega)
  have D1 := Lib.hid (spec_DrawSumOf _ zs w hv (by omega))
  clear hv
  go_enter Try.func8, Try.ntmps8
  go_wp2_with fail
  refine D1.out.mono ?_
  rintro e w1 ⟨u, xs, rfl, ⟨g, off, ucap, rfl⟩, iu, xl, bel⟩
  have C2 := Lib.hid (impl_SumOf _ xs w1 iu)
  have C3 := Lib.hid (spec_SumOf _ xs w1 iu)
  have hmx := iu.sizes.2
  unfold maxLen at hmx
  obtain ⟨hmx1, hmx2⟩ := hmx
  cases hok : okBs xs with
  | false =>
    rw [sumV_no hok] at C2 C3
    clear hok
    go_wp2_with fail
    refine C2.out.mono ?_
    rintro e w2 ⟨rfl, rfl⟩
    go_wp2_with fail
    refine C3.out.mono ?_
    rintro e w2 ⟨rfl, rfl⟩
    go_wp2_with fail
    go_ret
    exact ⟨rfl, bel⟩
  | true =>
    rw [sumV_yes hok] at C2 C3
    have hb := sumB_bound xs
    obtain ⟨n, hn⟩ := hid_eq (sumB xs)
    rw [hn] at C2 C3 hb
    obtain ⟨hb0, hb1⟩ := hb
    have d4 : decide (n < 0) = false := decide_eq_false (by omega)
    have Hn := Lib.hid hn
    have q1 : (n != n) = false := by simp
    have q2 : (n == n) = true := by simp
    have Hok := Lib.hid hok
    clear hok hn
    by_cases hsmall : xs.length < 1
    · have d1 : decide ((xs.length : Int) < 1) = true := decide_eq_true (by omega)
      have d2 : ((xs.length : Int) == 0) = decide (xs.length = 0) := by rw [Bool.eq_iff_iff]; simp
      have d3 : (xs.length == 0) = decide (xs.length = 0) := by rw [Bool.eq_iff_iff]; simp
      go_wp2_with fail
      refine C2.out.mono ?_
      rintro e w2 ⟨rfl, rfl⟩
      go_wp2_with fail
      refine C3.out.mono ?_
      rintro e w2 ⟨rfl, rfl⟩
      obtain rfl : xs = [] := List.eq_nil_of_length_eq_zero (by omega)
      go_wp2_with fail
      go_ret
      exact ⟨rfl, bel⟩
    have d0 : ((xs.length : Int) == 0) = false := by rw [beq_eq_false_iff_ne]; omega
    have d3 : (xs.length == 0) = false := by rw [beq_eq_false_iff_ne]; omega
    obtain ⟨k, hk⟩ := hid_eq (ms.length % xs.length)
    have hklt : k < xs.length := by rw [← hk]; exact Nat.mod_lt _ (by omega)
    have t1 : (ms.length : Int).tmod (xs.length : Int) = (k : Int) := by rw [← hk]; rfl
    have t2 : (ms.length : Int) % (xs.length : Int) = (k : Int) := by rw [← hk]; rfl
    have hx := okBs_at Hok.out k hklt
    obtain ⟨x, ex⟩ := hid_eq (xs.getD k 0)
    rw [ex] at hx
    obtain ⟨x0, x1⟩ := hx
    have Hx := Lib.hid ex
    have i0 : (0 : Int) ≤ (k : Int) := by omega
    have i1 : (k : Int) < (xs.length : Int) := by omega
    clear hk ex
    have hne : ¬ (xs.length : Int) = 0 := by omega
    have own0 : Own (w1.alloc (.cells #[] 3)) w1.heap.size (.slice (some ⟨w1.heap.size, 0, none⟩) 0 0) [] := own_empty w1 _ (Nat.le_refl _)
    have iu2 := iu.below (alloc_below w1 (.cells #[] 3))
    go_wp2_with fail
    refine C2.out.mono ?_
    rintro e w2 ⟨rfl, rfl⟩
    go_wp2_with fail
    refine C3.out.mono ?_
    rintro e w2 ⟨rfl, rfl⟩
    by_cases h255 : x = 255
    · have e5 : (x == 255) = true := by rw [beq_iff_eq]; exact h255
      have hx255 : 255 ≤ x := by omega
      clear h255
      go_wp2_with (
        at_builtin
        refine wp_appI rfl _ _ rfl w1.heap.size (.slice (some ⟨w1.heap.size, 0, none⟩) 0 0) (.slice (some ⟨g, off, none⟩) xs.length ucap) [] xs rfl rfl own0 iu2 (by simp; omega) (by simp) ?_
        intro v4 w4 own4 g4
        have bel4 : Below w.heap.size w w4 := (Bstep bel (alloc_below _ _)).grown g4 (Bstep bel (alloc_below _ _)).size (fun q hq => by have := own0.lt q hq; have := bel.size; omega)
        rw [List.nil_append] at own4
        obtain ⟨g5, cap5, rfl⟩ := own4.form (by omega)
        have hmy := own4.ints.sizes.2
        unfold maxLen at hmy
        obtain ⟨hmy1, hmy2⟩ := hmy
        have hcx := own4.ints.cell k hklt
        rw [Hx.out, Nat.zero_add] at hcx
        have hg5 := own4.lt g5 rfl
        have hsz := bel.size
        obtain ⟨_, hf, hnew, hgr⟩ := own4.store rfl k hklt (254)
        obtain ⟨s, hs, C4⟩ := sum_differs Hok.out Hn.out hklt Hx.out x0 x1 (by omega) (by omega) (by omega) hnew
        have bel5 : Below w.heap.size w (w4.setCell ⟨g5, k, none⟩ (.int .i64 (254))) := bel4.setCell (by simp; omega) _
        have HC4 := Lib.hid C4
        clear C4)
      refine HC4.out.mono ?_
      rintro e w6 ⟨rfl, rfl⟩
      go_wp2_with fail
      go_ret
      exact ⟨rfl, bel5⟩
    · have e5 : (x == 255) = false := by rw [beq_eq_false_iff_ne]; exact h255
      go_wp2_with (
        at_builtin
        refine wp_appI rfl _ _ rfl w1.heap.size (.slice (some ⟨w1.heap.size, 0, none⟩) 0 0) (.slice (some ⟨g, off, none⟩) xs.length ucap) [] xs rfl rfl own0 iu2 (by simp; omega) (by simp) ?_
        intro v4 w4 own4 g4
        have bel4 : Below w.heap.size w w4 := (Bstep bel (alloc_below _ _)).grown g4 (Bstep bel (alloc_below _ _)).size (fun q hq => by have := own0.lt q hq; have := bel.size; omega)
        rw [List.nil_append] at own4
        obtain ⟨g5, cap5, rfl⟩ := own4.form (by omega)
        have hmy := own4.ints.sizes.2
        unfold maxLen at hmy
        obtain ⟨hmy1, hmy2⟩ := hmy
        have hcx := own4.ints.cell k hklt
        rw [Hx.out, Nat.zero_add] at hcx
        have hg5 := own4.lt g5 rfl
        have hsz := bel.size
        obtain ⟨_, hf, hnew, hgr⟩ := own4.store rfl k hklt (x + 1)
        obtain ⟨s, hs, C4⟩ := sum_differs Hok.out Hn.out hklt Hx.out x0 x1 (by omega) (by omega) (by omega) hnew
        have bel5 : Below w.heap.size w (w4.setCell ⟨g5, k, none⟩ (.int .i64 (x + 1))) := bel4.setCell (by simp; omega) _
        have HC4 := Lib.hid C4
        clear C4)
      refine HC4.out.mono ?_
      rintro e w6 ⟨rfl, rfl⟩
      go_wp2_with fail
      go_ret
      exact ⟨rfl, bel5⟩
theorem sum_swapped {w5 : World} {base g5 cap5 k : Nat} {xs : List Int} {n x y : Int} (hok : okBs xs = true) (hn : sumB xs = n) (hk : k + 1 < xs.length) (hx : xs.getD k 0 = x) (hy : xs.getD (k + 1) 0 = y) (x0 : 0 ≤ x) (x1 : x ≤ 255) (y0 : 0 ≤ y) (y1 : y ≤ 255) (hxy : ¬ x = y)
    (hown : Own w5 base (.slice (some ⟨g5, 0, none⟩) xs.length cap5) ((xs.set k y).set (k + 1) x)) :
    ∃ s : Int, (s != n) = true ∧ Calls Try.prog 24 #[.slice (some ⟨g5, 0, none⟩) xs.length cap5] w5 fun e w' => e = .returned (.int .i64 s) ∧ w5 = w' := by
  have hok2 : okBs ((xs.set k y).set (k + 1) x) = true := okBs_true fun i hi => by
    rw [List.length_set, List.length_set] at hi
    by_cases e : i = k + 1
    · subst e; simp [List.getD, hi]; omega
    · by_cases e2 : i = k
      · subst e2; simp [List.getD, hi]; omega
      · have := okBs_at hok i hi
        simpa [List.getD, List.getElem?_set_ne (Ne.symm e), List.getElem?_set_ne (Ne.symm e2)] using this
  refine ⟨sumB ((xs.set k y).set (k + 1) x), ?_, ?_⟩
  · rw [bne_iff_ne, ← hn]
    exact sumB_swap xs k hk x y hx hy x0 x1 y0 y1 hxy
  · have := impl_SumOf _ ((xs.set k y).set (k + 1) x) _ hown.ints
    rwa [sumV_yes hok2] at this

theorem law_FnSumSwap (w : World) (v : Value) (zs : List Int) (h : U8s w v zs) (v2 : Value) (ms : List Int) (h2 : U8s w v2 ms) : Calls Try.prog 9 #[v, v2] w (Yes w) := by
  have hv := h
  obtain ⟨a, cap, rfl, hl, hm, hc, hr⟩ := h
  clear hc hr
  unfold maxLen at hm
  obtain ⟨a2, cap2, rfl, hl2, hm2, hc2, hr2⟩ := h2
  clear hc2 hr2
  unfold maxLen at hm2
  by_cases hbig : 1048576 < zs.length
  · go_enter Try.func9, Try.ntmps9
    go_wp2
    go_ret
    exact ⟨rfl, Below.refl _ _⟩
  have b1 : decide ((1048576 : Int) < (zs.length : Int)) = false := decide_eq_false (by omega)
  by_cases hbig2 : 1048576 < ms.length
  · have b2 : decide ((1048576 : Int) < (ms.length : Int)) = true := decide_eq_true (by omega)
    go_enter Try.func9, Try.ntmps9
    go_wp2
    go_ret
    exact ⟨rfl, Below.refl _ _⟩
  have b2 : decide ((1048576 : Int) < (ms.length : Int)) = false := decide_eq_false (by omega)
  have D1 := Lib.hid (spec_DrawSumOf _ zs w hv (by omega))
  clear hv
  go_enter Try.func9, Try.ntmps9
  go_wp2_with fail
  refine D1.out.mono ?_
  rintro e w1 ⟨u, xs, rfl, ⟨g, off, ucap, rfl⟩, iu, xl, bel⟩
  have C2 := Lib.hid (impl_SumOf _ xs w1 iu)
  have C3 := Lib.hid (spec_SumOf _ xs w1 iu)
  have hmx := iu.sizes.2
  unfold maxLen at hmx
  obtain ⟨hmx1, hmx2⟩ := hmx
  cases hok : okBs xs with
  | false =>
    rw [sumV_no hok] at C2 C3
    clear hok
    go_wp2_with fail
    refine C2.out.mono ?_
    rintro e w2 ⟨rfl, rfl⟩
    go_wp2_with fail
    refine C3.out.mono ?_
    rintro e w2 ⟨rfl, rfl⟩
    go_wp2_with fail
    go_ret
    exact ⟨rfl, bel⟩
  | true =>
    rw [sumV_yes hok] at C2 C3
    have hb := sumB_bound xs
    obtain ⟨n, hn⟩ := hid_eq (sumB xs)
    rw [hn] at C2 C3 hb
    obtain ⟨hb0, hb1⟩ := hb
    have d4 : decide (n < 0) = false := decide_eq_false (by omega)
    have Hn := Lib.hid hn
    have q1 : (n != n) = false := by simp
    have q2 : (n == n) = true := by simp
    have Hok := Lib.hid hok
    clear hok hn
    by_cases hsmall : xs.length < 2
    · have d1 : decide ((xs.length : Int) < 2) = true := decide_eq_true (by omega)
      go_wp2_with fail
      refine C2.out.mono ?_
      rintro e w2 ⟨rfl, rfl⟩
      go_wp2_with fail
      refine C3.out.mono ?_
      rintro e w2 ⟨rfl, rfl⟩
      go_wp2_with fail
      go_ret
      exact ⟨rfl, bel⟩
    have d0 : decide ((xs.length : Int) < 2) = false := decide_eq_false (by omega)
    obtain ⟨k, hk⟩ := hid_eq (ms.length % (xs.length - 1))
    have hklt : k + 1 < xs.length := by
      have := Nat.mod_lt ms.length (show 0 < xs.length - 1 by omega)
      omega
    have t0 : (xs.length : Int) - 1 = ((xs.length - 1 : Nat) : Int) := by omega
    have t1 : (ms.length : Int).tmod ((xs.length : Int) - 1) = (k : Int) := by rw [t0, ← hk]; rfl
    have t2 : (ms.length : Int) % ((xs.length : Int) - 1) = (k : Int) := by rw [t0, ← hk]; rfl
    have hx := okBs_at Hok.out k (by omega)
    have hy := okBs_at Hok.out (k + 1) hklt
    have cx := iu.cell k (by omega)
    have cy := iu.cell (k + 1) hklt
    obtain ⟨x, ex⟩ := hid_eq (xs.getD k 0)
    obtain ⟨y, ey⟩ := hid_eq (xs.getD (k + 1) 0)
    rw [ex] at hx cx
    rw [ey] at hy cy
    obtain ⟨x0, x1⟩ := hx
    obtain ⟨y0, y1⟩ := hy
    have Hx := Lib.hid ex
    have Hy := Lib.hid ey
    have i0 : (0 : Int) ≤ (k : Int) := by omega
    have i1 : (k : Int) < (xs.length : Int) := by omega
    have i2 : (k : Int) + 1 < (xs.length : Int) := by omega
    have i3 : (0 : Int) ≤ (k : Int) + 1 := by omega
    have s1 : IntKind.i64.wrap ((k : Int) + 1) = (k : Int) + 1 := IntWalk.i64_in _ ⟨by omega, by omega⟩
    have n1 : ((k : Int) + 1).toNat = k + 1 := by omega
    have hne : ¬ (xs.length : Int) - 1 = 0 := by omega
    clear hk ex ey t0
    go_wp2_with fail
    refine C2.out.mono ?_
    rintro e w2 ⟨rfl, rfl⟩
    go_wp2_with fail
    refine C3.out.mono ?_
    rintro e w2 ⟨rfl, rfl⟩
    by_cases hxy : x = y
    · have e5 : (x == y) = true := by rw [beq_iff_eq]; exact hxy
      clear hxy
      go_wp2_with fail
      go_quiet (fail)
      go_wp2_with fail
      go_ret
      exact ⟨rfl, below_drewN bel _⟩
    · have e5 : (x == y) = false := by rw [beq_eq_false_iff_ne]; exact hxy
      go_wp2_with fail
      go_quiet (fail)
      obtain ⟨wa, hwa⟩ := hid_eq (w1.drewN nq)
      have iua : Ints wa (.slice (some ⟨g, off, none⟩) xs.length ucap) xs := by rw [← hwa]; exact iu
      have bela : Below w.heap.size w wa := by rw [← hwa]; exact below_drewN bel nq
      rw [hwa]
      clear hwa
      have own0 : Own (wa.alloc (.cells #[] 3)) wa.heap.size (.slice (some ⟨wa.heap.size, 0, none⟩) 0 0) [] := own_empty wa _ (Nat.le_refl _)
      have iu2 := iua.below (alloc_below wa (.cells #[] 3))
      clear s1 n1
      go_wp2_with (
        at_builtin
        refine wp_appI rfl _ _ rfl wa.heap.size (.slice (some ⟨wa.heap.size, 0, none⟩) 0 0) (.slice (some ⟨g, off, none⟩) xs.length ucap) [] xs rfl rfl own0 iu2 (by simp; omega) (by simp) ?_
        intro v4 w4 own4 g4
        have bel4 : Below w.heap.size w w4 := (Bstep bela (alloc_below _ _)).grown g4 (Bstep bela (alloc_below _ _)).size (fun q hq => by have := own0.lt q hq; have := bela.size; omega)
        have iu4 : Ints w4 (.slice (some ⟨g, off, none⟩) xs.length ucap) xs := iu2.grown g4 (fun q hq => by
          have h1 := own0.lt q hq
          have h2 := (iua.lt (by omega)) g rfl
          intro e3
          simp only [Value.ownBlock, Option.some.injEq] at e3
          omega)
        rw [List.nil_append] at own4
        obtain ⟨g5, cap5, rfl⟩ := own4.form (by omega)
        have hmy := own4.ints.sizes.2
        unfold maxLen at hmy
        obtain ⟨hmy1, hmy2⟩ := hmy
        have hg5 := own4.lt g5 rfl
        have hgne : g ≠ g5 := by
          have h2 := (iua.lt (by omega)) g rfl
          omega
        have hsz := bela.size
        have cy4 := iu4.cell (k + 1) hklt
        rw [Hy.out] at cy4
        obtain ⟨⟨old, hold⟩, hf, hnew, hgr⟩ := own4.store rfl k (by omega) y
        have iu5 := iu4.grown hgr (fun q hq => by
          simp only [Option.some.injEq] at hq
          subst hq
          intro e3
          simp only [Value.ownBlock, Option.some.injEq] at e3
          exact hgne e3)
        have cx5 := iu5.cell k (by omega)
        rw [Hx.out] at cx5
        have hL2 : xs.length = (xs.set k y).length := by rw [List.length_set]
        obtain ⟨⟨old2, hold2⟩, hf2, hnew2, hgr2⟩ := hnew.store hL2 (k + 1) hklt x
        have bel5 : Below w.heap.size w ((w4.setCell ⟨g5, k, none⟩ (.int .i64 y)).setCell ⟨g5, k + 1, none⟩ (.int .i64 x)) := (bel4.setCell (by simp; omega) _).setCell (by simp; omega) _
        obtain ⟨s, hs, C4⟩ := sum_swapped Hok.out Hn.out hklt Hx.out Hy.out x0 x1 y0 y1 hxy hnew2
        have HC4 := Lib.hid C4
        clear C4 hL2)
      refine HC4.out.mono ?_
      rintro e w6 ⟨rfl, rfl⟩
      go_wp2_with fail
      go_ret
      exact ⟨rfl, bel5⟩
end Go.Proofs.Ytppppgkcgocgaaa
