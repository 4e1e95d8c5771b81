/- Chapter 4: bytes that come twice, and bytes that are the same. -/
import Derived.Test.YtkdikdkeaomobaaK4d
namespace Go.Proofs.Ytkdikdkeaomobaa
open Go.ChangeShapes Go.WideShapes Go.ChangeAt Go.RowKit
set_option linter.unusedVariables false

theorem pck_two {xs : List Int} (h : pckB xs = true) (h3 : 3 ≤ xs.length) (h66 : xs.length ≤ 66) : pckB (xs ++ xs) = true ∧ (pckL (xs ++ xs)).length ≤ (pckL xs).length + 6 := by
  obtain ⟨h1, h2⟩ := pckB_iff.1 h
  have h4 : pckB (xs ++ xs) = true := pckB_iff.2 ⟨okB_append.2 ⟨h1, h1⟩, by rw [List.length_append]; omega⟩
  have e : pckL xs = packP xs := by unfold pckL; rw [h]; rfl
  have e2 : pckL (xs ++ xs) = packP (xs ++ xs) := by unfold pckL; rw [h4]; rfl
  rw [e, e2]
  exact ⟨h4, packP_twice h66 h3⟩
set_option maxHeartbeats 1000000 in
theorem law_FnPackTwice (w : World) (v : Value) (zs : List Int) (h : U8s w v zs) : Calls Try.prog 6 #[v] w (Yes w) := by
  have hU := h
  obtain ⟨a, cap, rfl, hl, hm, hc, hr⟩ := hU
  unfold maxLen at hm
  clear hc hr
  by_cases hlen : 1048576 < zs.length
  · go_enter Try.func6, Try.ntmps6
    go_wp2
    go_ret
    exact ⟨rfl, Below.refl _ _⟩
  · have C0 := Lib.hid (spec_DrawPackBytes _ zs w h (by omega))
    clear h
    go_enter Try.func6, Try.ntmps6
    go_wp2_with fail
    refine C0.out.mono ?_
    rintro e w1 ⟨u, form, rfl, hi, hfl, hge, B1⟩
    have hxl := pckL_len' form
    have C1 : Hid (∀ v w, Ints w v form → Calls Try.prog 15 #[v] w (NewInts w (pckL form) (pckB form))) := fun v w h => spec_PackBytes v form w h (by omega)
    have C2 : Hid (∀ v w, Ints w v form → Calls Try.prog 14 #[v] w (NewInts w (pckL form) (pckB form))) := fun v w h => impl_PackBytes v form w h (by omega)
    have hfacts : pckB form = true → 3 ≤ form.length → form.length ≤ 66 → (pckL (form ++ form)).length ≤ (pckL form).length + 6 ∧ ∀ v w, Ints w v (form ++ form) → Calls Try.prog 14 #[v] w (NewInts w (pckL (form ++ form)) true) := fun h1 h2 h6 => by
      refine ⟨(pck_two h1 h2 h6).2, fun v w h => ?_⟩
      have h3 := impl_PackBytes v (form ++ form) w h (by rw [List.length_append]; omega)
      rw [(pck_two h1 h2 h6).1] at h3
      exact h3
    obtain ⟨b, hb⟩ : ∃ b, pckB form = b := ⟨_, rfl⟩
    obtain ⟨r, hr⟩ : ∃ r, pckL form = r := ⟨_, rfl⟩
    rw [hb, hr] at C1 C2 hfacts
    rw [hr] at hxl
    have HF := Lib.hid hfacts
    have C5 : Hid (∀ wn u v xs, Ints wn u xs → Ints wn v xs → Calls Try.prog 16 #[u, v] wn (Same wn true)) := fun wn u v xs hu hv => by
      have := laws_sameInts u v xs xs wn hu hv
      rwa [beq_self] at this
    have qb : (b != b) = false := by simp
    have qe : (b == b) = true := by simp
    clear hfacts hb hr C0
    obtain ⟨a1, cap1, rfl, l1, m1, _⟩ := id hi
    unfold maxLen at m1
    go_wp2_with fail
    refine (C2.out _ w1 hi).mono ?_
    rintro e w2 ⟨u2, rfl, own2, b2⟩
    have hi2 := hi.below b2
    have B2 := Bstep B1 b2
    clear hi b2 B1
    go_wp2_with fail
    refine (C1.out _ w2 hi2).mono ?_
    rintro e w3 ⟨u3, rfl, own3, b3⟩
    have hi3 := hi2.below b3
    have B3 := Bstep B2 b3
    have i2 := own2.ints.below b3
    have i3 := own3.ints
    clear hi2 b3 B2 own2 own3
    obtain ⟨a3, cap3, rfl, l3, m3, _⟩ := id i3
    unfold maxLen at m3
    obtain ⟨a2, cap2, rfl, l2, m2, _⟩ := id i2
    unfold maxLen at m2
    cases b with
    | false =>
      go_wp2_with fail
      refine (C5.out w3 _ _ _ i2 i3).mono ?_
      rintro e w4 ⟨rfl, b4⟩
      go_wp2_with fail
      refine (C5.out w4 _ _ _ (i2.below b4) (i3.below b4)).mono ?_
      rintro e w5 ⟨rfl, b5⟩
      go_wp2_with fail
      go_ret
      exact ⟨rfl, Bstep (Bstep B3 b4) b5⟩
    | true =>
      go_wp2_with fail
      refine (C5.out w3 _ _ _ i2 i3).mono ?_
      rintro e w4 ⟨rfl, b4⟩
      have hi4 := hi3.below b4
      have i24 := i2.below b4
      have i34 := i3.below b4
      have B4 := Bstep B3 b4
      clear hi3 i2 i3 B3 b4
      by_cases h3 : form.length < 3
      · have d1 : decide ((form.length : Int) < 3) = true := decide_eq_true (by omega)
        go_wp2_with fail
        refine (C5.out w4 _ _ _ i24 i34).mono ?_
        rintro e w5 ⟨rfl, b5⟩
        go_wp2_with fail
        go_ret
        exact ⟨rfl, Bstep B4 b5⟩
      · have d1 : decide ((form.length : Int) < 3) = false := decide_eq_false (by omega)
        by_cases h66 : 66 < form.length
        · have d2 : decide ((66 : Int) < (form.length : Int)) = true := decide_eq_true (by omega)
          go_wp2_with fail
          refine (C5.out w4 _ _ _ i24 i34).mono ?_
          rintro e w5 ⟨rfl, b5⟩
          go_wp2_with fail
          go_ret
          exact ⟨rfl, Bstep B4 b5⟩
        · have d2 : decide ((66 : Int) < (form.length : Int)) = false := decide_eq_false (by omega)
          have hle := (HF.out (by simp) (by omega) (by omega)).1
          have C3 := Lib.hid (HF.out (by simp) (by omega) (by omega)).2
          obtain ⟨pk, hpk⟩ : ∃ pk, pckL (form ++ form) = pk := ⟨_, rfl⟩
          rw [hpk] at C3 hle
          have own0 := own_empty w4 w4.heap.size (Nat.le_refl _)
          have b5 := alloc_below' w4 (.cells #[] 3)
          have hi5 := hi4.below b5
          have B5 := Bstep B4 b5
          have hs5 : w4.heap.size ≤ (w4.alloc (.cells #[] 3)).heap.size := b5.size
          have hlu := hi4.lt
          have hsw := B4.size
          clear hi4 i24 i34 B4 hpk b5
          go_wp2_with (first
            | (at_builtin; refine wp_appI rfl _ _ rfl w4.heap.size (.slice (some ⟨w4.heap.size, 0, none⟩) 0 0) _ [] form rfl rfl own0 hi5 (by simp; omega) hs5 ?_; intro v6 w6 own6 g6)
            | (at_builtin; refine wp_appI rfl _ _ rfl w4.heap.size v6 _ ([] ++ form) form rfl rfl own6 (hi5.grownN g6 fun h0 k hk e => by have h1 := hlu h0 k e; simp only [Value.ownBlock, Option.some.injEq] at hk; omega) (by simp; omega) (Nat.le_trans hs5 g6.size) ?_; intro v7 w7 own7 g7))
          have B6 := B5.grown g6 B5.size fun k hk => by simp only [Value.ownBlock, Option.some.injEq] at hk; omega
          have B7 := B6.grown g7 B6.size fun k hk => by have h2 := own6.lt k hk; omega
          rw [List.nil_append] at own7
          clear own0 own6 g6 g7 B5 B6 hi5
          refine (C3.out v7 w7 own7.ints).mono ?_
          rintro e w8 ⟨v8, rfl, own8, b8⟩
          obtain ⟨a8, cap8, rfl, l8, m8, _⟩ := own8.ints
          unfold maxLen at m8
          have d3 : decide ((pk.length : Int) ≤ (r.length : Int) + 6) = true := decide_eq_true (by omega)
          go_wp2_with fail
          go_ret
          exact ⟨rfl, Bstep B7 b8⟩
end Go.Proofs.Ytkdikdkeaomobaa
