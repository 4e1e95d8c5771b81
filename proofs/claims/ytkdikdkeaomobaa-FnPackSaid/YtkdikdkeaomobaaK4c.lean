/- Chapter 4: two forms, one behind the other. -/
import Derived.Test.YtkdikdkeaomobaaD4b
import Derived.Test.YtkdikdkeaomobaaP4c
import Derived.Test.YtkdikdkeaomobaaS1
import Derived.Deep.RegionLaw
namespace Go.Proofs.Ytkdikdkeaomobaa
open Go.ChangeShapes Go.WideShapes Go.ChangeAt Go.RowKit
set_option linter.unusedVariables false

theorem unpL_len' (zs : List Int) : (unpL zs).length ≤ 200 := by
  unfold unpL unpI
  split
  · cases h : unpackP zs with
    | none => simp
    | some r => exact (unpackF_grows _ _ _ _ h).2 (by simp)
  · simp
theorem unp_two {f : List Int} (h : unpB f = true) (hl : 2 * (unpL f).length ≤ 200) : unpB (f ++ f) = true ∧ unpL (f ++ f) = unpL f ++ unpL f := by
  unfold unpB at h
  obtain ⟨h1, h2⟩ := Bool.and_eq_true_iff.1 h
  obtain ⟨r, hr⟩ := Option.isSome_iff_exists.1 h2
  have e : unpL f = r := by unfold unpL unpI; rw [if_pos h1, hr]; rfl
  rw [e] at hl ⊢
  have h3 := unpack_two hr hl
  have h4 : okBs (f ++ f) = true := okB_append.2 ⟨h1, h1⟩
  unfold unpB unpL unpI
  rw [h4, h3]
  exact ⟨rfl, rfl⟩

theorem Ints.grownN {w w' : World} {v : Value} {xs : List Int} {row : Option Nat} (h : Ints w v xs) (hg : w.grownBy w' row) (hne : 0 < xs.length → ∀ k, row = some k → v.ownBlock ≠ some k) : Ints w' v xs := by
  rcases Nat.eq_zero_or_pos xs.length with h0 | h0
  · obtain ⟨a, cap, rfl, hl, hm, hc⟩ := h
    exact ⟨a, cap, rfl, hl, hm, fun h1 => by omega⟩
  · exact h.grown hg (hne h0)

set_option maxHeartbeats 1000000 in
theorem law_FnUnpackTwo (w : World) (v : Value) (zs : List Int) (h : U8s w v zs) : Calls Try.prog 8 #[v] w (Yes w) := by
  have hU := h
  obtain ⟨a, cap, rfl, hl, hm, hc, hr⟩ := hU
  unfold maxLen at hm
  clear hc hr
  by_cases hlen : 1048576 < zs.length
  · go_enter Try.func8, Try.ntmps8
    go_wp2
    go_ret
    exact ⟨rfl, Below.refl _ _⟩
  · have C0 := Lib.hid (spec_DrawUnpackBytes _ zs w h (by omega))
    clear h
    go_enter Try.func8, Try.ntmps8
    go_wp2_with fail
    refine C0.out.mono ?_
    rintro e w1 ⟨u, form, rfl, hi, hfl, hge, B1⟩
    have hxl := unpL_len' form
    have C1 : Hid (∀ v w, Ints w v form → Calls Try.prog 19 #[v] w (NewInts w (unpL form) (unpB form))) := fun v w h => spec_UnpackBytes v form w h (by omega)
    have C2 : Hid (∀ v w, Ints w v form → Calls Try.prog 17 #[v] w (NewInts w (unpL form) (unpB form))) := fun v w h => impl_UnpackBytes v form w h (by omega)
    have hfacts : unpB form = true → 2 * (unpL form).length ≤ 200 → ∀ v w, Ints w v (form ++ form) → Calls Try.prog 17 #[v] w (NewInts w (unpL form ++ unpL form) true) := fun h1 h2 v w h => by
      have h3 := impl_UnpackBytes v (form ++ form) w h (by rw [List.length_append]; omega)
      rw [(unp_two h1 h2).1, (unp_two h1 h2).2] at h3
      exact h3
    obtain ⟨b, hb⟩ : ∃ b, unpB form = b := ⟨_, rfl⟩
    obtain ⟨r, hr⟩ : ∃ r, unpL form = r := ⟨_, rfl⟩
    rw [hb, hr] at C1 C2 hfacts
    rw [hr] at hxl
    have HF := Lib.hid hfacts
    have C5 : Hid (∀ wn u v, Ints wn u r → Ints wn v r → Calls Try.prog 16 #[u, v] wn (Same wn true)) := fun wn u v hu hv => by
      have := laws_sameInts u v r r wn hu hv
      rwa [beq_self] at this
    have C6 : Hid (∀ wn u v, Ints wn u (r ++ r) → Ints wn v (r ++ r) → Calls Try.prog 16 #[u, v] wn (Same wn true)) := fun wn u v hu hv => by
      have := laws_sameInts u v (r ++ r) (r ++ r) wn hu hv
      rwa [beq_self] at this
    have qb : (b != b) = false := by simp
    have qe : (b == b) = true := by simp
    clear hfacts hb hr C0
    go_wp2_with fail
    refine (C2.out u w1 hi).mono ?_
    rintro e w2 ⟨u2, rfl, own2, b2⟩
    have hi2 := hi.below b2
    have B2 := Bstep B1 b2
    clear hi b2 B1
    go_wp2_with fail
    refine (C1.out u w2 hi2).mono ?_
    rintro e w3 ⟨u3, rfl, own3, b3⟩
    have hi3 := hi2.below b3
    have B3 := Bstep B2 b3
    have i2 := own2.ints.below b3
    have i3 := own3.ints
    clear hi2 b3 B2 own2 own3
    obtain ⟨a3, cap3, rfl, l3, m3, _⟩ := id i3
    unfold maxLen at m3
    cases b with
    | false =>
      go_wp2_with fail
      refine (C5.out w3 _ _ i2 i3).mono ?_
      rintro e w4 ⟨rfl, b4⟩
      go_wp2_with fail
      refine (C5.out w4 _ _ (i2.below b4) (i3.below b4)).mono ?_
      rintro e w5 ⟨rfl, b5⟩
      go_wp2_with fail
      go_ret
      exact ⟨rfl, Bstep (Bstep B3 b4) b5⟩
    | true =>
      go_wp2_with fail
      refine (C5.out w3 _ _ i2 i3).mono ?_
      rintro e w4 ⟨rfl, b4⟩
      have hi4 := hi3.below b4
      have i24 := i2.below b4
      have i34 := i3.below b4
      have B4 := Bstep B3 b4
      clear hi3 i2 i3 B3 b4
      by_cases hbig : 200 < 2 * r.length
      · have d1 : decide ((200 : Int) < 2 * (r.length : Int)) = true := decide_eq_true (by omega)
        go_wp2_with fail
        refine (C5.out w4 _ _ i24 i34).mono ?_
        rintro e w5 ⟨rfl, b5⟩
        go_wp2_with fail
        go_ret
        exact ⟨rfl, Bstep B4 b5⟩
      · have d1 : decide ((200 : Int) < 2 * (r.length : Int)) = false := decide_eq_false (by omega)
        have C3 := Lib.hid (HF.out (by simp) (by omega))
        have own0 := own_empty w4 w4.heap.size (Nat.le_refl _)
        have b5 := alloc_below' w4 (.cells #[] 3)
        have hi5 := hi4.below b5
        have i25 := i24.below b5
        have B5 := Bstep B4 b5
        have hs5 : w4.heap.size ≤ (w4.alloc (.cells #[] 3)).heap.size := b5.size
        have hlu := hi4.lt
        have hlr := i24.lt
        have hsw := B4.size
        clear hi4 i24 i34 B4
        go_wp2_with (first
          | (at_builtin; refine wp_appI rfl _ _ rfl w4.heap.size (.slice (some ⟨w4.heap.size, 0, none⟩) 0 0) u [] form rfl rfl own0 hi5 (by simp; omega) hs5 ?_; intro v6 w6 own6 g6)
          | (at_builtin; refine wp_appI rfl _ _ rfl w4.heap.size v6 u ([] ++ form) form rfl rfl own6 (hi5.grownN g6 fun h0 k hk e => by have h1 := hlu h0 k e; simp only [Value.ownBlock, Option.some.injEq] at hk; omega) (by simp; omega) (Nat.le_trans hs5 g6.size) ?_; intro v7 w7 own7 g7))
        have i26 : Ints w6 u2 r := i25.grownN g6 fun h0 k hk e => by have h1 := hlr h0 k e; simp only [Value.ownBlock, Option.some.injEq] at hk; omega
        have i27 : Ints w7 u2 r := i26.grownN g7 fun h0 k hk e => by have h1 := hlr h0 k e; have h2 := own6.lt k hk; omega
        have B6 := B5.grown g6 B5.size fun k hk => by simp only [Value.ownBlock, Option.some.injEq] at hk; omega
        have B7 := B6.grown g7 B6.size fun k hk => by have h2 := own6.lt k hk; omega
        rw [List.nil_append] at own7
        clear own0 own6 g6 g7 B5 B6 hi5 i25 i26
        refine (C3.out v7 w7 own7.ints).mono ?_
        rintro e w8 ⟨v8, rfl, own8, b8⟩
        have i28 := i27.below b8
        have B8 := Bstep B7 b8
        have hlr8 := i28.lt
        clear own7 i27 B7 b8 hs5 hlr hlu
        have own90 := own_empty w8 w8.heap.size (Nat.le_refl _)
        have b9 := alloc_below' w8 (.cells #[] 3)
        have i29 := i28.below b9
        have own89 := own8.below b9
        have B9 := Bstep B8 b9
        have hs9 : w8.heap.size ≤ (w8.alloc (.cells #[] 3)).heap.size := b9.size
        go_wp2_with (first
          | (at_builtin; refine wp_appG rfl _ _ rfl w8.heap.size (.slice (some ⟨w8.heap.size, 0, none⟩) 0 0) u2 [] r rfl rfl own90 i29 (by simp; omega) hs9 (Below.refl _ _) ?_; intro v10 w10 own10 g10)
          | (at_builtin; refine wp_appG rfl _ _ rfl w8.heap.size v10 u2 ([] ++ r) r rfl rfl own10 (i29.grownN g10 fun h0 k hk e => by have h1 := hlr8 h0 k e; simp only [Value.ownBlock, Option.some.injEq] at hk; omega) (by simp; omega) (Nat.le_trans hs9 g10.size) (Below.refl _ _) ?_; intro v11 w11 own11 g11))
        have b11 := (B9.grown g10 B9.size fun k hk => by simp only [Value.ownBlock, Option.some.injEq] at hk; have := B8.size; omega).grown g11 (Nat.le_trans B9.size g10.size) fun k hk => by have h2 := own10.lt k hk; have := B8.size; omega
        have o11 := (own89.grown g10 (by
          cases e : v8.ownBlock with
          | none => exact .inl rfl
          | some q => exact .inr fun e2 => by have h1 := own8.lt2 q e; simp only [Value.ownBlock, Option.some.injEq] at e2; omega)).grown g11 (by
          cases e : v8.ownBlock with
          | none => exact .inl rfl
          | some q => exact .inr fun e2 => by have h1 := own8.lt2 q e; have h2 := own10.lt q e2.symm; omega)
        rw [List.nil_append] at own11
        refine (C6.out w11 v8 v11 o11.ints own11.ints).mono ?_
        rintro e w12 ⟨rfl, b12⟩
        go_wp2_with fail
        go_ret
        exact ⟨rfl, Bstep b11 b12⟩
end Go.Proofs.Ytkdikdkeaomobaa
