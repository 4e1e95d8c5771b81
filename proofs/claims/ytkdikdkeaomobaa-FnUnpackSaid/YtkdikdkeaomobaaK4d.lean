/- Chapter 4: what packing and unpacking promise. -/
import Derived.Test.YtkdikdkeaomobaaK4c
import Derived.Test.YtkdikdkeaomobaaW4i
namespace Go.Proofs.Ytkdikdkeaomobaa
open Go.ChangeShapes Go.WideShapes Go.ChangeAt Go.RowKit
set_option linter.unusedVariables false

theorem pckL_len' (xs : List Int) : (pckL xs).length ≤ 210 := pckL_len xs
theorem unp_pck {xs : List Int} (h : pckB xs = true) : unpB (pckL xs) = true ∧ unpL (pckL xs) = xs := by
  obtain ⟨h1, h2⟩ := pckB_iff.1 h
  have e : pckL xs = packP xs := by unfold pckL; rw [h]; rfl
  have h3 := packP_ok h1
  have h4 := unpack_pack h2
  rw [e]
  unfold unpB unpL unpI
  rw [h3, h4]
  exact ⟨rfl, rfl⟩
theorem pck_unp {f : List Int} (h : unpB f = true) : pckB (unpL f) = true := by
  have hl := unpL_len' f
  unfold unpB at h
  obtain ⟨h1, h2⟩ := Bool.and_eq_true_iff.1 h
  obtain ⟨r, hr⟩ := Option.isSome_iff_exists.1 h2
  have e : unpL f = r := by unfold unpL unpI; rw [if_pos h1, hr]; rfl
  rw [e] at hl ⊢
  exact pckB_iff.2 (unpackP_ok hr h1)
set_option maxHeartbeats 1000000 in
theorem law_FnPack (w : World) (v : Value) (zs : List Int) (h : U8s w v zs) : Calls Try.prog 3 #[v] w (Yes w) := by
  have hU := h
  obtain ⟨a, cap, rfl, hl, hm, hc, hr⟩ := hU
  unfold maxLen at hm
  clear hc hr
  by_cases hlen : 1048576 < zs.length
  · go_enter Try.func3, Try.ntmps3
    go_wp2
    go_ret
    exact ⟨rfl, Below.refl _ _⟩
  · have C0 := Lib.hid (spec_DrawPackBytes _ zs w h (by omega))
    clear h
    go_enter Try.func3, Try.ntmps3
    go_wp2_with fail
    refine C0.out.mono ?_
    rintro e w1 ⟨u, form, rfl, hi, hfl, hge, B1⟩
    have hxl := pckL_len' form
    have C1 : Hid (∀ v w, Ints w v form → Calls Try.prog 15 #[v] w (NewInts w (pckL form) (pckB form))) := fun v w h => spec_PackBytes v form w h (by omega)
    have C2 : Hid (∀ v w, Ints w v form → Calls Try.prog 14 #[v] w (NewInts w (pckL form) (pckB form))) := fun v w h => impl_PackBytes v form w h (by omega)
    have hfacts : pckB form = true → ∀ v w, Ints w v (pckL form) → Calls Try.prog 17 #[v] w (NewInts w form true) := fun h1 v w h => by
      have h3 := impl_UnpackBytes v (pckL form) w h (by omega)
      rw [(unp_pck h1).1, (unp_pck h1).2] at h3
      exact h3
    obtain ⟨b, hb⟩ : ∃ b, pckB form = b := ⟨_, rfl⟩
    obtain ⟨r, hr⟩ : ∃ r, pckL form = r := ⟨_, rfl⟩
    rw [hb, hr] at C1 C2 hfacts
    rw [hr] at hxl
    have HF := Lib.hid hfacts
    have C5 : Hid (∀ wn u v xs, Ints wn u xs → Ints wn v xs → Calls Try.prog 16 #[u, v] wn (Same wn true)) := fun wn u v xs hu hv => by
      have := laws_sameInts u v xs xs wn hu hv
      rwa [beq_self] at this
    have qb : (b != b) = false := by simp
    have qe : (b == b) = true := by simp
    clear hfacts hb hr C0
    obtain ⟨a1, cap1, rfl, l1, m1, _⟩ := id hi
    unfold maxLen at m1
    go_wp2_with fail
    refine (C2.out _ w1 hi).mono ?_
    rintro e w2 ⟨u2, rfl, own2, b2⟩
    have hi2 := hi.below b2
    have B2 := Bstep B1 b2
    clear hi b2 B1
    go_wp2_with fail
    refine (C1.out _ w2 hi2).mono ?_
    rintro e w3 ⟨u3, rfl, own3, b3⟩
    have hi3 := hi2.below b3
    have B3 := Bstep B2 b3
    have i2 := own2.ints.below b3
    have i3 := own3.ints
    clear hi2 b3 B2 own2 own3
    obtain ⟨a3, cap3, rfl, l3, m3, _⟩ := id i3
    unfold maxLen at m3
    obtain ⟨a2, cap2, rfl, l2, m2, _⟩ := id i2
    unfold maxLen at m2
    cases b with
    | false =>
      go_wp2_with fail
      refine (C5.out w3 _ _ _ i2 i3).mono ?_
      rintro e w4 ⟨rfl, b4⟩
      go_wp2_with fail
      refine (C5.out w4 _ _ _ (i2.below b4) (i3.below b4)).mono ?_
      rintro e w5 ⟨rfl, b5⟩
      go_wp2_with fail
      go_ret
      exact ⟨rfl, Bstep (Bstep B3 b4) b5⟩
    | true =>
      go_wp2_with fail
      refine (C5.out w3 _ _ _ i2 i3).mono ?_
      rintro e w4 ⟨rfl, b4⟩
      have hi4 := hi3.below b4
      have i24 := i2.below b4
      have i34 := i3.below b4
      have B4 := Bstep B3 b4
      clear hi3 i2 i3 B3 b4
      have C3 := Lib.hid (HF.out (by simp))
      go_wp2_with fail
      refine (C3.out _ w4 i24).mono ?_
      rintro e w5 ⟨u5, rfl, own5, b5⟩
      go_wp2_with fail
      refine (C5.out w5 _ _ _ own5.ints (hi4.below b5)).mono ?_
      rintro e w6 ⟨rfl, b6⟩
      go_wp2_with fail
      go_ret
      exact ⟨rfl, Bstep (Bstep B4 b5) b6⟩
set_option maxHeartbeats 1000000 in
theorem law_FnUnpack (w : World) (v : Value) (zs : List Int) (h : U8s w v zs) : Calls Try.prog 7 #[v] w (Yes w) := by
  have hU := h
  obtain ⟨a, cap, rfl, hl, hm, hc, hr⟩ := hU
  unfold maxLen at hm
  clear hc hr
  by_cases hlen : 1048576 < zs.length
  · go_enter Try.func7, Try.ntmps7
    go_wp2
    go_ret
    exact ⟨rfl, Below.refl _ _⟩
  · have C0 := Lib.hid (spec_DrawUnpackBytes _ zs w h (by omega))
    clear h
    go_enter Try.func7, Try.ntmps7
    go_wp2_with fail
    refine C0.out.mono ?_
    rintro e w1 ⟨u, form, rfl, hi, hfl, hge, B1⟩
    have hxl := unpL_len' form
    have C1 : Hid (∀ v w, Ints w v form → Calls Try.prog 19 #[v] w (NewInts w (unpL form) (unpB form))) := fun v w h => spec_UnpackBytes v form w h (by omega)
    have C2 : Hid (∀ v w, Ints w v form → Calls Try.prog 17 #[v] w (NewInts w (unpL form) (unpB form))) := fun v w h => impl_UnpackBytes v form w h (by omega)
    have hfacts : unpB form = true → (∀ v w, Ints w v (unpL form) → Calls Try.prog 14 #[v] w (NewInts w (pckL (unpL form)) true)) ∧ (∀ v w, Ints w v (pckL (unpL form)) → Calls Try.prog 17 #[v] w (NewInts w (unpL form) true)) := fun h1 => by
      have hp := pck_unp h1
      refine ⟨fun v w h => ?_, fun v w h => ?_⟩
      · have h3 := impl_PackBytes v (unpL form) w h (by omega)
        rw [hp] at h3
        exact h3
      · have h3 := impl_UnpackBytes v _ w h (by have := pckL_len (unpL form); omega)
        rw [(unp_pck hp).1, (unp_pck hp).2] at h3
        exact h3
    obtain ⟨b, hb⟩ : ∃ b, unpB form = b := ⟨_, rfl⟩
    obtain ⟨r, hr⟩ : ∃ r, unpL form = r := ⟨_, rfl⟩
    rw [hb, hr] at C1 C2 hfacts
    rw [hr] at hxl
    have HF := Lib.hid hfacts
    have C5 : Hid (∀ wn u v xs, Ints wn u xs → Ints wn v xs → Calls Try.prog 16 #[u, v] wn (Same wn true)) := fun wn u v xs hu hv => by
      have := laws_sameInts u v xs xs wn hu hv
      rwa [beq_self] at this
    have qb : (b != b) = false := by simp
    have qe : (b == b) = true := by simp
    clear hfacts hb hr C0
    obtain ⟨a1, cap1, rfl, l1, m1, _⟩ := id hi
    unfold maxLen at m1
    go_wp2_with fail
    refine (C2.out _ w1 hi).mono ?_
    rintro e w2 ⟨u2, rfl, own2, b2⟩
    have hi2 := hi.below b2
    have B2 := Bstep B1 b2
    clear hi b2 B1
    go_wp2_with fail
    refine (C1.out _ w2 hi2).mono ?_
    rintro e w3 ⟨u3, rfl, own3, b3⟩
    have hi3 := hi2.below b3
    have B3 := Bstep B2 b3
    have i2 := own2.ints.below b3
    have i3 := own3.ints
    clear hi2 b3 B2 own2 own3
    obtain ⟨a3, cap3, rfl, l3, m3, _⟩ := id i3
    unfold maxLen at m3
    obtain ⟨a2, cap2, rfl, l2, m2, _⟩ := id i2
    unfold maxLen at m2
    cases b with
    | false =>
      go_wp2_with fail
      refine (C5.out w3 _ _ _ i2 i3).mono ?_
      rintro e w4 ⟨rfl, b4⟩
      go_wp2_with fail
      refine (C5.out w4 _ _ _ (i2.below b4) (i3.below b4)).mono ?_
      rintro e w5 ⟨rfl, b5⟩
      go_wp2_with fail
      go_ret
      exact ⟨rfl, Bstep (Bstep B3 b4) b5⟩
    | true =>
      go_wp2_with fail
      refine (C5.out w3 _ _ _ i2 i3).mono ?_
      rintro e w4 ⟨rfl, b4⟩
      have hi4 := hi3.below b4
      have i24 := i2.below b4
      have i34 := i3.below b4
      have B4 := Bstep B3 b4
      clear hi3 i2 i3 B3 b4
      have C3 := Lib.hid (HF.out (by simp)).1
      have C4 := Lib.hid (HF.out (by simp)).2
      obtain ⟨pk, hpk⟩ : ∃ pk, pckL r = pk := ⟨_, rfl⟩
      rw [hpk] at C3 C4
      clear hpk
      go_wp2_with fail
      refine (C3.out _ w4 i24).mono ?_
      rintro e w5 ⟨u5, rfl, own5, b5⟩
      have i25 := i24.below b5
      have B5 := Bstep B4 b5
      clear hi4 i24 i34 B4 b5
      go_wp2_with fail
      refine (C4.out _ w5 own5.ints).mono ?_
      rintro e w6 ⟨u6, rfl, own6, b6⟩
      have i26 := i25.below b6
      have B6 := Bstep B5 b6
      go_wp2_with fail
      refine (C5.out w6 _ _ _ own6.ints i26).mono ?_
      rintro e w7 ⟨rfl, b7⟩
      go_wp2_with fail
      go_ret
      exact ⟨rfl, Bstep B6 b7⟩
set_option maxHeartbeats 1000000 in
theorem law_FnPackLong (w : World) (v : Value) (zs : List Int) (h : U8s w v zs) : Calls Try.prog 4 #[v] w (Yes w) := by
  have hU := h
  obtain ⟨a, cap, rfl, hl, hm, hc, hr⟩ := hU
  unfold maxLen at hm
  clear hc hr
  by_cases hlen : 1048576 < zs.length
  · go_enter Try.func4, Try.ntmps4
    go_wp2
    go_ret
    exact ⟨rfl, Below.refl _ _⟩
  · have C0 := Lib.hid (spec_DrawPackBytes _ zs w h (by omega))
    clear h
    go_enter Try.func4, Try.ntmps4
    go_wp2_with fail
    refine C0.out.mono ?_
    rintro e w1 ⟨u, form, rfl, hi, hfl, hge, B1⟩
    have hxl := pckL_len' form
    have C1 : Hid (∀ v w, Ints w v form → Calls Try.prog 15 #[v] w (NewInts w (pckL form) (pckB form))) := fun v w h => spec_PackBytes v form w h (by omega)
    have C2 : Hid (∀ v w, Ints w v form → Calls Try.prog 14 #[v] w (NewInts w (pckL form) (pckB form))) := fun v w h => impl_PackBytes v form w h (by omega)
    have hfacts : pckB form = true → (pckL form).length ≤ form.length + (form.length + 63) / 64 := fun h1 => by
      have e : pckL form = packP form := by unfold pckL; rw [h1]; rfl
      rw [e]
      exact packP_len form
    obtain ⟨b, hb⟩ : ∃ b, pckB form = b := ⟨_, rfl⟩
    obtain ⟨r, hr⟩ : ∃ r, pckL form = r := ⟨_, rfl⟩
    rw [hb, hr] at C1 C2 hfacts
    rw [hr] at hxl
    have HF := Lib.hid hfacts
    have C5 : Hid (∀ wn u v xs, Ints wn u xs → Ints wn v xs → Calls Try.prog 16 #[u, v] wn (Same wn true)) := fun wn u v xs hu hv => by
      have := laws_sameInts u v xs xs wn hu hv
      rwa [beq_self] at this
    have qb : (b != b) = false := by simp
    have qe : (b == b) = true := by simp
    clear hfacts hb hr C0
    obtain ⟨a1, cap1, rfl, l1, m1, _⟩ := id hi
    unfold maxLen at m1
    go_wp2_with fail
    refine (C2.out _ w1 hi).mono ?_
    rintro e w2 ⟨u2, rfl, own2, b2⟩
    have hi2 := hi.below b2
    have B2 := Bstep B1 b2
    clear hi b2 B1
    go_wp2_with fail
    refine (C1.out _ w2 hi2).mono ?_
    rintro e w3 ⟨u3, rfl, own3, b3⟩
    have hi3 := hi2.below b3
    have B3 := Bstep B2 b3
    have i2 := own2.ints.below b3
    have i3 := own3.ints
    clear hi2 b3 B2 own2 own3
    obtain ⟨a3, cap3, rfl, l3, m3, _⟩ := id i3
    unfold maxLen at m3
    obtain ⟨a2, cap2, rfl, l2, m2, _⟩ := id i2
    unfold maxLen at m2
    cases b with
    | false =>
      go_wp2_with fail
      refine (C5.out w3 _ _ _ i2 i3).mono ?_
      rintro e w4 ⟨rfl, b4⟩
      go_wp2_with fail
      refine (C5.out w4 _ _ _ (i2.below b4) (i3.below b4)).mono ?_
      rintro e w5 ⟨rfl, b5⟩
      go_wp2_with fail
      go_ret
      exact ⟨rfl, Bstep (Bstep B3 b4) b5⟩
    | true =>
      go_wp2_with fail
      refine (C5.out w3 _ _ _ i2 i3).mono ?_
      rintro e w4 ⟨rfl, b4⟩
      have hi4 := hi3.below b4
      have i24 := i2.below b4
      have i34 := i3.below b4
      have B4 := Bstep B3 b4
      clear hi3 i2 i3 B3 b4
      have hle := HF.out (by simp)
      obtain ⟨q, hq⟩ : ∃ q, (form.length + 63) / 64 = q := ⟨_, rfl⟩
      rw [hq] at hle
      have hq2 : q ≤ 100 := by omega
      have s1 : ((form.length : Int) + 63).tdiv 64 = (q : Int) := by rw [Int.tdiv_eq_ediv_of_nonneg (by omega)]; omega
      have s2 : ((form.length : Int) + 63) / 64 = (q : Int) := by omega
      have d1 : decide ((r.length : Int) ≤ (form.length : Int) + (q : Int)) = true := decide_eq_true (by omega)
      clear hq
      go_wp2_with fail
      go_ret
      exact ⟨rfl, B4⟩
end Go.Proofs.Ytkdikdkeaomobaa
