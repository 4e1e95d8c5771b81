/- Chapter 4: the laws on gains. -/
import Derived.Test.YtkdikdkeaomobaaW4k
import Derived.Test.YtkdikdkeaomobaaW2c
import Derived.Test.YtkdikdkeaomobaaD4b
namespace Go.Proofs.Ytkdikdkeaomobaa
open Go.ChangeShapes Go.WideShapes Go.ChangeAt Go.RowKit
set_option linter.unusedVariables false

theorem gain_pck {xs : List Int} (h : pckB xs = true) : gainN xs = (xs.length : Int) - ((pckL xs).length : Int) := by
  unfold gainN pckL
  rw [if_pos h, if_pos h]
theorem gain_in (xs : List Int) (hl : xs.length ≤ 1100000) : -300 ≤ gainN xs ∧ gainN xs ≤ 1100000 := by
  unfold gainN
  split
  · rename_i h
    have h1 := (pckB_iff.1 h).2
    have h2 := packP_len xs
    omega
  · omega
set_option maxHeartbeats 1000000 in
theorem law_FnGain (w : World) (v : Value) (zs : List Int) (h : U8s w v zs) : Calls Try.prog 9 #[v] w (Yes w) := by
  have hU := h
  obtain ⟨a, cap, rfl, hl, hm, hc, hr⟩ := hU
  unfold maxLen at hm
  clear hc hr
  by_cases hlen : 1048576 < zs.length
  · go_enter Try.func9, Try.ntmps9
    go_wp2
    go_ret
    exact ⟨rfl, Below.refl _ _⟩
  · have C0 := Lib.hid (spec_DrawPackGain _ zs w h (by omega))
    clear h
    go_enter Try.func9, Try.ntmps9
    go_wp2_with fail
    refine C0.out.mono ?_
    rintro e w1 ⟨u, form, rfl, hi, hfl, hge, B1⟩
    have C1 : Hid (∀ v w, Ints w v form → Calls Try.prog 22 #[v] w (SaysN (gainN form) w)) := fun v w h => spec_PackGain v form w h (by omega)
    have C2 : Hid (∀ v w, Ints w v form → Calls Try.prog 21 #[v] w (SaysN (gainN form) w)) := fun v w h => impl_PackGain v form w h (by omega)
    have C3 : Hid (∀ v w, Ints w v form → Calls Try.prog 23 #[v] w fun e w' => e = .returned (.int .i64 (sumV form)) ∧ w = w') := fun v w h => spec_SumOf v form w h
    have C4 : Hid (∀ v w, Ints w v form → Calls Try.prog 14 #[v] w (NewInts w (pckL form) (pckB form))) := fun v w h => impl_PackBytes v form w h (by omega)
    have hfacts : okBs form = true → form.length ≤ 200 → pckB form = true ∧ gainN form = (form.length : Int) - ((pckL form).length : Int) := fun h1 h2 => by
      have h3 : pckB form = true := pckB_iff.2 ⟨h1, h2⟩
      exact ⟨h3, gain_pck h3⟩
    have hsum : (okBs form = true → 0 ≤ sumV form) ∧ (okBs form = false → sumV form = -1) := ⟨fun h1 => by
      rw [sumV_yes h1]
      exact (sumB_bound form).1, fun h1 => sumV_no h1⟩
    have hpl := pckL_len form
    have hgi := gain_in form (by omega)
    obtain ⟨s, hs⟩ : ∃ s, sumV form = s := ⟨_, rfl⟩
    obtain ⟨g, hg⟩ : ∃ g, gainN form = g := ⟨_, rfl⟩
    obtain ⟨p, hp⟩ : ∃ p, pckL form = p := ⟨_, rfl⟩
    obtain ⟨pb, hpb⟩ : ∃ p, pckB form = p := ⟨_, rfl⟩
    rw [hs] at C3 hsum
    rw [hg] at C1 C2 hfacts hgi
    rw [hp] at C4 hfacts hpl
    rw [hpb] at C4 hfacts
    have HF := Lib.hid hfacts
    have qg : (g != g) = false := by simp
    have qe : (g == g) = true := by simp
    clear hfacts hs hg hp hpb C0
    obtain ⟨a1, cap1, rfl, l1, m1, _⟩ := id hi
    unfold maxLen at m1
    go_wp2_with fail
    refine (C2.out _ w1 hi).mono ?_
    rintro e w2 ⟨rfl, b2⟩
    have hi2 := hi.below b2
    have B2 := Bstep B1 b2
    go_wp2_with fail
    refine (C1.out _ w2 hi2).mono ?_
    rintro e w3 ⟨rfl, b3⟩
    have hi3 := hi2.below b3
    have B3 := Bstep B2 b3
    clear hi hi2 b2 b3 B1 B2
    cases hok : okBs form with
    | false =>
      have hs1 := hsum.2 hok
      have d1 : decide (s < 0) = true := decide_eq_true (by omega)
      clear hsum hok
      go_wp2_with fail
      refine (C3.out _ w3 hi3).mono ?_
      rintro e w4 ⟨rfl, rfl⟩
      go_wp2_with fail
      go_ret
      exact ⟨rfl, B3⟩
    | true =>
      have hs1 := hsum.1 hok
      have d1 : decide (s < 0) = false := decide_eq_false (by omega)
      clear hsum
      by_cases h200 : 200 < form.length
      · have d2 : decide ((200 : Int) < (form.length : Int)) = true := decide_eq_true (by omega)
        clear hok
        go_wp2_with fail
        refine (C3.out _ w3 hi3).mono ?_
        rintro e w4 ⟨rfl, rfl⟩
        go_wp2_with fail
        go_ret
        exact ⟨rfl, B3⟩
      · have d2 : decide ((200 : Int) < (form.length : Int)) = false := decide_eq_false (by omega)
        obtain ⟨hpb, hgp⟩ := HF.out hok (by omega)
        rw [hpb] at C4
        have d3 : (g == (form.length : Int) - (p.length : Int)) = true := by rw [beq_iff_eq]; exact hgp
        clear hok hgp hpb HF
        go_wp2_with fail
        refine (C3.out _ w3 hi3).mono ?_
        rintro e w4 ⟨rfl, rfl⟩
        go_wp2_with fail
        refine (C4.out _ w3 hi3).mono ?_
        rintro e w5 ⟨u5, rfl, own5, b5⟩
        obtain ⟨a5, cap5, rfl, l5, m5, _⟩ := own5.ints
        unfold maxLen at m5
        go_wp2_with fail
        go_ret
        exact ⟨rfl, Bstep B3 b5⟩
set_option maxHeartbeats 1000000 in
theorem law_FnExactPackGain (w : World) (v : Value) (zs : List Int) (h : IntsIn w v zs) : Calls Try.prog 12 #[v] w (Yes w) := by
  have hv := h.1
  obtain ⟨a, cap, rfl, hl, hm, hc⟩ := h.1
  clear hc
  unfold maxLen at hm
  by_cases hlen : 1048576 < zs.length
  · go_enter Try.func12, Try.ntmps12
    go_wp2
    go_ret
    exact ⟨rfl, Below.refl _ _⟩
  · have C1 : Hid (∀ v w, Ints w v zs → Calls Try.prog 22 #[v] w (SaysN (gainN zs) w)) := fun v w h => spec_PackGain v zs w h (by omega)
    have C2 : Hid (∀ v w, Ints w v zs → Calls Try.prog 21 #[v] w (SaysN (gainN zs) w)) := fun v w h => impl_PackGain v zs w h (by omega)
    have C3 : Hid (∀ v w, Ints w v zs → Calls Try.prog 24 #[v] w (NewInts1 w zs)) := fun v w h => laws_toIntS v zs w h (by omega)
    have HV : Hid (∀ W : World, Below w.heap.size w W → Ints W (.slice a zs.length cap) zs) := Lib.hid fun W hW => hv.below hW
    obtain ⟨g, hg⟩ : ∃ g, gainN zs = g := ⟨_, rfl⟩
    rw [hg] at C1 C2
    clear hg h hv
    have C6 : Hid (∀ wn u v, Ints wn u zs → Ints wn v zs → Calls Try.prog 25 #[u, v] wn (Same wn true)) := fun wn u v hu hv => by
      have := laws_eqIntS u v zs zs wn hu hv
      rwa [beq_self] at this
    have qg : (g != g) = false := by simp
    go_enter Try.func12, Try.ntmps12
    go_wp2_with fail
    refine (C3.out _ _ (HV.out w (Below.refl _ _))).mono ?_
    rintro e w1 ⟨v0, rfl, own0, B1⟩
    go_wp2_with fail
    refine (C1.out v0 w1 own0.ints).mono ?_
    rintro e w2 ⟨rfl, b2⟩
    have B2 := Bstep B1 b2
    clear own0 b2 B1
    go_wp2_with fail
    refine (C3.out _ _ (HV.out w2 B2)).mono ?_
    rintro e w3 ⟨v1, rfl, own1, b3⟩
    have B3 := Bstep B2 b3
    clear b3 B2
    go_wp2_with fail
    refine (C2.out v1 w3 own1.ints).mono ?_
    rintro e w4 ⟨rfl, b4⟩
    have B4 := Bstep B3 b4
    have own14 := own1.below b4
    clear b4 own1 B3
    go_wp2_with fail
    refine (C3.out _ _ (HV.out w4 B4)).mono ?_
    rintro e w5 ⟨v5, rfl, own5, b5⟩
    have B5 := Bstep B4 b5
    go_wp2_with fail
    refine (C6.out w5 v1 v5 (own14.below b5).ints own5.ints).mono ?_
    rintro e w6 ⟨rfl, b6⟩
    go_wp2_with fail
    go_ret
    exact ⟨rfl, Bstep B5 b6⟩
end Go.Proofs.Ytkdikdkeaomobaa
