/- Chapter 4: how many bytes a packed form is shorter. -/
import Derived.Test.YtkdikdkeaomobaaW4i
namespace Go.Proofs.Ytkdikdkeaomobaa
open Go.ChangeShapes Go.WideShapes Go.ChangeAt Go.RowKit
set_option linter.unusedVariables false

theorem impl_PackGain (v : Value) (xs : List Int) (w : World) (h : Ints w v xs) (hfl : xs.length ≤ 2000000) :
    Calls Try.prog 21 #[v] w (SaysN (gainN xs) w) := by
  have C1' := impl_PackBytes v xs w h hfl
  have hpl := pckL_len xs
  obtain ⟨a, cap, rfl, l1, m1, c0⟩ := h
  unfold maxLen at m1
  have hg : gainN xs = if pckB xs = true then (xs.length : Int) - ((pckL xs).length : Int) else 0 := by
    unfold gainN
    cases hb : pckB xs with
    | false => rfl
    | true => rw [show pckL xs = packP xs by unfold pckL; rw [hb]; rfl]
  obtain ⟨p, hp⟩ : ∃ p, pckL xs = p := ⟨_, rfl⟩
  rw [hp] at C1' hpl hg
  clear hp c0
  cases hb : pckB xs with
  | false =>
    rw [hb] at C1' hg
    rw [show gainN xs = 0 from hg]
    have C1 := Lib.hid C1'
    clear hg hb C1'
    go_enter Try.func21, Try.ntmps21
    go_wp2_with fail
    refine C1.out.mono ?_
    rintro e w1 ⟨u, rfl, own, b1⟩
    go_wp2_with fail
    go_ret
    exact ⟨rfl, b1⟩
  | true =>
    rw [hb] at C1' hg
    rw [show gainN xs = (xs.length : Int) - (p.length : Int) from hg]
    have C1 := Lib.hid C1'
    clear hg hb C1'
    go_enter Try.func21, Try.ntmps21
    go_wp2_with fail
    refine C1.out.mono ?_
    rintro e w1 ⟨u, rfl, own, b1⟩
    obtain ⟨a2, cap2, rfl, l2, m2, _⟩ := own.ints
    unfold maxLen at m2
    go_wp2_with fail
    go_ret
    exact ⟨rfl, b1⟩
theorem spec_PackGain (v : Value) (xs : List Int) (w : World) (h : Ints w v xs) (hfl : xs.length ≤ 2000000) :
    Calls Try.prog 22 #[v] w (SaysN (gainN xs) w) := by
  have C1 := Lib.hid (spec_l1Ok v xs w h)
  cases hok : okBs xs with
  | false =>
    rw [hok] at C1
    have e1 : gainN xs = 0 := by unfold gainN pckB; rw [hok]; rfl
    rw [e1]
    obtain ⟨a, cap, rfl, l1, m1, c0⟩ := h
    clear hok e1 c0
    go_enter Try.func22, Try.ntmps22
    go_wp2_with fail
    refine C1.out.mono ?_
    rintro e w1 ⟨rfl, rfl⟩
    go_wp2_with fail
    go_ret
    exact ⟨rfl, Below.refl _ _⟩
  | true =>
    rw [hok] at C1
    by_cases hl : xs.length ≤ 200
    · have C2' := spec_l4Pack v xs w h hl
      have e1 : pckB xs = true := pckB_iff.2 ⟨hok, hl⟩
      have hpl := packP_len xs
      have hg : gainN xs = (xs.length : Int) - ((packP xs).length : Int) := by unfold gainN; rw [if_pos e1]
      rw [hg]
      obtain ⟨R, hR⟩ : ∃ R, packP xs = R := ⟨_, rfl⟩
      rw [hR] at C2' hpl ⊢
      have C2 := Lib.hid C2'
      have d1 : decide ((200 : Int) < (xs.length : Int)) = false := decide_eq_false (by omega)
      obtain ⟨a, cap, rfl, l1, m1, c0⟩ := h
      unfold maxLen at m1
      clear hok e1 c0 C2' hR hg
      go_enter Try.func22, Try.ntmps22
      go_wp2_with fail
      refine C1.out.mono ?_
      rintro e w1 ⟨rfl, rfl⟩
      go_wp2_with fail
      refine C2.out.mono ?_
      rintro e w2 ⟨u, rfl, own, bel⟩
      obtain ⟨a2, cap2, rfl, l2, m2, _⟩ := own.ints
      unfold maxLen at m2
      go_wp2_with fail
      go_ret
      exact ⟨rfl, bel⟩
    · have e1 : gainN xs = 0 := by unfold gainN pckB; rw [decide_eq_false hl]; simp
      rw [e1]
      have d1 : decide ((200 : Int) < (xs.length : Int)) = true := decide_eq_true (by omega)
      obtain ⟨a, cap, rfl, l1, m1, c0⟩ := h
      unfold maxLen at m1
      clear hok e1 c0
      go_enter Try.func22, Try.ntmps22
      go_wp2_with fail
      refine C1.out.mono ?_
      rintro e w1 ⟨rfl, rfl⟩
      go_wp2_with fail
      go_ret
      exact ⟨rfl, Below.refl _ _⟩
end Go.Proofs.Ytkdikdkeaomobaa
