/- Chapter 1: the laws. -/
import Derived.Test.YtjpkonbanejnkaaW1d
import Derived.Test.YtjpkonbanejnkaaD0
namespace Go.Proofs.Ytjpkonbanejnkaa
open Go.ChangeShapes Go.WideShapes Go.ChangeAt Go.RowKit
set_option linter.unusedVariables false

/-- what a law's walk comes to -/
def Yes (w : World) (e : Ending) (w' : World) : Prop := e = .returned (.bool true) ∧ Below w.heap.size w w'

theorem law_FnExactFoldNumber (w : World) (n : Int) (hn : I64 n) : Calls Try.prog 12 #[.int .i64 n] w (Yes w) := by
  have H1 := Lib.hid (impl_FoldNumber n w hn)
  have H2 := Lib.hid (spec_FoldNumber n w hn)
  have hq : (foldN n != foldN n) = false := by simp
  obtain ⟨x, hx⟩ : ∃ x, foldN n = x := ⟨_, rfl⟩
  rw [hx] at H1 H2 hq
  clear hx
  go_enter Try.func12, Try.ntmps12
  go_wp2_with (first | (go_at_call 18; refine H1.out.mono ?_; rintro e w' ⟨rfl, rfl⟩) | (go_at_call 19; refine H2.out.mono ?_; rintro e w' ⟨rfl, rfl⟩))
  go_ret
  exact ⟨rfl, Below.refl _ _⟩

theorem law_FnExactUnfoldNumber (w : World) (n : Int) (hn : I64 n) : Calls Try.prog 13 #[.int .i64 n] w (Yes w) := by
  have H1 := Lib.hid (impl_UnfoldNumber n w hn)
  have H2 := Lib.hid (spec_UnfoldNumber n w hn)
  have hq : (unfoldN n != unfoldN n) = false := by simp
  obtain ⟨x, hx⟩ : ∃ x, unfoldN n = x := ⟨_, rfl⟩
  rw [hx] at H1 H2 hq
  clear hx
  go_enter Try.func13, Try.ntmps13
  go_wp2_with (first | (go_at_call 20; refine H1.out.mono ?_; rintro e w' ⟨rfl, rfl⟩) | (go_at_call 22; refine H2.out.mono ?_; rintro e w' ⟨rfl, rfl⟩))
  go_ret
  exact ⟨rfl, Below.refl _ _⟩

theorem beq_self (xs : List Int) : (xs == xs) = true := by simp

theorem law_FnExactVarBytes (w : World) (n : Int) (hn : I64 n) : Calls Try.prog 14 #[.int .i64 n] w (Yes w) := by
  have hlen := varB_len n
  have C1 : Hid (∀ w, Calls Try.prog 25 #[.int .i64 n] w (NewInts w (varB n) (inV n))) := fun w => spec_VarBytes n w hn
  have C2 : Hid (∀ w, Calls Try.prog 24 #[.int .i64 n] w (NewInts w (varB n) (inV n))) := fun w => impl_VarBytes n w hn
  obtain ⟨xs, hx⟩ : ∃ xs, varB n = xs := ⟨_, rfl⟩
  obtain ⟨b, hb⟩ : ∃ b, inV n = b := ⟨_, rfl⟩
  rw [hx] at C1 C2 hlen
  rw [hb] at C1 C2
  clear hx hb
  have hq : (1 + (xs.length : Int) != 1 + (xs.length : Int)) = false := by simp
  have he := beq_self xs
  cases b
  all_goals
    go_enter Try.func14, Try.ntmps14
    go_wp2_with fail
    refine (C1.out _).mono ?_
    rintro e wa ⟨v0, rfl, own0, bel0⟩
    go_wp2_with fail
    refine (C2.out _).mono ?_
    rintro e wb ⟨v1, rfl, own1, bel1⟩
    go_wp2_with fail
    refine (laws_eqIntS v1 v0 xs xs wb own1.ints (own0.ints.below bel1)).mono ?_
    rintro e wc ⟨rfl, bel2⟩
    go_wp2_with fail
    refine (laws_markIntS v1 _ xs 1 wc (own1.below bel2) (by omega) (by omega) (by omega)).mono ?_
    rintro e wd ⟨rfl, own2, gr2⟩
    go_wp2_with fail
    refine (laws_heldIntS v1 1 xs.length wd own2.ints (by omega) (by omega) (by omega)).mono ?_
    rintro e we ⟨rfl, rfl⟩
    go_wp2_with fail
    refine (C2.out _).mono ?_
    rintro e wf ⟨v2, rfl, own3, bel3⟩
    have i0 : Ints wf v0 xs := (((own0.ints.below bel1).below bel2).grown gr2 (own0.apart own1)).below bel3
    go_wp2_with fail
    refine (laws_eqIntS v2 v0 xs xs wf own3.ints i0).mono ?_
    rintro e wg ⟨rfl, bel4⟩
    go_wp2_with fail
    refine (laws_heldIntS v1 1 xs.length wg ((own2.ints.below bel3).below bel4) (by omega) (by omega) (by omega)).mono ?_
    rintro e wh ⟨rfl, rfl⟩
    go_wp2_with fail
    go_ret
    exact ⟨rfl, Bstep (Bstep (Bgrow (Bstep (Bstep bel0 bel1) bel2) (own1.below bel2) bel0.size gr2) bel3) bel4⟩

theorem law_FnExactVarSize (w : World) (n : Int) (hn : I64 n) : Calls Try.prog 16 #[.int .i64 n] w (Yes w) := by
  have C1 : Hid (∀ w, Calls Try.prog 32 #[.int .i64 n] w fun e w' => e = .returned (.int .i64 (varS n)) ∧ Below w.heap.size w w') := fun w => spec_VarSize n w hn
  have C2 : Hid (∀ w, Calls Try.prog 31 #[.int .i64 n] w fun e w' => e = .returned (.int .i64 (varS n)) ∧ Below w.heap.size w w') := fun w => impl_VarSize n w hn
  have hq : (varS n != varS n) = false := by simp
  obtain ⟨x, hx⟩ : ∃ x, varS n = x := ⟨_, rfl⟩
  rw [hx] at C1 C2 hq
  clear hx
  go_enter Try.func16, Try.ntmps16
  go_wp2_with fail
  refine (C1.out _).mono ?_
  rintro e wa ⟨rfl, bel0⟩
  go_wp2_with fail
  refine (C2.out _).mono ?_
  rintro e wb ⟨rfl, bel1⟩
  go_wp2_with fail
  go_ret
  exact ⟨rfl, Bstep bel0 bel1⟩

theorem law_FnExactVarFrom (w : World) (v : Value) (zs : List Int) (h : IntsIn w v zs) (k : Int) (hk : I64 k) : Calls Try.prog 15 #[v, .int .i64 k] w (Yes w) := by
  have hv := h.1
  obtain ⟨a, cap, rfl, hl, hm, hc⟩ := h.1
  clear hc
  unfold maxLen at hm
  by_cases hlen : 1048576 < zs.length
  · go_enter Try.func15, Try.ntmps15
    go_wp2
    go_ret
    exact ⟨rfl, Below.refl _ _⟩
  · have C1 : Hid (∀ v w, Ints w v zs → Calls Try.prog 29 #[v, .int .i64 k] w (FromRes (rdV zs k) w)) := fun v w h => spec_VarFrom v zs k w h hk (by omega)
    have C2 : Hid (∀ v w, Ints w v zs → Calls Try.prog 27 #[v, .int .i64 k] w (FromRes (rdV zs k) w)) := fun v w h => impl_VarFrom v zs k w h hk
    have C3 : Hid (∀ v w, Ints w v zs → Calls Try.prog 36 #[v] w (NewInts1 w zs)) := fun v w h => laws_toIntS v zs w h (by omega)
    obtain ⟨⟨r1, r2, r3⟩, hr⟩ : ∃ r, rdV zs k = r := ⟨_, rfl⟩
    rw [hr] at C1 C2
    clear hr h
    have q1 : (r1 != r1) = false := by simp
    have q2 : (r2 != r2) = false := by simp
    have he := beq_self zs
    cases r3
    all_goals
      go_enter Try.func15, Try.ntmps15
      go_wp2_with fail
      refine (C3.out _ _ hv).mono ?_
      rintro e wa ⟨v0, rfl, own0, bel0⟩
      go_wp2_with fail
      refine (C1.out _ _ own0.ints).mono ?_
      rintro e w1 ⟨rfl, rfl⟩
      go_wp2_with fail
      refine (C3.out _ _ (hv.below bel0)).mono ?_
      rintro e wb ⟨v1, rfl, own1, bel1⟩
      go_wp2_with fail
      refine (C2.out _ _ own1.ints).mono ?_
      rintro e w1 ⟨rfl, rfl⟩
      go_wp2_with fail
      refine (C3.out _ _ ((hv.below bel0).below bel1)).mono ?_
      rintro e wc ⟨v2, rfl, own2, bel2⟩
      go_wp2_with fail
      refine (laws_eqIntS v1 v2 zs zs wc (own1.ints.below bel2) own2.ints).mono ?_
      rintro e wd ⟨rfl, bel3⟩
      go_wp2_with fail
      go_ret
      exact ⟨rfl, Bstep (Bstep (Bstep bel0 bel1) bel2) bel3⟩
end Go.Proofs.Ytjpkonbanejnkaa
