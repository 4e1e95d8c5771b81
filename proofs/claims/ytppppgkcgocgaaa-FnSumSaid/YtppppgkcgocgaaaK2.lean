/- Chapter 2: the exact laws. -/
import Derived.Test.YtppppgkcgocgaaaW2b
import Derived.Test.YtppppgkcgocgaaaW2c
import Derived.Test.YtppppgkcgocgaaaW2d
namespace Go.Proofs.Ytppppgkcgocgaaa
open Go.ChangeShapes Go.WideShapes Go.ChangeAt Go.RowKit
set_option linter.unusedVariables false

theorem intB_len (n many : Int) : (intB n many).length ≤ 3 := by
  cases h : okI n many with
  | false => rw [intB_no h]; simp
  | true =>
    rw [intB_yes h, sfx_len]
    obtain ⟨m, hm, _, h3⟩ := okI_many h
    omega

theorem law_FnExactIntBytes (w : World) (n : Int) (hn : I64 n) (many : Int) (hm : I64 many) : Calls Try.prog 12 #[.int .i64 n, .int .i64 many] w (Yes w) := by
  have hlen := intB_len n many
  have C1 : Hid (∀ w, Calls Try.prog 18 #[.int .i64 n, .int .i64 many] w (NewInts w (intB n many) (okI n many))) := fun w => spec_IntBytes n many w hn hm
  have C2 : Hid (∀ w, Calls Try.prog 17 #[.int .i64 n, .int .i64 many] w (NewInts w (intB n many) (okI n many))) := fun w => impl_IntBytes n many w hn hm
  obtain ⟨xs, hx⟩ : ∃ xs, intB n many = xs := ⟨_, rfl⟩
  obtain ⟨b, hb⟩ : ∃ b, okI n many = b := ⟨_, rfl⟩
  rw [hx] at C1 C2 hlen
  rw [hb] at C1 C2
  clear hx hb
  have hq : (1 + (xs.length : Int) != 1 + (xs.length : Int)) = false := by simp
  have he := beq_self xs
  cases b
  all_goals
    go_enter Try.func12, Try.ntmps12
    go_wp2_with fail
    refine (C1.out _).mono ?_
    rintro e wa ⟨v0, rfl, own0, bel0⟩
    go_wp2_with fail
    refine (C2.out _).mono ?_
    rintro e wb ⟨v1, rfl, own1, bel1⟩
    go_wp2_with fail
    refine (laws_eqIntS v1 v0 xs xs wb own1.ints (own0.ints.below bel1)).mono ?_
    rintro e wc ⟨rfl, bel2⟩
    go_wp2_with fail
    refine (laws_markIntS v1 _ xs 1 wc (own1.below bel2) (by omega) (by omega) (by omega)).mono ?_
    rintro e wd ⟨rfl, own2, gr2⟩
    go_wp2_with fail
    refine (laws_heldIntS v1 1 xs.length wd own2.ints (by omega) (by omega) (by omega)).mono ?_
    rintro e we ⟨rfl, rfl⟩
    go_wp2_with fail
    refine (C2.out _).mono ?_
    rintro e wf ⟨v2, rfl, own3, bel3⟩
    have i0 : Ints wf v0 xs := (((own0.ints.below bel1).below bel2).grown gr2 (own0.apart own1)).below bel3
    go_wp2_with fail
    refine (laws_eqIntS v2 v0 xs xs wf own3.ints i0).mono ?_
    rintro e wg ⟨rfl, bel4⟩
    go_wp2_with fail
    refine (laws_heldIntS v1 1 xs.length wg ((own2.ints.below bel3).below bel4) (by omega) (by omega) (by omega)).mono ?_
    rintro e wh ⟨rfl, rfl⟩
    go_wp2_with fail
    go_ret
    exact ⟨rfl, Bstep (Bstep (Bgrow (Bstep (Bstep bel0 bel1) bel2) (own1.below bel2) bel0.size gr2) bel3) bel4⟩

theorem law_FnExactIntFrom (w : World) (v : Value) (zs : List Int) (h : IntsIn w v zs) (k : Int) (hk : I64 k) (many : Int) (hmany : I64 many) : Calls Try.prog 13 #[v, .int .i64 k, .int .i64 many] w (Yes w) := by
  have hv := h.1
  obtain ⟨a, cap, rfl, hl, hm, hc⟩ := h.1
  clear hc
  unfold maxLen at hm
  by_cases hlen : 1048576 < zs.length
  · go_enter Try.func13, Try.ntmps13
    go_wp2
    go_ret
    exact ⟨rfl, Below.refl _ _⟩
  · have C1 : Hid (∀ v w, Ints w v zs → Calls Try.prog 22 #[v, .int .i64 k, .int .i64 many] w (GotRes (numF zs k many) (okF zs k many) w)) := fun v w h => spec_IntFrom v zs k many w h hk hmany
    have C2 : Hid (∀ v w, Ints w v zs → Calls Try.prog 20 #[v, .int .i64 k, .int .i64 many] w (GotRes (numF zs k many) (okF zs k many) w)) := fun v w h => impl_IntFrom v zs k many w h hk hmany
    have C3 : Hid (∀ v w, Ints w v zs → Calls Try.prog 32 #[v] w (NewInts1 w zs)) := fun v w h => laws_toIntS v zs w h (by omega)
    obtain ⟨r1, hr1⟩ : ∃ r, numF zs k many = r := ⟨_, rfl⟩
    obtain ⟨r3, hr3⟩ : ∃ r, okF zs k many = r := ⟨_, rfl⟩
    rw [hr1, hr3] at C1 C2
    clear hr1 hr3 h
    have q1 : (r1 != r1) = false := by simp
    have he := beq_self zs
    cases r3
    all_goals
      go_enter Try.func13, Try.ntmps13
      go_wp2_with fail
      refine (C3.out _ _ hv).mono ?_
      rintro e wa ⟨v0, rfl, own0, bel0⟩
      go_wp2_with fail
      refine (C1.out _ _ own0.ints).mono ?_
      rintro e w1 ⟨rfl, rfl⟩
      go_wp2_with fail
      refine (C3.out _ _ (hv.below bel0)).mono ?_
      rintro e wb ⟨v1, rfl, own1, bel1⟩
      go_wp2_with fail
      refine (C2.out _ _ own1.ints).mono ?_
      rintro e w1 ⟨rfl, rfl⟩
      go_wp2_with fail
      refine (C3.out _ _ ((hv.below bel0).below bel1)).mono ?_
      rintro e wc ⟨v2, rfl, own2, bel2⟩
      go_wp2_with fail
      refine (laws_eqIntS v1 v2 zs zs wc (own1.ints.below bel2) own2.ints).mono ?_
      rintro e wd ⟨rfl, bel3⟩
      go_wp2_with fail
      go_ret
      exact ⟨rfl, Bstep (Bstep (Bstep bel0 bel1) bel2) bel3⟩

theorem law_FnExactSumOf (w : World) (v : Value) (zs : List Int) (h : IntsIn w v zs) : Calls Try.prog 14 #[v] w (Yes w) := by
  have hv := h.1
  obtain ⟨a, cap, rfl, hl, hm, hc⟩ := h.1
  clear hc
  unfold maxLen at hm
  by_cases hlen : 1048576 < zs.length
  · go_enter Try.func14, Try.ntmps14
    go_wp2
    go_ret
    exact ⟨rfl, Below.refl _ _⟩
  · have C1 : Hid (∀ v w, Ints w v zs → Calls Try.prog 25 #[v] w fun e w' => e = .returned (.int .i64 (sumV zs)) ∧ w = w') := fun v w h => spec_SumOf v zs w h
    have C2 : Hid (∀ v w, Ints w v zs → Calls Try.prog 24 #[v] w fun e w' => e = .returned (.int .i64 (sumV zs)) ∧ w = w') := fun v w h => impl_SumOf v zs w h
    have C3 : Hid (∀ v w, Ints w v zs → Calls Try.prog 32 #[v] w (NewInts1 w zs)) := fun v w h => laws_toIntS v zs w h (by omega)
    obtain ⟨r1, hr1⟩ : ∃ r, sumV zs = r := ⟨_, rfl⟩
    rw [hr1] at C1 C2
    clear hr1 h
    have q1 : (r1 != r1) = false := by simp
    have he := beq_self zs
    go_enter Try.func14, Try.ntmps14
    go_wp2_with fail
    refine (C3.out _ _ hv).mono ?_
    rintro e wa ⟨v0, rfl, own0, bel0⟩
    go_wp2_with fail
    refine (C1.out _ _ own0.ints).mono ?_
    rintro e w1 ⟨rfl, rfl⟩
    go_wp2_with fail
    refine (C3.out _ _ (hv.below bel0)).mono ?_
    rintro e wb ⟨v1, rfl, own1, bel1⟩
    go_wp2_with fail
    refine (C2.out _ _ own1.ints).mono ?_
    rintro e w1 ⟨rfl, rfl⟩
    go_wp2_with fail
    refine (C3.out _ _ ((hv.below bel0).below bel1)).mono ?_
    rintro e wc ⟨v2, rfl, own2, bel2⟩
    go_wp2_with fail
    refine (laws_eqIntS v1 v2 zs zs wc (own1.ints.below bel2) own2.ints).mono ?_
    rintro e wd ⟨rfl, bel3⟩
    go_wp2_with fail
    go_ret
    exact ⟨rfl, Bstep (Bstep (Bstep bel0 bel1) bel2) bel3⟩

theorem law_FnExactBytesText (w : World) (v : Value) (zs : List Int) (h : IntsIn w v zs) : Calls Try.prog 15 #[v] w (Yes w) := by
  have hv := h.1
  obtain ⟨a, cap, rfl, hl, hm, hc⟩ := h.1
  clear hc
  unfold maxLen at hm
  by_cases hlen : 1048576 < zs.length
  · go_enter Try.func15, Try.ntmps15
    go_wp2
    go_ret
    exact ⟨rfl, Below.refl _ _⟩
  · have C1 : Hid (∀ v w, Ints w v zs → Calls Try.prog 28 #[v] w (StrRes (textB zs) w)) := fun v w h => spec_BytesText v zs w h (by omega)
    have C2 : Hid (∀ v w, Ints w v zs → Calls Try.prog 27 #[v] w (StrRes (textB zs) w)) := fun v w h => impl_BytesText v zs w h (by omega)
    have C3 : Hid (∀ v w, Ints w v zs → Calls Try.prog 32 #[v] w (NewInts1 w zs)) := fun v w h => laws_toIntS v zs w h (by omega)
    unfold StrRes at C1 C2
    obtain ⟨r1, hr1⟩ : ∃ r, strOfNums (textB zs) = r := ⟨_, rfl⟩
    rw [hr1] at C1 C2
    clear hr1 h
    have q1 : (r1.toList == r1.toList) = true := by simp
    have he := beq_self zs
    go_enter Try.func15, Try.ntmps15
    go_wp2_with fail
    refine (C3.out _ _ hv).mono ?_
    rintro e wa ⟨v0, rfl, own0, bel0⟩
    go_wp2_with fail
    refine (C1.out _ _ own0.ints).mono ?_
    rintro e w1 ⟨rfl, bel1⟩
    go_wp2_with fail
    refine (C3.out _ _ ((hv.below bel0).below bel1)).mono ?_
    rintro e wb ⟨v1, rfl, own1, bel2⟩
    go_wp2_with fail
    refine (C2.out _ _ own1.ints).mono ?_
    rintro e w2 ⟨rfl, bel3⟩
    go_wp2_with fail
    refine (C3.out _ _ ((((hv.below bel0).below bel1).below bel2).below bel3)).mono ?_
    rintro e wc ⟨v2, rfl, own2, bel4⟩
    go_wp2_with fail
    refine (laws_eqIntS v1 v2 zs zs wc ((own1.ints.below bel3).below bel4) own2.ints).mono ?_
    rintro e wd ⟨rfl, bel5⟩
    go_wp2_with fail
    go_ret
    exact ⟨rfl, Bstep (Bstep (Bstep (Bstep (Bstep bel0 bel1) bel2) bel3) bel4) bel5⟩
end Go.Proofs.Ytppppgkcgocgaaa
