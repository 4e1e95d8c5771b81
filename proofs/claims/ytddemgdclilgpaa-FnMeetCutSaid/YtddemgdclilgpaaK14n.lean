/- Chapter 23: laws of how far two rows agree. -/
import Derived.Test.YtddemgdclilgpaaD14c
import Derived.Test.YtddemgdclilgpaaW14m
import Derived.Test.YtddemgdclilgpaaW14o
namespace Go.Proofs.Ytddemgdclilgpaa
open Go.ChangeShapes Go.WideShapes Go.ChangeAt Go.RowKit
set_option linter.unusedVariables false

set_option maxHeartbeats 1000000 in
theorem law_FnMeet (w : World) (v : Value) (zs : List Int) (h : U8s w v zs) : Calls Try.prog 3 #[v] w (Yes w) := by
  have hU := h
  obtain ⟨a, cap, rfl, hl, hm, hc, hr⟩ := hU
  unfold maxLen at hm
  clear hc hr
  by_cases hlen : 1048576 < zs.length
  · go_enter Try.func3, Try.ntmps3
    go_wp2
    go_ret
    exact ⟨rfl, Below.refl _ _⟩
  · have C0 := Lib.hid (spec_DrawTermsMeet _ zs w h (by omega))
    clear h
    go_enter Try.func3, Try.ntmps3
    go_wp2_with fail
    refine C0.out.mono ?_
    rintro e w1 ⟨u, a, ea, vb, b, eb, rfl, tsA, tsB, la, lb, B1⟩
    have C1 : Hid (∀ W u v, Ts W u a → Ts W v b → Calls Try.prog 10 #[u, .int .i64 ea, v, .int .i64 eb] W (fun e w' => e = .returned (.int .i64 (meetI a ea b eb)) ∧ Below W.heap.size W w')) := Lib.hid fun W u v hu hv => spec_TermsMeet u v a b ea eb W hu hv
    have C2 : Hid (∀ W u v, Ts W u a → Ts W v b → Calls Try.prog 9 #[u, .int .i64 ea, v, .int .i64 eb] W (fun e w' => e = .returned (.int .i64 (meetI a ea b eb)) ∧ Below W.heap.size W w')) := Lib.hid fun W u v hu hv => impl_TermsMeet u v a b ea eb W hu hv
    have C3 : Hid (∀ W u v, Ts W u a → Ts W v b → Calls Try.prog 9 #[v, .int .i64 eb, u, .int .i64 ea] W (fun e w' => e = .returned (.int .i64 (meetI b eb a ea)) ∧ Below W.heap.size W w')) := Lib.hid fun W u v hu hv => impl_TermsMeet v u b a eb ea W hv hu
    have HF : 0 ≤ meetI a ea b eb → meetI a ea b eb ≤ ea ∧ meetI a ea b eb ≤ eb ∧ meetI b eb a ea = meetI a ea b eb := fun h => by
      obtain ⟨p, q⟩ := meetI_pos h
      exact ⟨(meet_le p q).2.1, (meet_le p q).2.2, meet_comm p q⟩
    obtain ⟨r, hr⟩ : ∃ r, meetI a ea b eb = r := ⟨_, rfl⟩
    rw [hr] at C1 C2 HF
    have hbb : (r != r) = false := by simp
    have hbe : (r == r) = true := by simp
    clear hr C0
    go_wp2_with fail
    refine (C2.out w1 u vb tsA tsB).mono ?_
    rintro e w2 ⟨rfl, b2⟩
    have B2 := Bstep B1 b2
    have tsA2 := tsA.below b2
    have tsB2 := tsB.below b2
    clear tsA tsB B1 b2
    go_wp2_with fail
    refine (C1.out w2 u vb tsA2 tsB2).mono ?_
    rintro e w3 ⟨rfl, b3⟩
    have B3 := Bstep B2 b3
    have tsA3 := tsA2.below b3
    have tsB3 := tsB2.below b3
    clear tsA2 tsB2 B2 b3
    by_cases r0 : r < 0
    · have d0 : decide (r < 0) = true := decide_eq_true r0
      go_wp2_with fail
      go_ret
      exact ⟨rfl, B3⟩
    · obtain ⟨f1, f2, f3⟩ := HF (by omega)
      rw [f3] at C3
      have d0 : decide (r < 0) = false := decide_eq_false r0
      have d1 : decide (r ≤ ea) = true := decide_eq_true f1
      have d2 : decide (r ≤ eb) = true := decide_eq_true f2
      clear f3 HF
      go_wp2_with fail
      refine (C3.out w3 u vb tsA3 tsB3).mono ?_
      rintro e w4 ⟨rfl, b4⟩
      go_wp2_with fail
      go_ret
      exact ⟨rfl, Bstep B3 b4⟩
set_option maxHeartbeats 1000000 in
theorem law_FnMeetSelf (w : World) (v : Value) (zs : List Int) (h : U8s w v zs) : Calls Try.prog 4 #[v] w (Yes w) := by
  have hU := h
  obtain ⟨a, cap, rfl, hl, hm, hc, hr⟩ := hU
  unfold maxLen at hm
  clear hc hr
  by_cases hlen : 1048576 < zs.length
  · go_enter Try.func4, Try.ntmps4
    go_wp2
    go_ret
    exact ⟨rfl, Below.refl _ _⟩
  · have C0 := Lib.hid (spec_DrawTermsMeet _ zs w h (by omega))
    clear h
    go_enter Try.func4, Try.ntmps4
    go_wp2_with fail
    refine C0.out.mono ?_
    rintro e w1 ⟨u, a, ea, vb, b, eb, rfl, tsA, tsB, la, lb, B1⟩
    have C1 : Hid (∀ W u v, Ts W u a → Ts W v b → Calls Try.prog 10 #[u, .int .i64 ea, v, .int .i64 eb] W (fun e w' => e = .returned (.int .i64 (meetI a ea b eb)) ∧ Below W.heap.size W w')) := Lib.hid fun W u v hu hv => spec_TermsMeet u v a b ea eb W hu hv
    have C2 : Hid (∀ W u v, Ts W u a → Ts W v b → Calls Try.prog 9 #[u, .int .i64 ea, v, .int .i64 eb] W (fun e w' => e = .returned (.int .i64 (meetI a ea b eb)) ∧ Below W.heap.size W w')) := Lib.hid fun W u v hu hv => impl_TermsMeet u v a b ea eb W hu hv
    have C3 : Hid (∀ W u, Ts W u a → Calls Try.prog 9 #[u, .int .i64 ea, u, .int .i64 ea] W (fun e w' => e = .returned (.int .i64 (meetI a ea a ea)) ∧ Below W.heap.size W w')) := Lib.hid fun W u hu => impl_TermsMeet u u a a ea ea W hu hu
    have HF : 0 ≤ meetI a ea b eb → meetI a ea a ea = if a.length = 0 then 0 else ea := fun h => meet_self (meetI_pos h).1
    obtain ⟨r, hr⟩ : ∃ r, meetI a ea b eb = r := ⟨_, rfl⟩
    rw [hr] at C1 C2 HF
    have hbb : (r != r) = false := by simp
    have hbe : (r == r) = true := by simp
    obtain ⟨ad, cp, rfl, hla, hma, hca⟩ : ∃ ad cp, u = .slice ad a.length cp ∧ a.length ≤ cp ∧ cp ≤ maxLen ∧ True := by
      obtain ⟨ad, cp, e, h1, h2, _⟩ := tsA
      exact ⟨ad, cp, e, h1, h2, trivial⟩
    unfold maxLen at hma
    clear hr C0 hca
    go_wp2_with fail
    refine (C2.out w1 _ vb tsA tsB).mono ?_
    rintro e w2 ⟨rfl, b2⟩
    have B2 := Bstep B1 b2
    have tsA2 := tsA.below b2
    have tsB2 := tsB.below b2
    clear tsA tsB B1 b2
    go_wp2_with fail
    refine (C1.out w2 _ vb tsA2 tsB2).mono ?_
    rintro e w3 ⟨rfl, b3⟩
    have B3 := Bstep B2 b3
    have tsA3 := tsA2.below b3
    have tsB3 := tsB2.below b3
    clear tsA2 tsB2 B2 b3
    by_cases r0 : r < 0
    · have d0 : decide (r < 0) = true := decide_eq_true r0
      go_wp2_with fail
      go_ret
      exact ⟨rfl, B3⟩
    · have d0 : decide (r < 0) = false := decide_eq_false r0
      have f1 := HF (by omega)
      rw [f1] at C3
      clear f1 HF
      by_cases a0 : a.length = 0
      · rw [if_pos a0] at C3
        have e0 : ((a.length : Int) == 0) = true := by simp [a0]
        have e0n : (a.length == 0) = true := by simp [a0]
        have e1 : decide ((0 : Int) < (a.length : Int)) = false := decide_eq_false (by omega)
        have e1n : decide (0 < a.length) = false := decide_eq_false (by omega)
        by_cases q : (0 : Int) = ea
        · have q1 : ((0 : Int) == ea) = true := by simp [q]
          clear a0 q
          go_wp2_with fail
          refine (C3.out w3 _ tsA3).mono ?_
          rintro e w4 ⟨rfl, b4⟩
          go_wp2_with fail
          go_ret
          exact ⟨rfl, Bstep B3 b4⟩
        · have q1 : ((0 : Int) == ea) = false := by simp [q]
          clear a0 q
          go_wp2_with fail
          refine (C3.out w3 _ tsA3).mono ?_
          rintro e w4 ⟨rfl, b4⟩
          go_wp2_with fail
          go_ret
          exact ⟨rfl, Bstep B3 b4⟩
      · rw [if_neg a0] at C3
        have e1 : decide ((0 : Int) < (a.length : Int)) = true := decide_eq_true (by omega)
        have e1n : decide (0 < a.length) = true := decide_eq_true (by omega)
        have q1 : (ea == ea) = true := by simp
        clear a0
        go_wp2_with fail
        refine (C3.out w3 _ tsA3).mono ?_
        rintro e w4 ⟨rfl, b4⟩
        go_wp2_with fail
        go_ret
        exact ⟨rfl, Bstep B3 b4⟩
end Go.Proofs.Ytddemgdclilgpaa
