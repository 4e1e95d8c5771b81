/- Chapter 23: the exact law of TermsMeet. -/
import Derived.Test.YtddemgdclilgpaaK14
import Derived.Test.YtddemgdclilgpaaW14m
import Derived.Test.YtddemgdclilgpaaW14o
namespace Go.Proofs.Ytddemgdclilgpaa
open Go.ChangeShapes Go.WideShapes Go.ChangeAt Go.RowKit
set_option linter.unusedVariables false

set_option maxHeartbeats 1000000 in
theorem law_FnExactTermsMeet (w : World) (v : Value) (a : List Trm) (h : Ts w v a) (ea : Int) (hea : I64 ea) (u : Value) (b : List Trm) (g : Ts w u b) (eb : Int) (heb : I64 eb) : Calls Try.prog 7 #[v, .int .i64 ea, u, .int .i64 eb] w (Yes w) := by
  have hv := h
  have hu := g
  obtain ⟨aa, ca, rfl, hl, hm, hc⟩ := h
  obtain ⟨ab, cb, rfl, hl', hm', hc'⟩ := g
  unfold maxLen at hm hm'
  clear hc hc'
  have C0 := Lib.hid (laws_szTermS (.slice aa a.length ca) a 1048576 w hv (by omega) (by omega))
  unfold SzRes at C0
  by_cases hlen : (1048576 : Int) - (a.length : Int) < 0
  · rw [if_pos hlen] at C0
    go_enter Try.func7, Try.ntmps7
    go_wp2_with fail
    refine C0.out.mono ?_
    rintro e w1 ⟨rfl, rfl⟩
    go_wp2_with fail
    go_ret
    exact ⟨rfl, Below.refl _ _⟩
  · rw [if_neg hlen] at C0
    have D0 := Lib.hid (laws_szTermS (.slice ab b.length cb) b (1048576 - (a.length : Int)) w hu (by omega) (by omega))
    unfold SzRes at D0
    have dl : decide ((1048576 : Int) - (a.length : Int) < 0) = false := decide_eq_false hlen
    by_cases hlen2 : (1048576 : Int) - (a.length : Int) - (b.length : Int) < 0
    · rw [if_pos hlen2] at D0
      go_enter Try.func7, Try.ntmps7
      go_wp2_with fail
      refine C0.out.mono ?_
      rintro e w1 ⟨rfl, rfl⟩
      go_wp2_with fail
      refine D0.out.mono ?_
      rintro e w1 ⟨rfl, rfl⟩
      go_wp2_with fail
      go_ret
      exact ⟨rfl, Below.refl _ _⟩
    · rw [if_neg hlen2] at D0
      have C3 : Hid (∀ W, Below w.heap.size w W → Calls Try.prog 13 #[.slice aa a.length ca] W (CopyT W a)) := Lib.hid fun W hW => laws_toTermS _ a W (hv.below hW) (by omega)
      have D3 : Hid (∀ W, Below w.heap.size w W → Calls Try.prog 13 #[.slice ab b.length cb] W (CopyT W b)) := Lib.hid fun W hW => laws_toTermS _ b W (hu.below hW) (by omega)
      have C1 : Hid (∀ W u v, Ts W u a → Ts W v b → Calls Try.prog 10 #[u, .int .i64 ea, v, .int .i64 eb] W (fun e w' => e = .returned (.int .i64 (meetI a ea b eb)) ∧ Below W.heap.size W w')) := Lib.hid fun W u v hu hv => spec_TermsMeet u v a b ea eb W hu hv
      have C2 : Hid (∀ W u v, Ts W u a → Ts W v b → Calls Try.prog 9 #[u, .int .i64 ea, v, .int .i64 eb] W (fun e w' => e = .returned (.int .i64 (meetI a ea b eb)) ∧ Below W.heap.size W w')) := Lib.hid fun W u v hu hv => impl_TermsMeet u v a b ea eb W hu hv
      have C6 : Hid (∀ W u v, Ts W u a → Ts W v a → Calls Try.prog 14 #[u, v] W (Same W true)) := Lib.hid fun W u v hu hv => laws_eqTermS u v a W hu hv
      have D6 : Hid (∀ W u v, Ts W u b → Ts W v b → Calls Try.prog 14 #[u, v] W (Same W true)) := Lib.hid fun W u v hu hv => laws_eqTermS u v b W hu hv
      obtain ⟨r, hr⟩ : ∃ r, meetI a ea b eb = r := ⟨_, rfl⟩
      rw [hr] at C1 C2
      have hbb : (r != r) = false := by simp
      clear hr
      go_enter Try.func7, Try.ntmps7
      go_wp2_with fail
      refine C0.out.mono ?_
      rintro e w1 ⟨rfl, rfl⟩
      go_wp2_with fail
      refine D0.out.mono ?_
      rintro e w1 ⟨rfl, rfl⟩
      go_wp2_with fail
      refine (C3.out w (Below.refl _ _)).mono ?_
      rintro e w1 ⟨v1, rfl, own1, b1⟩
      go_wp2_with fail
      refine (D3.out w1 b1).mono ?_
      rintro e w2 ⟨v2, rfl, own2, b2⟩
      have B2 := Bstep b1 b2
      go_wp2_with fail
      refine (C1.out w2 v1 v2 (own1.below b2).ts own2.ts).mono ?_
      rintro e w3 ⟨rfl, b3⟩
      have B3 := Bstep B2 b3
      go_wp2_with fail
      refine (C3.out w3 B3).mono ?_
      rintro e w4 ⟨v4, rfl, own4, b4⟩
      have B4 := Bstep B3 b4
      go_wp2_with fail
      refine (D3.out w4 B4).mono ?_
      rintro e w5 ⟨v5, rfl, own5, b5⟩
      have B5 := Bstep B4 b5
      have own45 := own4.below b5
      go_wp2_with fail
      refine (C2.out w5 v4 v5 own45.ts own5.ts).mono ?_
      rintro e w6 ⟨rfl, b6⟩
      have B6 := Bstep B5 b6
      have own46 := own45.below b6
      have own56 := own5.below b6
      go_wp2_with fail
      refine (C3.out w6 B6).mono ?_
      rintro e w7 ⟨v7, rfl, own7, b7⟩
      have B7 := Bstep B6 b7
      go_wp2_with fail
      refine (C6.out w7 v4 v7 (own46.below b7).ts own7.ts).mono ?_
      rintro e w8 ⟨rfl, b8⟩
      have B8 := Bstep B7 b8
      have own58 := (own56.below b7).below b8
      go_wp2_with fail
      refine (D3.out w8 B8).mono ?_
      rintro e w9 ⟨v9, rfl, own9, b9⟩
      have B9 := Bstep B8 b9
      go_wp2_with fail
      refine (D6.out w9 v5 v9 (own58.below b9).ts own9.ts).mono ?_
      rintro e w10 ⟨rfl, b10⟩
      go_wp2_with fail
      go_ret
      exact ⟨rfl, Bstep B9 b10⟩
end Go.Proofs.Ytddemgdclilgpaa
