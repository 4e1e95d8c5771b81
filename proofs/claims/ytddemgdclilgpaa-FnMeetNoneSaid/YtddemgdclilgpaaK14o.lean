/- Chapter 23: without a common term nothing is common. -/
import Derived.Test.YtddemgdclilgpaaK14n
namespace Go.Proofs.Ytddemgdclilgpaa
open Go.ChangeShapes Go.WideShapes Go.ChangeAt Go.RowKit
set_option linter.unusedVariables false

theorem meet_none {a : List Trm} {ea : Int} {b : List Trm} {eb : Int} (h : meetI a ea b eb = 0) : ∀ i j, i < a.length → j < b.length → tAt b j ≠ tAt a i := by
  obtain ⟨p, q⟩ := meetI_pos (a := a) (ea := ea) (b := b) (eb := eb) (by omega)
  rcases meet_char p q with ⟨_, h2⟩ | ⟨i, j, hi, hj, e, _, hv⟩
  · exact h2
  · exfalso
    have a1 := (endAt_in p hi).1
    have b1 := (endAt_in q hj).1
    have a2 := (tsOk_in (endOk_iff.1 p).1 hi).2.1
    have b2 := (tsOk_in (endOk_iff.1 q).1 hj).2.1
    rw [h] at hv
    omega

set_option maxHeartbeats 1000000 in
theorem law_FnMeetNone (w : World) (v : Value) (zs : List Int) (h : U8s w v zs) : Calls Try.prog 5 #[v] w (Yes w) := by
  have hU := h
  obtain ⟨a, cap, rfl, hl, hm, hc, hr⟩ := hU
  unfold maxLen at hm
  clear hc hr
  by_cases hlen : 1048576 < zs.length
  · go_enter Try.func5, Try.ntmps5
    go_wp2
    go_ret
    exact ⟨rfl, Below.refl _ _⟩
  · have C0 := Lib.hid (spec_DrawTermsMeet _ zs w h (by omega))
    have hgd := fun (w : World) (op : BinOp) (x y : Operand) (xs ys : Array Value) => run_eqGuard_agg (P := Try.prog) w op 29 x y xs ys term_guard
    clear h
    go_enter Try.func5, Try.ntmps5
    go_wp2_with fail
    refine C0.out.mono ?_
    rintro e w1 ⟨u, a, ea, vb, b, eb, rfl, tsA, tsB, la, lb, B1⟩
    have C1 : Hid (∀ W u v, Ts W u a → Ts W v b → Calls Try.prog 10 #[u, .int .i64 ea, v, .int .i64 eb] W (fun e w' => e = .returned (.int .i64 (meetI a ea b eb)) ∧ Below W.heap.size W w')) := Lib.hid fun W u v hu hv => spec_TermsMeet u v a b ea eb W hu hv
    have C2 : Hid (∀ W u v, Ts W u a → Ts W v b → Calls Try.prog 9 #[u, .int .i64 ea, v, .int .i64 eb] W (fun e w' => e = .returned (.int .i64 (meetI a ea b eb)) ∧ Below W.heap.size W w')) := Lib.hid fun W u v hu hv => impl_TermsMeet u v a b ea eb W hu hv
    have HF : meetI a ea b eb = 0 → _ := fun h => meet_none h
    obtain ⟨r, hr⟩ : ∃ r, meetI a ea b eb = r := ⟨_, rfl⟩
    rw [hr] at C1 C2 HF
    have hbb : (r != r) = false := by simp
    have hbe : (r == r) = true := by simp
    obtain ⟨ad, cp, rfl, hla, hma⟩ : ∃ ad cp, u = .slice ad a.length cp ∧ a.length ≤ cp ∧ cp ≤ maxLen := by
      obtain ⟨ad, cp, e, h1, h2, _⟩ := tsA
      exact ⟨ad, cp, e, h1, h2⟩
    obtain ⟨bd, cq, rfl, hlb, hmb⟩ : ∃ ad cp, vb = .slice ad b.length cp ∧ b.length ≤ cp ∧ cp ≤ maxLen := by
      obtain ⟨ad, cp, e, h1, h2, _⟩ := tsB
      exact ⟨ad, cp, e, h1, h2⟩
    unfold maxLen at hma hmb
    clear hr C0
    go_wp2_with fail
    refine (C2.out w1 _ _ tsA tsB).mono ?_
    rintro e w2 ⟨rfl, b2⟩
    have B2 := Bstep B1 b2
    have tsA2 := tsA.below b2
    have tsB2 := tsB.below b2
    clear tsA tsB B1 b2
    go_wp2_with fail
    refine (C1.out w2 _ _ tsA2 tsB2).mono ?_
    rintro e w3 ⟨rfl, b3⟩
    have B3 := Bstep B2 b3
    have tsA3 := tsA2.below b3
    have tsB3 := tsB2.below b3
    clear tsA2 tsB2 B2 b3
    by_cases r0 : r = 0
    · have d0 : (r != 0) = false := by simp [r0]
      have d0e : (r == 0) = true := by simp [r0]
      have HN := Lib.hid (HF r0)
      clear HF r0
      go_wp2_with fail
      go_loopw [9] (fun i wr => ∃ k : Nat, k ≤ a.length ∧ i = .int .i64 k ∧ Below w3.heap.size w3 wr) (fun i _ => a.length - (intOf i).toNat)
      case atStart => exact ⟨0, Nat.zero_le _, rfl, Below.refl _ _⟩
      case round =>
        obtain ⟨k, hk, rfl, bel⟩ := hrel
        by_cases hlt : k < a.length
        · go_wp2_with fail
          go_loopw [10] (fun i wr => ∃ q : Nat, q ≤ b.length ∧ i = .int .i64 q ∧ Below w3.heap.size w3 wr) (fun i _ => b.length - (intOf i).toNat)
          case atStart => exact ⟨0, Nat.zero_le _, rfl, bel⟩
          case round =>
            clear bel
            obtain ⟨q, hq, rfl, bel2⟩ := hrel
            by_cases hlt2 : q < b.length
            · obtain ⟨g1, off1, cp1, e, _, _, hcell1⟩ := (tsA3.below bel2).form (by omega)
              simp only [Value.slice.injEq, true_and] at e
              obtain ⟨rfl, rfl⟩ := e
              obtain ⟨c0, c1⟩ := hcell1 k hlt
              obtain ⟨g2, off2, cp2, e, _, _, hcell2⟩ := (tsB3.below bel2).form (by omega)
              simp only [Value.slice.injEq, true_and] at e
              obtain ⟨rfl, rfl⟩ := e
              obtain ⟨c2, c3⟩ := hcell2 q hlt2
              have hne := HN.out k q hlt hlt2
              obtain ⟨⟨x, y⟩, Ht⟩ : ∃ t, tAt a k = t := ⟨_, rfl⟩
              obtain ⟨⟨x', y'⟩, Ht'⟩ : ∃ t, tAt b q = t := ⟨_, rfl⟩
              rw [Ht] at c0 c1 hne
              rw [Ht'] at c2 c3 hne
              simp only at c0 c1 c2 c3
              have heq : ∀ w : World, (binOp .eql 29 (.agg #[.int .i64 x, .int .i64 y]) (.agg #[.int .i64 x', .int .i64 y'])).run Try.prog w = .ok (.bool false) w := fun w => by
                rw [term_eql]
                by_cases h1 : x = x' <;> by_cases h2 : y = y' <;> simp [h1, h2] <;> exact hne (by rw [h1, h2])
              have i0 : (0 : Int) ≤ (k : Int) := by omega
              have i1 : (k : Int) < (a.length : Int) := by omega
              have j0 : (0 : Int) ≤ (q : Int) := by omega
              have j1 : (q : Int) < (b.length : Int) := by omega
              clear hne hcell1 hcell2 Ht Ht'
              go_wp2_with fail
              go_quiet (fail)
              go_wp2_with fail
              go_roundw
              case rel => exact ⟨q + 1, by omega, by go_num, below_drewN bel2 _⟩
              case measure => simp [intOf]; omega
            · obtain rfl : q = b.length := by omega
              go_wp2_with fail
              go_roundw
              case rel => exact ⟨k + 1, by omega, by go_num, bel2⟩
              case measure => simp [intOf]; omega
        · go_wp2_with fail
          go_ret
          exact ⟨rfl, Bstep B3 bel⟩
    · have d0 : (r != 0) = true := by simp [r0]
      have d0e : (r == 0) = false := by simp [r0]
      clear HF r0
      go_wp2_with fail
      go_ret
      exact ⟨rfl, B3⟩
end Go.Proofs.Ytddemgdclilgpaa
