/- Chapter 23: behind a cut to what is common both agree. -/
import Derived.Test.YtddemgdclilgpaaK14n
import Derived.Test.YtddemgdclilgpaaT1
namespace Go.Proofs.Ytddemgdclilgpaa
open Go.ChangeShapes Go.WideShapes Go.ChangeAt Go.RowKit
set_option linter.unusedVariables false

set_option maxHeartbeats 1000000 in
theorem law_FnMeetCut (w : World) (v : Value) (zs : List Int) (h : U8s w v zs) : Calls Try.prog 6 #[v] w (Yes w) := by
  have hU := h
  obtain ⟨a, cap, rfl, hl, hm, hc, hr⟩ := hU
  unfold maxLen at hm
  clear hc hr
  by_cases hlen : 1048576 < zs.length
  · go_enter Try.func6, Try.ntmps6
    go_wp2
    go_ret
    exact ⟨rfl, Below.refl _ _⟩
  · have C0 := Lib.hid (spec_DrawTermsMeet _ zs w h (by omega))
    have hgd := fun (w : World) (op : BinOp) (x y : Operand) (xs ys : Array Value) => run_eqGuard_agg (P := Try.prog) w op 29 x y xs ys term_guard
    clear h
    go_enter Try.func6, Try.ntmps6
    go_wp2_with fail
    refine C0.out.mono ?_
    rintro e w1 ⟨u, a, ea, vb, b, eb, rfl, tsA, tsB, la, lb, B1⟩
    have C3 : Hid (∀ W u o, Ts W u a → Calls Try.prog 11 #[u, .int .i64 o] W (NewT W (cutL a o) (tsOk a))) := Lib.hid fun W u o hu => impl_TermsCut u a o W hu
    have C4 : Hid (∀ W u o, Ts W u b → Calls Try.prog 11 #[u, .int .i64 o] W (NewT W (cutL b o) (tsOk b))) := Lib.hid fun W u o hu => impl_TermsCut u b o W hu
    have C1 : Hid (∀ W u v, Ts W u a → Ts W v b → Calls Try.prog 10 #[u, .int .i64 ea, v, .int .i64 eb] W (fun e w' => e = .returned (.int .i64 (meetI a ea b eb)) ∧ Below W.heap.size W w')) := Lib.hid fun W u v hu hv => spec_TermsMeet u v a b ea eb W hu hv
    have C2 : Hid (∀ W u v, Ts W u a → Ts W v b → Calls Try.prog 9 #[u, .int .i64 ea, v, .int .i64 eb] W (fun e w' => e = .returned (.int .i64 (meetI a ea b eb)) ∧ Below W.heap.size W w')) := Lib.hid fun W u v hu hv => impl_TermsMeet u v a b ea eb W hu hv
    have HF : 1 ≤ meetI a ea b eb → tsOk a = true ∧ tsOk b = true ∧ 0 < (cutL a (meetI a ea b eb)).length ∧ ((∀ i, i < (cutL a (meetI a ea b eb)).length → i < (cutL b (meetI a ea b eb)).length → tAt (cutL a (meetI a ea b eb)) i = tAt (cutL b (meetI a ea b eb)) i) → (cutL a (meetI a ea b eb)).length = (cutL b (meetI a ea b eb)).length) := fun h => by
      obtain ⟨p, q⟩ := meetI_pos (a := a) (ea := ea) (b := b) (eb := eb) (by omega)
      have oka := (endOk_iff.1 p).1
      have okb := (endOk_iff.1 q).1
      have ha : cutL a (meetI a ea b eb) = cutF a (meetI a ea b eb) := if_pos oka
      have hb : cutL b (meetI a ea b eb) = cutF b (meetI a ea b eb) := if_pos okb
      rw [ha, hb]
      exact ⟨oka, okb, meet_cut p q h⟩
    obtain ⟨r, hr⟩ : ∃ r, meetI a ea b eb = r := ⟨_, rfl⟩
    rw [hr] at C1 C2 HF
    have hbb : (r != r) = false := by simp
    have hbe : (r == r) = true := by simp
    obtain ⟨ad, cp, rfl, hla, hma⟩ : ∃ ad cp, u = .slice ad a.length cp ∧ a.length ≤ cp ∧ cp ≤ maxLen := by
      obtain ⟨ad, cp, e, h1, h2, _⟩ := tsA
      exact ⟨ad, cp, e, h1, h2⟩
    obtain ⟨bd, cq, rfl, hlb, hmb⟩ : ∃ ad cp, vb = .slice ad b.length cp ∧ b.length ≤ cp ∧ cp ≤ maxLen := by
      obtain ⟨ad, cp, e, h1, h2, _⟩ := tsB
      exact ⟨ad, cp, e, h1, h2⟩
    unfold maxLen at hma hmb
    clear hr C0
    go_wp2_with fail
    refine (C2.out w1 _ _ tsA tsB).mono ?_
    rintro e w2 ⟨rfl, b2⟩
    have B2 := Bstep B1 b2
    have tsA2 := tsA.below b2
    have tsB2 := tsB.below b2
    clear tsA tsB B1 b2
    go_wp2_with fail
    refine (C1.out w2 _ _ tsA2 tsB2).mono ?_
    rintro e w3 ⟨rfl, b3⟩
    have B3 := Bstep B2 b3
    have tsA3 := tsA2.below b3
    have tsB3 := tsB2.below b3
    clear tsA2 tsB2 B2 b3
    by_cases r0 : r < 1
    · have d0 : decide (r < 1) = true := decide_eq_true r0
      clear HF r0
      go_wp2_with fail
      go_ret
      exact ⟨rfl, B3⟩
    · have d0 : decide (r < 1) = false := decide_eq_false r0
      obtain ⟨oka, okb, hx0, hxy⟩ := HF (by omega)
      rw [oka] at C3
      rw [okb] at C4
      obtain ⟨xs, hxs⟩ : ∃ xs, cutL a r = xs := ⟨_, rfl⟩
      obtain ⟨ys, hys⟩ : ∃ ys, cutL b r = ys := ⟨_, rfl⟩
      have C3' := Lib.hid fun W u hu => C3.out W u r hu
      have C4' := Lib.hid fun W u hu => C4.out W u r hu
      rw [hxs] at C3' hx0 hxy
      rw [hys] at C4' hxy
      have HX := Lib.hid hxy
      clear HF r0 hxs hys hxy C3 C4 oka okb
      go_wp2_with fail
      refine (C3'.out w3 _ tsA3).mono ?_
      rintro e w4 ⟨vx, rfl, ownX, b4⟩
      have B4 := Bstep B3 b4
      have tsB4 := tsB3.below b4
      clear tsA3 tsB3 B3 b4
      go_wp2_with fail
      refine (C4'.out w4 _ tsB4).mono ?_
      rintro e w5 ⟨vy, rfl, ownY, b5⟩
      have B5 := Bstep B4 b5
      have tsX := (ownX.below b5).ts
      have tsY := ownY.ts
      clear tsB4 B4 b5 ownX ownY
      obtain ⟨xd, xp, rfl, hlx, hmx⟩ : ∃ ad cp, vx = .slice ad xs.length cp ∧ xs.length ≤ cp ∧ cp ≤ maxLen := by
        obtain ⟨ad, cp, e, h1, h2, _⟩ := tsX
        exact ⟨ad, cp, e, h1, h2⟩
      obtain ⟨yd, yq, rfl, hly, hmy⟩ : ∃ ad cp, vy = .slice ad ys.length cp ∧ ys.length ≤ cp ∧ cp ≤ maxLen := by
        obtain ⟨ad, cp, e, h1, h2, _⟩ := tsY
        exact ⟨ad, cp, e, h1, h2⟩
      unfold maxLen at hmx hmy
      have e1 : decide ((0 : Int) < (xs.length : Int)) = true := decide_eq_true (by omega)
      have e1n : decide (0 < xs.length) = true := decide_eq_true hx0
      go_wp2_with fail
      go_loopw [13] (fun i wr => ∃ k : Nat, (k ≤ xs.length ∧ k ≤ ys.length) ∧ i = .int .i64 k ∧ (∀ j, j < k → tAt xs j = tAt ys j) ∧ Below w5.heap.size w5 wr) (fun i _ => xs.length - (intOf i).toNat)
      case atStart => exact ⟨0, ⟨Nat.zero_le _, Nat.zero_le _⟩, rfl, fun j hj => by omega, Below.refl _ _⟩
      case round =>
        obtain ⟨k, ⟨hkx, hky⟩, rfl, hsame, bel⟩ := hrel
        have BB := Bstep B5 bel
        by_cases hx : k < xs.length
        · by_cases hy : k < ys.length
          · obtain ⟨g1, off1, cp1, e, _, _, hcell1⟩ := (tsX.below bel).form (by omega)
            simp only [Value.slice.injEq, true_and] at e
            obtain ⟨rfl, rfl⟩ := e
            obtain ⟨c0, c1⟩ := hcell1 k hx
            obtain ⟨g2, off2, cp2, e, _, _, hcell2⟩ := (tsY.below bel).form (by omega)
            simp only [Value.slice.injEq, true_and] at e
            obtain ⟨rfl, rfl⟩ := e
            obtain ⟨c2, c3⟩ := hcell2 k hy
            have i0 : (0 : Int) ≤ (k : Int) := by omega
            have i1 : (k : Int) < (xs.length : Int) := by omega
            have j1 : (k : Int) < (ys.length : Int) := by omega
            have d1 : decide ((k : Int) < (xs.length : Int)) = true := decide_eq_true i1
            have d2 : decide ((k : Int) < (ys.length : Int)) = true := decide_eq_true j1
            have d1n : decide (k < xs.length) = true := decide_eq_true hx
            have d2n : decide (k < ys.length) = true := decide_eq_true hy
            by_cases hq : tAt xs k = tAt ys k
            · have HS : Hid (∀ j, j < k + 1 → tAt xs j = tAt ys j) := Lib.hid fun j hj => by
                by_cases e : j = k
                · rw [e, hq]
                · exact hsame j (by omega)
              obtain ⟨⟨x, y⟩, Ht⟩ : ∃ t, tAt ys k = t := ⟨_, rfl⟩
              rw [hq, Ht] at c0 c1
              rw [Ht] at c2 c3
              simp only at c0 c1 c2 c3
              have hneq : ∀ w : World, (binOp .neq 29 (.agg #[.int .i64 x, .int .i64 y]) (.agg #[.int .i64 x, .int .i64 y])).run Try.prog w = .ok (.bool false) w := fun w => by
                rw [term_neq]
                simp
              clear hcell1 hcell2 hq Ht hsame
              go_wp2_with fail
              go_quiet (fail)
              go_wp2_with fail
              go_roundw
              case rel => exact ⟨k + 1, ⟨by omega, by omega⟩, by go_num, HS.out, below_drewN bel _⟩
              case measure => simp [intOf]; omega
            · obtain ⟨⟨x, y⟩, Ht⟩ : ∃ t, tAt xs k = t := ⟨_, rfl⟩
              obtain ⟨⟨x', y'⟩, Ht'⟩ : ∃ t, tAt ys k = t := ⟨_, rfl⟩
              rw [Ht] at c0 c1 hq
              rw [Ht'] at c2 c3 hq
              simp only at c0 c1 c2 c3
              have hneq : ∀ w : World, (binOp .neq 29 (.agg #[.int .i64 x, .int .i64 y]) (.agg #[.int .i64 x', .int .i64 y'])).run Try.prog w = .ok (.bool true) w := fun w => by
                rw [term_neq]
                by_cases h1 : x = x' <;> by_cases h2 : y = y' <;> simp [h1, h2] <;> exact hq (by rw [h1, h2])
              have BD := below_drewN BB 1
              clear hcell1 hcell2 hq Ht Ht' hsame
              go_wp2_with fail
              go_quiet (fail)
              go_wp2_with fail
              go_ret
              exact ⟨rfl, below_drewN BB _⟩
          · have he : xs.length = ys.length := HX.out fun i _ hi => hsame i (by omega)
            have d2 : decide ((k : Int) < (ys.length : Int)) = false := decide_eq_false (by omega)
            have d2n : decide (k < ys.length) = false := decide_eq_false hy
            omega
        · have he : xs.length = ys.length := HX.out fun i hi _ => hsame i (by omega)
          have d1 : decide ((k : Int) < (xs.length : Int)) = false := decide_eq_false (by omega)
          have d1n : decide (k < xs.length) = false := decide_eq_false hx
          have e2 : ((xs.length : Int) == (ys.length : Int)) = true := by simp [he]
          have e2n : (xs.length == ys.length) = true := by simp [he]
          clear he
          go_wp2_with fail
          go_ret
          exact ⟨rfl, BB⟩
end Go.Proofs.Ytddemgdclilgpaa
