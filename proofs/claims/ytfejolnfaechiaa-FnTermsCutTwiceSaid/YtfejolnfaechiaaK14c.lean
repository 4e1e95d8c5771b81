/- Chapter 23: laws of cuts. -/
import Derived.Test.YtfejolnfaechiaaD14
import Derived.Test.YtfejolnfaechiaaT1
namespace Go.Proofs.Ytfejolnfaechiaa
open Go.ChangeShapes Go.WideShapes Go.ChangeAt Go.RowKit
set_option linter.unusedVariables false

set_option maxHeartbeats 1000000 in
theorem law_FnTermsCut (w : World) (v : Value) (zs : List Int) (h : U8s w v zs) : Calls Try.prog 7 #[v] w (Yes w) := by
  have hU := h
  obtain ⟨a, cap, rfl, hl, hm, hc, hr⟩ := hU
  unfold maxLen at hm
  clear hc hr
  by_cases hlen : 1048576 < zs.length
  · go_enter Try.func7, Try.ntmps7
    go_wp2
    go_ret
    exact ⟨rfl, Below.refl _ _⟩
  · have C0 := Lib.hid (spec_DrawTermsCut _ zs w h (by omega))
    clear h
    go_enter Try.func7, Try.ntmps7
    go_wp2_with fail
    refine C0.out.mono ?_
    rintro e w1 ⟨u, ts, o, rfl, own1, hT, ⟨o0, o1⟩, B1⟩
    have C1 : Hid (∀ W u, Ts W u ts → Calls Try.prog 24 #[u, .int .i64 o] W (NewT W (cutL ts o) (tsOk ts))) := Lib.hid fun W u hu => spec_TermsCut u ts o W hu
    have C2 : Hid (∀ W u, Ts W u ts → Calls Try.prog 23 #[u, .int .i64 o] W (NewT W (cutL ts o) (tsOk ts))) := Lib.hid fun W u hu => impl_TermsCut u ts o W hu
    have HF : Hid (tsOk ts = true → _) := Lib.hid fun ok => cut_facts ok o
    obtain ⟨xs, hx⟩ : ∃ xs, cutL ts o = xs := ⟨_, rfl⟩
    obtain ⟨b, hb⟩ : ∃ b, tsOk ts = b := ⟨_, rfl⟩
    rw [hb, hx] at C1 C2
    rw [hb, hx] at HF
    have C5 : Hid (∀ W u v, Ts W u xs → Ts W v xs → Calls Try.prog 17 #[u, v] W (Same W true)) := Lib.hid fun W u v hu hv => laws_sameTerms u v xs W hu hv
    have C7 : Hid (∀ W u, Ts W u xs → Calls Try.prog 18 #[u] W (Same W (tsOk xs))) := Lib.hid fun W u hu => impl_TermsValid u xs W hu
    have qb : (b != b) = false := by simp
    have qe : (b == b) = true := by simp
    have hT9 := hT.1
    clear hb hx C0 hT
    go_wp2_with fail
    refine (C2.out w1 u own1.ts).mono ?_
    rintro e w2 ⟨u2, rfl, ownG, b2⟩
    have B2 := Bstep B1 b2
    have own2 := own1.below b2
    clear own1 b2 B1
    go_wp2_with fail
    refine (C1.out w2 u own2.ts).mono ?_
    rintro e w3 ⟨u3, rfl, ownW, b3⟩
    have B3 := Bstep B2 b3
    have own3 := own2.below b3
    have ownG3 := ownG.below b3
    clear own2 b3 B2 ownG
    cases b with
    | false =>
      go_wp2_with fail
      refine (C5.out w3 _ _ ownG3.ts ownW.ts).mono ?_
      rintro e w4 ⟨rfl, b4⟩
      go_wp2_with fail
      refine (C5.out w4 _ _ (ownG3.below b4).ts (ownW.below b4).ts).mono ?_
      rintro e w5 ⟨rfl, b5⟩
      go_wp2_with fail
      go_ret
      exact ⟨rfl, Bstep (Bstep B3 b4) b5⟩
    | true =>
      obtain ⟨n, f1, f2, f3, f4, f5, f6⟩ := HF.out rfl
      rw [f4] at C7
      clear HF
      go_wp2_with fail
      refine (C5.out w3 _ _ ownG3.ts ownW.ts).mono ?_
      rintro e w4 ⟨rfl, b4⟩
      have B4 := Bstep B3 b4
      have own4 := own3.below b4
      have ownG4 := ownG3.below b4
      clear own3 ownG3 ownW B3 b4
      obtain ⟨a2, c2, rfl⟩ := ownG4.form'
      obtain ⟨a1, c1, rfl⟩ := own4.form'
      have hs1 : ∀ W, (Instr.slice 23 (.slice a1 ts.length c1) none (some (.int .i64 (n : Int))) none).run Try.prog W = .ok (.slice a1 n c1) W := fun W => run_uptoT own4.ts n f1 W
      have z1 := own4.ts.sizes.2
      have z2 := ownG4.ts.sizes.2
      unfold maxLen at z1 z2
      rw [f3] at ownG4 z2 ⊢
      clear f4
      go_wp2_with fail
      refine (C7.out w4 _ ownG4.ts).mono ?_
      rintro e w5 ⟨rfl, b5⟩
      have B5 := Bstep B4 b5
      have own5 := own4.below b5
      have ownG5 := ownG4.below b5
      have part5 := own5.ts.take n f1
      rw [← f2] at part5
      clear own4 ownG4 B4 b5
      have d1 : decide ((n : Int) ≤ (ts.length : Int)) = true := decide_eq_true (by omega)
      have d1n : decide (n ≤ ts.length) = true := decide_eq_true f1
      go_wp2_with fail
      refine (C5.out w5 _ _ part5 ownG5.ts).mono ?_
      rintro e w6 ⟨rfl, b6⟩
      have B6 := Bstep B5 b6
      have own6 := own5.below b6
      have ownG6 := ownG5.below b6
      clear own5 ownG5 part5 B5 b6 hs1
      have F5 := Lib.hid f5
      have F6 := Lib.hid f6
      have F2 := Lib.hid f2
      clear f5 f6 f2
      by_cases n0 : n = 0
      · have e0 : ((n : Int) == 0) = true := by simp [n0]
        have e0n : (n == 0) = true := by simp [n0]
        by_cases nl : n = ts.length
        · have e1 : ((n : Int) == (ts.length : Int)) = true := by simp [nl]
          have e1n : (n == ts.length) = true := by simp [nl]
          clear n0 nl
          go_wp2_with fail
          go_ret
          exact ⟨rfl, B6⟩
        · have e1 : ((n : Int) == (ts.length : Int)) = false := by rw [beq_eq_false_iff_ne]; omega
          have e1n : (n == ts.length) = false := by simp [nl]
          obtain ⟨g, cp, e⟩ := own6.form (by omega)
          simp only [Value.slice.injEq, true_and] at e
          obtain ⟨rfl, rfl⟩ := e
          have k1 := (own6.cellsAt n (by omega)).2.1
          obtain ⟨y, hy⟩ : ∃ y, (tAt ts n).first = y := ⟨_, rfl⟩
          have d2 : decide (o ≤ y) = true := decide_eq_true (by rw [← hy]; exact F6.out nl)
          rw [hy] at k1
          have i1 : (n : Int) < (ts.length : Int) := by omega
          clear n0 nl hy
          go_wp2_with fail
          go_ret
          exact ⟨rfl, B6⟩
      · have e0 : ((n : Int) == 0) = false := by rw [beq_eq_false_iff_ne]; omega
        have e0n : (n == 0) = false := by simp [n0]
        obtain ⟨g2, cp2, e⟩ := ownG6.form (by omega)
        rw [f3] at e
        simp only [Value.slice.injEq, true_and] at e
        obtain ⟨rfl, rfl⟩ := e
        have k0 := (ownG6.cellsAt (n - 1) (by omega)).2.1
        have ea : tAt xs (n - 1) = tAt ts (n - 1) := by rw [F2.out, tAt_take (by omega)]
        rw [ea] at k0
        obtain ⟨x, hx⟩ : ∃ x, (tAt ts (n - 1)).first = x := ⟨_, rfl⟩
        have d3 : decide (x < o) = true := decide_eq_true (by rw [← hx]; exact F5.out n0)
        rw [hx] at k0
        have s1 : IntKind.i64.wrap ((n : Int) - 1) = (n : Int) - 1 := IntWalk.i64_in _ ⟨by omega, by omega⟩
        have n1 : ((n : Int) - 1).toNat = n - 1 := by omega
        have n2 : (1 : Int) ≤ (n : Int) := by omega
        have n3 : (n : Int) - 1 < (n : Int) := by omega
        clear n0 hx ea
        by_cases nl : n = ts.length
        · have e1 : ((n : Int) == (ts.length : Int)) = true := by simp [nl]
          have e1n : (n == ts.length) = true := by simp [nl]
          clear nl
          go_wp2_with fail
          go_ret
          exact ⟨rfl, B6⟩
        · have e1 : ((n : Int) == (ts.length : Int)) = false := by rw [beq_eq_false_iff_ne]; omega
          have e1n : (n == ts.length) = false := by simp [nl]
          obtain ⟨g, cp, e⟩ := own6.form (by omega)
          simp only [Value.slice.injEq, true_and] at e
          obtain ⟨rfl, rfl⟩ := e
          have k1 := (own6.cellsAt n (by omega)).2.1
          obtain ⟨y, hy⟩ : ∃ y, (tAt ts n).first = y := ⟨_, rfl⟩
          have d2 : decide (o ≤ y) = true := decide_eq_true (by rw [← hy]; exact F6.out nl)
          rw [hy] at k1
          have i1 : (n : Int) < (ts.length : Int) := by omega
          clear nl hy
          go_wp2_with fail
          go_ret
          exact ⟨rfl, B6⟩
set_option maxHeartbeats 1000000 in
theorem law_FnTermsCutTwice (w : World) (v : Value) (zs : List Int) (h : U8s w v zs) (v' : Value) (zs' : List Int) (h' : U8s w v' zs') : Calls Try.prog 8 #[v, v'] w (Yes w) := by
  have hU := h
  obtain ⟨a, cap, rfl, hl, hm, hc, hr⟩ := hU
  obtain ⟨a', cap', rfl, hl', hm', hc', hr'⟩ := h'
  unfold maxLen at hm hm'
  clear hc hr hc' hr'
  by_cases hlen : 1048576 < zs.length
  · have d0 : decide ((1048576 : Int) < (zs.length : Int)) = true := decide_eq_true (by omega)
    go_enter Try.func8, Try.ntmps8
    go_wp2_with fail
    go_ret
    exact ⟨rfl, Below.refl _ _⟩
  have d0 : decide ((1048576 : Int) < (zs.length : Int)) = false := decide_eq_false (by omega)
  by_cases hlen' : 1048576 < zs'.length
  · have d0' : decide ((1048576 : Int) < (zs'.length : Int)) = true := decide_eq_true (by omega)
    go_enter Try.func8, Try.ntmps8
    go_wp2_with fail
    go_ret
    exact ⟨rfl, Below.refl _ _⟩
  have d0' : decide ((1048576 : Int) < (zs'.length : Int)) = false := decide_eq_false (by omega)
  have C0 := Lib.hid (spec_DrawTermsCut _ zs w h (by omega))
  clear h
  go_enter Try.func8, Try.ntmps8
  go_wp2_with fail
  refine C0.out.mono ?_
  rintro e w1 ⟨u, ts, o, rfl, own1, hT, ⟨o0, o1⟩, B1⟩
  have C1 : Hid (∀ W u, Ts W u ts → Calls Try.prog 24 #[u, .int .i64 o] W (NewT W (cutL ts o) (tsOk ts))) := Lib.hid fun W u hu => spec_TermsCut u ts o W hu
  have C2 : Hid (∀ W u, Ts W u ts → Calls Try.prog 23 #[u, .int .i64 o] W (NewT W (cutL ts o) (tsOk ts))) := Lib.hid fun W u hu => impl_TermsCut u ts o W hu
  obtain ⟨M, hM⟩ : ∃ M, zs'.length = M := ⟨_, rfl⟩
  rw [hM] at hl' hlen' d0' ⊢
  have m0 : (0 : Int) ≤ (M : Int) % 9 := by omega
  have m1 : (M : Int) % 9 ≤ 8 := by omega
  have tm : (M : Int).tmod 9 = (M : Int) % 9 := Int.tmod_eq_emod_of_nonneg (by omega)
  have C3 : Hid (∀ W u, Ts W u ts → Calls Try.prog 23 #[u, .int .i64 (o - (M : Int) % 9)] W (NewT W (cutL ts (o - (M : Int) % 9)) (tsOk ts))) := Lib.hid fun W u hu => impl_TermsCut u ts _ W hu
  have HF : Hid (tsOk ts = true → tsOk (cutL ts o) = true ∧ cutL (cutL ts o) o = cutL ts o ∧ (cutL ts (o - (M : Int) % 9)).length ≤ (cutL ts o).length) := Lib.hid fun ok => by
    obtain ⟨n, _, _, _, f4, _⟩ := cut_facts ok o
    exact ⟨f4, cut_again ok o _ (by omega)⟩
  obtain ⟨ys, hy⟩ : ∃ ys, cutL ts (o - (M : Int) % 9) = ys := ⟨_, rfl⟩
  obtain ⟨xs, hx⟩ : ∃ xs, cutL ts o = xs := ⟨_, rfl⟩
  obtain ⟨b, hb⟩ : ∃ b, tsOk ts = b := ⟨_, rfl⟩
  rw [hb, hx] at C1 C2
  rw [hb, hy] at C3
  rw [hb, hx, hy] at HF
  have C4 : Hid (∀ W u, Ts W u xs → Calls Try.prog 23 #[u, .int .i64 o] W (NewT W (cutL xs o) (tsOk xs))) := Lib.hid fun W u hu => impl_TermsCut u xs o W hu
  have C5 : Hid (∀ W u v, Ts W u xs → Ts W v xs → Calls Try.prog 17 #[u, v] W (Same W true)) := Lib.hid fun W u v hu hv => laws_sameTerms u v xs W hu hv
  have qb : (b != b) = false := by simp
  have qe : (b == b) = true := by simp
  clear hb hx hy C0 hT hM
  go_wp2_with fail
  refine (C2.out w1 u own1.ts).mono ?_
  rintro e w2 ⟨u2, rfl, ownG, b2⟩
  have B2 := Bstep B1 b2
  have own2 := own1.below b2
  clear own1 b2 B1
  go_wp2_with fail
  refine (C1.out w2 u own2.ts).mono ?_
  rintro e w3 ⟨u3, rfl, ownW, b3⟩
  have B3 := Bstep B2 b3
  have own3 := own2.below b3
  have ownG3 := ownG.below b3
  clear own2 b3 B2 ownG
  cases b with
  | false =>
    go_wp2_with fail
    refine (C5.out w3 _ _ ownG3.ts ownW.ts).mono ?_
    rintro e w4 ⟨rfl, b4⟩
    go_wp2_with fail
    refine (C5.out w4 _ _ (ownG3.below b4).ts (ownW.below b4).ts).mono ?_
    rintro e w5 ⟨rfl, b5⟩
    go_wp2_with fail
    go_ret
    exact ⟨rfl, Bstep (Bstep B3 b4) b5⟩
  | true =>
    obtain ⟨f1, f2, f3⟩ := HF.out rfl
    rw [f1, f2] at C4
    clear HF f1 f2
    go_wp2_with fail
    refine (C5.out w3 _ _ ownG3.ts ownW.ts).mono ?_
    rintro e w4 ⟨rfl, b4⟩
    have B4 := Bstep B3 b4
    have own4 := own3.below b4
    have ownG4 := ownG3.below b4
    clear own3 ownG3 ownW B3 b4
    go_wp2_with fail
    refine (C4.out w4 _ ownG4.ts).mono ?_
    rintro e w5 ⟨u5, rfl, own5x, b5⟩
    have B5 := Bstep B4 b5
    have own5 := own4.below b5
    have ownG5 := ownG4.below b5
    clear own4 ownG4 B4 b5
    go_wp2_with fail
    refine (C3.out w5 _ own5.ts).mono ?_
    rintro e w6 ⟨u6, rfl, own6y, b6⟩
    have B6 := Bstep B5 b6
    have own6x := own5x.below b6
    have ownG6 := ownG5.below b6
    clear own5 own5x ownG5 B5 b6
    obtain ⟨a6, c6, rfl⟩ := own6y.form'
    obtain ⟨a2, c2, rfl⟩ := ownG6.form'
    have d1 : decide ((ys.length : Int) ≤ (xs.length : Int)) = true := decide_eq_true (by omega)
    have d1n : decide (ys.length ≤ xs.length) = true := decide_eq_true f3
    go_wp2_with fail
    refine (C5.out w6 _ _ own6x.ts ownG6.ts).mono ?_
    rintro e w7 ⟨rfl, b7⟩
    go_wp2_with fail
    go_ret
    exact ⟨rfl, Bstep B6 b7⟩
end Go.Proofs.Ytfejolnfaechiaa
