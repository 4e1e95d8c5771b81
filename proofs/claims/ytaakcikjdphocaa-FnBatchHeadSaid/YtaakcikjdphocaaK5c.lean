/- Chapter 5: the head of a batch's bytes. -/
import Derived.Test.YtaakcikjdphocaaK5b
import Derived.Test.YtaakcikjdphocaaWX5
import Derived.Test.YtaakcikjdphocaaW2b
namespace Go.Proofs.Ytaakcikjdphocaa
open Go.ChangeShapes Go.WideShapes Go.ChangeAt Go.RowKit
set_option linter.unusedVariables false

theorem head_facts {b : Bat} (h : batOk b = true) :
    okF (batB b) 0 3 = true ∧ numF (batB b) 0 3 = (recAt b.recs 0).off ∧ okF (batB b) 3 2 = true ∧ numF (batB b) 3 2 = ((batB b).length : Int) - 7 ∧ 18 ≤ (batB b).length ∧ (batB b).length ≤ 228 ∧ 1 ≤ b.recs.length ∧ b.recs.length ≤ 6 := by
  obtain ⟨l1, l2⟩ := batB_size h
  obtain ⟨⟨h1, h6⟩, _, _, ho⟩ := batOk_iff.1 h
  have hl := restB_len h
  have hn := batB_len b
  have ho0 := (recOk_iff.1 (ordOk_rec ho (show 0 < b.recs.length by omega))).1
  have e0 : batB b = sfx 3 (recAt b.recs 0).off ++ (sfx 2 ((restB b).length : Int) ++ (sfx 2 (sumB (restB b)) ++ restB b)) := by simp [batB]
  have y0 : okF (batB b) 0 3 = true := okF_mk (by omega) (by omega) (batB_ok h) (by omega) (by omega)
  have y1 : okF (batB b) 3 2 = true := okF_mk (by omega) (by omega) (batB_ok h) (by omega) (by omega)
  refine ⟨y0, ?_, y1, ?_, l1, l2, h1, h6⟩
  · rw [numF_yes y0]
    show fromB (((batB b).drop 0).take 3) = _
    rw [List.drop_zero, e0, take_app (sfx_len _ _), fromB_sfx3 (by omega) (by omega)]
  · rw [numF_yes y1]
    show fromB (((batB b).drop 3).take 2) = _
    rw [show (batB b).drop 3 = sfx 2 ((restB b).length : Int) ++ (sfx 2 (sumB (restB b)) ++ restB b) by rw [e0, drop_app (sfx_len _ _)], take_app (sfx_len _ _), fromB_sfx2 (by omega) (by omega)]
    omega
set_option maxHeartbeats 2000000 in
theorem law_FnBatchHead (w : World) (v : Value) (zs : List Int) (h : U8s w v zs) : Calls Try.prog 3 #[v] w (Yes w) := by
  have hU := h
  obtain ⟨a, cap, rfl, hl, hm, hc, hr⟩ := hU
  unfold maxLen at hm
  clear hc hr
  by_cases hlen : 1048576 < zs.length
  · go_enter Try.func3, Try.ntmps3
    go_wp2
    go_ret
    exact ⟨rfl, Below.refl _ _⟩
  · have C0 := Lib.hid (spec_DrawBatchBytes _ zs w h (by omega))
    clear h
    go_enter Try.func3, Try.ntmps3
    go_wp2_with fail
    (with_reducible refine C0.out.mono ?_)
    rintro e w1 ⟨b, u, rfl, hb, hl8, B1⟩
    have HB := Lib.hid hb
    obtain ⟨ra, rc, rfl, hrec, hrl, hrm⟩ := hb.parts
    have HF : Hid (batOk b = true → _) := Lib.hid (head_facts (b := b))
    have C1 : Hid (∀ wn, Below w1.heap.size w1 wn → Calls Try.prog 11 #[.agg #[.bool b.packed, .bool b.mark, .int .i64 b.prod, .int .i64 b.epoch, .int .i64 b.seq, .slice ra b.recs.length rc]] wn (NewInts wn (if batOk b = true then batB b else []) (batOk b))) := Lib.hid fun wn hw => impl_BatchBytes _ b wn (HB.out.below hw)
    have C2 : Hid (∀ wn, Below w1.heap.size w1 wn → Calls Try.prog 12 #[.agg #[.bool b.packed, .bool b.mark, .int .i64 b.prod, .int .i64 b.epoch, .int .i64 b.seq, .slice ra b.recs.length rc]] wn (NewInts wn (if batOk b = true then batB b else []) (batOk b))) := Lib.hid fun wn hw => spec_BatchBytes _ b wn (HB.out.below hw)
    obtain ⟨L, hL⟩ : ∃ L, (if batOk b = true then batB b else []) = L := ⟨_, rfl⟩
    have HL : Hid (batOk b = true → batB b = L) := Lib.hid fun h => by rw [← hL, if_pos h]
    rw [hL] at C1 C2
    obtain ⟨packed, mark, prod, epoch, seq, recs⟩ := b
    simp only at C1 C2 HF hrec hrl hl8
    obtain ⟨ob, hob⟩ : ∃ ob, batOk ⟨packed, mark, prod, epoch, seq, recs⟩ = ob := ⟨_, rfl⟩
    rw [hob] at C1 C2 HF HL
    have C5 : Hid (∀ wn u v xs, Ints wn u xs → Ints wn v xs → Calls Try.prog 13 #[u, v] wn (Same wn true)) := Lib.hid fun wn u v xs hu hv => by
      have := laws_sameInts u v xs xs wn hu hv
      rwa [beq_self] at this
    have hbb : (ob != ob) = false := by simp
    have hbe : (ob == ob) = true := by simp
    clear hob hL hb
    have bx := alloc_below' w1 (.cells #[.bool packed, .bool mark, .int .i64 prod, .int .i64 epoch, .int .i64 seq, .slice ra recs.length rc] 25)
    have xx := Blk.made w1 #[.bool packed, .bool mark, .int .i64 prod, .int .i64 epoch, .int .i64 seq, .slice ra recs.length rc] 25
    go_wp2_with fail
    generalize hw2 : w1.alloc (.cells #[.bool packed, .bool mark, .int .i64 prod, .int .i64 epoch, .int .i64 seq, .slice ra recs.length rc] 25) = w2 at bx xx ⊢
    obtain ⟨X, hX⟩ : ∃ X, w1.heap.size = X := ⟨_, rfl⟩
    rw [hX] at xx ⊢
    have HX := Lib.hid hX
    clear hw2 hX
    (with_reducible refine (C1.out w2 bx).mono ?_)
    rintro e w3 ⟨v1, rfl, own1, b3⟩
    have x3 := xx.belowS b3
    have b13 := Bstep bx b3
    clear xx bx b3
    obtain ⟨c0, c1, c2, c3, c4, c5⟩ := x3.sixC
    go_wp2_with fail
    (with_reducible refine (C2.out w3 b13).mono ?_)
    rintro e w4 ⟨v2, rfl, own2, b4⟩
    have x4 := x3.belowS b4
    have b14 := Bstep b13 b4
    have B4 := Bstep B1 b14
    have i1 := own1.ints.below b4
    have i2 := own2.ints
    clear x3 b13 b4 c0 c1 c2 c3 c4 c5 C1 C2 C0
    have D1 := Lib.hid (C5.out w4 v1 v2 L i1 i2)
    cases ob with
    | false =>
      go_wp2_with fail
      (with_reducible refine D1.out.mono ?_)
      rintro e w5 ⟨rfl, b5⟩
      have D2 := Lib.hid (C5.out w5 v1 v2 L (i1.below b5) (i2.below b5))
      go_wp2_with fail
      (with_reducible refine D2.out.mono ?_)
      rintro e w6 ⟨rfl, b6⟩
      go_wp2_with fail
      go_ret
      exact ⟨rfl, Bstep (Bstep B4 b5) b6⟩
    | true =>
      obtain ⟨y0, n0, y1, n1, l18, l228, l1, l6⟩ := HF.out rfl
      rw [HL.out rfl] at y0 n0 y1 n1 l18 l228
      obtain ⟨g, off, cap', eg, hm'⟩ := hrec.form (by omega)
      simp only [Value.slice.injEq, true_and] at eg
      obtain ⟨rfl, rfl⟩ := eg
      obtain ⟨k1, k2, r0⟩ := hrec.rec 0 (by omega)
      have f0 := r0.1
      rw [Nat.zero_mul, Nat.add_zero] at f0
      obtain ⟨ro, hro⟩ : ∃ x, (recAt recs 0).off = x := ⟨_, rfl⟩
      rw [hro] at f0 n0
      have I0 : Hid (∀ wn, Ints wn v1 L → Calls Try.prog 14 #[v1, .int .i64 0, .int .i64 3] wn (GotRes ro true wn)) := Lib.hid fun wn hi => by
        have := impl_IntFrom v1 L 0 3 wn hi ⟨by omega, by omega⟩ ⟨by omega, by omega⟩
        rwa [y0, n0] at this
      have I1 : Hid (∀ wn, Ints wn v1 L → Calls Try.prog 14 #[v1, .int .i64 3, .int .i64 2] wn (GotRes ((L.length : Int) - 7) true wn)) := Lib.hid fun wn hi => by
        have := impl_IntFrom v1 L 3 2 wn hi ⟨by omega, by omega⟩ ⟨by omega, by omega⟩
        rwa [y1, n1] at this
      clear y0 n0 y1 n1 hro r0 HF HL HB
      have lg : g < w1.heap.size := World.block_lt_of_cell? _ _ f0
      have HC : Hid (∀ wn, Below w1.heap.size w1 wn → wn.cell? ⟨g, off, none⟩ = some (.int .i64 ro)) := Lib.hid fun wn hw => (hw.cell lg).trans f0
      have s1 : IntKind.i64.wrap ((L.length : Int) - 7) = (L.length : Int) - 7 := IntWalk.i64_in _ ⟨by omega, by omega⟩
      have q1 : (ro == ro) = true := by simp
      have q2 : (((L.length : Int) - 7) == ((L.length : Int) - 7)) = true := by simp
      have d1 : decide ((18 : Int) ≤ (L.length : Int)) = true := decide_eq_true (by omega)
      have d1n : decide (18 ≤ L.length) = true := decide_eq_true l18
      have n4 : 0 < recs.length := by omega
      clear f0 hrec
      go_wp2_with fail
      (with_reducible refine D1.out.mono ?_)
      rintro e w5 ⟨rfl, b5⟩
      have i5 := i1.below b5
      have E1 := Lib.hid (I0.out w5 i5)
      have E2 := Lib.hid (I1.out w5 i5)
      have x5 := x4.belowS b5
      have f5 := HC.out w5 (Bstep b14 b5)
      have c5 := x5.cell 5
      obtain ⟨p1, q1', rfl, hl1', hm1', hc1'⟩ := id i1
      clear hc1'
      go_wp2_with fail
      (with_reducible refine E1.out.mono ?_)
      rintro e w5' ⟨rfl, rfl⟩
      go_wp2_with fail
      (with_reducible refine E2.out.mono ?_)
      rintro e w5'' ⟨rfl, rfl⟩
      go_wp2_with fail
      go_ret
      exact ⟨rfl, Bstep B4 b5⟩
end Go.Proofs.Ytaakcikjdphocaa
