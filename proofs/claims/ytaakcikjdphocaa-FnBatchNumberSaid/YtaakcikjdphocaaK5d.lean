/- Chapter 5: batches of one producer with other numbers have other bytes. -/
import Derived.Test.YtaakcikjdphocaaK5b
import Derived.Test.YtaakcikjdphocaaWX5
namespace Go.Proofs.Ytaakcikjdphocaa
open Go.ChangeShapes Go.WideShapes Go.ChangeAt Go.RowKit
set_option linter.unusedVariables false

theorem batB_rest (b : Bat) : (batB b).drop 7 = restB b := by unfold batB; exact drop_app (by simp [sfx_len])
theorem restB_seq (b : Bat) (h0 : 0 ≤ b.seq) (h1 : b.seq < 65536) : fromB (((restB b).drop 3).take 2) = b.seq := by
  have e : restB b = [flagsN b, b.prod, b.epoch] ++ (sfx 2 b.seq ++ (sfx 3 (recAt b.recs 0).time ++ [(b.recs.length : Int), 0, 0] ++ pbodyB b)) := by simp [restB, headB]
  rw [e, drop_app (by rfl), take_app (sfx_len _ _), fromB_sfx2 h0 h1]
/-- the same batch with the next number -/
def nextSeq (b : Bat) : Bat := ⟨b.packed, b.mark, b.prod, b.epoch, b.seq + 1, b.recs⟩
theorem number_facts {b : Bat} (h : batOk b = true) (hp : b.prod ≠ 255) (hs : b.seq ≠ 9999) :
    batOk (nextSeq b) = true ∧ (batB (nextSeq b)).length = (batB b).length ∧ (batB (nextSeq b) == batB b) = false := by
  obtain ⟨hl, hm, hpr, ho⟩ := batOk_iff.1 h
  have sq : 0 ≤ b.seq ∧ b.seq ≤ 9999 := (headIn_of h).2.2.2.2.1
  have hok : batOk (nextSeq b) = true := by
    refine batOk_iff.2 ⟨hl, hm, ?_, ho⟩
    show prodOk b.mark b.prod b.epoch (b.seq + 1) = true
    unfold prodOk at hpr ⊢
    rw [if_neg hp] at hpr ⊢
    simp only [Bool.and_eq_true, inR_iff] at hpr ⊢
    omega
  have hpb : pbodyB (nextSeq b) = pbodyB b := rfl
  refine ⟨hok, ?_, ?_⟩
  · rw [batB_len, batB_len]
    unfold restB
    rw [List.length_append, List.length_append, headB_len, headB_len, hpb]
  · rw [beq_eq_false_iff_ne]
    intro e
    have e2 := congrArg (fun l => fromB (((l.drop 7).drop 3).take 2)) e
    simp only [batB_rest] at e2
    rw [restB_seq b sq.1 (by omega), restB_seq (nextSeq b) (by show 0 ≤ b.seq + 1; omega) (by show b.seq + 1 < 65536; omega)] at e2
    have : b.seq + 1 = b.seq := e2
    omega
set_option maxHeartbeats 2000000 in
theorem law_FnBatchNumber (w : World) (v : Value) (zs : List Int) (h : U8s w v zs) : Calls Try.prog 6 #[v] w (Yes w) := by
  have hU := h
  obtain ⟨a, cap, rfl, hl, hm, hc, hr⟩ := hU
  unfold maxLen at hm
  clear hc hr
  by_cases hlen : 1048576 < zs.length
  · go_enter Try.func6, Try.ntmps6
    go_wp2
    go_ret
    exact ⟨rfl, Below.refl _ _⟩
  · have C0 := Lib.hid (spec_DrawBatchBytes _ zs w h (by omega))
    clear h
    go_enter Try.func6, Try.ntmps6
    go_wp2_with fail
    (with_reducible refine C0.out.mono ?_)
    rintro e w1 ⟨b, u, rfl, hb, hl8, B1⟩
    have HB := Lib.hid hb
    obtain ⟨ra, rc, rfl, hrec, hrl, hrm⟩ := hb.parts
    have HF : Hid (batOk b = true → b.prod ≠ 255 → b.seq ≠ 9999 → _) := Lib.hid (number_facts (b := b))
    have HG : Hid (batOk b = true → (0 ≤ b.seq ∧ b.seq ≤ 9999) ∧ (batB b).length ≤ 228) := Lib.hid fun h => ⟨(headIn_of h).2.2.2.2.1, (batB_size h).2⟩
    have C1 : Hid (∀ wn, Below w1.heap.size w1 wn → Calls Try.prog 11 #[.agg #[.bool b.packed, .bool b.mark, .int .i64 b.prod, .int .i64 b.epoch, .int .i64 b.seq, .slice ra b.recs.length rc]] wn (NewInts wn (if batOk b = true then batB b else []) (batOk b))) := Lib.hid fun wn hw => impl_BatchBytes _ b wn (HB.out.below hw)
    have C2 : Hid (∀ wn, Below w1.heap.size w1 wn → Calls Try.prog 12 #[.agg #[.bool b.packed, .bool b.mark, .int .i64 b.prod, .int .i64 b.epoch, .int .i64 b.seq, .slice ra b.recs.length rc]] wn (NewInts wn (if batOk b = true then batB b else []) (batOk b))) := Lib.hid fun wn hw => spec_BatchBytes _ b wn (HB.out.below hw)
    obtain ⟨L, hL⟩ : ∃ L, (if batOk b = true then batB b else []) = L := ⟨_, rfl⟩
    have HL : Hid (batOk b = true → batB b = L) := Lib.hid fun h => by rw [← hL, if_pos h]
    rw [hL] at C1 C2
    obtain ⟨packed, mark, prod, epoch, seq, recs⟩ := b
    simp only at C1 C2 HF HG hrec hrl hl8
    obtain ⟨ob, hob⟩ : ∃ ob, batOk ⟨packed, mark, prod, epoch, seq, recs⟩ = ob := ⟨_, rfl⟩
    rw [hob] at C1 C2 HF HG HL
    have C5 : Hid (∀ wn u v xs, Ints wn u xs → Ints wn v xs → Calls Try.prog 13 #[u, v] wn (Same wn true)) := Lib.hid fun wn u v xs hu hv => by
      have := laws_sameInts u v xs xs wn hu hv
      rwa [beq_self] at this
    have hbb : (ob != ob) = false := by simp
    have hbe : (ob == ob) = true := by simp
    clear hob hL hb
    have bx := alloc_below' w1 (.cells #[.bool packed, .bool mark, .int .i64 prod, .int .i64 epoch, .int .i64 seq, .slice ra recs.length rc] 25)
    have xx := Blk.made w1 #[.bool packed, .bool mark, .int .i64 prod, .int .i64 epoch, .int .i64 seq, .slice ra recs.length rc] 25
    go_wp2_with fail
    generalize hw2 : w1.alloc (.cells #[.bool packed, .bool mark, .int .i64 prod, .int .i64 epoch, .int .i64 seq, .slice ra recs.length rc] 25) = w2 at bx xx ⊢
    obtain ⟨X, hX⟩ : ∃ X, w1.heap.size = X := ⟨_, rfl⟩
    rw [hX] at xx ⊢
    have HX := Lib.hid hX
    clear hw2 hX
    (with_reducible refine (C1.out w2 bx).mono ?_)
    rintro e w3 ⟨v1, rfl, own1, b3⟩
    have x3 := xx.belowS b3
    have b13 := Bstep bx b3
    clear xx bx b3
    obtain ⟨c0, c1, c2, c3, c4, c5⟩ := x3.sixC
    go_wp2_with fail
    (with_reducible refine (C2.out w3 b13).mono ?_)
    rintro e w4 ⟨v2, rfl, own2, b4⟩
    have x4 := x3.belowS b4
    have b14 := Bstep b13 b4
    have B4 := Bstep B1 b14
    have i1 := own1.ints.below b4
    have i2 := own2.ints
    clear x3 b13 b4 c0 c1 c2 c3 c4 c5 C1 C2 C0
    have D1 := Lib.hid (C5.out w4 v1 v2 L i1 i2)
    cases ob with
    | false =>
      go_wp2_with fail
      (with_reducible refine D1.out.mono ?_)
      rintro e w5 ⟨rfl, b5⟩
      have D2 := Lib.hid (C5.out w5 v1 v2 L (i1.below b5) (i2.below b5))
      go_wp2_with fail
      (with_reducible refine D2.out.mono ?_)
      rintro e w6 ⟨rfl, b6⟩
      go_wp2_with fail
      go_ret
      exact ⟨rfl, Bstep (Bstep B4 b5) b6⟩
    | true =>
      obtain ⟨⟨s0, s9⟩, l228⟩ := HG.out rfl
      rw [HL.out rfl] at l228
      obtain ⟨c0, c1, c2, c3, c4, c5⟩ := x4.sixC
      by_cases hp : prod = 255
      · subst hp
        go_wp2_with fail
        (with_reducible refine D1.out.mono ?_)
        rintro e w5 ⟨rfl, b5⟩
        have x5 := x4.belowS b5
        clear c0 c1 c2 c3 c4 c5
        obtain ⟨c0, c1, c2, c3, c4, c5⟩ := x5.sixC
        have D2 := Lib.hid (C5.out w5 v1 v2 L (i1.below b5) (i2.below b5))
        go_wp2_with fail
        (with_reducible refine D2.out.mono ?_)
        rintro e w6 ⟨rfl, b6⟩
        go_wp2_with fail
        go_ret
        exact ⟨rfl, Bstep (Bstep B4 b5) b6⟩
      by_cases hs : seq = 9999
      · subst hs
        have hpe : (prod == 255) = false := by simpa using hp
        clear hp
        go_wp2_with fail
        (with_reducible refine D1.out.mono ?_)
        rintro e w5 ⟨rfl, b5⟩
        have x5 := x4.belowS b5
        clear c0 c1 c2 c3 c4 c5
        obtain ⟨c0, c1, c2, c3, c4, c5⟩ := x5.sixC
        have D2 := Lib.hid (C5.out w5 v1 v2 L (i1.below b5) (i2.below b5))
        go_wp2_with fail
        (with_reducible refine D2.out.mono ?_)
        rintro e w6 ⟨rfl, b6⟩
        go_wp2_with fail
        go_ret
        exact ⟨rfl, Bstep (Bstep B4 b5) b6⟩
      obtain ⟨hok2, hl2, hne⟩ := HF.out rfl hp hs
      rw [HL.out rfl] at hl2 hne
      have hpe : (prod == 255) = false := by simpa using hp
      have hse : (seq == 9999) = false := by simpa using hs
      have sw : IntKind.i64.wrap (seq + 1) = seq + 1 := IntWalk.i64_in _ ⟨by omega, by omega⟩
      have C6 : Hid (∀ wn, Below w1.heap.size w1 wn → Calls Try.prog 11 #[.agg #[.bool packed, .bool mark, .int .i64 prod, .int .i64 epoch, .int .i64 (seq + 1), .slice ra recs.length rc]] wn (NewInts wn (batB (nextSeq ⟨packed, mark, prod, epoch, seq, recs⟩)) true)) := Lib.hid fun wn hw => by
        have := impl_BatchBytes (.agg #[.bool packed, .bool mark, .int .i64 prod, .int .i64 epoch, .int .i64 (seq + 1), .slice ra recs.length rc]) (nextSeq ⟨packed, mark, prod, epoch, seq, recs⟩) wn ⟨_, rfl, hrec.below hw⟩
        rwa [hok2, if_pos rfl] at this
      obtain ⟨L2, hL2⟩ : ∃ L2, batB (nextSeq ⟨packed, mark, prod, epoch, seq, recs⟩) = L2 := ⟨_, rfl⟩
      rw [hL2] at C6 hl2 hne
      have C7 : Hid (∀ wn u v, Ints wn u L2 → Ints wn v L → Calls Try.prog 13 #[u, v] wn (Same wn false)) := Lib.hid fun wn u v hu hv => by
        have := laws_sameInts u v L2 L wn hu hv
        rwa [hne] at this
      have HL2 := Lib.hid hl2
      clear hp hs hL2 hok2 hne hl2 HF HG HL HB hrec
      go_wp2_with fail
      (with_reducible refine D1.out.mono ?_)
      rintro e w5 ⟨rfl, b5⟩
      have x5 := x4.belowS b5
      clear c0 c1 c2 c3 c4 c5
      obtain ⟨c0, c1, c2, c3, c4, c5⟩ := x5.sixC
      have i5 := i1.below b5
      have b15 := Bstep b14 b5
      have B5 := Bstep B4 b5
      clear D1 x4 i1 i2 b14 B4 b5
      have I5K : Hid (∀ W, Below w5.heap.size w5 W → Ints W v1 L) := Lib.hid fun W hW => i5.below hW
      have lX := x5.lt
      go_upto_region 9 with (fail)
      have by5 := alloc_below' w5 (.cells #[.bool packed, .bool mark, .int .i64 prod, .int .i64 epoch, .int .i64 seq, .slice ra recs.length rc] 25)
      have yy := Blk.made w5 #[.bool packed, .bool mark, .int .i64 prod, .int .i64 epoch, .int .i64 seq, .slice ra recs.length rc] 25
      have x6 := x5.belowS by5
      have i6 := i5.below by5
      have b16 := Bstep b15 by5
      have lw : w1.heap.size ≤ w5.heap.size := b15.size
      generalize w5.alloc (.cells #[.bool packed, .bool mark, .int .i64 prod, .int .i64 epoch, .int .i64 seq, .slice ra recs.length rc] 25) = w6 at by5 yy x6 i6 b16 ⊢
      obtain ⟨Y, hY⟩ : ∃ Y, w5.heap.size = Y := ⟨_, rfl⟩
      rw [hY] at yy lX lw ⊢
      have HY := Lib.hid hY
      clear hY c0 c1 c2 c3 c4 c5 x5 i5
      have c4 := x6.cell 4
      have d4 := yy.cell 4
      have f4 := yy.free 4
      go_upto_region 10 with (fail)
      have yz := yy.setTo (i := 4) (u := .int .i64 (seq + 1)) (cs' := #[.bool packed, .bool mark, .int .i64 prod, .int .i64 epoch, .int .i64 (seq + 1), .slice ra recs.length rc]) rfl
      have bz5 : Below w5.heap.size w5 (w6.setCell ⟨Y, 4, none⟩ (.int .i64 (seq + 1))) := by5.setCell (p := ⟨Y, 4, none⟩) (show w5.heap.size ≤ Y by rw [HY.out]; omega) _
      have bz1 := b16.setCell (p := ⟨Y, 4, none⟩) (show w1.heap.size ≤ Y by omega) (.int .i64 (seq + 1))
      have i7 := I5K.out _ bz5
      generalize w6.setCell ⟨Y, 4, none⟩ (.int .i64 (seq + 1)) = w7 at yz bz5 bz1 i7 ⊢
      clear c4 d4 f4 yy x6 i6 b16 by5
      obtain ⟨c0, c1, c2, c3, c4, c5⟩ := yz.sixC
      have E6 := Lib.hid (C6.out w7 bz1)
      go_wp2_with fail
      (with_reducible refine E6.out.mono ?_)
      rintro e w8 ⟨v8, rfl, own8, b8⟩
      have E7 := Lib.hid (C7.out w8 v8 v1 own8.ints (i7.below b8))
      have B8 := Bstep (Bstep B5 bz5) b8
      obtain ⟨p8, q8, rfl, hl8', hm8, hc8⟩ := id own8.ints
      obtain ⟨p1, q1, rfl, hl1', hm1, hc1⟩ := id i7
      have qe : ((L2.length : Int) == (L.length : Int)) = true := by rw [HL2.out]; simp
      clear hc8 hc1 own8 i7 b8 I5K
      go_wp2_with fail
      (with_reducible refine E7.out.mono ?_)
      rintro e w9 ⟨rfl, b9⟩
      go_wp2_with fail
      go_ret
      exact ⟨rfl, Bstep B8 b9⟩
end Go.Proofs.Ytaakcikjdphocaa
