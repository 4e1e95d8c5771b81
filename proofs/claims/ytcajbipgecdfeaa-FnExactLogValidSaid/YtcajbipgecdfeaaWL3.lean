/- Chapter 12: which segments are valid, the model's test. -/
import Derived.Test.YtcajbipgecdfeaaWL
namespace Go.Proofs.Ytcajbipgecdfeaa
open Go.ChangeShapes Go.WideShapes Go.ChangeAt Go.RowKit
set_option linter.unusedVariables false

/-- six cells of a block from a place on, six others, and a cell beside them -/
def TwoSix (W : World) (b q : Nat) (v0 v1 v2 v3 v4 v5 : Value) (q' : Nat) (u0 u1 u2 u3 u4 u5 : Value) (p : Addr) (u : Value) : Prop :=
  W.cell? ⟨b, q, none⟩ = some v0 ∧ W.cell? ⟨b, q + 1, none⟩ = some v1 ∧ W.cell? ⟨b, q + 2, none⟩ = some v2 ∧ W.cell? ⟨b, q + 3, none⟩ = some v3 ∧ W.cell? ⟨b, q + 4, none⟩ = some v4 ∧ W.cell? ⟨b, q + 5, none⟩ = some v5 ∧
  W.cell? ⟨b, q', none⟩ = some u0 ∧ W.cell? ⟨b, q' + 1, none⟩ = some u1 ∧ W.cell? ⟨b, q' + 2, none⟩ = some u2 ∧ W.cell? ⟨b, q' + 3, none⟩ = some u3 ∧ W.cell? ⟨b, q' + 4, none⟩ = some u4 ∧ W.cell? ⟨b, q' + 5, none⟩ = some u5 ∧ W.cell? p = some u
set_option maxHeartbeats 4000000 in
theorem spec_LogValid (v : Value) (bs : List Bat) (w : World) (h : Bats w v bs) (hs : bs.length ≤ 1000000000) : Calls Try.prog 6 #[v] w (SaysB (logOk bs) w) := by
  have hv := h
  obtain ⟨a, cap, rfl, hl, hm, hc⟩ := h
  unfold maxLen at hm
  clear hc
  have Hend : Hid (rowB bs = true → decide ((bs.length : Int) ≤ 8) = logOk bs) := Lib.hid fun h => by
    unfold logOk
    rw [h, Bool.and_true, decide_eq_decide]
    omega
  have Hno : Hid (rowB bs = false → logOk bs = false) := Lib.hid fun h => by unfold logOk; rw [h, Bool.and_false]
  go_enter Try.func6, Try.ntmps6
  go_wp2_with fail
  go_loopw [3] (fun i wr => ∃ k : Nat, k ≤ bs.length ∧ i = .int .i64 k ∧ (∀ j, j < k → stepB bs j = true) ∧ Below w.heap.size w wr) (fun i _ => bs.length - (intOf i).toNat)
  case atStart => exact ⟨0, Nat.zero_le _, rfl, fun j hj => by omega, Below.refl _ _⟩
  case round =>
    obtain ⟨k, hk, rfl, hrel, bel⟩ := hrel
    by_cases hlt : k < bs.length
    · obtain ⟨b, off, cap', e, hm'⟩ := hv.form (by omega)
      simp only [Value.slice.injEq, true_and] at e
      obtain ⟨rfl, rfl⟩ := e
      have hvr := hv.below bel
      obtain ⟨x, a1, c1, Hr, hR⟩ := hvr.parts k hlt
      have hst : stepB bs k = (batOk x && (decide (k = 0) || decide (lastO (batN bs (k - 1)) < firstO x))) := by unfold stepB; rw [Hr.out]
      have HST := Lib.hid hst
      have Hrel := Lib.hid hrel
      have hxv := hR.batV
      have C1 : Hid (∀ W, Below wr.heap.size wr W → Calls Try.prog 17 #[.agg #[.bool x.packed, .bool x.mark, .int .i64 x.prod, .int .i64 x.epoch, .int .i64 x.seq, .slice a1 x.recs.length c1]] W (SaysB (batOk x) W)) := Lib.hid fun W hW => spec_BatchValid _ x W (hxv.below hW)
      have hrec := hR.2.2.2.2.2.2
      obtain ⟨packed, mark, prod, epoch, seq, recs⟩ := x
      have hR0 := hR
      simp only at C1 hrec
      clear hR hst hrel
      have k1 : (0 : Int) ≤ (k : Int) := by omega
      have k2 : (k : Int) < (bs.length : Int) := by omega
      cases hrb : batOk ⟨packed, mark, prod, epoch, seq, recs⟩ with
      | false =>
        rw [hrb] at C1
        have HSH : Hid (stepB bs k = false) := Lib.hid (by rw [HST.out, hrb]; rfl)
        have HS : Hid (∀ W, Below wr.heap.size wr W → SixAnd W b (off + k * 6) (.bool packed) (.bool mark) (.int .i64 prod) (.int .i64 epoch) (.int .i64 seq) (.slice a1 recs.length c1) ⟨b, off + k * 6, none⟩ (.bool packed)) := Lib.hid fun W hW =>
          have y := hR0.below hW
          ⟨y.1, y.2.1, y.2.2.1, y.2.2.2.1, y.2.2.2.2.1, y.2.2.2.2.2.1, y.1⟩
        clear hrb HST hxv Hr hvr hrec hR0
        go_upto_region 4 with (fail)
        have bdr : Below wr.heap.size wr wr.drew := below_drewN (Below.refl _ _) 1
        have S1 := HS.out _ bdr
        have D1 := Lib.hid (C1.out wr.drew bdr)
        refine wp_region_held_drew (S := fun W => SixAnd W b (off + k * 6) (.bool packed) (.bool mark) (.int .i64 prod) (.int .i64 epoch) (.int .i64 seq) (.slice a1 recs.length c1) ⟨b, off + k * 6, none⟩ (.bool packed)) (by kernel_rfl) S1 (fun hS => ?_)
        clear S1
        refine takeAt (i := 0) (v := ?_) rfl (by kernel_rfl) (by kernel_rfl) (by kernel_rfl) (fun _ _ _ h => h) (by kernel_rfl) (by assumption) (fun W hSW => ?_) ?_
        rotate_left
        · ((try unfold BoxAnd at hSW); (try unfold SixAnd at hSW); (try unfold FourT at hSW); (try unfold PutT at hSW); (try unfold TwoSix at hSW); go_simp; (try with_reducible rfl))
        simp only [Act.put, List.setIfInBounds_toArray, List.set_cons_zero, List.set_cons_succ]
        refine takeAt (i := 1) (v := ?_) rfl (by kernel_rfl) (by kernel_rfl) (by kernel_rfl) (fun _ _ _ h => h) (by kernel_rfl) (by assumption) (fun W hSW => ?_) ?_
        rotate_left
        · ((try unfold BoxAnd at hSW); (try unfold SixAnd at hSW); (try unfold FourT at hSW); (try unfold PutT at hSW); (try unfold TwoSix at hSW); go_simp; (try with_reducible rfl))
        simp only [Act.put, List.setIfInBounds_toArray, List.set_cons_zero, List.set_cons_succ]
        refine takeAt (i := 2) (v := ?_) rfl (by kernel_rfl) (by kernel_rfl) (by kernel_rfl) (fun _ _ _ h => h) (by kernel_rfl) (by assumption) (fun W hSW => ?_) ?_
        rotate_left
        · ((try unfold BoxAnd at hSW); (try unfold SixAnd at hSW); (try unfold FourT at hSW); (try unfold PutT at hSW); (try unfold TwoSix at hSW); go_simp; (try with_reducible rfl))
        simp only [Act.put, List.setIfInBounds_toArray, List.set_cons_zero, List.set_cons_succ]
        refine takeAt (i := 3) (v := ?_) rfl (by kernel_rfl) (by kernel_rfl) (by kernel_rfl) (fun _ _ _ h => h) (by kernel_rfl) (by assumption) (fun W hSW => ?_) ?_
        rotate_left
        · ((try unfold BoxAnd at hSW); (try unfold SixAnd at hSW); (try unfold FourT at hSW); (try unfold PutT at hSW); (try unfold TwoSix at hSW); go_simp; (try with_reducible rfl))
        simp only [Act.put, List.setIfInBounds_toArray, List.set_cons_zero, List.set_cons_succ]
        refine onlyAt (i := 4) (by kernel_rfl) rfl (by kernel_rfl) (fun K hK => ?_)
        go_simp
        refine D1.out.mono ?_
        rintro e w2 ⟨rfl, b2⟩
        have hS2 := HS.out w2 (Bstep bdr b2)
        have b12 := Bstep bdr b2
        have B2 := Bstep bel b12
        refine hK.out _ _ hS2 ?_
        clear hK K hS D1 C1
        refine takeAt (i := 5) (v := ?_) rfl (by kernel_rfl) (by kernel_rfl) (by kernel_rfl) (fun _ _ _ h => h) (by kernel_rfl) (by assumption) (fun W hSW => ?_) ?_
        rotate_left
        · ((try unfold BoxAnd at hSW); (try unfold SixAnd at hSW); (try unfold FourT at hSW); (try unfold PutT at hSW); (try unfold TwoSix at hSW); go_simp; (try with_reducible rfl))
        simp only [Act.put, List.setIfInBounds_toArray, List.set_cons_zero, List.set_cons_succ]
        refine takeAt (i := 6) (v := ?_) rfl (by kernel_rfl) (by kernel_rfl) (by kernel_rfl) (fun _ _ _ h => h) (by kernel_rfl) (by assumption) (fun W hSW => ?_) ?_
        rotate_left
        · ((try unfold BoxAnd at hSW); (try unfold SixAnd at hSW); (try unfold FourT at hSW); (try unfold PutT at hSW); (try unfold TwoSix at hSW); go_simp; (try with_reducible rfl))
        simp only [Act.put, List.setIfInBounds_toArray, List.set_cons_zero, List.set_cons_succ]
        refine passAt (i := 7) rfl (by kernel_rfl) (by kernel_rfl) (by kernel_rfl) (fun _ _ _ h => h) (by kernel_rfl) (by assumption) ?_
        simp only [Act.put, List.setIfInBounds_toArray, List.set_cons_zero, List.set_cons_succ]
        refine passAt (i := 8) rfl (by kernel_rfl) (by kernel_rfl) (by kernel_rfl) (fun _ _ _ h => h) (by kernel_rfl) (by assumption) ?_
        simp only [Act.put, List.setIfInBounds_toArray, List.set_cons_zero, List.set_cons_succ]
        refine passAt (i := 9) rfl (by kernel_rfl) (by kernel_rfl) (by kernel_rfl) (fun _ _ _ h => h) (by kernel_rfl) (by assumption) ?_
        simp only [Act.put, List.setIfInBounds_toArray, List.set_cons_zero, List.set_cons_succ]
        refine passAt (i := 10) rfl (by kernel_rfl) (by kernel_rfl) (by kernel_rfl) (fun _ _ _ h => h) (by kernel_rfl) (by assumption) ?_
        simp only [Act.put, List.setIfInBounds_toArray, List.set_cons_zero, List.set_cons_succ]
        refine passAt (i := 11) rfl (by kernel_rfl) (by kernel_rfl) (by kernel_rfl) (fun _ _ _ h => h) (by kernel_rfl) (by assumption) ?_
        simp only [Act.put, List.setIfInBounds_toArray, List.set_cons_zero, List.set_cons_succ]
        refine passAt (i := 12) rfl (by kernel_rfl) (by kernel_rfl) (by kernel_rfl) (fun _ _ _ h => h) (by kernel_rfl) (by assumption) ?_
        simp only [Act.put, List.setIfInBounds_toArray, List.set_cons_zero, List.set_cons_succ]
        refine passAt (i := 13) rfl (by kernel_rfl) (by kernel_rfl) (by kernel_rfl) (fun _ _ _ h => h) (by kernel_rfl) (by assumption) ?_
        simp only [Act.put, List.setIfInBounds_toArray, List.set_cons_zero, List.set_cons_succ]
        refine passAt (i := 14) rfl (by kernel_rfl) (by kernel_rfl) (by kernel_rfl) (fun _ _ _ h => h) (by kernel_rfl) (by assumption) ?_
        simp only [Act.put, List.setIfInBounds_toArray, List.set_cons_zero, List.set_cons_succ]
        refine passAt (i := 15) rfl (by kernel_rfl) (by kernel_rfl) (by kernel_rfl) (fun _ _ _ h => h) (by kernel_rfl) (by assumption) ?_
        simp only [Act.put, List.setIfInBounds_toArray, List.set_cons_zero, List.set_cons_succ]
        refine passAt (i := 16) rfl (by kernel_rfl) (by kernel_rfl) (by kernel_rfl) (fun _ _ _ h => h) (by kernel_rfl) (by assumption) ?_
        simp only [Act.put, List.setIfInBounds_toArray, List.set_cons_zero, List.set_cons_succ]
        refine passAt (i := 17) rfl (by kernel_rfl) (by kernel_rfl) (by kernel_rfl) (fun _ _ _ h => h) (by kernel_rfl) (by assumption) ?_
        simp only [Act.put, List.setIfInBounds_toArray, List.set_cons_zero, List.set_cons_succ]
        refine passAt (i := 18) rfl (by kernel_rfl) (by kernel_rfl) (by kernel_rfl) (fun _ _ _ h => h) (by kernel_rfl) (by assumption) ?_
        simp only [Act.put, List.setIfInBounds_toArray, List.set_cons_zero, List.set_cons_succ]
        refine passAt (i := 19) rfl (by kernel_rfl) (by kernel_rfl) (by kernel_rfl) (fun _ _ _ h => h) (by kernel_rfl) (by assumption) ?_
        simp only [Act.put, List.setIfInBounds_toArray, List.set_cons_zero, List.set_cons_succ]
        refine passAt (i := 20) rfl (by kernel_rfl) (by kernel_rfl) (by kernel_rfl) (fun _ _ _ h => h) (by kernel_rfl) (by assumption) ?_
        simp only [Act.put, List.setIfInBounds_toArray, List.set_cons_zero, List.set_cons_succ]
        refine passAt (i := 21) rfl (by kernel_rfl) (by kernel_rfl) (by kernel_rfl) (fun _ _ _ h => h) (by kernel_rfl) (by assumption) ?_
        simp only [Act.put, List.setIfInBounds_toArray, List.set_cons_zero, List.set_cons_succ]
        refine passAt (i := 22) rfl (by kernel_rfl) (by kernel_rfl) (by kernel_rfl) (fun _ _ _ h => h) (by kernel_rfl) (by assumption) ?_
        simp only [Act.put, List.setIfInBounds_toArray, List.set_cons_zero, List.set_cons_succ]
        refine passAt (i := 23) rfl (by kernel_rfl) (by kernel_rfl) (by kernel_rfl) (fun _ _ _ h => h) (by kernel_rfl) (by assumption) ?_
        simp only [Act.put, List.setIfInBounds_toArray, List.set_cons_zero, List.set_cons_succ]
        refine passAt (i := 24) rfl (by kernel_rfl) (by kernel_rfl) (by kernel_rfl) (fun _ _ _ h => h) (by kernel_rfl) (by assumption) ?_
        simp only [Act.put, List.setIfInBounds_toArray, List.set_cons_zero, List.set_cons_succ]
        refine passAt (i := 25) rfl (by kernel_rfl) (by kernel_rfl) (by kernel_rfl) (fun _ _ _ h => h) (by kernel_rfl) (by assumption) ?_
        simp only [Act.put, List.setIfInBounds_toArray, List.set_cons_zero, List.set_cons_succ]
        refine takeAt (i := 26) (v := ?_) rfl (by kernel_rfl) (by kernel_rfl) (by kernel_rfl) (fun _ _ _ h => h) (by kernel_rfl) (by assumption) (fun W hSW => ?_) ?_
        rotate_left
        · ((try unfold BoxAnd at hSW); (try unfold SixAnd at hSW); (try unfold FourT at hSW); (try unfold PutT at hSW); (try unfold TwoSix at hSW); go_simp; (try with_reducible rfl))
        simp only [Act.put, List.setIfInBounds_toArray, List.set_cons_zero, List.set_cons_succ]
        refine wpAnyH_done (by kernel_rfl) ?_ _
        go_wp2_with fail
        go_ret
        exact ⟨ret_bool (Hno.out (rowB_no hlt HSH.out)).symm, B2⟩
      | true =>
        rw [hrb] at C1
        have hlen := (batOk_iff.1 hrb).1.1
        simp only at hlen
        obtain ⟨pb, po, cx, e, _⟩ := hrec.form (by omega)
        simp only [Value.slice.injEq, true_and] at e
        obtain ⟨rfl, rfl⟩ := e
        have n0 : 0 < recs.length := hlen
        have n01 : (0 : Int) < (recs.length : Int) := by omega
        by_cases k0 : k = 0
        · have HSH : Hid (stepB bs k = true) := Lib.hid (by rw [HST.out, hrb, decide_eq_true k0]; rfl)
          have d0 : decide ((0 : Int) < (k : Int)) = false := decide_eq_false (by omega)
          have d0n : decide (0 < k) = false := decide_eq_false (by omega)
          have H1 : Hid (∀ j, j < k + 1 → stepB bs j = true) := Lib.hid fun j hj => by
            by_cases e : j = k
            · rw [e, HSH.out]
            · exact Hrel.out j (by omega)
          have HS : Hid (∀ W, Below wr.heap.size wr W → SixAnd W b (off + k * 6) (.bool packed) (.bool mark) (.int .i64 prod) (.int .i64 epoch) (.int .i64 seq) (.slice (some ⟨pb, po, none⟩) recs.length c1) ⟨b, off + k * 6, none⟩ (.bool packed)) := Lib.hid fun W hW =>
            have y := hR0.below hW
            ⟨y.1, y.2.1, y.2.2.1, y.2.2.2.1, y.2.2.2.2.1, y.2.2.2.2.2.1, y.1⟩
          clear hrb HST hxv Hr hvr hrec hR0 k0 HSH
          go_upto_region 4 with (fail)
          have bdr : Below wr.heap.size wr wr.drew := below_drewN (Below.refl _ _) 1
          have S1 := HS.out _ bdr
          have D1 := Lib.hid (C1.out wr.drew bdr)
          refine wp_region_held_drew (S := fun W => SixAnd W b (off + k * 6) (.bool packed) (.bool mark) (.int .i64 prod) (.int .i64 epoch) (.int .i64 seq) (.slice (some ⟨pb, po, none⟩) recs.length c1) ⟨b, off + k * 6, none⟩ (.bool packed)) (by kernel_rfl) S1 (fun hS => ?_)
          clear S1
          refine takeAt (i := 0) (v := ?_) rfl (by kernel_rfl) (by kernel_rfl) (by kernel_rfl) (fun _ _ _ h => h) (by kernel_rfl) (by assumption) (fun W hSW => ?_) ?_
          rotate_left
          · ((try unfold BoxAnd at hSW); (try unfold SixAnd at hSW); (try unfold FourT at hSW); (try unfold PutT at hSW); (try unfold TwoSix at hSW); go_simp; (try with_reducible rfl))
          simp only [Act.put, List.setIfInBounds_toArray, List.set_cons_zero, List.set_cons_succ]
          refine takeAt (i := 1) (v := ?_) rfl (by kernel_rfl) (by kernel_rfl) (by kernel_rfl) (fun _ _ _ h => h) (by kernel_rfl) (by assumption) (fun W hSW => ?_) ?_
          rotate_left
          · ((try unfold BoxAnd at hSW); (try unfold SixAnd at hSW); (try unfold FourT at hSW); (try unfold PutT at hSW); (try unfold TwoSix at hSW); go_simp; (try with_reducible rfl))
          simp only [Act.put, List.setIfInBounds_toArray, List.set_cons_zero, List.set_cons_succ]
          refine takeAt (i := 2) (v := ?_) rfl (by kernel_rfl) (by kernel_rfl) (by kernel_rfl) (fun _ _ _ h => h) (by kernel_rfl) (by assumption) (fun W hSW => ?_) ?_
          rotate_left
          · ((try unfold BoxAnd at hSW); (try unfold SixAnd at hSW); (try unfold FourT at hSW); (try unfold PutT at hSW); (try unfold TwoSix at hSW); go_simp; (try with_reducible rfl))
          simp only [Act.put, List.setIfInBounds_toArray, List.set_cons_zero, List.set_cons_succ]
          refine takeAt (i := 3) (v := ?_) rfl (by kernel_rfl) (by kernel_rfl) (by kernel_rfl) (fun _ _ _ h => h) (by kernel_rfl) (by assumption) (fun W hSW => ?_) ?_
          rotate_left
          · ((try unfold BoxAnd at hSW); (try unfold SixAnd at hSW); (try unfold FourT at hSW); (try unfold PutT at hSW); (try unfold TwoSix at hSW); go_simp; (try with_reducible rfl))
          simp only [Act.put, List.setIfInBounds_toArray, List.set_cons_zero, List.set_cons_succ]
          refine onlyAt (i := 4) (by kernel_rfl) rfl (by kernel_rfl) (fun K hK => ?_)
          go_simp
          refine D1.out.mono ?_
          rintro e w2 ⟨rfl, b2⟩
          have hS2 := HS.out w2 (Bstep bdr b2)
          have b12 := Bstep bdr b2
          have B2 := Bstep bel b12
          refine hK.out _ _ hS2 ?_
          clear hK K hS D1 C1
          refine takeAt (i := 5) (v := ?_) rfl (by kernel_rfl) (by kernel_rfl) (by kernel_rfl) (fun _ _ _ h => h) (by kernel_rfl) (by assumption) (fun W hSW => ?_) ?_
          rotate_left
          · ((try unfold BoxAnd at hSW); (try unfold SixAnd at hSW); (try unfold FourT at hSW); (try unfold PutT at hSW); (try unfold TwoSix at hSW); go_simp; (try with_reducible rfl))
          simp only [Act.put, List.setIfInBounds_toArray, List.set_cons_zero, List.set_cons_succ]
          refine takeAt (i := 6) (v := ?_) rfl (by kernel_rfl) (by kernel_rfl) (by kernel_rfl) (fun _ _ _ h => h) (by kernel_rfl) (by assumption) (fun W hSW => ?_) ?_
          rotate_left
          · ((try unfold BoxAnd at hSW); (try unfold SixAnd at hSW); (try unfold FourT at hSW); (try unfold PutT at hSW); (try unfold TwoSix at hSW); go_simp; (try with_reducible rfl))
          simp only [Act.put, List.setIfInBounds_toArray, List.set_cons_zero, List.set_cons_succ]
          refine takeAt (i := 7) (v := ?_) rfl (by kernel_rfl) (by kernel_rfl) (by kernel_rfl) (fun _ _ _ h => h) (by kernel_rfl) (by assumption) (fun W hSW => ?_) ?_
          rotate_left
          · ((try unfold BoxAnd at hSW); (try unfold SixAnd at hSW); (try unfold FourT at hSW); (try unfold PutT at hSW); (try unfold TwoSix at hSW); go_simp; (try with_reducible rfl))
          simp only [Act.put, List.setIfInBounds_toArray, List.set_cons_zero, List.set_cons_succ]
          refine takeAt (i := 8) (v := ?_) rfl (by kernel_rfl) (by kernel_rfl) (by kernel_rfl) (fun _ _ _ h => h) (by kernel_rfl) (by assumption) (fun W hSW => ?_) ?_
          rotate_left
          · ((try unfold BoxAnd at hSW); (try unfold SixAnd at hSW); (try unfold FourT at hSW); (try unfold PutT at hSW); (try unfold TwoSix at hSW); go_simp; (try with_reducible rfl))
          simp only [Act.put, List.setIfInBounds_toArray, List.set_cons_zero, List.set_cons_succ]
          refine takeAt (i := 9) (v := ?_) rfl (by kernel_rfl) (by kernel_rfl) (by kernel_rfl) (fun _ _ _ h => h) (by kernel_rfl) (by assumption) (fun W hSW => ?_) ?_
          rotate_left
          · ((try unfold BoxAnd at hSW); (try unfold SixAnd at hSW); (try unfold FourT at hSW); (try unfold PutT at hSW); (try unfold TwoSix at hSW); go_simp; (try with_reducible rfl))
          simp only [Act.put, List.setIfInBounds_toArray, List.set_cons_zero, List.set_cons_succ]
          refine passAt (i := 10) rfl (by kernel_rfl) (by kernel_rfl) (by kernel_rfl) (fun _ _ _ h => h) (by kernel_rfl) (by assumption) ?_
          simp only [Act.put, List.setIfInBounds_toArray, List.set_cons_zero, List.set_cons_succ]
          refine passAt (i := 11) rfl (by kernel_rfl) (by kernel_rfl) (by kernel_rfl) (fun _ _ _ h => h) (by kernel_rfl) (by assumption) ?_
          simp only [Act.put, List.setIfInBounds_toArray, List.set_cons_zero, List.set_cons_succ]
          refine passAt (i := 12) rfl (by kernel_rfl) (by kernel_rfl) (by kernel_rfl) (fun _ _ _ h => h) (by kernel_rfl) (by assumption) ?_
          simp only [Act.put, List.setIfInBounds_toArray, List.set_cons_zero, List.set_cons_succ]
          refine passAt (i := 13) rfl (by kernel_rfl) (by kernel_rfl) (by kernel_rfl) (fun _ _ _ h => h) (by kernel_rfl) (by assumption) ?_
          simp only [Act.put, List.setIfInBounds_toArray, List.set_cons_zero, List.set_cons_succ]
          refine passAt (i := 14) rfl (by kernel_rfl) (by kernel_rfl) (by kernel_rfl) (fun _ _ _ h => h) (by kernel_rfl) (by assumption) ?_
          simp only [Act.put, List.setIfInBounds_toArray, List.set_cons_zero, List.set_cons_succ]
          refine passAt (i := 15) rfl (by kernel_rfl) (by kernel_rfl) (by kernel_rfl) (fun _ _ _ h => h) (by kernel_rfl) (by assumption) ?_
          simp only [Act.put, List.setIfInBounds_toArray, List.set_cons_zero, List.set_cons_succ]
          refine passAt (i := 16) rfl (by kernel_rfl) (by kernel_rfl) (by kernel_rfl) (fun _ _ _ h => h) (by kernel_rfl) (by assumption) ?_
          simp only [Act.put, List.setIfInBounds_toArray, List.set_cons_zero, List.set_cons_succ]
          refine passAt (i := 17) rfl (by kernel_rfl) (by kernel_rfl) (by kernel_rfl) (fun _ _ _ h => h) (by kernel_rfl) (by assumption) ?_
          simp only [Act.put, List.setIfInBounds_toArray, List.set_cons_zero, List.set_cons_succ]
          refine passAt (i := 18) rfl (by kernel_rfl) (by kernel_rfl) (by kernel_rfl) (fun _ _ _ h => h) (by kernel_rfl) (by assumption) ?_
          simp only [Act.put, List.setIfInBounds_toArray, List.set_cons_zero, List.set_cons_succ]
          refine passAt (i := 19) rfl (by kernel_rfl) (by kernel_rfl) (by kernel_rfl) (fun _ _ _ h => h) (by kernel_rfl) (by assumption) ?_
          simp only [Act.put, List.setIfInBounds_toArray, List.set_cons_zero, List.set_cons_succ]
          refine passAt (i := 20) rfl (by kernel_rfl) (by kernel_rfl) (by kernel_rfl) (fun _ _ _ h => h) (by kernel_rfl) (by assumption) ?_
          simp only [Act.put, List.setIfInBounds_toArray, List.set_cons_zero, List.set_cons_succ]
          refine passAt (i := 21) rfl (by kernel_rfl) (by kernel_rfl) (by kernel_rfl) (fun _ _ _ h => h) (by kernel_rfl) (by assumption) ?_
          simp only [Act.put, List.setIfInBounds_toArray, List.set_cons_zero, List.set_cons_succ]
          refine passAt (i := 22) rfl (by kernel_rfl) (by kernel_rfl) (by kernel_rfl) (fun _ _ _ h => h) (by kernel_rfl) (by assumption) ?_
          simp only [Act.put, List.setIfInBounds_toArray, List.set_cons_zero, List.set_cons_succ]
          refine passAt (i := 23) rfl (by kernel_rfl) (by kernel_rfl) (by kernel_rfl) (fun _ _ _ h => h) (by kernel_rfl) (by assumption) ?_
          simp only [Act.put, List.setIfInBounds_toArray, List.set_cons_zero, List.set_cons_succ]
          refine passAt (i := 24) rfl (by kernel_rfl) (by kernel_rfl) (by kernel_rfl) (fun _ _ _ h => h) (by kernel_rfl) (by assumption) ?_
          simp only [Act.put, List.setIfInBounds_toArray, List.set_cons_zero, List.set_cons_succ]
          refine takeAt (i := 25) (v := ?_) rfl (by kernel_rfl) (by kernel_rfl) (by kernel_rfl) (fun _ _ _ h => h) (by kernel_rfl) (by assumption) (fun W hSW => ?_) ?_
          rotate_left
          · ((try unfold BoxAnd at hSW); (try unfold SixAnd at hSW); (try unfold FourT at hSW); (try unfold PutT at hSW); (try unfold TwoSix at hSW); go_simp; (try with_reducible rfl))
          simp only [Act.put, List.setIfInBounds_toArray, List.set_cons_zero, List.set_cons_succ]
          refine takeAt (i := 26) (v := ?_) rfl (by kernel_rfl) (by kernel_rfl) (by kernel_rfl) (fun _ _ _ h => h) (by kernel_rfl) (by assumption) (fun W hSW => ?_) ?_
          rotate_left
          · ((try unfold BoxAnd at hSW); (try unfold SixAnd at hSW); (try unfold FourT at hSW); (try unfold PutT at hSW); (try unfold TwoSix at hSW); go_simp; (try with_reducible rfl))
          simp only [Act.put, List.setIfInBounds_toArray, List.set_cons_zero, List.set_cons_succ]
          refine wpAnyH_done (by kernel_rfl) ?_ _
          go_wp2_with fail
          go_roundw
          case rel => exact ⟨k + 1, by omega, by go_num, H1.out, B2⟩
          case measure => simp [intOf]; omega
        · obtain ⟨y, a2, c2, Hy, hY⟩ := hvr.parts (k - 1) (by omega)
          have hyok := (stepB_iff.1 (Hrel.out (k - 1) (by omega))).1
          rw [Hy.out] at hyok
          have hylen := (batOk_iff.1 hyok).1.1
          have hyv := hY.batV
          have C2 : Hid (∀ W, Below wr.heap.size wr W → Calls Try.prog 18 #[.agg #[.bool y.packed, .bool y.mark, .int .i64 y.prod, .int .i64 y.epoch, .int .i64 y.seq, .slice a2 y.recs.length c2]] W (SaysI (lastO y) W)) := Lib.hid fun W hW => spec_l12Last _ y W (hyv.below hW) hylen
          obtain ⟨kv, vv, hF⟩ := hrec.rec 0 hlen
          have hf := hF.1
          rw [show po + 0 * 6 = po by omega] at hf
          obtain ⟨z, hz⟩ : ∃ z, lastO y = z := ⟨_, rfl⟩
          obtain ⟨f, hff⟩ : ∃ f, (recAt recs 0).off = f := ⟨_, rfl⟩
          rw [hff] at hf
          rw [hz] at C2
          have HSH : Hid (stepB bs k = decide (z < f)) := Lib.hid (by
            rw [HST.out, hrb, decide_eq_false k0, Hy.out, hz]
            show (true && (false || decide (z < (recAt recs 0).off))) = _
            rw [hff]; simp)
          obtain ⟨yp, ym, yr, ye, yq, ys⟩ := y
          simp only at C2
          have d0 : decide ((0 : Int) < (k : Int)) = true := decide_eq_true (by omega)
          have d0n : decide (0 < k) = true := decide_eq_true (by omega)
          have s1 : IntKind.i64.wrap ((k : Int) - 1) = (k : Int) - 1 := IntWalk.i64_in _ ⟨by omega, by omega⟩
          have n1 : ((k : Int) - 1).toNat = k - 1 := by omega
          have n2 : (1 : Int) ≤ (k : Int) := by omega
          have n3 : (k : Int) - 1 < (bs.length : Int) := by omega
          have HS : Hid (∀ W, Below wr.heap.size wr W → TwoSix W b (off + k * 6) (.bool packed) (.bool mark) (.int .i64 prod) (.int .i64 epoch) (.int .i64 seq) (.slice (some ⟨pb, po, none⟩) recs.length c1) (off + (k - 1) * 6) (.bool yp) (.bool ym) (.int .i64 yr) (.int .i64 ye) (.int .i64 yq) (.slice a2 ys.length c2) ⟨pb, po, none⟩ (.int .i64 f)) := Lib.hid fun W hW =>
            have y := hR0.below hW
            have x := hY.below hW
            ⟨y.1, y.2.1, y.2.2.1, y.2.2.2.1, y.2.2.2.2.1, y.2.2.2.2.2.1, x.1, x.2.1, x.2.2.1, x.2.2.2.1, x.2.2.2.2.1, x.2.2.2.2.2.1, (hW.cell (World.block_lt_of_cell? _ _ hf)).trans hf⟩
          clear hrb HST hxv Hr hvr hrec hR0 hY hyv hyok hylen Hy hz hff hf hF k0
          go_upto_region 4 with (fail)
          have bdr : Below wr.heap.size wr wr.drew := below_drewN (Below.refl _ _) 1
          have S1 := HS.out _ bdr
          have D1 := Lib.hid (C1.out wr.drew bdr)
          refine wp_region_held_drew (S := fun W => TwoSix W b (off + k * 6) (.bool packed) (.bool mark) (.int .i64 prod) (.int .i64 epoch) (.int .i64 seq) (.slice (some ⟨pb, po, none⟩) recs.length c1) (off + (k - 1) * 6) (.bool yp) (.bool ym) (.int .i64 yr) (.int .i64 ye) (.int .i64 yq) (.slice a2 ys.length c2) ⟨pb, po, none⟩ (.int .i64 f)) (by kernel_rfl) S1 (fun hS => ?_)
          clear S1
          refine takeAt (i := 0) (v := ?_) rfl (by kernel_rfl) (by kernel_rfl) (by kernel_rfl) (fun _ _ _ h => h) (by kernel_rfl) (by assumption) (fun W hSW => ?_) ?_
          rotate_left
          · ((try unfold BoxAnd at hSW); (try unfold SixAnd at hSW); (try unfold FourT at hSW); (try unfold PutT at hSW); (try unfold TwoSix at hSW); go_simp; (try with_reducible rfl))
          simp only [Act.put, List.setIfInBounds_toArray, List.set_cons_zero, List.set_cons_succ]
          refine takeAt (i := 1) (v := ?_) rfl (by kernel_rfl) (by kernel_rfl) (by kernel_rfl) (fun _ _ _ h => h) (by kernel_rfl) (by assumption) (fun W hSW => ?_) ?_
          rotate_left
          · ((try unfold BoxAnd at hSW); (try unfold SixAnd at hSW); (try unfold FourT at hSW); (try unfold PutT at hSW); (try unfold TwoSix at hSW); go_simp; (try with_reducible rfl))
          simp only [Act.put, List.setIfInBounds_toArray, List.set_cons_zero, List.set_cons_succ]
          refine takeAt (i := 2) (v := ?_) rfl (by kernel_rfl) (by kernel_rfl) (by kernel_rfl) (fun _ _ _ h => h) (by kernel_rfl) (by assumption) (fun W hSW => ?_) ?_
          rotate_left
          · ((try unfold BoxAnd at hSW); (try unfold SixAnd at hSW); (try unfold FourT at hSW); (try unfold PutT at hSW); (try unfold TwoSix at hSW); go_simp; (try with_reducible rfl))
          simp only [Act.put, List.setIfInBounds_toArray, List.set_cons_zero, List.set_cons_succ]
          refine takeAt (i := 3) (v := ?_) rfl (by kernel_rfl) (by kernel_rfl) (by kernel_rfl) (fun _ _ _ h => h) (by kernel_rfl) (by assumption) (fun W hSW => ?_) ?_
          rotate_left
          · ((try unfold BoxAnd at hSW); (try unfold SixAnd at hSW); (try unfold FourT at hSW); (try unfold PutT at hSW); (try unfold TwoSix at hSW); go_simp; (try with_reducible rfl))
          simp only [Act.put, List.setIfInBounds_toArray, List.set_cons_zero, List.set_cons_succ]
          refine onlyAt (i := 4) (by kernel_rfl) rfl (by kernel_rfl) (fun K hK => ?_)
          go_simp
          refine D1.out.mono ?_
          rintro e w2 ⟨rfl, b2⟩
          have hS2 := HS.out w2 (Bstep bdr b2)
          have b12 := Bstep bdr b2
          have B2 := Bstep bel b12
          refine hK.out _ _ hS2 ?_
          clear hK K hS D1 C1
          have D2 := Lib.hid (C2.out w2 b12)
          clear C2
          refine takeAt (i := 5) (v := ?_) rfl (by kernel_rfl) (by kernel_rfl) (by kernel_rfl) (fun _ _ _ h => h) (by kernel_rfl) (by assumption) (fun W hSW => ?_) ?_
          rotate_left
          · ((try unfold BoxAnd at hSW); (try unfold SixAnd at hSW); (try unfold FourT at hSW); (try unfold PutT at hSW); (try unfold TwoSix at hSW); go_simp; (try with_reducible rfl))
          simp only [Act.put, List.setIfInBounds_toArray, List.set_cons_zero, List.set_cons_succ]
          refine takeAt (i := 6) (v := ?_) rfl (by kernel_rfl) (by kernel_rfl) (by kernel_rfl) (fun _ _ _ h => h) (by kernel_rfl) (by assumption) (fun W hSW => ?_) ?_
          rotate_left
          · ((try unfold BoxAnd at hSW); (try unfold SixAnd at hSW); (try unfold FourT at hSW); (try unfold PutT at hSW); (try unfold TwoSix at hSW); go_simp; (try with_reducible rfl))
          simp only [Act.put, List.setIfInBounds_toArray, List.set_cons_zero, List.set_cons_succ]
          refine takeAt (i := 7) (v := ?_) rfl (by kernel_rfl) (by kernel_rfl) (by kernel_rfl) (fun _ _ _ h => h) (by kernel_rfl) (by assumption) (fun W hSW => ?_) ?_
          rotate_left
          · ((try unfold BoxAnd at hSW); (try unfold SixAnd at hSW); (try unfold FourT at hSW); (try unfold PutT at hSW); (try unfold TwoSix at hSW); go_simp; (try with_reducible rfl))
          simp only [Act.put, List.setIfInBounds_toArray, List.set_cons_zero, List.set_cons_succ]
          refine takeAt (i := 8) (v := ?_) rfl (by kernel_rfl) (by kernel_rfl) (by kernel_rfl) (fun _ _ _ h => h) (by kernel_rfl) (by assumption) (fun W hSW => ?_) ?_
          rotate_left
          · ((try unfold BoxAnd at hSW); (try unfold SixAnd at hSW); (try unfold FourT at hSW); (try unfold PutT at hSW); (try unfold TwoSix at hSW); go_simp; (try with_reducible rfl))
          simp only [Act.put, List.setIfInBounds_toArray, List.set_cons_zero, List.set_cons_succ]
          refine takeAt (i := 9) (v := ?_) rfl (by kernel_rfl) (by kernel_rfl) (by kernel_rfl) (fun _ _ _ h => h) (by kernel_rfl) (by assumption) (fun W hSW => ?_) ?_
          rotate_left
          · ((try unfold BoxAnd at hSW); (try unfold SixAnd at hSW); (try unfold FourT at hSW); (try unfold PutT at hSW); (try unfold TwoSix at hSW); go_simp; (try with_reducible rfl))
          simp only [Act.put, List.setIfInBounds_toArray, List.set_cons_zero, List.set_cons_succ]
          refine takeAt (i := 10) (v := ?_) rfl (by kernel_rfl) (by kernel_rfl) (by kernel_rfl) (fun _ _ _ h => h) (by kernel_rfl) (by assumption) (fun W hSW => ?_) ?_
          rotate_left
          · ((try unfold BoxAnd at hSW); (try unfold SixAnd at hSW); (try unfold FourT at hSW); (try unfold PutT at hSW); (try unfold TwoSix at hSW); go_simp; (try with_reducible rfl))
          simp only [Act.put, List.setIfInBounds_toArray, List.set_cons_zero, List.set_cons_succ]
          refine takeAt (i := 11) (v := ?_) rfl (by kernel_rfl) (by kernel_rfl) (by kernel_rfl) (fun _ _ _ h => h) (by kernel_rfl) (by assumption) (fun W hSW => ?_) ?_
          rotate_left
          · ((try unfold BoxAnd at hSW); (try unfold SixAnd at hSW); (try unfold FourT at hSW); (try unfold PutT at hSW); (try unfold TwoSix at hSW); go_simp; (try with_reducible rfl))
          simp only [Act.put, List.setIfInBounds_toArray, List.set_cons_zero, List.set_cons_succ]
          refine takeAt (i := 12) (v := ?_) rfl (by kernel_rfl) (by kernel_rfl) (by kernel_rfl) (fun _ _ _ h => h) (by kernel_rfl) (by assumption) (fun W hSW => ?_) ?_
          rotate_left
          · ((try unfold BoxAnd at hSW); (try unfold SixAnd at hSW); (try unfold FourT at hSW); (try unfold PutT at hSW); (try unfold TwoSix at hSW); go_simp; (try with_reducible rfl))
          simp only [Act.put, List.setIfInBounds_toArray, List.set_cons_zero, List.set_cons_succ]
          refine takeAt (i := 13) (v := ?_) rfl (by kernel_rfl) (by kernel_rfl) (by kernel_rfl) (fun _ _ _ h => h) (by kernel_rfl) (by assumption) (fun W hSW => ?_) ?_
          rotate_left
          · ((try unfold BoxAnd at hSW); (try unfold SixAnd at hSW); (try unfold FourT at hSW); (try unfold PutT at hSW); (try unfold TwoSix at hSW); go_simp; (try with_reducible rfl))
          simp only [Act.put, List.setIfInBounds_toArray, List.set_cons_zero, List.set_cons_succ]
          refine takeAt (i := 14) (v := ?_) rfl (by kernel_rfl) (by kernel_rfl) (by kernel_rfl) (fun _ _ _ h => h) (by kernel_rfl) (by assumption) (fun W hSW => ?_) ?_
          rotate_left
          · ((try unfold BoxAnd at hSW); (try unfold SixAnd at hSW); (try unfold FourT at hSW); (try unfold PutT at hSW); (try unfold TwoSix at hSW); go_simp; (try with_reducible rfl))
          simp only [Act.put, List.setIfInBounds_toArray, List.set_cons_zero, List.set_cons_succ]
          refine takeAt (i := 16) (v := ?_) rfl (by kernel_rfl) (by kernel_rfl) (by kernel_rfl) (fun _ _ _ h => h) (by kernel_rfl) (by assumption) (fun W hSW => ?_) ?_
          rotate_left
          · ((try unfold BoxAnd at hSW); (try unfold SixAnd at hSW); (try unfold FourT at hSW); (try unfold PutT at hSW); (try unfold TwoSix at hSW); go_simp; (try with_reducible rfl))
          simp only [Act.put, List.setIfInBounds_toArray, List.set_cons_zero, List.set_cons_succ]
          refine takeAt (i := 17) (v := ?_) rfl (by kernel_rfl) (by kernel_rfl) (by kernel_rfl) (fun _ _ _ h => h) (by kernel_rfl) (by assumption) (fun W hSW => ?_) ?_
          rotate_left
          · ((try unfold BoxAnd at hSW); (try unfold SixAnd at hSW); (try unfold FourT at hSW); (try unfold PutT at hSW); (try unfold TwoSix at hSW); go_simp; (try with_reducible rfl))
          simp only [Act.put, List.setIfInBounds_toArray, List.set_cons_zero, List.set_cons_succ]
          refine takeAt (i := 18) (v := ?_) rfl (by kernel_rfl) (by kernel_rfl) (by kernel_rfl) (fun _ _ _ h => h) (by kernel_rfl) (by assumption) (fun W hSW => ?_) ?_
          rotate_left
          · ((try unfold BoxAnd at hSW); (try unfold SixAnd at hSW); (try unfold FourT at hSW); (try unfold PutT at hSW); (try unfold TwoSix at hSW); go_simp; (try with_reducible rfl))
          simp only [Act.put, List.setIfInBounds_toArray, List.set_cons_zero, List.set_cons_succ]
          refine takeAt (i := 19) (v := ?_) rfl (by kernel_rfl) (by kernel_rfl) (by kernel_rfl) (fun _ _ _ h => h) (by kernel_rfl) (by assumption) (fun W hSW => ?_) ?_
          rotate_left
          · ((try unfold BoxAnd at hSW); (try unfold SixAnd at hSW); (try unfold FourT at hSW); (try unfold PutT at hSW); (try unfold TwoSix at hSW); go_simp; (try with_reducible rfl))
          simp only [Act.put, List.setIfInBounds_toArray, List.set_cons_zero, List.set_cons_succ]
          refine takeAt (i := 20) (v := ?_) rfl (by kernel_rfl) (by kernel_rfl) (by kernel_rfl) (fun _ _ _ h => h) (by kernel_rfl) (by assumption) (fun W hSW => ?_) ?_
          rotate_left
          · ((try unfold BoxAnd at hSW); (try unfold SixAnd at hSW); (try unfold FourT at hSW); (try unfold PutT at hSW); (try unfold TwoSix at hSW); go_simp; (try with_reducible rfl))
          simp only [Act.put, List.setIfInBounds_toArray, List.set_cons_zero, List.set_cons_succ]
          refine takeAt (i := 21) (v := ?_) rfl (by kernel_rfl) (by kernel_rfl) (by kernel_rfl) (fun _ _ _ h => h) (by kernel_rfl) (by assumption) (fun W hSW => ?_) ?_
          rotate_left
          · ((try unfold BoxAnd at hSW); (try unfold SixAnd at hSW); (try unfold FourT at hSW); (try unfold PutT at hSW); (try unfold TwoSix at hSW); go_simp; (try with_reducible rfl))
          simp only [Act.put, List.setIfInBounds_toArray, List.set_cons_zero, List.set_cons_succ]
          refine takeAt (i := 22) (v := ?_) rfl (by kernel_rfl) (by kernel_rfl) (by kernel_rfl) (fun _ _ _ h => h) (by kernel_rfl) (by assumption) (fun W hSW => ?_) ?_
          rotate_left
          · ((try unfold BoxAnd at hSW); (try unfold SixAnd at hSW); (try unfold FourT at hSW); (try unfold PutT at hSW); (try unfold TwoSix at hSW); go_simp; (try with_reducible rfl))
          simp only [Act.put, List.setIfInBounds_toArray, List.set_cons_zero, List.set_cons_succ]
          refine takeAt (i := 23) (v := ?_) rfl (by kernel_rfl) (by kernel_rfl) (by kernel_rfl) (fun _ _ _ h => h) (by kernel_rfl) (by assumption) (fun W hSW => ?_) ?_
          rotate_left
          · ((try unfold BoxAnd at hSW); (try unfold SixAnd at hSW); (try unfold FourT at hSW); (try unfold PutT at hSW); (try unfold TwoSix at hSW); go_simp; (try with_reducible rfl))
          simp only [Act.put, List.setIfInBounds_toArray, List.set_cons_zero, List.set_cons_succ]
          refine onlyAt (i := 15) (by kernel_rfl) rfl (by kernel_rfl) (fun K hK => ?_)
          go_simp
          refine D2.out.mono ?_
          rintro e w3 ⟨rfl, b3⟩
          have hS3 := HS.out w3 (Bstep b12 b3)
          have B3 := Bstep B2 b3
          refine hK.out _ _ hS3 ?_
          clear hK K hS2 D2
          by_cases hlo : f ≤ z
          · have d1 : decide (f ≤ z) = true := decide_eq_true hlo
            refine takeAt (i := 24) (v := ?_) rfl (by kernel_rfl) (by kernel_rfl) (by kernel_rfl) (fun _ _ _ h => h) (by kernel_rfl) (by assumption) (fun W hSW => ?_) ?_
            rotate_left
            · ((try unfold BoxAnd at hSW); (try unfold SixAnd at hSW); (try unfold FourT at hSW); (try unfold PutT at hSW); (try unfold TwoSix at hSW); go_simp; (try with_reducible rfl))
            simp only [Act.put, List.setIfInBounds_toArray, List.set_cons_zero, List.set_cons_succ]
            refine takeAt (i := 25) (v := ?_) rfl (by kernel_rfl) (by kernel_rfl) (by kernel_rfl) (fun _ _ _ h => h) (by kernel_rfl) (by assumption) (fun W hSW => ?_) ?_
            rotate_left
            · ((try unfold BoxAnd at hSW); (try unfold SixAnd at hSW); (try unfold FourT at hSW); (try unfold PutT at hSW); (try unfold TwoSix at hSW); go_simp; (try with_reducible rfl))
            simp only [Act.put, List.setIfInBounds_toArray, List.set_cons_zero, List.set_cons_succ]
            refine takeAt (i := 26) (v := ?_) rfl (by kernel_rfl) (by kernel_rfl) (by kernel_rfl) (fun _ _ _ h => h) (by kernel_rfl) (by assumption) (fun W hSW => ?_) ?_
            rotate_left
            · ((try unfold BoxAnd at hSW); (try unfold SixAnd at hSW); (try unfold FourT at hSW); (try unfold PutT at hSW); (try unfold TwoSix at hSW); go_simp; (try with_reducible rfl))
            simp only [Act.put, List.setIfInBounds_toArray, List.set_cons_zero, List.set_cons_succ]
            refine wpAnyH_done (by kernel_rfl) ?_ _
            go_wp2_with fail
            go_ret
            exact ⟨ret_bool (Hno.out (rowB_no hlt (by rw [HSH.out, decide_eq_false (by omega)]))).symm, B3⟩
          · have d1 : decide (f ≤ z) = false := decide_eq_false hlo
            have H1 : Hid (∀ j, j < k + 1 → stepB bs j = true) := Lib.hid fun j hj => by
              by_cases e : j = k
              · rw [e, HSH.out, decide_eq_true (by omega)]
              · exact Hrel.out j (by omega)
            refine takeAt (i := 24) (v := ?_) rfl (by kernel_rfl) (by kernel_rfl) (by kernel_rfl) (fun _ _ _ h => h) (by kernel_rfl) (by assumption) (fun W hSW => ?_) ?_
            rotate_left
            · ((try unfold BoxAnd at hSW); (try unfold SixAnd at hSW); (try unfold FourT at hSW); (try unfold PutT at hSW); (try unfold TwoSix at hSW); go_simp; (try with_reducible rfl))
            simp only [Act.put, List.setIfInBounds_toArray, List.set_cons_zero, List.set_cons_succ]
            refine takeAt (i := 25) (v := ?_) rfl (by kernel_rfl) (by kernel_rfl) (by kernel_rfl) (fun _ _ _ h => h) (by kernel_rfl) (by assumption) (fun W hSW => ?_) ?_
            rotate_left
            · ((try unfold BoxAnd at hSW); (try unfold SixAnd at hSW); (try unfold FourT at hSW); (try unfold PutT at hSW); (try unfold TwoSix at hSW); go_simp; (try with_reducible rfl))
            simp only [Act.put, List.setIfInBounds_toArray, List.set_cons_zero, List.set_cons_succ]
            refine takeAt (i := 26) (v := ?_) rfl (by kernel_rfl) (by kernel_rfl) (by kernel_rfl) (fun _ _ _ h => h) (by kernel_rfl) (by assumption) (fun W hSW => ?_) ?_
            rotate_left
            · ((try unfold BoxAnd at hSW); (try unfold SixAnd at hSW); (try unfold FourT at hSW); (try unfold PutT at hSW); (try unfold TwoSix at hSW); go_simp; (try with_reducible rfl))
            simp only [Act.put, List.setIfInBounds_toArray, List.set_cons_zero, List.set_cons_succ]
            refine wpAnyH_done (by kernel_rfl) ?_ _
            go_wp2_with fail
            go_roundw
            case rel => exact ⟨k + 1, by omega, by go_num, H1.out, B3⟩
            case measure => simp [intOf]; omega
    · have Hfin := Lib.hid (Hend.out (rowB_iff.2 fun i hi => hrel i (by omega)))
      clear hrel
      go_wp2_with fail
      go_ret
      exact ⟨ret_bool Hfin.out, bel⟩
end Go.Proofs.Ytcajbipgecdfeaa
