/- Chapter 5: which batches are valid. -/
import Derived.Test.YtomlejfilfdnbaaR5
import Derived.Test.YtomlejfilfdnbaaW3i
import Derived.Test.YtomlejfilfdnbaaG0
namespace Go.Proofs.Ytomlejfilfdnbaa
open Go.ChangeShapes Go.WideShapes Go.ChangeAt Go.RowKit
set_option linter.unusedVariables false

/-- a record of a row, taken apart -/
theorem Recs.parts {w : World} {b off n cap : Nat} {rs : List Rec} (h : Recs w (.slice (some ⟨b, off, .none⟩) n cap) rs) (i : Nat) (hi : i < rs.length) :
    ∃ (r : Rec) (a1 : Option Addr) (c1 : Nat) (a2 : Option Addr) (c2 : Nat), Hid (recAt rs i = r) ∧ RecC w b (off + i * 6) r (.slice a1 r.key.length c1) (.slice a2 r.val.length c2) := by
  obtain ⟨kv, vv, hR⟩ := h.rec i hi
  obtain ⟨a1, c1, rfl, _⟩ := id hR.2.2.2.2.2.2.1
  obtain ⟨a2, c2, rfl, _⟩ := id hR.2.2.2.2.2.2.2
  exact ⟨_, a1, c1, a2, c2, Lib.hid rfl, hR⟩
/-- the cells of a boxed record, and a cell beside them -/
def BoxAnd (W : World) (X : Nat) (v0 v1 v2 v3 v4 v5 : Value) (p : Addr) (u : Value) : Prop :=
  W.cell? ⟨X, 0, none⟩ = some v0 ∧ W.cell? ⟨X, 1, none⟩ = some v1 ∧ W.cell? ⟨X, 2, none⟩ = some v2 ∧ W.cell? ⟨X, 3, none⟩ = some v3 ∧ W.cell? ⟨X, 4, none⟩ = some v4 ∧ W.cell? ⟨X, 5, none⟩ = some v5 ∧ W.cell? p = some u

set_option maxHeartbeats 2000000 in
theorem impl_areInOrder (v : Value) (rs : List Rec) (w : World) (h : Recs w v rs) :
    Calls Try.prog 35 #[v] w (SaysB (ordOk rs) w) := by
  have hv := h
  obtain ⟨a, cap, rfl, hl, hm, hc⟩ := h
  unfold maxLen at hm
  clear hc
  go_enter Try.func35, Try.ntmps35
  go_wp2_with fail
  go_loopw [7] (fun i wr => ∃ k : Nat, k ≤ rs.length ∧ i = .int .i64 k ∧ (∀ j, j < k → stepOk rs j = true) ∧ Below w.heap.size w wr) (fun i _ => rs.length - (intOf i).toNat)
  case atStart => exact ⟨0, Nat.zero_le _, rfl, fun j hj => by omega, Below.refl _ _⟩
  case round =>
    obtain ⟨k, hk, rfl, hrel, bel⟩ := hrel
    by_cases hlt : k < rs.length
    · obtain ⟨b, off, cap', e, hm'⟩ := hv.form (by omega)
      simp only [Value.slice.injEq, true_and] at e
      obtain ⟨rfl, rfl⟩ := e
      have hvr := hv.below bel
      obtain ⟨r, a1, c1, a2, c2, Hr, hR⟩ := hvr.parts k hlt
      have hrec := hR.recV
      have hst : stepOk rs k = (recOk r && (decide (k = 0) || decide ((recAt rs (k - 1)).off < r.off))) := by unfold stepOk; rw [Hr.out]
      obtain ⟨ro, rt, rhk, rkey, rhv, rval⟩ := r
      obtain ⟨c0, c1', c2', c3, c4, c5, _, _⟩ := hR
      simp only at c0 c1' c2' c3 c4 c5 hrec hst
      have c00 := c0
      have HST := Lib.hid hst
      clear hst
      have C1 : Hid (∀ W, Below wr.heap.size wr W → Calls Try.prog 45 #[.agg #[.int .i64 ro, .int .i64 rt, .bool rhk, .slice a1 rkey.length c1, .bool rhv, .slice a2 rval.length c2]] W (SaysB (recOk ⟨ro, rt, rhk, rkey, rhv, rval⟩) W)) := fun W hW => impl_RecordValid _ _ W (hrec.below hW)
      obtain ⟨rb, hrb⟩ : ∃ rb, recOk ⟨ro, rt, rhk, rkey, rhv, rval⟩ = rb := ⟨_, rfl⟩
      have HS := HST.out
      rw [hrb] at C1 HS
      have HSH := Lib.hid HS
      clear hrb HS HST hrec
      go_upto_region 4 with (fail)
      have bX := alloc_below' wr (.cells #[.int .i64 ro, .int .i64 rt, .bool rhk, .slice a1 rkey.length c1, .bool rhv, .slice a2 rval.length c2] 44)
      have xX := Blk.made wr #[.int .i64 ro, .int .i64 rt, .bool rhk, .slice a1 rkey.length c1, .bool rhv, .slice a2 rval.length c2] 44
      generalize hW1 : wr.alloc (.cells #[.int .i64 ro, .int .i64 rt, .bool rhk, .slice a1 rkey.length c1, .bool rhv, .slice a2 rval.length c2] 44) = w1 at bX xX ⊢
      clear hW1 c0 c1' c2' c3 c4 c5
      obtain ⟨X, hX⟩ : ∃ X, wr.heap.size = X := ⟨_, rfl⟩
      rw [hX] at xX ⊢
      have HX := Lib.hid hX
      clear hX
      have hpu0 : wr.cell? ⟨b, off + k * 6, none⟩ = some (.int .i64 ro) := c00
      obtain ⟨p, u, Hpu, hpu⟩ : ∃ (p : Addr) (u : Int), Hid (k ≠ 0 → p = ⟨b, off + (k - 1) * 6, none⟩ ∧ u = (recAt rs (k - 1)).off) ∧ wr.cell? p = some (.int .i64 u) := by
        by_cases k0 : k = 0
        · exact ⟨_, _, Lib.hid fun h => absurd k0 h, hpu0⟩
        · obtain ⟨_, _, hp⟩ := hvr.rec (k - 1) (by omega)
          exact ⟨_, _, Lib.hid fun _ => ⟨rfl, rfl⟩, hp.1⟩
      have HS : Hid (∀ W, Below w1.heap.size w1 W → BoxAnd W X (.int .i64 ro) (.int .i64 rt) (.bool rhk) (.slice a1 rkey.length c1) (.bool rhv) (.slice a2 rval.length c2) p (.int .i64 u)) := Lib.hid fun W hW =>
        have B := Bstep bX hW
        have y := xX.belowS hW
        ⟨y.cell 0, y.cell 1, y.cell 2, y.cell 3, y.cell 4, y.cell 5, (B.cell (World.block_lt_of_cell? _ _ hpu)).trans hpu⟩
      have bdr : Below w1.heap.size w1 w1.drew := below_drewN (Below.refl _ _) 1
      have S1 := HS.out _ bdr
      have D1 := Lib.hid (C1.out w1.drew (Bstep bX bdr))
      refine wp_region_held_drew (S := fun W => BoxAnd W X (.int .i64 ro) (.int .i64 rt) (.bool rhk) (.slice a1 rkey.length c1) (.bool rhv) (.slice a2 rval.length c2) p (.int .i64 u)) (by kernel_rfl) S1 (fun hS => ?_)
      clear S1
      refine takeAt (i := 0) (v := ?_) rfl (by kernel_rfl) (by kernel_rfl) (by kernel_rfl) (fun _ _ _ h => h) (by kernel_rfl) (by assumption) (fun W hSW => ?_) ?_
      rotate_left
      · ((try unfold BoxAnd at hSW); (try unfold SixAnd at hSW); (try unfold FourT at hSW); (try unfold PutT at hSW); (try unfold TwoSix at hSW); go_simp; (try with_reducible rfl))
      simp only [Act.put, List.setIfInBounds_toArray, List.set_cons_zero, List.set_cons_succ]
      refine onlyAt (i := 1) (by kernel_rfl) rfl (by kernel_rfl) (fun K hK => ?_)
      go_simp
      refine D1.out.mono ?_
      rintro e w2 ⟨rfl, b2⟩
      have hS2 := HS.out w2 (Bstep bdr b2)
      have B2 := Bstep (Bstep bel bX) (Bstep bdr b2)
      refine hK.out _ _ hS2 ?_
      clear hK K hS D1 C1
      cases rb with
      | false =>
        refine takeAt (i := 2) (v := ?_) rfl (by kernel_rfl) (by kernel_rfl) (by kernel_rfl) (fun _ _ _ h => h) (by kernel_rfl) (by assumption) (fun W hSW => ?_) ?_
        rotate_left
        · ((try unfold BoxAnd at hSW); (try unfold SixAnd at hSW); (try unfold FourT at hSW); (try unfold PutT at hSW); (try unfold TwoSix at hSW); go_simp; (try with_reducible rfl))
        simp only [Act.put, List.setIfInBounds_toArray, List.set_cons_zero, List.set_cons_succ]
        refine takeAt (i := 3) (v := ?_) rfl (by kernel_rfl) (by kernel_rfl) (by kernel_rfl) (fun _ _ _ h => h) (by kernel_rfl) (by assumption) (fun W hSW => ?_) ?_
        rotate_left
        · ((try unfold BoxAnd at hSW); (try unfold SixAnd at hSW); (try unfold FourT at hSW); (try unfold PutT at hSW); (try unfold TwoSix at hSW); go_simp; (try with_reducible rfl))
        simp only [Act.put, List.setIfInBounds_toArray, List.set_cons_zero, List.set_cons_succ]
        refine passAt (i := 4) rfl (by kernel_rfl) (by kernel_rfl) (by kernel_rfl) (fun _ _ _ h => h) (by kernel_rfl) (by assumption) ?_
        simp only [Act.put, List.setIfInBounds_toArray, List.set_cons_zero, List.set_cons_succ]
        refine passAt (i := 5) rfl (by kernel_rfl) (by kernel_rfl) (by kernel_rfl) (fun _ _ _ h => h) (by kernel_rfl) (by assumption) ?_
        simp only [Act.put, List.setIfInBounds_toArray, List.set_cons_zero, List.set_cons_succ]
        refine passAt (i := 6) rfl (by kernel_rfl) (by kernel_rfl) (by kernel_rfl) (fun _ _ _ h => h) (by kernel_rfl) (by assumption) ?_
        simp only [Act.put, List.setIfInBounds_toArray, List.set_cons_zero, List.set_cons_succ]
        refine passAt (i := 7) rfl (by kernel_rfl) (by kernel_rfl) (by kernel_rfl) (fun _ _ _ h => h) (by kernel_rfl) (by assumption) ?_
        simp only [Act.put, List.setIfInBounds_toArray, List.set_cons_zero, List.set_cons_succ]
        refine passAt (i := 8) rfl (by kernel_rfl) (by kernel_rfl) (by kernel_rfl) (fun _ _ _ h => h) (by kernel_rfl) (by assumption) ?_
        simp only [Act.put, List.setIfInBounds_toArray, List.set_cons_zero, List.set_cons_succ]
        refine passAt (i := 9) rfl (by kernel_rfl) (by kernel_rfl) (by kernel_rfl) (fun _ _ _ h => h) (by kernel_rfl) (by assumption) ?_
        simp only [Act.put, List.setIfInBounds_toArray, List.set_cons_zero, List.set_cons_succ]
        refine passAt (i := 10) rfl (by kernel_rfl) (by kernel_rfl) (by kernel_rfl) (fun _ _ _ h => h) (by kernel_rfl) (by assumption) ?_
        simp only [Act.put, List.setIfInBounds_toArray, List.set_cons_zero, List.set_cons_succ]
        refine passAt (i := 11) rfl (by kernel_rfl) (by kernel_rfl) (by kernel_rfl) (fun _ _ _ h => h) (by kernel_rfl) (by assumption) ?_
        simp only [Act.put, List.setIfInBounds_toArray, List.set_cons_zero, List.set_cons_succ]
        refine passAt (i := 12) rfl (by kernel_rfl) (by kernel_rfl) (by kernel_rfl) (fun _ _ _ h => h) (by kernel_rfl) (by assumption) ?_
        simp only [Act.put, List.setIfInBounds_toArray, List.set_cons_zero, List.set_cons_succ]
        refine passAt (i := 13) rfl (by kernel_rfl) (by kernel_rfl) (by kernel_rfl) (fun _ _ _ h => h) (by kernel_rfl) (by assumption) ?_
        simp only [Act.put, List.setIfInBounds_toArray, List.set_cons_zero, List.set_cons_succ]
        refine passAt (i := 14) rfl (by kernel_rfl) (by kernel_rfl) (by kernel_rfl) (fun _ _ _ h => h) (by kernel_rfl) (by assumption) ?_
        simp only [Act.put, List.setIfInBounds_toArray, List.set_cons_zero, List.set_cons_succ]
        refine passAt (i := 15) rfl (by kernel_rfl) (by kernel_rfl) (by kernel_rfl) (fun _ _ _ h => h) (by kernel_rfl) (by assumption) ?_
        simp only [Act.put, List.setIfInBounds_toArray, List.set_cons_zero, List.set_cons_succ]
        refine passAt (i := 16) rfl (by kernel_rfl) (by kernel_rfl) (by kernel_rfl) (fun _ _ _ h => h) (by kernel_rfl) (by assumption) ?_
        simp only [Act.put, List.setIfInBounds_toArray, List.set_cons_zero, List.set_cons_succ]
        refine takeAt (i := 17) (v := ?_) rfl (by kernel_rfl) (by kernel_rfl) (by kernel_rfl) (fun _ _ _ h => h) (by kernel_rfl) (by assumption) (fun W hSW => ?_) ?_
        rotate_left
        · ((try unfold BoxAnd at hSW); (try unfold SixAnd at hSW); (try unfold FourT at hSW); (try unfold PutT at hSW); (try unfold TwoSix at hSW); go_simp; (try with_reducible rfl))
        simp only [Act.put, List.setIfInBounds_toArray, List.set_cons_zero, List.set_cons_succ]
        refine wpAnyH_done (by kernel_rfl) ?_ _
        go_wp2_with fail
        go_ret
        exact ⟨ret_bool (ordOk_no hlt HSH.out).symm, B2⟩
      | true =>
        by_cases k0 : k = 0
        · have d0 : decide ((0 : Int) < (k : Int)) = false := decide_eq_false (by omega)
          have H1 : ∀ j, j < k + 1 → stepOk rs j = true := fun j hj => by
            by_cases e : j = k
            · rw [e, HSH.out, decide_eq_true k0]; rfl
            · exact hrel j (by omega)
          have d0n : decide (0 < k) = false := decide_eq_false (by omega)
          clear k0 Hpu
          refine takeAt (i := 2) (v := ?_) rfl (by kernel_rfl) (by kernel_rfl) (by kernel_rfl) (fun _ _ _ h => h) (by kernel_rfl) (by assumption) (fun W hSW => ?_) ?_
          rotate_left
          · ((try unfold BoxAnd at hSW); (try unfold SixAnd at hSW); (try unfold FourT at hSW); (try unfold PutT at hSW); (try unfold TwoSix at hSW); go_simp; (try with_reducible rfl))
          simp only [Act.put, List.setIfInBounds_toArray, List.set_cons_zero, List.set_cons_succ]
          refine takeAt (i := 3) (v := ?_) rfl (by kernel_rfl) (by kernel_rfl) (by kernel_rfl) (fun _ _ _ h => h) (by kernel_rfl) (by assumption) (fun W hSW => ?_) ?_
          rotate_left
          · ((try unfold BoxAnd at hSW); (try unfold SixAnd at hSW); (try unfold FourT at hSW); (try unfold PutT at hSW); (try unfold TwoSix at hSW); go_simp; (try with_reducible rfl))
          simp only [Act.put, List.setIfInBounds_toArray, List.set_cons_zero, List.set_cons_succ]
          refine takeAt (i := 4) (v := ?_) rfl (by kernel_rfl) (by kernel_rfl) (by kernel_rfl) (fun _ _ _ h => h) (by kernel_rfl) (by assumption) (fun W hSW => ?_) ?_
          rotate_left
          · ((try unfold BoxAnd at hSW); (try unfold SixAnd at hSW); (try unfold FourT at hSW); (try unfold PutT at hSW); (try unfold TwoSix at hSW); go_simp; (try with_reducible rfl))
          simp only [Act.put, List.setIfInBounds_toArray, List.set_cons_zero, List.set_cons_succ]
          refine takeAt (i := 5) (v := ?_) rfl (by kernel_rfl) (by kernel_rfl) (by kernel_rfl) (fun _ _ _ h => h) (by kernel_rfl) (by assumption) (fun W hSW => ?_) ?_
          rotate_left
          · ((try unfold BoxAnd at hSW); (try unfold SixAnd at hSW); (try unfold FourT at hSW); (try unfold PutT at hSW); (try unfold TwoSix at hSW); go_simp; (try with_reducible rfl))
          simp only [Act.put, List.setIfInBounds_toArray, List.set_cons_zero, List.set_cons_succ]
          refine takeAt (i := 6) (v := ?_) rfl (by kernel_rfl) (by kernel_rfl) (by kernel_rfl) (fun _ _ _ h => h) (by kernel_rfl) (by assumption) (fun W hSW => ?_) ?_
          rotate_left
          · ((try unfold BoxAnd at hSW); (try unfold SixAnd at hSW); (try unfold FourT at hSW); (try unfold PutT at hSW); (try unfold TwoSix at hSW); go_simp; (try with_reducible rfl))
          simp only [Act.put, List.setIfInBounds_toArray, List.set_cons_zero, List.set_cons_succ]
          refine passAt (i := 7) rfl (by kernel_rfl) (by kernel_rfl) (by kernel_rfl) (fun _ _ _ h => h) (by kernel_rfl) (by assumption) ?_
          simp only [Act.put, List.setIfInBounds_toArray, List.set_cons_zero, List.set_cons_succ]
          refine passAt (i := 8) rfl (by kernel_rfl) (by kernel_rfl) (by kernel_rfl) (fun _ _ _ h => h) (by kernel_rfl) (by assumption) ?_
          simp only [Act.put, List.setIfInBounds_toArray, List.set_cons_zero, List.set_cons_succ]
          refine passAt (i := 9) rfl (by kernel_rfl) (by kernel_rfl) (by kernel_rfl) (fun _ _ _ h => h) (by kernel_rfl) (by assumption) ?_
          simp only [Act.put, List.setIfInBounds_toArray, List.set_cons_zero, List.set_cons_succ]
          refine passAt (i := 10) rfl (by kernel_rfl) (by kernel_rfl) (by kernel_rfl) (fun _ _ _ h => h) (by kernel_rfl) (by assumption) ?_
          simp only [Act.put, List.setIfInBounds_toArray, List.set_cons_zero, List.set_cons_succ]
          refine passAt (i := 11) rfl (by kernel_rfl) (by kernel_rfl) (by kernel_rfl) (fun _ _ _ h => h) (by kernel_rfl) (by assumption) ?_
          simp only [Act.put, List.setIfInBounds_toArray, List.set_cons_zero, List.set_cons_succ]
          refine passAt (i := 12) rfl (by kernel_rfl) (by kernel_rfl) (by kernel_rfl) (fun _ _ _ h => h) (by kernel_rfl) (by assumption) ?_
          simp only [Act.put, List.setIfInBounds_toArray, List.set_cons_zero, List.set_cons_succ]
          refine passAt (i := 13) rfl (by kernel_rfl) (by kernel_rfl) (by kernel_rfl) (fun _ _ _ h => h) (by kernel_rfl) (by assumption) ?_
          simp only [Act.put, List.setIfInBounds_toArray, List.set_cons_zero, List.set_cons_succ]
          refine passAt (i := 14) rfl (by kernel_rfl) (by kernel_rfl) (by kernel_rfl) (fun _ _ _ h => h) (by kernel_rfl) (by assumption) ?_
          simp only [Act.put, List.setIfInBounds_toArray, List.set_cons_zero, List.set_cons_succ]
          refine passAt (i := 15) rfl (by kernel_rfl) (by kernel_rfl) (by kernel_rfl) (fun _ _ _ h => h) (by kernel_rfl) (by assumption) ?_
          simp only [Act.put, List.setIfInBounds_toArray, List.set_cons_zero, List.set_cons_succ]
          refine takeAt (i := 16) (v := ?_) rfl (by kernel_rfl) (by kernel_rfl) (by kernel_rfl) (fun _ _ _ h => h) (by kernel_rfl) (by assumption) (fun W hSW => ?_) ?_
          rotate_left
          · ((try unfold BoxAnd at hSW); (try unfold SixAnd at hSW); (try unfold FourT at hSW); (try unfold PutT at hSW); (try unfold TwoSix at hSW); go_simp; (try with_reducible rfl))
          simp only [Act.put, List.setIfInBounds_toArray, List.set_cons_zero, List.set_cons_succ]
          refine takeAt (i := 17) (v := ?_) rfl (by kernel_rfl) (by kernel_rfl) (by kernel_rfl) (fun _ _ _ h => h) (by kernel_rfl) (by assumption) (fun W hSW => ?_) ?_
          rotate_left
          · ((try unfold BoxAnd at hSW); (try unfold SixAnd at hSW); (try unfold FourT at hSW); (try unfold PutT at hSW); (try unfold TwoSix at hSW); go_simp; (try with_reducible rfl))
          simp only [Act.put, List.setIfInBounds_toArray, List.set_cons_zero, List.set_cons_succ]
          refine wpAnyH_done (by kernel_rfl) ?_ _
          go_wp2_with fail
          go_roundw
          case rel => exact ⟨k + 1, by omega, by go_num, H1, B2⟩
          case measure => simp [intOf]; omega
        · have d0 : decide ((0 : Int) < (k : Int)) = true := decide_eq_true (by omega)
          obtain ⟨hp, hu⟩ := Hpu.out k0
          subst hp
          have d0n : decide (0 < k) = true := decide_eq_true (by omega)
          have s1 : IntKind.i64.wrap ((k : Int) - 1) = (k : Int) - 1 := IntWalk.i64_in _ ⟨by omega, by omega⟩
          have n1 : ((k : Int) - 1).toNat = k - 1 := by omega
          have n2 : (1 : Int) ≤ (k : Int) := by omega
          have n3 : (k : Int) - 1 < (rs.length : Int) := by omega
          have HSG := HSH.out
          rw [decide_eq_false k0, ← hu] at HSG
          have HSK := Lib.hid HSG
          clear HSG hu
          by_cases hlo : ro ≤ u
          · have d1 : decide (ro ≤ u) = true := decide_eq_true hlo
            refine takeAt (i := 2) (v := ?_) rfl (by kernel_rfl) (by kernel_rfl) (by kernel_rfl) (fun _ _ _ h => h) (by kernel_rfl) (by assumption) (fun W hSW => ?_) ?_
            rotate_left
            · ((try unfold BoxAnd at hSW); (try unfold SixAnd at hSW); (try unfold FourT at hSW); (try unfold PutT at hSW); (try unfold TwoSix at hSW); go_simp; (try with_reducible rfl))
            simp only [Act.put, List.setIfInBounds_toArray, List.set_cons_zero, List.set_cons_succ]
            refine takeAt (i := 3) (v := ?_) rfl (by kernel_rfl) (by kernel_rfl) (by kernel_rfl) (fun _ _ _ h => h) (by kernel_rfl) (by assumption) (fun W hSW => ?_) ?_
            rotate_left
            · ((try unfold BoxAnd at hSW); (try unfold SixAnd at hSW); (try unfold FourT at hSW); (try unfold PutT at hSW); (try unfold TwoSix at hSW); go_simp; (try with_reducible rfl))
            simp only [Act.put, List.setIfInBounds_toArray, List.set_cons_zero, List.set_cons_succ]
            refine takeAt (i := 4) (v := ?_) rfl (by kernel_rfl) (by kernel_rfl) (by kernel_rfl) (fun _ _ _ h => h) (by kernel_rfl) (by assumption) (fun W hSW => ?_) ?_
            rotate_left
            · ((try unfold BoxAnd at hSW); (try unfold SixAnd at hSW); (try unfold FourT at hSW); (try unfold PutT at hSW); (try unfold TwoSix at hSW); go_simp; (try with_reducible rfl))
            simp only [Act.put, List.setIfInBounds_toArray, List.set_cons_zero, List.set_cons_succ]
            refine takeAt (i := 5) (v := ?_) rfl (by kernel_rfl) (by kernel_rfl) (by kernel_rfl) (fun _ _ _ h => h) (by kernel_rfl) (by assumption) (fun W hSW => ?_) ?_
            rotate_left
            · ((try unfold BoxAnd at hSW); (try unfold SixAnd at hSW); (try unfold FourT at hSW); (try unfold PutT at hSW); (try unfold TwoSix at hSW); go_simp; (try with_reducible rfl))
            simp only [Act.put, List.setIfInBounds_toArray, List.set_cons_zero, List.set_cons_succ]
            refine takeAt (i := 6) (v := ?_) rfl (by kernel_rfl) (by kernel_rfl) (by kernel_rfl) (fun _ _ _ h => h) (by kernel_rfl) (by assumption) (fun W hSW => ?_) ?_
            rotate_left
            · ((try unfold BoxAnd at hSW); (try unfold SixAnd at hSW); (try unfold FourT at hSW); (try unfold PutT at hSW); (try unfold TwoSix at hSW); go_simp; (try with_reducible rfl))
            simp only [Act.put, List.setIfInBounds_toArray, List.set_cons_zero, List.set_cons_succ]
            refine takeAt (i := 7) (v := ?_) rfl (by kernel_rfl) (by kernel_rfl) (by kernel_rfl) (fun _ _ _ h => h) (by kernel_rfl) (by assumption) (fun W hSW => ?_) ?_
            rotate_left
            · ((try unfold BoxAnd at hSW); (try unfold SixAnd at hSW); (try unfold FourT at hSW); (try unfold PutT at hSW); (try unfold TwoSix at hSW); go_simp; (try with_reducible rfl))
            simp only [Act.put, List.setIfInBounds_toArray, List.set_cons_zero, List.set_cons_succ]
            refine takeAt (i := 8) (v := ?_) rfl (by kernel_rfl) (by kernel_rfl) (by kernel_rfl) (fun _ _ _ h => h) (by kernel_rfl) (by assumption) (fun W hSW => ?_) ?_
            rotate_left
            · ((try unfold BoxAnd at hSW); (try unfold SixAnd at hSW); (try unfold FourT at hSW); (try unfold PutT at hSW); (try unfold TwoSix at hSW); go_simp; (try with_reducible rfl))
            simp only [Act.put, List.setIfInBounds_toArray, List.set_cons_zero, List.set_cons_succ]
            refine takeAt (i := 9) (v := ?_) rfl (by kernel_rfl) (by kernel_rfl) (by kernel_rfl) (fun _ _ _ h => h) (by kernel_rfl) (by assumption) (fun W hSW => ?_) ?_
            rotate_left
            · ((try unfold BoxAnd at hSW); (try unfold SixAnd at hSW); (try unfold FourT at hSW); (try unfold PutT at hSW); (try unfold TwoSix at hSW); go_simp; (try with_reducible rfl))
            simp only [Act.put, List.setIfInBounds_toArray, List.set_cons_zero, List.set_cons_succ]
            refine takeAt (i := 10) (v := ?_) rfl (by kernel_rfl) (by kernel_rfl) (by kernel_rfl) (fun _ _ _ h => h) (by kernel_rfl) (by assumption) (fun W hSW => ?_) ?_
            rotate_left
            · ((try unfold BoxAnd at hSW); (try unfold SixAnd at hSW); (try unfold FourT at hSW); (try unfold PutT at hSW); (try unfold TwoSix at hSW); go_simp; (try with_reducible rfl))
            simp only [Act.put, List.setIfInBounds_toArray, List.set_cons_zero, List.set_cons_succ]
            refine takeAt (i := 11) (v := ?_) rfl (by kernel_rfl) (by kernel_rfl) (by kernel_rfl) (fun _ _ _ h => h) (by kernel_rfl) (by assumption) (fun W hSW => ?_) ?_
            rotate_left
            · ((try unfold BoxAnd at hSW); (try unfold SixAnd at hSW); (try unfold FourT at hSW); (try unfold PutT at hSW); (try unfold TwoSix at hSW); go_simp; (try with_reducible rfl))
            simp only [Act.put, List.setIfInBounds_toArray, List.set_cons_zero, List.set_cons_succ]
            refine takeAt (i := 12) (v := ?_) rfl (by kernel_rfl) (by kernel_rfl) (by kernel_rfl) (fun _ _ _ h => h) (by kernel_rfl) (by assumption) (fun W hSW => ?_) ?_
            rotate_left
            · ((try unfold BoxAnd at hSW); (try unfold SixAnd at hSW); (try unfold FourT at hSW); (try unfold PutT at hSW); (try unfold TwoSix at hSW); go_simp; (try with_reducible rfl))
            simp only [Act.put, List.setIfInBounds_toArray, List.set_cons_zero, List.set_cons_succ]
            refine takeAt (i := 13) (v := ?_) rfl (by kernel_rfl) (by kernel_rfl) (by kernel_rfl) (fun _ _ _ h => h) (by kernel_rfl) (by assumption) (fun W hSW => ?_) ?_
            rotate_left
            · ((try unfold BoxAnd at hSW); (try unfold SixAnd at hSW); (try unfold FourT at hSW); (try unfold PutT at hSW); (try unfold TwoSix at hSW); go_simp; (try with_reducible rfl))
            simp only [Act.put, List.setIfInBounds_toArray, List.set_cons_zero, List.set_cons_succ]
            refine takeAt (i := 14) (v := ?_) rfl (by kernel_rfl) (by kernel_rfl) (by kernel_rfl) (fun _ _ _ h => h) (by kernel_rfl) (by assumption) (fun W hSW => ?_) ?_
            rotate_left
            · ((try unfold BoxAnd at hSW); (try unfold SixAnd at hSW); (try unfold FourT at hSW); (try unfold PutT at hSW); (try unfold TwoSix at hSW); go_simp; (try with_reducible rfl))
            simp only [Act.put, List.setIfInBounds_toArray, List.set_cons_zero, List.set_cons_succ]
            refine takeAt (i := 15) (v := ?_) rfl (by kernel_rfl) (by kernel_rfl) (by kernel_rfl) (fun _ _ _ h => h) (by kernel_rfl) (by assumption) (fun W hSW => ?_) ?_
            rotate_left
            · ((try unfold BoxAnd at hSW); (try unfold SixAnd at hSW); (try unfold FourT at hSW); (try unfold PutT at hSW); (try unfold TwoSix at hSW); go_simp; (try with_reducible rfl))
            simp only [Act.put, List.setIfInBounds_toArray, List.set_cons_zero, List.set_cons_succ]
            refine takeAt (i := 16) (v := ?_) rfl (by kernel_rfl) (by kernel_rfl) (by kernel_rfl) (fun _ _ _ h => h) (by kernel_rfl) (by assumption) (fun W hSW => ?_) ?_
            rotate_left
            · ((try unfold BoxAnd at hSW); (try unfold SixAnd at hSW); (try unfold FourT at hSW); (try unfold PutT at hSW); (try unfold TwoSix at hSW); go_simp; (try with_reducible rfl))
            simp only [Act.put, List.setIfInBounds_toArray, List.set_cons_zero, List.set_cons_succ]
            refine takeAt (i := 17) (v := ?_) rfl (by kernel_rfl) (by kernel_rfl) (by kernel_rfl) (fun _ _ _ h => h) (by kernel_rfl) (by assumption) (fun W hSW => ?_) ?_
            rotate_left
            · ((try unfold BoxAnd at hSW); (try unfold SixAnd at hSW); (try unfold FourT at hSW); (try unfold PutT at hSW); (try unfold TwoSix at hSW); go_simp; (try with_reducible rfl))
            simp only [Act.put, List.setIfInBounds_toArray, List.set_cons_zero, List.set_cons_succ]
            refine wpAnyH_done (by kernel_rfl) ?_ _
            go_wp2_with fail
            go_ret
            exact ⟨ret_bool (ordOk_no hlt (by rw [HSK.out, decide_eq_false (by omega)]; rfl)).symm, B2⟩
          · have d1 : decide (ro ≤ u) = false := decide_eq_false hlo
            have H1 : ∀ j, j < k + 1 → stepOk rs j = true := fun j hj => by
              by_cases e : j = k
              · rw [e, HSK.out, decide_eq_true (by omega)]; rfl
              · exact hrel j (by omega)
            refine takeAt (i := 2) (v := ?_) rfl (by kernel_rfl) (by kernel_rfl) (by kernel_rfl) (fun _ _ _ h => h) (by kernel_rfl) (by assumption) (fun W hSW => ?_) ?_
            rotate_left
            · ((try unfold BoxAnd at hSW); (try unfold SixAnd at hSW); (try unfold FourT at hSW); (try unfold PutT at hSW); (try unfold TwoSix at hSW); go_simp; (try with_reducible rfl))
            simp only [Act.put, List.setIfInBounds_toArray, List.set_cons_zero, List.set_cons_succ]
            refine takeAt (i := 3) (v := ?_) rfl (by kernel_rfl) (by kernel_rfl) (by kernel_rfl) (fun _ _ _ h => h) (by kernel_rfl) (by assumption) (fun W hSW => ?_) ?_
            rotate_left
            · ((try unfold BoxAnd at hSW); (try unfold SixAnd at hSW); (try unfold FourT at hSW); (try unfold PutT at hSW); (try unfold TwoSix at hSW); go_simp; (try with_reducible rfl))
            simp only [Act.put, List.setIfInBounds_toArray, List.set_cons_zero, List.set_cons_succ]
            refine takeAt (i := 4) (v := ?_) rfl (by kernel_rfl) (by kernel_rfl) (by kernel_rfl) (fun _ _ _ h => h) (by kernel_rfl) (by assumption) (fun W hSW => ?_) ?_
            rotate_left
            · ((try unfold BoxAnd at hSW); (try unfold SixAnd at hSW); (try unfold FourT at hSW); (try unfold PutT at hSW); (try unfold TwoSix at hSW); go_simp; (try with_reducible rfl))
            simp only [Act.put, List.setIfInBounds_toArray, List.set_cons_zero, List.set_cons_succ]
            refine takeAt (i := 5) (v := ?_) rfl (by kernel_rfl) (by kernel_rfl) (by kernel_rfl) (fun _ _ _ h => h) (by kernel_rfl) (by assumption) (fun W hSW => ?_) ?_
            rotate_left
            · ((try unfold BoxAnd at hSW); (try unfold SixAnd at hSW); (try unfold FourT at hSW); (try unfold PutT at hSW); (try unfold TwoSix at hSW); go_simp; (try with_reducible rfl))
            simp only [Act.put, List.setIfInBounds_toArray, List.set_cons_zero, List.set_cons_succ]
            refine takeAt (i := 6) (v := ?_) rfl (by kernel_rfl) (by kernel_rfl) (by kernel_rfl) (fun _ _ _ h => h) (by kernel_rfl) (by assumption) (fun W hSW => ?_) ?_
            rotate_left
            · ((try unfold BoxAnd at hSW); (try unfold SixAnd at hSW); (try unfold FourT at hSW); (try unfold PutT at hSW); (try unfold TwoSix at hSW); go_simp; (try with_reducible rfl))
            simp only [Act.put, List.setIfInBounds_toArray, List.set_cons_zero, List.set_cons_succ]
            refine takeAt (i := 7) (v := ?_) rfl (by kernel_rfl) (by kernel_rfl) (by kernel_rfl) (fun _ _ _ h => h) (by kernel_rfl) (by assumption) (fun W hSW => ?_) ?_
            rotate_left
            · ((try unfold BoxAnd at hSW); (try unfold SixAnd at hSW); (try unfold FourT at hSW); (try unfold PutT at hSW); (try unfold TwoSix at hSW); go_simp; (try with_reducible rfl))
            simp only [Act.put, List.setIfInBounds_toArray, List.set_cons_zero, List.set_cons_succ]
            refine takeAt (i := 8) (v := ?_) rfl (by kernel_rfl) (by kernel_rfl) (by kernel_rfl) (fun _ _ _ h => h) (by kernel_rfl) (by assumption) (fun W hSW => ?_) ?_
            rotate_left
            · ((try unfold BoxAnd at hSW); (try unfold SixAnd at hSW); (try unfold FourT at hSW); (try unfold PutT at hSW); (try unfold TwoSix at hSW); go_simp; (try with_reducible rfl))
            simp only [Act.put, List.setIfInBounds_toArray, List.set_cons_zero, List.set_cons_succ]
            refine takeAt (i := 9) (v := ?_) rfl (by kernel_rfl) (by kernel_rfl) (by kernel_rfl) (fun _ _ _ h => h) (by kernel_rfl) (by assumption) (fun W hSW => ?_) ?_
            rotate_left
            · ((try unfold BoxAnd at hSW); (try unfold SixAnd at hSW); (try unfold FourT at hSW); (try unfold PutT at hSW); (try unfold TwoSix at hSW); go_simp; (try with_reducible rfl))
            simp only [Act.put, List.setIfInBounds_toArray, List.set_cons_zero, List.set_cons_succ]
            refine takeAt (i := 10) (v := ?_) rfl (by kernel_rfl) (by kernel_rfl) (by kernel_rfl) (fun _ _ _ h => h) (by kernel_rfl) (by assumption) (fun W hSW => ?_) ?_
            rotate_left
            · ((try unfold BoxAnd at hSW); (try unfold SixAnd at hSW); (try unfold FourT at hSW); (try unfold PutT at hSW); (try unfold TwoSix at hSW); go_simp; (try with_reducible rfl))
            simp only [Act.put, List.setIfInBounds_toArray, List.set_cons_zero, List.set_cons_succ]
            refine takeAt (i := 11) (v := ?_) rfl (by kernel_rfl) (by kernel_rfl) (by kernel_rfl) (fun _ _ _ h => h) (by kernel_rfl) (by assumption) (fun W hSW => ?_) ?_
            rotate_left
            · ((try unfold BoxAnd at hSW); (try unfold SixAnd at hSW); (try unfold FourT at hSW); (try unfold PutT at hSW); (try unfold TwoSix at hSW); go_simp; (try with_reducible rfl))
            simp only [Act.put, List.setIfInBounds_toArray, List.set_cons_zero, List.set_cons_succ]
            refine takeAt (i := 12) (v := ?_) rfl (by kernel_rfl) (by kernel_rfl) (by kernel_rfl) (fun _ _ _ h => h) (by kernel_rfl) (by assumption) (fun W hSW => ?_) ?_
            rotate_left
            · ((try unfold BoxAnd at hSW); (try unfold SixAnd at hSW); (try unfold FourT at hSW); (try unfold PutT at hSW); (try unfold TwoSix at hSW); go_simp; (try with_reducible rfl))
            simp only [Act.put, List.setIfInBounds_toArray, List.set_cons_zero, List.set_cons_succ]
            refine takeAt (i := 13) (v := ?_) rfl (by kernel_rfl) (by kernel_rfl) (by kernel_rfl) (fun _ _ _ h => h) (by kernel_rfl) (by assumption) (fun W hSW => ?_) ?_
            rotate_left
            · ((try unfold BoxAnd at hSW); (try unfold SixAnd at hSW); (try unfold FourT at hSW); (try unfold PutT at hSW); (try unfold TwoSix at hSW); go_simp; (try with_reducible rfl))
            simp only [Act.put, List.setIfInBounds_toArray, List.set_cons_zero, List.set_cons_succ]
            refine takeAt (i := 14) (v := ?_) rfl (by kernel_rfl) (by kernel_rfl) (by kernel_rfl) (fun _ _ _ h => h) (by kernel_rfl) (by assumption) (fun W hSW => ?_) ?_
            rotate_left
            · ((try unfold BoxAnd at hSW); (try unfold SixAnd at hSW); (try unfold FourT at hSW); (try unfold PutT at hSW); (try unfold TwoSix at hSW); go_simp; (try with_reducible rfl))
            simp only [Act.put, List.setIfInBounds_toArray, List.set_cons_zero, List.set_cons_succ]
            refine takeAt (i := 15) (v := ?_) rfl (by kernel_rfl) (by kernel_rfl) (by kernel_rfl) (fun _ _ _ h => h) (by kernel_rfl) (by assumption) (fun W hSW => ?_) ?_
            rotate_left
            · ((try unfold BoxAnd at hSW); (try unfold SixAnd at hSW); (try unfold FourT at hSW); (try unfold PutT at hSW); (try unfold TwoSix at hSW); go_simp; (try with_reducible rfl))
            simp only [Act.put, List.setIfInBounds_toArray, List.set_cons_zero, List.set_cons_succ]
            refine takeAt (i := 16) (v := ?_) rfl (by kernel_rfl) (by kernel_rfl) (by kernel_rfl) (fun _ _ _ h => h) (by kernel_rfl) (by assumption) (fun W hSW => ?_) ?_
            rotate_left
            · ((try unfold BoxAnd at hSW); (try unfold SixAnd at hSW); (try unfold FourT at hSW); (try unfold PutT at hSW); (try unfold TwoSix at hSW); go_simp; (try with_reducible rfl))
            simp only [Act.put, List.setIfInBounds_toArray, List.set_cons_zero, List.set_cons_succ]
            refine takeAt (i := 17) (v := ?_) rfl (by kernel_rfl) (by kernel_rfl) (by kernel_rfl) (fun _ _ _ h => h) (by kernel_rfl) (by assumption) (fun W hSW => ?_) ?_
            rotate_left
            · ((try unfold BoxAnd at hSW); (try unfold SixAnd at hSW); (try unfold FourT at hSW); (try unfold PutT at hSW); (try unfold TwoSix at hSW); go_simp; (try with_reducible rfl))
            simp only [Act.put, List.setIfInBounds_toArray, List.set_cons_zero, List.set_cons_succ]
            refine wpAnyH_done (by kernel_rfl) ?_ _
            go_wp2_with fail
            go_roundw
            case rel => exact ⟨k + 1, by omega, by go_num, H1, B2⟩
            case measure => simp [intOf]; omega
    · go_wp2_with fail
      go_ret
      exact ⟨ret_bool (ordOk_iff.2 fun i hi => hrel i (by omega)).symm, bel⟩

/-- six cells of a block from a place on, and a cell beside them -/
def SixAnd (W : World) (b q : Nat) (v0 v1 v2 v3 v4 v5 : Value) (p : Addr) (u : Value) : Prop :=
  W.cell? ⟨b, q, none⟩ = some v0 ∧ W.cell? ⟨b, q + 1, none⟩ = some v1 ∧ W.cell? ⟨b, q + 2, none⟩ = some v2 ∧ W.cell? ⟨b, q + 3, none⟩ = some v3 ∧ W.cell? ⟨b, q + 4, none⟩ = some v4 ∧ W.cell? ⟨b, q + 5, none⟩ = some v5 ∧ W.cell? p = some u
set_option maxHeartbeats 2000000 in
theorem spec_l5Records (v : Value) (rs : List Rec) (w : World) (h : Recs w v rs) :
    Calls Try.prog 31 #[v] w (SaysB (ordOk rs && inR rs.length 1 6) w) := by
  have hv := h
  obtain ⟨a, cap, rfl, hl, hm, hc⟩ := h
  unfold maxLen at hm
  clear hc
  have C0 : Hid (∀ wn, Calls Try.prog 32 #[.int .i64 (rs.length : Int), .int .i64 1, .int .i64 6] wn fun e w' => e = .returned (.bool (inR (rs.length : Int) 1 6)) ∧ wn = w') := fun wn => spec_l6In _ 1 6 wn
  obtain ⟨lb, hlb⟩ : ∃ lb, inR (rs.length : Int) 1 6 = lb := ⟨_, rfl⟩
  rw [hlb] at C0 ⊢
  clear hlb
  go_enter Try.func31, Try.ntmps31
  go_wp2_with fail
  go_loopw [3] (fun i wr => ∃ k : Nat, k ≤ rs.length ∧ i = .int .i64 k ∧ (∀ j, j < k → stepOk rs j = true) ∧ Below w.heap.size w wr) (fun i _ => rs.length - (intOf i).toNat)
  case atStart => exact ⟨0, Nat.zero_le _, rfl, fun j hj => by omega, Below.refl _ _⟩
  case round =>
    obtain ⟨k, hk, rfl, hrel, bel⟩ := hrel
    by_cases hlt : k < rs.length
    · obtain ⟨b, off, cap', e, hm'⟩ := hv.form (by omega)
      simp only [Value.slice.injEq, true_and] at e
      obtain ⟨rfl, rfl⟩ := e
      have hvr := hv.below bel
      obtain ⟨r, a1, c1, a2, c2, Hr, hR⟩ := hvr.parts k hlt
      have hrec := hR.recV
      have hst : stepOk rs k = (recOk r && (decide (k = 0) || decide ((recAt rs (k - 1)).off < r.off))) := by unfold stepOk; rw [Hr.out]
      obtain ⟨ro, rt, rhk, rkey, rhv, rval⟩ := r
      have hR0 := hR
      simp only at hrec hst
      have HST := Lib.hid hst
      clear hst hR
      have C1 : Hid (∀ W, Below wr.heap.size wr W → Calls Try.prog 43 #[.agg #[.int .i64 ro, .int .i64 rt, .bool rhk, .slice a1 rkey.length c1, .bool rhv, .slice a2 rval.length c2]] W (SaysB (recOk ⟨ro, rt, rhk, rkey, rhv, rval⟩) W)) := fun W hW => spec_RecordValid _ _ W (hrec.below hW)
      obtain ⟨rb, hrb⟩ : ∃ rb, recOk ⟨ro, rt, rhk, rkey, rhv, rval⟩ = rb := ⟨_, rfl⟩
      have HS := HST.out
      rw [hrb] at C1 HS
      have HSH := Lib.hid HS
      clear hrb HS HST hrec
      have hpu0 : wr.cell? ⟨b, off + k * 6, none⟩ = some (.int .i64 ro) := hR0.1
      obtain ⟨p, u, Hpu, hpu⟩ : ∃ (p : Addr) (u : Int), Hid (k ≠ 0 → p = ⟨b, off + (k - 1) * 6, none⟩ ∧ u = (recAt rs (k - 1)).off) ∧ wr.cell? p = some (.int .i64 u) := by
        by_cases k0 : k = 0
        · exact ⟨_, _, Lib.hid fun h => absurd k0 h, hpu0⟩
        · obtain ⟨_, _, hp⟩ := hvr.rec (k - 1) (by omega)
          exact ⟨_, _, Lib.hid fun _ => ⟨rfl, rfl⟩, hp.1⟩
      have HS : Hid (∀ W, Below wr.heap.size wr W → SixAnd W b (off + k * 6) (.int .i64 ro) (.int .i64 rt) (.bool rhk) (.slice a1 rkey.length c1) (.bool rhv) (.slice a2 rval.length c2) p (.int .i64 u)) := Lib.hid fun W hW =>
        have y := hR0.below hW
        ⟨y.1, y.2.1, y.2.2.1, y.2.2.2.1, y.2.2.2.2.1, y.2.2.2.2.2.1, (hW.cell (World.block_lt_of_cell? _ _ hpu)).trans hpu⟩
      clear hR0 hpu0
      go_upto_region 4 with (fail)
      have bdr : Below wr.heap.size wr wr.drew := below_drewN (Below.refl _ _) 1
      have S1 := HS.out _ bdr
      have D1 := Lib.hid (C1.out wr.drew bdr)
      refine wp_region_held_drew (S := fun W => SixAnd W b (off + k * 6) (.int .i64 ro) (.int .i64 rt) (.bool rhk) (.slice a1 rkey.length c1) (.bool rhv) (.slice a2 rval.length c2) p (.int .i64 u)) (by kernel_rfl) S1 (fun hS => ?_)
      clear S1
      refine takeAt (i := 0) (v := ?_) rfl (by kernel_rfl) (by kernel_rfl) (by kernel_rfl) (fun _ _ _ h => h) (by kernel_rfl) (by assumption) (fun W hSW => ?_) ?_
      rotate_left
      · ((try unfold BoxAnd at hSW); (try unfold SixAnd at hSW); (try unfold FourT at hSW); (try unfold PutT at hSW); (try unfold TwoSix at hSW); go_simp; (try with_reducible rfl))
      simp only [Act.put, List.setIfInBounds_toArray, List.set_cons_zero, List.set_cons_succ]
      refine takeAt (i := 1) (v := ?_) rfl (by kernel_rfl) (by kernel_rfl) (by kernel_rfl) (fun _ _ _ h => h) (by kernel_rfl) (by assumption) (fun W hSW => ?_) ?_
      rotate_left
      · ((try unfold BoxAnd at hSW); (try unfold SixAnd at hSW); (try unfold FourT at hSW); (try unfold PutT at hSW); (try unfold TwoSix at hSW); go_simp; (try with_reducible rfl))
      simp only [Act.put, List.setIfInBounds_toArray, List.set_cons_zero, List.set_cons_succ]
      refine takeAt (i := 2) (v := ?_) rfl (by kernel_rfl) (by kernel_rfl) (by kernel_rfl) (fun _ _ _ h => h) (by kernel_rfl) (by assumption) (fun W hSW => ?_) ?_
      rotate_left
      · ((try unfold BoxAnd at hSW); (try unfold SixAnd at hSW); (try unfold FourT at hSW); (try unfold PutT at hSW); (try unfold TwoSix at hSW); go_simp; (try with_reducible rfl))
      simp only [Act.put, List.setIfInBounds_toArray, List.set_cons_zero, List.set_cons_succ]
      refine takeAt (i := 3) (v := ?_) rfl (by kernel_rfl) (by kernel_rfl) (by kernel_rfl) (fun _ _ _ h => h) (by kernel_rfl) (by assumption) (fun W hSW => ?_) ?_
      rotate_left
      · ((try unfold BoxAnd at hSW); (try unfold SixAnd at hSW); (try unfold FourT at hSW); (try unfold PutT at hSW); (try unfold TwoSix at hSW); go_simp; (try with_reducible rfl))
      simp only [Act.put, List.setIfInBounds_toArray, List.set_cons_zero, List.set_cons_succ]
      refine onlyAt (i := 4) (by kernel_rfl) rfl (by kernel_rfl) (fun K hK => ?_)
      go_simp
      refine D1.out.mono ?_
      rintro e w2 ⟨rfl, b2⟩
      have hS2 := HS.out w2 (Bstep bdr b2)
      have B2 := Bstep bel (Bstep bdr b2)
      refine hK.out _ _ hS2 ?_
      clear hK K hS D1 C1
      cases rb with
      | false =>
        refine takeAt (i := 5) (v := ?_) rfl (by kernel_rfl) (by kernel_rfl) (by kernel_rfl) (fun _ _ _ h => h) (by kernel_rfl) (by assumption) (fun W hSW => ?_) ?_
        rotate_left
        · ((try unfold BoxAnd at hSW); (try unfold SixAnd at hSW); (try unfold FourT at hSW); (try unfold PutT at hSW); (try unfold TwoSix at hSW); go_simp; (try with_reducible rfl))
        simp only [Act.put, List.setIfInBounds_toArray, List.set_cons_zero, List.set_cons_succ]
        refine takeAt (i := 6) (v := ?_) rfl (by kernel_rfl) (by kernel_rfl) (by kernel_rfl) (fun _ _ _ h => h) (by kernel_rfl) (by assumption) (fun W hSW => ?_) ?_
        rotate_left
        · ((try unfold BoxAnd at hSW); (try unfold SixAnd at hSW); (try unfold FourT at hSW); (try unfold PutT at hSW); (try unfold TwoSix at hSW); go_simp; (try with_reducible rfl))
        simp only [Act.put, List.setIfInBounds_toArray, List.set_cons_zero, List.set_cons_succ]
        refine passAt (i := 7) rfl (by kernel_rfl) (by kernel_rfl) (by kernel_rfl) (fun _ _ _ h => h) (by kernel_rfl) (by assumption) ?_
        simp only [Act.put, List.setIfInBounds_toArray, List.set_cons_zero, List.set_cons_succ]
        refine passAt (i := 8) rfl (by kernel_rfl) (by kernel_rfl) (by kernel_rfl) (fun _ _ _ h => h) (by kernel_rfl) (by assumption) ?_
        simp only [Act.put, List.setIfInBounds_toArray, List.set_cons_zero, List.set_cons_succ]
        refine passAt (i := 9) rfl (by kernel_rfl) (by kernel_rfl) (by kernel_rfl) (fun _ _ _ h => h) (by kernel_rfl) (by assumption) ?_
        simp only [Act.put, List.setIfInBounds_toArray, List.set_cons_zero, List.set_cons_succ]
        refine passAt (i := 10) rfl (by kernel_rfl) (by kernel_rfl) (by kernel_rfl) (fun _ _ _ h => h) (by kernel_rfl) (by assumption) ?_
        simp only [Act.put, List.setIfInBounds_toArray, List.set_cons_zero, List.set_cons_succ]
        refine passAt (i := 11) rfl (by kernel_rfl) (by kernel_rfl) (by kernel_rfl) (fun _ _ _ h => h) (by kernel_rfl) (by assumption) ?_
        simp only [Act.put, List.setIfInBounds_toArray, List.set_cons_zero, List.set_cons_succ]
        refine passAt (i := 12) rfl (by kernel_rfl) (by kernel_rfl) (by kernel_rfl) (fun _ _ _ h => h) (by kernel_rfl) (by assumption) ?_
        simp only [Act.put, List.setIfInBounds_toArray, List.set_cons_zero, List.set_cons_succ]
        refine passAt (i := 13) rfl (by kernel_rfl) (by kernel_rfl) (by kernel_rfl) (fun _ _ _ h => h) (by kernel_rfl) (by assumption) ?_
        simp only [Act.put, List.setIfInBounds_toArray, List.set_cons_zero, List.set_cons_succ]
        refine passAt (i := 14) rfl (by kernel_rfl) (by kernel_rfl) (by kernel_rfl) (fun _ _ _ h => h) (by kernel_rfl) (by assumption) ?_
        simp only [Act.put, List.setIfInBounds_toArray, List.set_cons_zero, List.set_cons_succ]
        refine passAt (i := 15) rfl (by kernel_rfl) (by kernel_rfl) (by kernel_rfl) (fun _ _ _ h => h) (by kernel_rfl) (by assumption) ?_
        simp only [Act.put, List.setIfInBounds_toArray, List.set_cons_zero, List.set_cons_succ]
        refine passAt (i := 16) rfl (by kernel_rfl) (by kernel_rfl) (by kernel_rfl) (fun _ _ _ h => h) (by kernel_rfl) (by assumption) ?_
        simp only [Act.put, List.setIfInBounds_toArray, List.set_cons_zero, List.set_cons_succ]
        refine passAt (i := 17) rfl (by kernel_rfl) (by kernel_rfl) (by kernel_rfl) (fun _ _ _ h => h) (by kernel_rfl) (by assumption) ?_
        simp only [Act.put, List.setIfInBounds_toArray, List.set_cons_zero, List.set_cons_succ]
        refine passAt (i := 18) rfl (by kernel_rfl) (by kernel_rfl) (by kernel_rfl) (fun _ _ _ h => h) (by kernel_rfl) (by assumption) ?_
        simp only [Act.put, List.setIfInBounds_toArray, List.set_cons_zero, List.set_cons_succ]
        refine passAt (i := 19) rfl (by kernel_rfl) (by kernel_rfl) (by kernel_rfl) (fun _ _ _ h => h) (by kernel_rfl) (by assumption) ?_
        simp only [Act.put, List.setIfInBounds_toArray, List.set_cons_zero, List.set_cons_succ]
        refine passAt (i := 20) rfl (by kernel_rfl) (by kernel_rfl) (by kernel_rfl) (fun _ _ _ h => h) (by kernel_rfl) (by assumption) ?_
        simp only [Act.put, List.setIfInBounds_toArray, List.set_cons_zero, List.set_cons_succ]
        refine passAt (i := 21) rfl (by kernel_rfl) (by kernel_rfl) (by kernel_rfl) (fun _ _ _ h => h) (by kernel_rfl) (by assumption) ?_
        simp only [Act.put, List.setIfInBounds_toArray, List.set_cons_zero, List.set_cons_succ]
        refine passAt (i := 22) rfl (by kernel_rfl) (by kernel_rfl) (by kernel_rfl) (fun _ _ _ h => h) (by kernel_rfl) (by assumption) ?_
        simp only [Act.put, List.setIfInBounds_toArray, List.set_cons_zero, List.set_cons_succ]
        refine takeAt (i := 23) (v := ?_) rfl (by kernel_rfl) (by kernel_rfl) (by kernel_rfl) (fun _ _ _ h => h) (by kernel_rfl) (by assumption) (fun W hSW => ?_) ?_
        rotate_left
        · ((try unfold BoxAnd at hSW); (try unfold SixAnd at hSW); (try unfold FourT at hSW); (try unfold PutT at hSW); (try unfold TwoSix at hSW); go_simp; (try with_reducible rfl))
        simp only [Act.put, List.setIfInBounds_toArray, List.set_cons_zero, List.set_cons_succ]
        refine wpAnyH_done (by kernel_rfl) ?_ _
        go_wp2_with fail
        go_ret
        exact ⟨ret_bool (by rw [ordOk_no hlt HSH.out]; rfl), B2⟩
      | true =>
        by_cases k0 : k = 0
        · have d0 : decide ((0 : Int) < (k : Int)) = false := decide_eq_false (by omega)
          have H1 : ∀ j, j < k + 1 → stepOk rs j = true := fun j hj => by
            by_cases e : j = k
            · rw [e, HSH.out, decide_eq_true k0]; rfl
            · exact hrel j (by omega)
          have d0n : decide (0 < k) = false := decide_eq_false (by omega)
          clear k0 Hpu
          refine takeAt (i := 5) (v := ?_) rfl (by kernel_rfl) (by kernel_rfl) (by kernel_rfl) (fun _ _ _ h => h) (by kernel_rfl) (by assumption) (fun W hSW => ?_) ?_
          rotate_left
          · ((try unfold BoxAnd at hSW); (try unfold SixAnd at hSW); (try unfold FourT at hSW); (try unfold PutT at hSW); (try unfold TwoSix at hSW); go_simp; (try with_reducible rfl))
          simp only [Act.put, List.setIfInBounds_toArray, List.set_cons_zero, List.set_cons_succ]
          refine takeAt (i := 6) (v := ?_) rfl (by kernel_rfl) (by kernel_rfl) (by kernel_rfl) (fun _ _ _ h => h) (by kernel_rfl) (by assumption) (fun W hSW => ?_) ?_
          rotate_left
          · ((try unfold BoxAnd at hSW); (try unfold SixAnd at hSW); (try unfold FourT at hSW); (try unfold PutT at hSW); (try unfold TwoSix at hSW); go_simp; (try with_reducible rfl))
          simp only [Act.put, List.setIfInBounds_toArray, List.set_cons_zero, List.set_cons_succ]
          refine takeAt (i := 7) (v := ?_) rfl (by kernel_rfl) (by kernel_rfl) (by kernel_rfl) (fun _ _ _ h => h) (by kernel_rfl) (by assumption) (fun W hSW => ?_) ?_
          rotate_left
          · ((try unfold BoxAnd at hSW); (try unfold SixAnd at hSW); (try unfold FourT at hSW); (try unfold PutT at hSW); (try unfold TwoSix at hSW); go_simp; (try with_reducible rfl))
          simp only [Act.put, List.setIfInBounds_toArray, List.set_cons_zero, List.set_cons_succ]
          refine takeAt (i := 8) (v := ?_) rfl (by kernel_rfl) (by kernel_rfl) (by kernel_rfl) (fun _ _ _ h => h) (by kernel_rfl) (by assumption) (fun W hSW => ?_) ?_
          rotate_left
          · ((try unfold BoxAnd at hSW); (try unfold SixAnd at hSW); (try unfold FourT at hSW); (try unfold PutT at hSW); (try unfold TwoSix at hSW); go_simp; (try with_reducible rfl))
          simp only [Act.put, List.setIfInBounds_toArray, List.set_cons_zero, List.set_cons_succ]
          refine takeAt (i := 9) (v := ?_) rfl (by kernel_rfl) (by kernel_rfl) (by kernel_rfl) (fun _ _ _ h => h) (by kernel_rfl) (by assumption) (fun W hSW => ?_) ?_
          rotate_left
          · ((try unfold BoxAnd at hSW); (try unfold SixAnd at hSW); (try unfold FourT at hSW); (try unfold PutT at hSW); (try unfold TwoSix at hSW); go_simp; (try with_reducible rfl))
          simp only [Act.put, List.setIfInBounds_toArray, List.set_cons_zero, List.set_cons_succ]
          refine passAt (i := 10) rfl (by kernel_rfl) (by kernel_rfl) (by kernel_rfl) (fun _ _ _ h => h) (by kernel_rfl) (by assumption) ?_
          simp only [Act.put, List.setIfInBounds_toArray, List.set_cons_zero, List.set_cons_succ]
          refine passAt (i := 11) rfl (by kernel_rfl) (by kernel_rfl) (by kernel_rfl) (fun _ _ _ h => h) (by kernel_rfl) (by assumption) ?_
          simp only [Act.put, List.setIfInBounds_toArray, List.set_cons_zero, List.set_cons_succ]
          refine passAt (i := 12) rfl (by kernel_rfl) (by kernel_rfl) (by kernel_rfl) (fun _ _ _ h => h) (by kernel_rfl) (by assumption) ?_
          simp only [Act.put, List.setIfInBounds_toArray, List.set_cons_zero, List.set_cons_succ]
          refine passAt (i := 13) rfl (by kernel_rfl) (by kernel_rfl) (by kernel_rfl) (fun _ _ _ h => h) (by kernel_rfl) (by assumption) ?_
          simp only [Act.put, List.setIfInBounds_toArray, List.set_cons_zero, List.set_cons_succ]
          refine passAt (i := 14) rfl (by kernel_rfl) (by kernel_rfl) (by kernel_rfl) (fun _ _ _ h => h) (by kernel_rfl) (by assumption) ?_
          simp only [Act.put, List.setIfInBounds_toArray, List.set_cons_zero, List.set_cons_succ]
          refine passAt (i := 15) rfl (by kernel_rfl) (by kernel_rfl) (by kernel_rfl) (fun _ _ _ h => h) (by kernel_rfl) (by assumption) ?_
          simp only [Act.put, List.setIfInBounds_toArray, List.set_cons_zero, List.set_cons_succ]
          refine passAt (i := 16) rfl (by kernel_rfl) (by kernel_rfl) (by kernel_rfl) (fun _ _ _ h => h) (by kernel_rfl) (by assumption) ?_
          simp only [Act.put, List.setIfInBounds_toArray, List.set_cons_zero, List.set_cons_succ]
          refine passAt (i := 17) rfl (by kernel_rfl) (by kernel_rfl) (by kernel_rfl) (fun _ _ _ h => h) (by kernel_rfl) (by assumption) ?_
          simp only [Act.put, List.setIfInBounds_toArray, List.set_cons_zero, List.set_cons_succ]
          refine passAt (i := 18) rfl (by kernel_rfl) (by kernel_rfl) (by kernel_rfl) (fun _ _ _ h => h) (by kernel_rfl) (by assumption) ?_
          simp only [Act.put, List.setIfInBounds_toArray, List.set_cons_zero, List.set_cons_succ]
          refine passAt (i := 19) rfl (by kernel_rfl) (by kernel_rfl) (by kernel_rfl) (fun _ _ _ h => h) (by kernel_rfl) (by assumption) ?_
          simp only [Act.put, List.setIfInBounds_toArray, List.set_cons_zero, List.set_cons_succ]
          refine passAt (i := 20) rfl (by kernel_rfl) (by kernel_rfl) (by kernel_rfl) (fun _ _ _ h => h) (by kernel_rfl) (by assumption) ?_
          simp only [Act.put, List.setIfInBounds_toArray, List.set_cons_zero, List.set_cons_succ]
          refine passAt (i := 21) rfl (by kernel_rfl) (by kernel_rfl) (by kernel_rfl) (fun _ _ _ h => h) (by kernel_rfl) (by assumption) ?_
          simp only [Act.put, List.setIfInBounds_toArray, List.set_cons_zero, List.set_cons_succ]
          refine takeAt (i := 22) (v := ?_) rfl (by kernel_rfl) (by kernel_rfl) (by kernel_rfl) (fun _ _ _ h => h) (by kernel_rfl) (by assumption) (fun W hSW => ?_) ?_
          rotate_left
          · ((try unfold BoxAnd at hSW); (try unfold SixAnd at hSW); (try unfold FourT at hSW); (try unfold PutT at hSW); (try unfold TwoSix at hSW); go_simp; (try with_reducible rfl))
          simp only [Act.put, List.setIfInBounds_toArray, List.set_cons_zero, List.set_cons_succ]
          refine takeAt (i := 23) (v := ?_) rfl (by kernel_rfl) (by kernel_rfl) (by kernel_rfl) (fun _ _ _ h => h) (by kernel_rfl) (by assumption) (fun W hSW => ?_) ?_
          rotate_left
          · ((try unfold BoxAnd at hSW); (try unfold SixAnd at hSW); (try unfold FourT at hSW); (try unfold PutT at hSW); (try unfold TwoSix at hSW); go_simp; (try with_reducible rfl))
          simp only [Act.put, List.setIfInBounds_toArray, List.set_cons_zero, List.set_cons_succ]
          refine wpAnyH_done (by kernel_rfl) ?_ _
          go_wp2_with fail
          go_roundw
          case rel => exact ⟨k + 1, by omega, by go_num, H1, B2⟩
          case measure => simp [intOf]; omega
        · have d0 : decide ((0 : Int) < (k : Int)) = true := decide_eq_true (by omega)
          obtain ⟨hp, hu⟩ := Hpu.out k0
          subst hp
          have d0n : decide (0 < k) = true := decide_eq_true (by omega)
          have s1 : IntKind.i64.wrap ((k : Int) - 1) = (k : Int) - 1 := IntWalk.i64_in _ ⟨by omega, by omega⟩
          have n1 : ((k : Int) - 1).toNat = k - 1 := by omega
          have n2 : (1 : Int) ≤ (k : Int) := by omega
          have n3 : (k : Int) - 1 < (rs.length : Int) := by omega
          have HSG := HSH.out
          rw [decide_eq_false k0, ← hu] at HSG
          have HSK := Lib.hid HSG
          clear HSG hu
          by_cases hlo : ro ≤ u
          · have d1 : decide (ro ≤ u) = true := decide_eq_true hlo
            refine takeAt (i := 5) (v := ?_) rfl (by kernel_rfl) (by kernel_rfl) (by kernel_rfl) (fun _ _ _ h => h) (by kernel_rfl) (by assumption) (fun W hSW => ?_) ?_
            rotate_left
            · ((try unfold BoxAnd at hSW); (try unfold SixAnd at hSW); (try unfold FourT at hSW); (try unfold PutT at hSW); (try unfold TwoSix at hSW); go_simp; (try with_reducible rfl))
            simp only [Act.put, List.setIfInBounds_toArray, List.set_cons_zero, List.set_cons_succ]
            refine takeAt (i := 6) (v := ?_) rfl (by kernel_rfl) (by kernel_rfl) (by kernel_rfl) (fun _ _ _ h => h) (by kernel_rfl) (by assumption) (fun W hSW => ?_) ?_
            rotate_left
            · ((try unfold BoxAnd at hSW); (try unfold SixAnd at hSW); (try unfold FourT at hSW); (try unfold PutT at hSW); (try unfold TwoSix at hSW); go_simp; (try with_reducible rfl))
            simp only [Act.put, List.setIfInBounds_toArray, List.set_cons_zero, List.set_cons_succ]
            refine takeAt (i := 7) (v := ?_) rfl (by kernel_rfl) (by kernel_rfl) (by kernel_rfl) (fun _ _ _ h => h) (by kernel_rfl) (by assumption) (fun W hSW => ?_) ?_
            rotate_left
            · ((try unfold BoxAnd at hSW); (try unfold SixAnd at hSW); (try unfold FourT at hSW); (try unfold PutT at hSW); (try unfold TwoSix at hSW); go_simp; (try with_reducible rfl))
            simp only [Act.put, List.setIfInBounds_toArray, List.set_cons_zero, List.set_cons_succ]
            refine takeAt (i := 8) (v := ?_) rfl (by kernel_rfl) (by kernel_rfl) (by kernel_rfl) (fun _ _ _ h => h) (by kernel_rfl) (by assumption) (fun W hSW => ?_) ?_
            rotate_left
            · ((try unfold BoxAnd at hSW); (try unfold SixAnd at hSW); (try unfold FourT at hSW); (try unfold PutT at hSW); (try unfold TwoSix at hSW); go_simp; (try with_reducible rfl))
            simp only [Act.put, List.setIfInBounds_toArray, List.set_cons_zero, List.set_cons_succ]
            refine takeAt (i := 9) (v := ?_) rfl (by kernel_rfl) (by kernel_rfl) (by kernel_rfl) (fun _ _ _ h => h) (by kernel_rfl) (by assumption) (fun W hSW => ?_) ?_
            rotate_left
            · ((try unfold BoxAnd at hSW); (try unfold SixAnd at hSW); (try unfold FourT at hSW); (try unfold PutT at hSW); (try unfold TwoSix at hSW); go_simp; (try with_reducible rfl))
            simp only [Act.put, List.setIfInBounds_toArray, List.set_cons_zero, List.set_cons_succ]
            refine takeAt (i := 10) (v := ?_) rfl (by kernel_rfl) (by kernel_rfl) (by kernel_rfl) (fun _ _ _ h => h) (by kernel_rfl) (by assumption) (fun W hSW => ?_) ?_
            rotate_left
            · ((try unfold BoxAnd at hSW); (try unfold SixAnd at hSW); (try unfold FourT at hSW); (try unfold PutT at hSW); (try unfold TwoSix at hSW); go_simp; (try with_reducible rfl))
            simp only [Act.put, List.setIfInBounds_toArray, List.set_cons_zero, List.set_cons_succ]
            refine takeAt (i := 11) (v := ?_) rfl (by kernel_rfl) (by kernel_rfl) (by kernel_rfl) (fun _ _ _ h => h) (by kernel_rfl) (by assumption) (fun W hSW => ?_) ?_
            rotate_left
            · ((try unfold BoxAnd at hSW); (try unfold SixAnd at hSW); (try unfold FourT at hSW); (try unfold PutT at hSW); (try unfold TwoSix at hSW); go_simp; (try with_reducible rfl))
            simp only [Act.put, List.setIfInBounds_toArray, List.set_cons_zero, List.set_cons_succ]
            refine takeAt (i := 12) (v := ?_) rfl (by kernel_rfl) (by kernel_rfl) (by kernel_rfl) (fun _ _ _ h => h) (by kernel_rfl) (by assumption) (fun W hSW => ?_) ?_
            rotate_left
            · ((try unfold BoxAnd at hSW); (try unfold SixAnd at hSW); (try unfold FourT at hSW); (try unfold PutT at hSW); (try unfold TwoSix at hSW); go_simp; (try with_reducible rfl))
            simp only [Act.put, List.setIfInBounds_toArray, List.set_cons_zero, List.set_cons_succ]
            refine takeAt (i := 13) (v := ?_) rfl (by kernel_rfl) (by kernel_rfl) (by kernel_rfl) (fun _ _ _ h => h) (by kernel_rfl) (by assumption) (fun W hSW => ?_) ?_
            rotate_left
            · ((try unfold BoxAnd at hSW); (try unfold SixAnd at hSW); (try unfold FourT at hSW); (try unfold PutT at hSW); (try unfold TwoSix at hSW); go_simp; (try with_reducible rfl))
            simp only [Act.put, List.setIfInBounds_toArray, List.set_cons_zero, List.set_cons_succ]
            refine takeAt (i := 14) (v := ?_) rfl (by kernel_rfl) (by kernel_rfl) (by kernel_rfl) (fun _ _ _ h => h) (by kernel_rfl) (by assumption) (fun W hSW => ?_) ?_
            rotate_left
            · ((try unfold BoxAnd at hSW); (try unfold SixAnd at hSW); (try unfold FourT at hSW); (try unfold PutT at hSW); (try unfold TwoSix at hSW); go_simp; (try with_reducible rfl))
            simp only [Act.put, List.setIfInBounds_toArray, List.set_cons_zero, List.set_cons_succ]
            refine takeAt (i := 15) (v := ?_) rfl (by kernel_rfl) (by kernel_rfl) (by kernel_rfl) (fun _ _ _ h => h) (by kernel_rfl) (by assumption) (fun W hSW => ?_) ?_
            rotate_left
            · ((try unfold BoxAnd at hSW); (try unfold SixAnd at hSW); (try unfold FourT at hSW); (try unfold PutT at hSW); (try unfold TwoSix at hSW); go_simp; (try with_reducible rfl))
            simp only [Act.put, List.setIfInBounds_toArray, List.set_cons_zero, List.set_cons_succ]
            refine takeAt (i := 16) (v := ?_) rfl (by kernel_rfl) (by kernel_rfl) (by kernel_rfl) (fun _ _ _ h => h) (by kernel_rfl) (by assumption) (fun W hSW => ?_) ?_
            rotate_left
            · ((try unfold BoxAnd at hSW); (try unfold SixAnd at hSW); (try unfold FourT at hSW); (try unfold PutT at hSW); (try unfold TwoSix at hSW); go_simp; (try with_reducible rfl))
            simp only [Act.put, List.setIfInBounds_toArray, List.set_cons_zero, List.set_cons_succ]
            refine takeAt (i := 17) (v := ?_) rfl (by kernel_rfl) (by kernel_rfl) (by kernel_rfl) (fun _ _ _ h => h) (by kernel_rfl) (by assumption) (fun W hSW => ?_) ?_
            rotate_left
            · ((try unfold BoxAnd at hSW); (try unfold SixAnd at hSW); (try unfold FourT at hSW); (try unfold PutT at hSW); (try unfold TwoSix at hSW); go_simp; (try with_reducible rfl))
            simp only [Act.put, List.setIfInBounds_toArray, List.set_cons_zero, List.set_cons_succ]
            refine takeAt (i := 18) (v := ?_) rfl (by kernel_rfl) (by kernel_rfl) (by kernel_rfl) (fun _ _ _ h => h) (by kernel_rfl) (by assumption) (fun W hSW => ?_) ?_
            rotate_left
            · ((try unfold BoxAnd at hSW); (try unfold SixAnd at hSW); (try unfold FourT at hSW); (try unfold PutT at hSW); (try unfold TwoSix at hSW); go_simp; (try with_reducible rfl))
            simp only [Act.put, List.setIfInBounds_toArray, List.set_cons_zero, List.set_cons_succ]
            refine takeAt (i := 19) (v := ?_) rfl (by kernel_rfl) (by kernel_rfl) (by kernel_rfl) (fun _ _ _ h => h) (by kernel_rfl) (by assumption) (fun W hSW => ?_) ?_
            rotate_left
            · ((try unfold BoxAnd at hSW); (try unfold SixAnd at hSW); (try unfold FourT at hSW); (try unfold PutT at hSW); (try unfold TwoSix at hSW); go_simp; (try with_reducible rfl))
            simp only [Act.put, List.setIfInBounds_toArray, List.set_cons_zero, List.set_cons_succ]
            refine takeAt (i := 20) (v := ?_) rfl (by kernel_rfl) (by kernel_rfl) (by kernel_rfl) (fun _ _ _ h => h) (by kernel_rfl) (by assumption) (fun W hSW => ?_) ?_
            rotate_left
            · ((try unfold BoxAnd at hSW); (try unfold SixAnd at hSW); (try unfold FourT at hSW); (try unfold PutT at hSW); (try unfold TwoSix at hSW); go_simp; (try with_reducible rfl))
            simp only [Act.put, List.setIfInBounds_toArray, List.set_cons_zero, List.set_cons_succ]
            refine takeAt (i := 21) (v := ?_) rfl (by kernel_rfl) (by kernel_rfl) (by kernel_rfl) (fun _ _ _ h => h) (by kernel_rfl) (by assumption) (fun W hSW => ?_) ?_
            rotate_left
            · ((try unfold BoxAnd at hSW); (try unfold SixAnd at hSW); (try unfold FourT at hSW); (try unfold PutT at hSW); (try unfold TwoSix at hSW); go_simp; (try with_reducible rfl))
            simp only [Act.put, List.setIfInBounds_toArray, List.set_cons_zero, List.set_cons_succ]
            refine takeAt (i := 22) (v := ?_) rfl (by kernel_rfl) (by kernel_rfl) (by kernel_rfl) (fun _ _ _ h => h) (by kernel_rfl) (by assumption) (fun W hSW => ?_) ?_
            rotate_left
            · ((try unfold BoxAnd at hSW); (try unfold SixAnd at hSW); (try unfold FourT at hSW); (try unfold PutT at hSW); (try unfold TwoSix at hSW); go_simp; (try with_reducible rfl))
            simp only [Act.put, List.setIfInBounds_toArray, List.set_cons_zero, List.set_cons_succ]
            refine takeAt (i := 23) (v := ?_) rfl (by kernel_rfl) (by kernel_rfl) (by kernel_rfl) (fun _ _ _ h => h) (by kernel_rfl) (by assumption) (fun W hSW => ?_) ?_
            rotate_left
            · ((try unfold BoxAnd at hSW); (try unfold SixAnd at hSW); (try unfold FourT at hSW); (try unfold PutT at hSW); (try unfold TwoSix at hSW); go_simp; (try with_reducible rfl))
            simp only [Act.put, List.setIfInBounds_toArray, List.set_cons_zero, List.set_cons_succ]
            refine wpAnyH_done (by kernel_rfl) ?_ _
            go_wp2_with fail
            go_ret
            exact ⟨ret_bool (by rw [ordOk_no hlt (by rw [HSK.out, decide_eq_false (by omega)]; rfl)]; rfl), B2⟩
          · have d1 : decide (ro ≤ u) = false := decide_eq_false hlo
            have H1 : ∀ j, j < k + 1 → stepOk rs j = true := fun j hj => by
              by_cases e : j = k
              · rw [e, HSK.out, decide_eq_true (by omega)]; rfl
              · exact hrel j (by omega)
            refine takeAt (i := 5) (v := ?_) rfl (by kernel_rfl) (by kernel_rfl) (by kernel_rfl) (fun _ _ _ h => h) (by kernel_rfl) (by assumption) (fun W hSW => ?_) ?_
            rotate_left
            · ((try unfold BoxAnd at hSW); (try unfold SixAnd at hSW); (try unfold FourT at hSW); (try unfold PutT at hSW); (try unfold TwoSix at hSW); go_simp; (try with_reducible rfl))
            simp only [Act.put, List.setIfInBounds_toArray, List.set_cons_zero, List.set_cons_succ]
            refine takeAt (i := 6) (v := ?_) rfl (by kernel_rfl) (by kernel_rfl) (by kernel_rfl) (fun _ _ _ h => h) (by kernel_rfl) (by assumption) (fun W hSW => ?_) ?_
            rotate_left
            · ((try unfold BoxAnd at hSW); (try unfold SixAnd at hSW); (try unfold FourT at hSW); (try unfold PutT at hSW); (try unfold TwoSix at hSW); go_simp; (try with_reducible rfl))
            simp only [Act.put, List.setIfInBounds_toArray, List.set_cons_zero, List.set_cons_succ]
            refine takeAt (i := 7) (v := ?_) rfl (by kernel_rfl) (by kernel_rfl) (by kernel_rfl) (fun _ _ _ h => h) (by kernel_rfl) (by assumption) (fun W hSW => ?_) ?_
            rotate_left
            · ((try unfold BoxAnd at hSW); (try unfold SixAnd at hSW); (try unfold FourT at hSW); (try unfold PutT at hSW); (try unfold TwoSix at hSW); go_simp; (try with_reducible rfl))
            simp only [Act.put, List.setIfInBounds_toArray, List.set_cons_zero, List.set_cons_succ]
            refine takeAt (i := 8) (v := ?_) rfl (by kernel_rfl) (by kernel_rfl) (by kernel_rfl) (fun _ _ _ h => h) (by kernel_rfl) (by assumption) (fun W hSW => ?_) ?_
            rotate_left
            · ((try unfold BoxAnd at hSW); (try unfold SixAnd at hSW); (try unfold FourT at hSW); (try unfold PutT at hSW); (try unfold TwoSix at hSW); go_simp; (try with_reducible rfl))
            simp only [Act.put, List.setIfInBounds_toArray, List.set_cons_zero, List.set_cons_succ]
            refine takeAt (i := 9) (v := ?_) rfl (by kernel_rfl) (by kernel_rfl) (by kernel_rfl) (fun _ _ _ h => h) (by kernel_rfl) (by assumption) (fun W hSW => ?_) ?_
            rotate_left
            · ((try unfold BoxAnd at hSW); (try unfold SixAnd at hSW); (try unfold FourT at hSW); (try unfold PutT at hSW); (try unfold TwoSix at hSW); go_simp; (try with_reducible rfl))
            simp only [Act.put, List.setIfInBounds_toArray, List.set_cons_zero, List.set_cons_succ]
            refine takeAt (i := 10) (v := ?_) rfl (by kernel_rfl) (by kernel_rfl) (by kernel_rfl) (fun _ _ _ h => h) (by kernel_rfl) (by assumption) (fun W hSW => ?_) ?_
            rotate_left
            · ((try unfold BoxAnd at hSW); (try unfold SixAnd at hSW); (try unfold FourT at hSW); (try unfold PutT at hSW); (try unfold TwoSix at hSW); go_simp; (try with_reducible rfl))
            simp only [Act.put, List.setIfInBounds_toArray, List.set_cons_zero, List.set_cons_succ]
            refine takeAt (i := 11) (v := ?_) rfl (by kernel_rfl) (by kernel_rfl) (by kernel_rfl) (fun _ _ _ h => h) (by kernel_rfl) (by assumption) (fun W hSW => ?_) ?_
            rotate_left
            · ((try unfold BoxAnd at hSW); (try unfold SixAnd at hSW); (try unfold FourT at hSW); (try unfold PutT at hSW); (try unfold TwoSix at hSW); go_simp; (try with_reducible rfl))
            simp only [Act.put, List.setIfInBounds_toArray, List.set_cons_zero, List.set_cons_succ]
            refine takeAt (i := 12) (v := ?_) rfl (by kernel_rfl) (by kernel_rfl) (by kernel_rfl) (fun _ _ _ h => h) (by kernel_rfl) (by assumption) (fun W hSW => ?_) ?_
            rotate_left
            · ((try unfold BoxAnd at hSW); (try unfold SixAnd at hSW); (try unfold FourT at hSW); (try unfold PutT at hSW); (try unfold TwoSix at hSW); go_simp; (try with_reducible rfl))
            simp only [Act.put, List.setIfInBounds_toArray, List.set_cons_zero, List.set_cons_succ]
            refine takeAt (i := 13) (v := ?_) rfl (by kernel_rfl) (by kernel_rfl) (by kernel_rfl) (fun _ _ _ h => h) (by kernel_rfl) (by assumption) (fun W hSW => ?_) ?_
            rotate_left
            · ((try unfold BoxAnd at hSW); (try unfold SixAnd at hSW); (try unfold FourT at hSW); (try unfold PutT at hSW); (try unfold TwoSix at hSW); go_simp; (try with_reducible rfl))
            simp only [Act.put, List.setIfInBounds_toArray, List.set_cons_zero, List.set_cons_succ]
            refine takeAt (i := 14) (v := ?_) rfl (by kernel_rfl) (by kernel_rfl) (by kernel_rfl) (fun _ _ _ h => h) (by kernel_rfl) (by assumption) (fun W hSW => ?_) ?_
            rotate_left
            · ((try unfold BoxAnd at hSW); (try unfold SixAnd at hSW); (try unfold FourT at hSW); (try unfold PutT at hSW); (try unfold TwoSix at hSW); go_simp; (try with_reducible rfl))
            simp only [Act.put, List.setIfInBounds_toArray, List.set_cons_zero, List.set_cons_succ]
            refine takeAt (i := 15) (v := ?_) rfl (by kernel_rfl) (by kernel_rfl) (by kernel_rfl) (fun _ _ _ h => h) (by kernel_rfl) (by assumption) (fun W hSW => ?_) ?_
            rotate_left
            · ((try unfold BoxAnd at hSW); (try unfold SixAnd at hSW); (try unfold FourT at hSW); (try unfold PutT at hSW); (try unfold TwoSix at hSW); go_simp; (try with_reducible rfl))
            simp only [Act.put, List.setIfInBounds_toArray, List.set_cons_zero, List.set_cons_succ]
            refine takeAt (i := 16) (v := ?_) rfl (by kernel_rfl) (by kernel_rfl) (by kernel_rfl) (fun _ _ _ h => h) (by kernel_rfl) (by assumption) (fun W hSW => ?_) ?_
            rotate_left
            · ((try unfold BoxAnd at hSW); (try unfold SixAnd at hSW); (try unfold FourT at hSW); (try unfold PutT at hSW); (try unfold TwoSix at hSW); go_simp; (try with_reducible rfl))
            simp only [Act.put, List.setIfInBounds_toArray, List.set_cons_zero, List.set_cons_succ]
            refine takeAt (i := 17) (v := ?_) rfl (by kernel_rfl) (by kernel_rfl) (by kernel_rfl) (fun _ _ _ h => h) (by kernel_rfl) (by assumption) (fun W hSW => ?_) ?_
            rotate_left
            · ((try unfold BoxAnd at hSW); (try unfold SixAnd at hSW); (try unfold FourT at hSW); (try unfold PutT at hSW); (try unfold TwoSix at hSW); go_simp; (try with_reducible rfl))
            simp only [Act.put, List.setIfInBounds_toArray, List.set_cons_zero, List.set_cons_succ]
            refine takeAt (i := 18) (v := ?_) rfl (by kernel_rfl) (by kernel_rfl) (by kernel_rfl) (fun _ _ _ h => h) (by kernel_rfl) (by assumption) (fun W hSW => ?_) ?_
            rotate_left
            · ((try unfold BoxAnd at hSW); (try unfold SixAnd at hSW); (try unfold FourT at hSW); (try unfold PutT at hSW); (try unfold TwoSix at hSW); go_simp; (try with_reducible rfl))
            simp only [Act.put, List.setIfInBounds_toArray, List.set_cons_zero, List.set_cons_succ]
            refine takeAt (i := 19) (v := ?_) rfl (by kernel_rfl) (by kernel_rfl) (by kernel_rfl) (fun _ _ _ h => h) (by kernel_rfl) (by assumption) (fun W hSW => ?_) ?_
            rotate_left
            · ((try unfold BoxAnd at hSW); (try unfold SixAnd at hSW); (try unfold FourT at hSW); (try unfold PutT at hSW); (try unfold TwoSix at hSW); go_simp; (try with_reducible rfl))
            simp only [Act.put, List.setIfInBounds_toArray, List.set_cons_zero, List.set_cons_succ]
            refine takeAt (i := 20) (v := ?_) rfl (by kernel_rfl) (by kernel_rfl) (by kernel_rfl) (fun _ _ _ h => h) (by kernel_rfl) (by assumption) (fun W hSW => ?_) ?_
            rotate_left
            · ((try unfold BoxAnd at hSW); (try unfold SixAnd at hSW); (try unfold FourT at hSW); (try unfold PutT at hSW); (try unfold TwoSix at hSW); go_simp; (try with_reducible rfl))
            simp only [Act.put, List.setIfInBounds_toArray, List.set_cons_zero, List.set_cons_succ]
            refine takeAt (i := 21) (v := ?_) rfl (by kernel_rfl) (by kernel_rfl) (by kernel_rfl) (fun _ _ _ h => h) (by kernel_rfl) (by assumption) (fun W hSW => ?_) ?_
            rotate_left
            · ((try unfold BoxAnd at hSW); (try unfold SixAnd at hSW); (try unfold FourT at hSW); (try unfold PutT at hSW); (try unfold TwoSix at hSW); go_simp; (try with_reducible rfl))
            simp only [Act.put, List.setIfInBounds_toArray, List.set_cons_zero, List.set_cons_succ]
            refine takeAt (i := 22) (v := ?_) rfl (by kernel_rfl) (by kernel_rfl) (by kernel_rfl) (fun _ _ _ h => h) (by kernel_rfl) (by assumption) (fun W hSW => ?_) ?_
            rotate_left
            · ((try unfold BoxAnd at hSW); (try unfold SixAnd at hSW); (try unfold FourT at hSW); (try unfold PutT at hSW); (try unfold TwoSix at hSW); go_simp; (try with_reducible rfl))
            simp only [Act.put, List.setIfInBounds_toArray, List.set_cons_zero, List.set_cons_succ]
            refine takeAt (i := 23) (v := ?_) rfl (by kernel_rfl) (by kernel_rfl) (by kernel_rfl) (fun _ _ _ h => h) (by kernel_rfl) (by assumption) (fun W hSW => ?_) ?_
            rotate_left
            · ((try unfold BoxAnd at hSW); (try unfold SixAnd at hSW); (try unfold FourT at hSW); (try unfold PutT at hSW); (try unfold TwoSix at hSW); go_simp; (try with_reducible rfl))
            simp only [Act.put, List.setIfInBounds_toArray, List.set_cons_zero, List.set_cons_succ]
            refine wpAnyH_done (by kernel_rfl) ?_ _
            go_wp2_with fail
            go_roundw
            case rel => exact ⟨k + 1, by omega, by go_num, H1, B2⟩
            case measure => simp [intOf]; omega
    · go_wp2_with fail
      refine (C0.out _).mono ?_
      rintro e w2 ⟨rfl, rfl⟩
      go_wp2_with fail
      go_ret
      exact ⟨ret_bool (by rw [ordOk_iff.2 fun i hi => hrel i (by omega)]; rfl), bel⟩
end Go.Proofs.Ytomlejfilfdnbaa
