/- Chapter 21: which producers are valid. -/
import Derived.Test.YtfapeppocfodpaaL12
import Derived.Test.YtfapeppocfodpaaG0
namespace Go.Proofs.Ytfapeppocfodpaa
open Go.ChangeShapes Go.WideShapes Go.ChangeAt Go.RowKit
set_option linter.unusedVariables false

theorem termOk_six (x y z : Int) : termOk ⟨x, y, z⟩ = (decide (0 ≤ x) && decide (x < 255) && (decide (0 ≤ y) && decide (y ≤ 99)) && (decide (0 ≤ z) && decide (z ≤ 99999))) := by
  have e : decide (x < 255) = decide (x ≤ 254) := by simp only [decide_eq_decide]; omega
  rw [e]
  rfl
theorem impl_isKnownValid (x y z : Int) (w : World) : Calls Try.prog 41 #[.agg #[.int .i64 x, .int .i64 y, .int .i64 z]] w (Same w (termOk ⟨x, y, z⟩)) := by
  have bA := alloc_below' w (.cells #[.int .i64 x, .int .i64 y, .int .i64 z] 61)
  by_cases h0 : 0 ≤ x
  rotate_left
  · have d0 : decide (0 ≤ x) = false := decide_eq_false h0
    rw [termOk_six, d0]
    go_enter Try.func41, Try.ntmps41
    go_wp2_with fail
    go_ret
    exact ⟨ret_bool (by simp), bA⟩
  have d0 : decide (0 ≤ x) = true := decide_eq_true h0
  by_cases h1 : x < 255
  rotate_left
  · have d1 : decide (x < 255) = false := decide_eq_false h1
    rw [termOk_six, d0, d1]
    go_enter Try.func41, Try.ntmps41
    go_wp2_with fail
    go_ret
    exact ⟨ret_bool (by simp), bA⟩
  have d1 : decide (x < 255) = true := decide_eq_true h1
  by_cases h2 : 0 ≤ y
  rotate_left
  · have d2 : decide (0 ≤ y) = false := decide_eq_false h2
    rw [termOk_six, d0, d1, d2]
    go_enter Try.func41, Try.ntmps41
    go_wp2_with fail
    go_ret
    exact ⟨ret_bool (by simp), bA⟩
  have d2 : decide (0 ≤ y) = true := decide_eq_true h2
  by_cases h3 : y ≤ 99
  rotate_left
  · have d3 : decide (y ≤ 99) = false := decide_eq_false h3
    rw [termOk_six, d0, d1, d2, d3]
    go_enter Try.func41, Try.ntmps41
    go_wp2_with fail
    go_ret
    exact ⟨ret_bool (by simp), bA⟩
  have d3 : decide (y ≤ 99) = true := decide_eq_true h3
  by_cases h4 : 0 ≤ z
  rotate_left
  · have d4 : decide (0 ≤ z) = false := decide_eq_false h4
    rw [termOk_six, d0, d1, d2, d3, d4]
    go_enter Try.func41, Try.ntmps41
    go_wp2_with fail
    go_ret
    exact ⟨ret_bool (by simp), bA⟩
  have d4 : decide (0 ≤ z) = true := decide_eq_true h4
  by_cases h5 : z ≤ 99999
  rotate_left
  · have d5 : decide (z ≤ 99999) = false := decide_eq_false h5
    rw [termOk_six, d0, d1, d2, d3, d4, d5]
    go_enter Try.func41, Try.ntmps41
    go_wp2_with fail
    go_ret
    exact ⟨ret_bool (by simp), bA⟩
  have d5 : decide (z ≤ 99999) = true := decide_eq_true h5
  rw [termOk_six, d0, d1, d2, d3, d4, d5]
  go_enter Try.func41, Try.ntmps41
  go_wp2_with fail
  go_ret
  exact ⟨ret_bool (by simp), bA⟩

/-- three cells of a block from a place on, and a cell beside them -/
def FourT (W : World) (b q : Nat) (v0 v1 v2 : Value) (p : Addr) (u0 : Value) : Prop :=
  W.cell? ⟨b, q, none⟩ = some v0 ∧ W.cell? ⟨b, q + 1, none⟩ = some v1 ∧ W.cell? ⟨b, q + 2, none⟩ = some v2 ∧ W.cell? p = some u0
theorem Ts.pair {w : World} {b off n cap : Nat} {ts : List Trm} (h : Ts w (.slice (some ⟨b, off, .none⟩) n cap) ts) (k : Nat) (hk : k < ts.length) :
    ∃ (x y z : Int) (p : Addr) (u0 : Int), Hid (tAt ts k = ⟨x, y, z⟩) ∧ w.cell? ⟨b, off + k * 3, .none⟩ = some (.int .i64 x) ∧ w.cell? ⟨b, off + k * 3 + 1, .none⟩ = some (.int .i64 y) ∧ w.cell? ⟨b, off + k * 3 + 2, .none⟩ = some (.int .i64 z) ∧
      Hid (k ≠ 0 → p = ⟨b, off + (k - 1) * 3, .none⟩ ∧ u0 = (tAt ts (k - 1)).num) ∧ w.cell? p = some (.int .i64 u0) := by
  obtain ⟨c0, c1, c2⟩ := h.cells k hk
  by_cases k0 : k = 0
  · exact ⟨_, _, _, _, _, Lib.hid rfl, c0, c1, c2, Lib.hid fun q => absurd k0 q, c0⟩
  · obtain ⟨d0, d1, d2⟩ := h.cells (k - 1) (by omega)
    exact ⟨_, _, _, _, _, Lib.hid rfl, c0, c1, c2, Lib.hid fun _ => ⟨rfl, rfl⟩, d0⟩
theorem stepT_at {ts : List Trm} {k : Nat} {x y z : Int} (h : tAt ts k = ⟨x, y, z⟩) : stepT ts k = (termOk ⟨x, y, z⟩ && (decide (k = 0) || decide ((tAt ts (k - 1)).num < x))) := by
  unfold stepT
  rw [h]

set_option maxHeartbeats 2000000 in
theorem impl_ProducersValid (v : Value) (ts : List Trm) (w : World) (h : Ts w v ts) : Calls Try.prog 24 #[v] w (Same w (tsOk ts)) := by
  have hv := h
  obtain ⟨a, cap, rfl, hl, hm, hc⟩ := h
  unfold maxLen at hm
  clear hc
  by_cases hlong : 20 < ts.length
  · have d8 : decide ((20 : Int) < (ts.length : Int)) = true := decide_eq_true (by omega)
    have d8n : decide (20 < ts.length) = true := decide_eq_true hlong
    rw [tsOk_long hlong]
    go_enter Try.func24, Try.ntmps24
    go_wp2_with fail
    go_ret
    exact ⟨rfl, Below.refl _ _⟩
  have d8 : decide ((20 : Int) < (ts.length : Int)) = false := decide_eq_false (by omega)
  go_enter Try.func24, Try.ntmps24
  go_wp2_with fail
  go_loopw [10] (fun i wr => ∃ k : Nat, k ≤ ts.length ∧ i = .int .i64 k ∧ (∀ j, j < k → stepT ts j = true) ∧ Below w.heap.size w wr) (fun i _ => ts.length - (intOf i).toNat)
  case atStart => exact ⟨0, Nat.zero_le _, rfl, fun j hj => by omega, Below.refl _ _⟩
  case round =>
    obtain ⟨k, hk, rfl, hrel, bel⟩ := hrel
    by_cases hlt : k < ts.length
    · obtain ⟨b, off, cp, e, _, _, _⟩ := hv.form (by omega)
      simp only [Value.slice.injEq, true_and] at e
      obtain ⟨rfl, rfl⟩ := e
      obtain ⟨x, y, z, p, u0, Ht, c0, c1, c2, Hp, hp0⟩ := (hv.below bel).pair k hlt
      have HST := Lib.hid (stepT_at Ht.out)
      have C1 : Hid (∀ W, Calls Try.prog 41 #[.agg #[.int .i64 x, .int .i64 y, .int .i64 z]] W (Same W (termOk ⟨x, y, z⟩))) := fun W => impl_isKnownValid x y z W
      obtain ⟨rb, hrb⟩ : ∃ rb, termOk ⟨x, y, z⟩ = rb := ⟨_, rfl⟩
      have HS := HST.out
      rw [hrb] at C1 HS
      have HSH := Lib.hid HS
      clear hrb HS HST Ht
      go_upto_region 6 with (fail)
      have bX := alloc_below' wr (.cells #[.int .i64 x, .int .i64 y, .int .i64 z] 61)
      have xX := Blk.made wr #[.int .i64 x, .int .i64 y, .int .i64 z] 61
      generalize hW1 : wr.alloc (.cells #[.int .i64 x, .int .i64 y, .int .i64 z] 61) = w1 at bX xX ⊢
      clear hW1 c0 c1 c2
      obtain ⟨X, hX⟩ : ∃ X, wr.heap.size = X := ⟨_, rfl⟩
      rw [hX] at xX ⊢
      have HX := Lib.hid hX
      clear hX
      have HS : Hid (∀ W, Below w1.heap.size w1 W → FourT W X 0 (.int .i64 x) (.int .i64 y) (.int .i64 z) p (.int .i64 u0)) := Lib.hid fun W hW =>
        have B := Bstep bX hW
        have t := xX.belowS hW
        ⟨t.cell 0, t.cell 1, t.cell 2, (B.cell (World.block_lt_of_cell? _ _ hp0)).trans hp0⟩
      have bdr : Below w1.heap.size w1 w1.drew := below_drewN (Below.refl _ _) 1
      have S1 := HS.out _ bdr
      have D1 := Lib.hid (C1.out w1.drew)
      refine wp_region_held_drew (S := fun W => FourT W X 0 (.int .i64 x) (.int .i64 y) (.int .i64 z) p (.int .i64 u0)) (by kernel_rfl) S1 (fun hS => ?_)
      clear S1
      refine takeAt (i := 0) (v := ?_) rfl (by kernel_rfl) (by kernel_rfl) (by kernel_rfl) (fun _ _ _ h => h) (by kernel_rfl) (by assumption) (fun W hSW => ?_) ?_
      rotate_left
      · ((try unfold BoxAnd at hSW); (try unfold SixAnd at hSW); (try unfold FourT at hSW); (try unfold PutT at hSW); (try unfold TwoSix at hSW); go_simp; (try with_reducible rfl))
      simp only [Act.put, List.setIfInBounds_toArray, List.set_cons_zero, List.set_cons_succ]
      refine onlyAt (i := 1) (by kernel_rfl) rfl (by kernel_rfl) (fun K hK => ?_)
      go_simp
      refine D1.out.mono ?_
      rintro e w2 ⟨rfl, b2⟩
      have hS2 := HS.out w2 (Bstep bdr b2)
      have B2 := Bstep (Bstep bel bX) (Bstep bdr b2)
      refine hK.out _ _ hS2 ?_
      clear hK K hS D1 C1
      cases rb with
      | false =>
        refine takeAt (i := 2) (v := ?_) rfl (by kernel_rfl) (by kernel_rfl) (by kernel_rfl) (fun _ _ _ h => h) (by kernel_rfl) (by assumption) (fun W hSW => ?_) ?_
        rotate_left
        · ((try unfold BoxAnd at hSW); (try unfold SixAnd at hSW); (try unfold FourT at hSW); (try unfold PutT at hSW); (try unfold TwoSix at hSW); go_simp; (try with_reducible rfl))
        simp only [Act.put, List.setIfInBounds_toArray, List.set_cons_zero, List.set_cons_succ]
        refine takeAt (i := 3) (v := ?_) rfl (by kernel_rfl) (by kernel_rfl) (by kernel_rfl) (fun _ _ _ h => h) (by kernel_rfl) (by assumption) (fun W hSW => ?_) ?_
        rotate_left
        · ((try unfold BoxAnd at hSW); (try unfold SixAnd at hSW); (try unfold FourT at hSW); (try unfold PutT at hSW); (try unfold TwoSix at hSW); go_simp; (try with_reducible rfl))
        simp only [Act.put, List.setIfInBounds_toArray, List.set_cons_zero, List.set_cons_succ]
        refine passAt (i := 4) rfl (by kernel_rfl) (by kernel_rfl) (by kernel_rfl) (fun _ _ _ h => h) (by kernel_rfl) (by assumption) ?_
        simp only [Act.put, List.setIfInBounds_toArray, List.set_cons_zero, List.set_cons_succ]
        refine passAt (i := 5) rfl (by kernel_rfl) (by kernel_rfl) (by kernel_rfl) (fun _ _ _ h => h) (by kernel_rfl) (by assumption) ?_
        simp only [Act.put, List.setIfInBounds_toArray, List.set_cons_zero, List.set_cons_succ]
        refine passAt (i := 6) rfl (by kernel_rfl) (by kernel_rfl) (by kernel_rfl) (fun _ _ _ h => h) (by kernel_rfl) (by assumption) ?_
        simp only [Act.put, List.setIfInBounds_toArray, List.set_cons_zero, List.set_cons_succ]
        refine passAt (i := 7) rfl (by kernel_rfl) (by kernel_rfl) (by kernel_rfl) (fun _ _ _ h => h) (by kernel_rfl) (by assumption) ?_
        simp only [Act.put, List.setIfInBounds_toArray, List.set_cons_zero, List.set_cons_succ]
        refine passAt (i := 8) rfl (by kernel_rfl) (by kernel_rfl) (by kernel_rfl) (fun _ _ _ h => h) (by kernel_rfl) (by assumption) ?_
        simp only [Act.put, List.setIfInBounds_toArray, List.set_cons_zero, List.set_cons_succ]
        refine passAt (i := 9) rfl (by kernel_rfl) (by kernel_rfl) (by kernel_rfl) (fun _ _ _ h => h) (by kernel_rfl) (by assumption) ?_
        simp only [Act.put, List.setIfInBounds_toArray, List.set_cons_zero, List.set_cons_succ]
        refine passAt (i := 10) rfl (by kernel_rfl) (by kernel_rfl) (by kernel_rfl) (fun _ _ _ h => h) (by kernel_rfl) (by assumption) ?_
        simp only [Act.put, List.setIfInBounds_toArray, List.set_cons_zero, List.set_cons_succ]
        refine passAt (i := 11) rfl (by kernel_rfl) (by kernel_rfl) (by kernel_rfl) (fun _ _ _ h => h) (by kernel_rfl) (by assumption) ?_
        simp only [Act.put, List.setIfInBounds_toArray, List.set_cons_zero, List.set_cons_succ]
        refine passAt (i := 12) rfl (by kernel_rfl) (by kernel_rfl) (by kernel_rfl) (fun _ _ _ h => h) (by kernel_rfl) (by assumption) ?_
        simp only [Act.put, List.setIfInBounds_toArray, List.set_cons_zero, List.set_cons_succ]
        refine passAt (i := 13) rfl (by kernel_rfl) (by kernel_rfl) (by kernel_rfl) (fun _ _ _ h => h) (by kernel_rfl) (by assumption) ?_
        simp only [Act.put, List.setIfInBounds_toArray, List.set_cons_zero, List.set_cons_succ]
        refine passAt (i := 14) rfl (by kernel_rfl) (by kernel_rfl) (by kernel_rfl) (fun _ _ _ h => h) (by kernel_rfl) (by assumption) ?_
        simp only [Act.put, List.setIfInBounds_toArray, List.set_cons_zero, List.set_cons_succ]
        refine passAt (i := 15) rfl (by kernel_rfl) (by kernel_rfl) (by kernel_rfl) (fun _ _ _ h => h) (by kernel_rfl) (by assumption) ?_
        simp only [Act.put, List.setIfInBounds_toArray, List.set_cons_zero, List.set_cons_succ]
        refine passAt (i := 16) rfl (by kernel_rfl) (by kernel_rfl) (by kernel_rfl) (fun _ _ _ h => h) (by kernel_rfl) (by assumption) ?_
        simp only [Act.put, List.setIfInBounds_toArray, List.set_cons_zero, List.set_cons_succ]
        refine takeAt (i := 17) (v := ?_) rfl (by kernel_rfl) (by kernel_rfl) (by kernel_rfl) (fun _ _ _ h => h) (by kernel_rfl) (by assumption) (fun W hSW => ?_) ?_
        rotate_left
        · ((try unfold BoxAnd at hSW); (try unfold SixAnd at hSW); (try unfold FourT at hSW); (try unfold PutT at hSW); (try unfold TwoSix at hSW); go_simp; (try with_reducible rfl))
        simp only [Act.put, List.setIfInBounds_toArray, List.set_cons_zero, List.set_cons_succ]
        refine wpAnyH_done (by kernel_rfl) ?_ _
        go_wp2_with fail
        go_ret
        exact ⟨ret_bool (tsOk_no hlt HSH.out).symm, B2⟩
      | true =>
        by_cases k0 : k = 0
        · have d0 : decide ((0 : Int) < (k : Int)) = false := decide_eq_false (by omega)
          have H1 : ∀ j, j < k + 1 → stepT ts j = true := fun j hj => by
            by_cases e : j = k
            · rw [e, HSH.out, decide_eq_true k0]; rfl
            · exact hrel j (by omega)
          have d0n : decide (0 < k) = false := decide_eq_false (by omega)
          clear k0 Hp
          refine takeAt (i := 2) (v := ?_) rfl (by kernel_rfl) (by kernel_rfl) (by kernel_rfl) (fun _ _ _ h => h) (by kernel_rfl) (by assumption) (fun W hSW => ?_) ?_
          rotate_left
          · ((try unfold BoxAnd at hSW); (try unfold SixAnd at hSW); (try unfold FourT at hSW); (try unfold PutT at hSW); (try unfold TwoSix at hSW); go_simp; (try with_reducible rfl))
          simp only [Act.put, List.setIfInBounds_toArray, List.set_cons_zero, List.set_cons_succ]
          refine takeAt (i := 3) (v := ?_) rfl (by kernel_rfl) (by kernel_rfl) (by kernel_rfl) (fun _ _ _ h => h) (by kernel_rfl) (by assumption) (fun W hSW => ?_) ?_
          rotate_left
          · ((try unfold BoxAnd at hSW); (try unfold SixAnd at hSW); (try unfold FourT at hSW); (try unfold PutT at hSW); (try unfold TwoSix at hSW); go_simp; (try with_reducible rfl))
          simp only [Act.put, List.setIfInBounds_toArray, List.set_cons_zero, List.set_cons_succ]
          refine takeAt (i := 4) (v := ?_) rfl (by kernel_rfl) (by kernel_rfl) (by kernel_rfl) (fun _ _ _ h => h) (by kernel_rfl) (by assumption) (fun W hSW => ?_) ?_
          rotate_left
          · ((try unfold BoxAnd at hSW); (try unfold SixAnd at hSW); (try unfold FourT at hSW); (try unfold PutT at hSW); (try unfold TwoSix at hSW); go_simp; (try with_reducible rfl))
          simp only [Act.put, List.setIfInBounds_toArray, List.set_cons_zero, List.set_cons_succ]
          refine takeAt (i := 5) (v := ?_) rfl (by kernel_rfl) (by kernel_rfl) (by kernel_rfl) (fun _ _ _ h => h) (by kernel_rfl) (by assumption) (fun W hSW => ?_) ?_
          rotate_left
          · ((try unfold BoxAnd at hSW); (try unfold SixAnd at hSW); (try unfold FourT at hSW); (try unfold PutT at hSW); (try unfold TwoSix at hSW); go_simp; (try with_reducible rfl))
          simp only [Act.put, List.setIfInBounds_toArray, List.set_cons_zero, List.set_cons_succ]
          refine takeAt (i := 6) (v := ?_) rfl (by kernel_rfl) (by kernel_rfl) (by kernel_rfl) (fun _ _ _ h => h) (by kernel_rfl) (by assumption) (fun W hSW => ?_) ?_
          rotate_left
          · ((try unfold BoxAnd at hSW); (try unfold SixAnd at hSW); (try unfold FourT at hSW); (try unfold PutT at hSW); (try unfold TwoSix at hSW); go_simp; (try with_reducible rfl))
          simp only [Act.put, List.setIfInBounds_toArray, List.set_cons_zero, List.set_cons_succ]
          refine passAt (i := 7) rfl (by kernel_rfl) (by kernel_rfl) (by kernel_rfl) (fun _ _ _ h => h) (by kernel_rfl) (by assumption) ?_
          simp only [Act.put, List.setIfInBounds_toArray, List.set_cons_zero, List.set_cons_succ]
          refine passAt (i := 8) rfl (by kernel_rfl) (by kernel_rfl) (by kernel_rfl) (fun _ _ _ h => h) (by kernel_rfl) (by assumption) ?_
          simp only [Act.put, List.setIfInBounds_toArray, List.set_cons_zero, List.set_cons_succ]
          refine passAt (i := 9) rfl (by kernel_rfl) (by kernel_rfl) (by kernel_rfl) (fun _ _ _ h => h) (by kernel_rfl) (by assumption) ?_
          simp only [Act.put, List.setIfInBounds_toArray, List.set_cons_zero, List.set_cons_succ]
          refine passAt (i := 10) rfl (by kernel_rfl) (by kernel_rfl) (by kernel_rfl) (fun _ _ _ h => h) (by kernel_rfl) (by assumption) ?_
          simp only [Act.put, List.setIfInBounds_toArray, List.set_cons_zero, List.set_cons_succ]
          refine passAt (i := 11) rfl (by kernel_rfl) (by kernel_rfl) (by kernel_rfl) (fun _ _ _ h => h) (by kernel_rfl) (by assumption) ?_
          simp only [Act.put, List.setIfInBounds_toArray, List.set_cons_zero, List.set_cons_succ]
          refine passAt (i := 12) rfl (by kernel_rfl) (by kernel_rfl) (by kernel_rfl) (fun _ _ _ h => h) (by kernel_rfl) (by assumption) ?_
          simp only [Act.put, List.setIfInBounds_toArray, List.set_cons_zero, List.set_cons_succ]
          refine passAt (i := 13) rfl (by kernel_rfl) (by kernel_rfl) (by kernel_rfl) (fun _ _ _ h => h) (by kernel_rfl) (by assumption) ?_
          simp only [Act.put, List.setIfInBounds_toArray, List.set_cons_zero, List.set_cons_succ]
          refine passAt (i := 14) rfl (by kernel_rfl) (by kernel_rfl) (by kernel_rfl) (fun _ _ _ h => h) (by kernel_rfl) (by assumption) ?_
          simp only [Act.put, List.setIfInBounds_toArray, List.set_cons_zero, List.set_cons_succ]
          refine passAt (i := 15) rfl (by kernel_rfl) (by kernel_rfl) (by kernel_rfl) (fun _ _ _ h => h) (by kernel_rfl) (by assumption) ?_
          simp only [Act.put, List.setIfInBounds_toArray, List.set_cons_zero, List.set_cons_succ]
          refine takeAt (i := 16) (v := ?_) rfl (by kernel_rfl) (by kernel_rfl) (by kernel_rfl) (fun _ _ _ h => h) (by kernel_rfl) (by assumption) (fun W hSW => ?_) ?_
          rotate_left
          · ((try unfold BoxAnd at hSW); (try unfold SixAnd at hSW); (try unfold FourT at hSW); (try unfold PutT at hSW); (try unfold TwoSix at hSW); go_simp; (try with_reducible rfl))
          simp only [Act.put, List.setIfInBounds_toArray, List.set_cons_zero, List.set_cons_succ]
          refine takeAt (i := 17) (v := ?_) rfl (by kernel_rfl) (by kernel_rfl) (by kernel_rfl) (fun _ _ _ h => h) (by kernel_rfl) (by assumption) (fun W hSW => ?_) ?_
          rotate_left
          · ((try unfold BoxAnd at hSW); (try unfold SixAnd at hSW); (try unfold FourT at hSW); (try unfold PutT at hSW); (try unfold TwoSix at hSW); go_simp; (try with_reducible rfl))
          simp only [Act.put, List.setIfInBounds_toArray, List.set_cons_zero, List.set_cons_succ]
          refine wpAnyH_done (by kernel_rfl) ?_ _
          go_wp2_with fail
          go_roundw
          case rel => exact ⟨k + 1, by omega, by go_num, H1, B2⟩
          case measure => simp [intOf]; omega
        · have d0 : decide ((0 : Int) < (k : Int)) = true := decide_eq_true (by omega)
          obtain ⟨rfl, hu0⟩ := Hp.out k0
          have d0n : decide (0 < k) = true := decide_eq_true (by omega)
          have s1 : IntKind.i64.wrap ((k : Int) - 1) = (k : Int) - 1 := IntWalk.i64_in _ ⟨by omega, by omega⟩
          have n1 : ((k : Int) - 1).toNat = k - 1 := by omega
          have n2 : (1 : Int) ≤ (k : Int) := by omega
          have n3 : (k : Int) - 1 < (ts.length : Int) := by omega
          have HSG := HSH.out
          rw [decide_eq_false k0, ← hu0] at HSG
          have HSK := Lib.hid HSG
          clear HSG hu0
          by_cases hlo : x ≤ u0
          · have d1 : decide (x ≤ u0) = true := decide_eq_true hlo
            refine takeAt (i := 2) (v := ?_) rfl (by kernel_rfl) (by kernel_rfl) (by kernel_rfl) (fun _ _ _ h => h) (by kernel_rfl) (by assumption) (fun W hSW => ?_) ?_
            rotate_left
            · ((try unfold BoxAnd at hSW); (try unfold SixAnd at hSW); (try unfold FourT at hSW); (try unfold PutT at hSW); (try unfold TwoSix at hSW); go_simp; (try with_reducible rfl))
            simp only [Act.put, List.setIfInBounds_toArray, List.set_cons_zero, List.set_cons_succ]
            refine takeAt (i := 3) (v := ?_) rfl (by kernel_rfl) (by kernel_rfl) (by kernel_rfl) (fun _ _ _ h => h) (by kernel_rfl) (by assumption) (fun W hSW => ?_) ?_
            rotate_left
            · ((try unfold BoxAnd at hSW); (try unfold SixAnd at hSW); (try unfold FourT at hSW); (try unfold PutT at hSW); (try unfold TwoSix at hSW); go_simp; (try with_reducible rfl))
            simp only [Act.put, List.setIfInBounds_toArray, List.set_cons_zero, List.set_cons_succ]
            refine takeAt (i := 4) (v := ?_) rfl (by kernel_rfl) (by kernel_rfl) (by kernel_rfl) (fun _ _ _ h => h) (by kernel_rfl) (by assumption) (fun W hSW => ?_) ?_
            rotate_left
            · ((try unfold BoxAnd at hSW); (try unfold SixAnd at hSW); (try unfold FourT at hSW); (try unfold PutT at hSW); (try unfold TwoSix at hSW); go_simp; (try with_reducible rfl))
            simp only [Act.put, List.setIfInBounds_toArray, List.set_cons_zero, List.set_cons_succ]
            refine takeAt (i := 5) (v := ?_) rfl (by kernel_rfl) (by kernel_rfl) (by kernel_rfl) (fun _ _ _ h => h) (by kernel_rfl) (by assumption) (fun W hSW => ?_) ?_
            rotate_left
            · ((try unfold BoxAnd at hSW); (try unfold SixAnd at hSW); (try unfold FourT at hSW); (try unfold PutT at hSW); (try unfold TwoSix at hSW); go_simp; (try with_reducible rfl))
            simp only [Act.put, List.setIfInBounds_toArray, List.set_cons_zero, List.set_cons_succ]
            refine takeAt (i := 6) (v := ?_) rfl (by kernel_rfl) (by kernel_rfl) (by kernel_rfl) (fun _ _ _ h => h) (by kernel_rfl) (by assumption) (fun W hSW => ?_) ?_
            rotate_left
            · ((try unfold BoxAnd at hSW); (try unfold SixAnd at hSW); (try unfold FourT at hSW); (try unfold PutT at hSW); (try unfold TwoSix at hSW); go_simp; (try with_reducible rfl))
            simp only [Act.put, List.setIfInBounds_toArray, List.set_cons_zero, List.set_cons_succ]
            refine takeAt (i := 7) (v := ?_) rfl (by kernel_rfl) (by kernel_rfl) (by kernel_rfl) (fun _ _ _ h => h) (by kernel_rfl) (by assumption) (fun W hSW => ?_) ?_
            rotate_left
            · ((try unfold BoxAnd at hSW); (try unfold SixAnd at hSW); (try unfold FourT at hSW); (try unfold PutT at hSW); (try unfold TwoSix at hSW); go_simp; (try with_reducible rfl))
            simp only [Act.put, List.setIfInBounds_toArray, List.set_cons_zero, List.set_cons_succ]
            refine takeAt (i := 8) (v := ?_) rfl (by kernel_rfl) (by kernel_rfl) (by kernel_rfl) (fun _ _ _ h => h) (by kernel_rfl) (by assumption) (fun W hSW => ?_) ?_
            rotate_left
            · ((try unfold BoxAnd at hSW); (try unfold SixAnd at hSW); (try unfold FourT at hSW); (try unfold PutT at hSW); (try unfold TwoSix at hSW); go_simp; (try with_reducible rfl))
            simp only [Act.put, List.setIfInBounds_toArray, List.set_cons_zero, List.set_cons_succ]
            refine takeAt (i := 9) (v := ?_) rfl (by kernel_rfl) (by kernel_rfl) (by kernel_rfl) (fun _ _ _ h => h) (by kernel_rfl) (by assumption) (fun W hSW => ?_) ?_
            rotate_left
            · ((try unfold BoxAnd at hSW); (try unfold SixAnd at hSW); (try unfold FourT at hSW); (try unfold PutT at hSW); (try unfold TwoSix at hSW); go_simp; (try with_reducible rfl))
            simp only [Act.put, List.setIfInBounds_toArray, List.set_cons_zero, List.set_cons_succ]
            refine takeAt (i := 10) (v := ?_) rfl (by kernel_rfl) (by kernel_rfl) (by kernel_rfl) (fun _ _ _ h => h) (by kernel_rfl) (by assumption) (fun W hSW => ?_) ?_
            rotate_left
            · ((try unfold BoxAnd at hSW); (try unfold SixAnd at hSW); (try unfold FourT at hSW); (try unfold PutT at hSW); (try unfold TwoSix at hSW); go_simp; (try with_reducible rfl))
            simp only [Act.put, List.setIfInBounds_toArray, List.set_cons_zero, List.set_cons_succ]
            refine takeAt (i := 11) (v := ?_) rfl (by kernel_rfl) (by kernel_rfl) (by kernel_rfl) (fun _ _ _ h => h) (by kernel_rfl) (by assumption) (fun W hSW => ?_) ?_
            rotate_left
            · ((try unfold BoxAnd at hSW); (try unfold SixAnd at hSW); (try unfold FourT at hSW); (try unfold PutT at hSW); (try unfold TwoSix at hSW); go_simp; (try with_reducible rfl))
            simp only [Act.put, List.setIfInBounds_toArray, List.set_cons_zero, List.set_cons_succ]
            refine takeAt (i := 12) (v := ?_) rfl (by kernel_rfl) (by kernel_rfl) (by kernel_rfl) (fun _ _ _ h => h) (by kernel_rfl) (by assumption) (fun W hSW => ?_) ?_
            rotate_left
            · ((try unfold BoxAnd at hSW); (try unfold SixAnd at hSW); (try unfold FourT at hSW); (try unfold PutT at hSW); (try unfold TwoSix at hSW); go_simp; (try with_reducible rfl))
            simp only [Act.put, List.setIfInBounds_toArray, List.set_cons_zero, List.set_cons_succ]
            refine takeAt (i := 13) (v := ?_) rfl (by kernel_rfl) (by kernel_rfl) (by kernel_rfl) (fun _ _ _ h => h) (by kernel_rfl) (by assumption) (fun W hSW => ?_) ?_
            rotate_left
            · ((try unfold BoxAnd at hSW); (try unfold SixAnd at hSW); (try unfold FourT at hSW); (try unfold PutT at hSW); (try unfold TwoSix at hSW); go_simp; (try with_reducible rfl))
            simp only [Act.put, List.setIfInBounds_toArray, List.set_cons_zero, List.set_cons_succ]
            refine takeAt (i := 14) (v := ?_) rfl (by kernel_rfl) (by kernel_rfl) (by kernel_rfl) (fun _ _ _ h => h) (by kernel_rfl) (by assumption) (fun W hSW => ?_) ?_
            rotate_left
            · ((try unfold BoxAnd at hSW); (try unfold SixAnd at hSW); (try unfold FourT at hSW); (try unfold PutT at hSW); (try unfold TwoSix at hSW); go_simp; (try with_reducible rfl))
            simp only [Act.put, List.setIfInBounds_toArray, List.set_cons_zero, List.set_cons_succ]
            refine takeAt (i := 15) (v := ?_) rfl (by kernel_rfl) (by kernel_rfl) (by kernel_rfl) (fun _ _ _ h => h) (by kernel_rfl) (by assumption) (fun W hSW => ?_) ?_
            rotate_left
            · ((try unfold BoxAnd at hSW); (try unfold SixAnd at hSW); (try unfold FourT at hSW); (try unfold PutT at hSW); (try unfold TwoSix at hSW); go_simp; (try with_reducible rfl))
            simp only [Act.put, List.setIfInBounds_toArray, List.set_cons_zero, List.set_cons_succ]
            refine takeAt (i := 16) (v := ?_) rfl (by kernel_rfl) (by kernel_rfl) (by kernel_rfl) (fun _ _ _ h => h) (by kernel_rfl) (by assumption) (fun W hSW => ?_) ?_
            rotate_left
            · ((try unfold BoxAnd at hSW); (try unfold SixAnd at hSW); (try unfold FourT at hSW); (try unfold PutT at hSW); (try unfold TwoSix at hSW); go_simp; (try with_reducible rfl))
            simp only [Act.put, List.setIfInBounds_toArray, List.set_cons_zero, List.set_cons_succ]
            refine takeAt (i := 17) (v := ?_) rfl (by kernel_rfl) (by kernel_rfl) (by kernel_rfl) (fun _ _ _ h => h) (by kernel_rfl) (by assumption) (fun W hSW => ?_) ?_
            rotate_left
            · ((try unfold BoxAnd at hSW); (try unfold SixAnd at hSW); (try unfold FourT at hSW); (try unfold PutT at hSW); (try unfold TwoSix at hSW); go_simp; (try with_reducible rfl))
            simp only [Act.put, List.setIfInBounds_toArray, List.set_cons_zero, List.set_cons_succ]
            refine wpAnyH_done (by kernel_rfl) ?_ _
            go_wp2_with fail
            go_ret
            exact ⟨ret_bool (tsOk_no hlt (by rw [HSK.out, decide_eq_false (show ¬ u0 < x by omega)]; rfl)).symm, B2⟩
          · have d1 : decide (x ≤ u0) = false := decide_eq_false hlo
            have H1 : ∀ j, j < k + 1 → stepT ts j = true := fun j hj => by
              by_cases e : j = k
              · rw [e, HSK.out, decide_eq_true (show u0 < x by omega)]; rfl
              · exact hrel j (by omega)
            refine takeAt (i := 2) (v := ?_) rfl (by kernel_rfl) (by kernel_rfl) (by kernel_rfl) (fun _ _ _ h => h) (by kernel_rfl) (by assumption) (fun W hSW => ?_) ?_
            rotate_left
            · ((try unfold BoxAnd at hSW); (try unfold SixAnd at hSW); (try unfold FourT at hSW); (try unfold PutT at hSW); (try unfold TwoSix at hSW); go_simp; (try with_reducible rfl))
            simp only [Act.put, List.setIfInBounds_toArray, List.set_cons_zero, List.set_cons_succ]
            refine takeAt (i := 3) (v := ?_) rfl (by kernel_rfl) (by kernel_rfl) (by kernel_rfl) (fun _ _ _ h => h) (by kernel_rfl) (by assumption) (fun W hSW => ?_) ?_
            rotate_left
            · ((try unfold BoxAnd at hSW); (try unfold SixAnd at hSW); (try unfold FourT at hSW); (try unfold PutT at hSW); (try unfold TwoSix at hSW); go_simp; (try with_reducible rfl))
            simp only [Act.put, List.setIfInBounds_toArray, List.set_cons_zero, List.set_cons_succ]
            refine takeAt (i := 4) (v := ?_) rfl (by kernel_rfl) (by kernel_rfl) (by kernel_rfl) (fun _ _ _ h => h) (by kernel_rfl) (by assumption) (fun W hSW => ?_) ?_
            rotate_left
            · ((try unfold BoxAnd at hSW); (try unfold SixAnd at hSW); (try unfold FourT at hSW); (try unfold PutT at hSW); (try unfold TwoSix at hSW); go_simp; (try with_reducible rfl))
            simp only [Act.put, List.setIfInBounds_toArray, List.set_cons_zero, List.set_cons_succ]
            refine takeAt (i := 5) (v := ?_) rfl (by kernel_rfl) (by kernel_rfl) (by kernel_rfl) (fun _ _ _ h => h) (by kernel_rfl) (by assumption) (fun W hSW => ?_) ?_
            rotate_left
            · ((try unfold BoxAnd at hSW); (try unfold SixAnd at hSW); (try unfold FourT at hSW); (try unfold PutT at hSW); (try unfold TwoSix at hSW); go_simp; (try with_reducible rfl))
            simp only [Act.put, List.setIfInBounds_toArray, List.set_cons_zero, List.set_cons_succ]
            refine takeAt (i := 6) (v := ?_) rfl (by kernel_rfl) (by kernel_rfl) (by kernel_rfl) (fun _ _ _ h => h) (by kernel_rfl) (by assumption) (fun W hSW => ?_) ?_
            rotate_left
            · ((try unfold BoxAnd at hSW); (try unfold SixAnd at hSW); (try unfold FourT at hSW); (try unfold PutT at hSW); (try unfold TwoSix at hSW); go_simp; (try with_reducible rfl))
            simp only [Act.put, List.setIfInBounds_toArray, List.set_cons_zero, List.set_cons_succ]
            refine takeAt (i := 7) (v := ?_) rfl (by kernel_rfl) (by kernel_rfl) (by kernel_rfl) (fun _ _ _ h => h) (by kernel_rfl) (by assumption) (fun W hSW => ?_) ?_
            rotate_left
            · ((try unfold BoxAnd at hSW); (try unfold SixAnd at hSW); (try unfold FourT at hSW); (try unfold PutT at hSW); (try unfold TwoSix at hSW); go_simp; (try with_reducible rfl))
            simp only [Act.put, List.setIfInBounds_toArray, List.set_cons_zero, List.set_cons_succ]
            refine takeAt (i := 8) (v := ?_) rfl (by kernel_rfl) (by kernel_rfl) (by kernel_rfl) (fun _ _ _ h => h) (by kernel_rfl) (by assumption) (fun W hSW => ?_) ?_
            rotate_left
            · ((try unfold BoxAnd at hSW); (try unfold SixAnd at hSW); (try unfold FourT at hSW); (try unfold PutT at hSW); (try unfold TwoSix at hSW); go_simp; (try with_reducible rfl))
            simp only [Act.put, List.setIfInBounds_toArray, List.set_cons_zero, List.set_cons_succ]
            refine takeAt (i := 9) (v := ?_) rfl (by kernel_rfl) (by kernel_rfl) (by kernel_rfl) (fun _ _ _ h => h) (by kernel_rfl) (by assumption) (fun W hSW => ?_) ?_
            rotate_left
            · ((try unfold BoxAnd at hSW); (try unfold SixAnd at hSW); (try unfold FourT at hSW); (try unfold PutT at hSW); (try unfold TwoSix at hSW); go_simp; (try with_reducible rfl))
            simp only [Act.put, List.setIfInBounds_toArray, List.set_cons_zero, List.set_cons_succ]
            refine takeAt (i := 10) (v := ?_) rfl (by kernel_rfl) (by kernel_rfl) (by kernel_rfl) (fun _ _ _ h => h) (by kernel_rfl) (by assumption) (fun W hSW => ?_) ?_
            rotate_left
            · ((try unfold BoxAnd at hSW); (try unfold SixAnd at hSW); (try unfold FourT at hSW); (try unfold PutT at hSW); (try unfold TwoSix at hSW); go_simp; (try with_reducible rfl))
            simp only [Act.put, List.setIfInBounds_toArray, List.set_cons_zero, List.set_cons_succ]
            refine takeAt (i := 11) (v := ?_) rfl (by kernel_rfl) (by kernel_rfl) (by kernel_rfl) (fun _ _ _ h => h) (by kernel_rfl) (by assumption) (fun W hSW => ?_) ?_
            rotate_left
            · ((try unfold BoxAnd at hSW); (try unfold SixAnd at hSW); (try unfold FourT at hSW); (try unfold PutT at hSW); (try unfold TwoSix at hSW); go_simp; (try with_reducible rfl))
            simp only [Act.put, List.setIfInBounds_toArray, List.set_cons_zero, List.set_cons_succ]
            refine takeAt (i := 12) (v := ?_) rfl (by kernel_rfl) (by kernel_rfl) (by kernel_rfl) (fun _ _ _ h => h) (by kernel_rfl) (by assumption) (fun W hSW => ?_) ?_
            rotate_left
            · ((try unfold BoxAnd at hSW); (try unfold SixAnd at hSW); (try unfold FourT at hSW); (try unfold PutT at hSW); (try unfold TwoSix at hSW); go_simp; (try with_reducible rfl))
            simp only [Act.put, List.setIfInBounds_toArray, List.set_cons_zero, List.set_cons_succ]
            refine takeAt (i := 13) (v := ?_) rfl (by kernel_rfl) (by kernel_rfl) (by kernel_rfl) (fun _ _ _ h => h) (by kernel_rfl) (by assumption) (fun W hSW => ?_) ?_
            rotate_left
            · ((try unfold BoxAnd at hSW); (try unfold SixAnd at hSW); (try unfold FourT at hSW); (try unfold PutT at hSW); (try unfold TwoSix at hSW); go_simp; (try with_reducible rfl))
            simp only [Act.put, List.setIfInBounds_toArray, List.set_cons_zero, List.set_cons_succ]
            refine takeAt (i := 14) (v := ?_) rfl (by kernel_rfl) (by kernel_rfl) (by kernel_rfl) (fun _ _ _ h => h) (by kernel_rfl) (by assumption) (fun W hSW => ?_) ?_
            rotate_left
            · ((try unfold BoxAnd at hSW); (try unfold SixAnd at hSW); (try unfold FourT at hSW); (try unfold PutT at hSW); (try unfold TwoSix at hSW); go_simp; (try with_reducible rfl))
            simp only [Act.put, List.setIfInBounds_toArray, List.set_cons_zero, List.set_cons_succ]
            refine takeAt (i := 15) (v := ?_) rfl (by kernel_rfl) (by kernel_rfl) (by kernel_rfl) (fun _ _ _ h => h) (by kernel_rfl) (by assumption) (fun W hSW => ?_) ?_
            rotate_left
            · ((try unfold BoxAnd at hSW); (try unfold SixAnd at hSW); (try unfold FourT at hSW); (try unfold PutT at hSW); (try unfold TwoSix at hSW); go_simp; (try with_reducible rfl))
            simp only [Act.put, List.setIfInBounds_toArray, List.set_cons_zero, List.set_cons_succ]
            refine takeAt (i := 16) (v := ?_) rfl (by kernel_rfl) (by kernel_rfl) (by kernel_rfl) (fun _ _ _ h => h) (by kernel_rfl) (by assumption) (fun W hSW => ?_) ?_
            rotate_left
            · ((try unfold BoxAnd at hSW); (try unfold SixAnd at hSW); (try unfold FourT at hSW); (try unfold PutT at hSW); (try unfold TwoSix at hSW); go_simp; (try with_reducible rfl))
            simp only [Act.put, List.setIfInBounds_toArray, List.set_cons_zero, List.set_cons_succ]
            refine takeAt (i := 17) (v := ?_) rfl (by kernel_rfl) (by kernel_rfl) (by kernel_rfl) (fun _ _ _ h => h) (by kernel_rfl) (by assumption) (fun W hSW => ?_) ?_
            rotate_left
            · ((try unfold BoxAnd at hSW); (try unfold SixAnd at hSW); (try unfold FourT at hSW); (try unfold PutT at hSW); (try unfold TwoSix at hSW); go_simp; (try with_reducible rfl))
            simp only [Act.put, List.setIfInBounds_toArray, List.set_cons_zero, List.set_cons_succ]
            refine wpAnyH_done (by kernel_rfl) ?_ _
            go_wp2_with fail
            go_roundw
            case rel => exact ⟨k + 1, by omega, by go_num, H1, B2⟩
            case measure => simp [intOf]; omega
    · go_wp2_with fail
      go_ret
      exact ⟨ret_bool (tsOk_iff.2 ⟨by omega, fun i hi => hrel i (by omega)⟩).symm, bel⟩
end Go.Proofs.Ytfapeppocfodpaa
