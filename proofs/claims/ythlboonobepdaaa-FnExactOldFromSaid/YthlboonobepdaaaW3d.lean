/- Chapter 3: how the model reads records. -/
import Derived.Test.YthlboonobepdaaaW3c
namespace Go.Proofs.Ythlboonobepdaaa
open Go.ChangeShapes Go.WideShapes Go.ChangeAt Go.RowKit
set_option linter.unusedVariables false

theorem sameAt_short {xs ys : List Int} {k : Nat} (h : xs.length < k + ys.length) : sameAt xs k ys = false := by unfold sameAt; rw [decide_eq_false (by omega)]; rfl
theorem sameAt_no {xs ys : List Int} {k j : Nat} {x y : Int} (hj : j < ys.length) (hx : xs.getD (k + j) 0 = x) (hy : ys.getD j 0 = y) (h : x ≠ y) : sameAt xs k ys = false := by
  unfold sameAt
  have : ((xs.drop k).take ys.length == ys) = false := by
    refine beq_no_at (k := j) (x := x) (y := y) ?_ hy h
    rw [← hx]
    simp [List.getD, hj]
  rw [this]; simp
theorem sameAt_all {xs ys : List Int} {k : Nat} (h : k + ys.length ≤ xs.length) (he : ∀ i, i < ys.length → xs.getD (k + i) 0 = ys.getD i 0) : sameAt xs k ys = true := by
  unfold sameAt
  rw [decide_eq_true h, Bool.true_and]
  have hl : ((xs.drop k).take ys.length).length = ys.length := by rw [List.length_take, List.length_drop]; omega
  refine beq_yes hl fun i hi => ?_
  rw [hl] at hi
  rw [← he i hi]
  simp [List.getD, hi]

theorem spec_l3Same (v u : Value) (xs ys : List Int) (k : Nat) (w : World) (h : Ints w v xs) (g : Ints w u ys) (hk : k ≤ 1000000000000) (hs : xs.length ≤ 1000000000000) (hs2 : ys.length ≤ 1000000000000) :
    Calls Try.prog 44 #[v, .int .i64 (k : Int), u] w (SaysB (sameAt xs k ys) w) := by
  obtain ⟨a, cap, rfl, hl, hm, hc⟩ := h
  obtain ⟨b, cap2, rfl, gl, gm, gc⟩ := g
  unfold maxLen at hm gm
  have hc' := Lib.hid hc
  have gc' := Lib.hid gc
  clear hc gc
  by_cases hshort : xs.length < k + ys.length
  · have d0 : decide ((xs.length : Int) < (k : Int) + (ys.length : Int)) = true := decide_eq_true (by omega)
    rw [sameAt_short hshort]
    go_enter Try.func44, Try.ntmps44
    go_wp2
    go_ret
    exact ⟨rfl, Below.refl _ _⟩
  · have d0 : decide ((xs.length : Int) < (k : Int) + (ys.length : Int)) = false := decide_eq_false (by omega)
    have Hle : Hid (k + ys.length ≤ xs.length) := by unfold Hid; omega
    go_enter Try.func44, Try.ntmps44
    go_wp2
    go_loopw [7] (fun i wr => ∃ j : Nat, j ≤ ys.length ∧ i = .int .i64 j ∧ (∀ i, i < j → xs.getD (k + i) 0 = ys.getD i 0) ∧ Below w.heap.size w wr) (fun i _ => ys.length - (intOf i).toNat)
    case atStart => exact ⟨0, Nat.zero_le _, rfl, fun i hi => by omega, Below.refl _ _⟩
    case round =>
      obtain ⟨j, hj, rfl, hrel, hbel⟩ := hrel
      have Hrel := Lib.hid hrel
      clear hrel
      by_cases hlt : j < ys.length
      · have hlt2 : k + j < xs.length := by have := Hle.out; omega
        obtain ⟨b1, off1, rfl, hcell⟩ := hc'.out (by omega)
        obtain ⟨b2, off2, rfl, gcell⟩ := gc'.out (by omega)
        have hx := (hbel.cell (World.block_lt_of_cell? w _ (hcell (k + j) hlt2))).trans (hcell (k + j) hlt2)
        have hy := (hbel.cell (World.block_lt_of_cell? w _ (gcell j hlt))).trans (gcell j hlt)
        clear hcell gcell
        obtain ⟨x, ex⟩ : ∃ x, xs.getD (k + j) 0 = x := ⟨_, rfl⟩
        obtain ⟨y, ey⟩ : ∃ y, ys.getD j 0 = y := ⟨_, rfl⟩
        rw [ex] at hx
        rw [ey] at hy
        have Ex := Lib.hid ex
        have Ey := Lib.hid ey
        clear ex ey
        have i0 : (0 : Int) ≤ (j : Int) := by omega
        have i1 : (j : Int) < (ys.length : Int) := by omega
        have i2 : (0 : Int) ≤ (k : Int) + (j : Int) := by omega
        have i3 : (k : Int) + (j : Int) < (xs.length : Int) := by omega
        have s1 : IntKind.i64.wrap ((k : Int) + (j : Int)) = (k : Int) + (j : Int) := IntWalk.i64_in _ ⟨by omega, by omega⟩
        have n1 : ((k : Int) + (j : Int)).toNat = k + j := by omega
        by_cases hxy : x = y
        · have H1 : Hid (∀ i, i < j + 1 → xs.getD (k + i) 0 = ys.getD i 0) := fun i hi => by
            by_cases q : i = j
            · subst q; rw [Ex.out, Ey.out, hxy]
            · exact Hrel.out i (by omega)
          have hq : (x != y) = false := by simp [hxy]
          clear hxy
          go_wp2
          go_quiet (fail)
          go_wp2
          go_roundw
          case rel => exact ⟨j + 1, by omega, by go_num, H1.out, below_drewN hbel _⟩
          case measure => simp [intOf]; omega
        · have hq : (x != y) = true := by simp [hxy]
          have H1 := Lib.hid (sameAt_no hlt Ex.out Ey.out hxy)
          clear hxy
          go_wp2
          go_quiet (fail)
          go_wp2
          go_ret
          exact ⟨ret_bool H1.out.symm, below_drewN hbel _⟩
      · go_wp2
        go_ret
        exact ⟨ret_bool (sameAt_all Hle.out fun i hi => Hrel.out i (by omega)).symm, hbel⟩

end Go.Proofs.Ythlboonobepdaaa
