/- Chapter 3: how the model reads records. -/
import Derived.Test.YtomlejfilfdnbaaW3c
namespace Go.Proofs.Ytomlejfilfdnbaa
open Go.ChangeShapes Go.WideShapes Go.ChangeAt Go.RowKit
set_option linter.unusedVariables false

theorem sameAt_short {xs ys : List Int} {k : Nat} (h : xs.length < k + ys.length) : sameAt xs k ys = false := by unfold sameAt; rw [decide_eq_false (by omega)]; rfl
theorem sameAt_no {xs ys : List Int} {k j : Nat} {x y : Int} (hj : j < ys.length) (hx : xs.getD (k + j) 0 = x) (hy : ys.getD j 0 = y) (h : x ≠ y) : sameAt xs k ys = false := by
  unfold sameAt
  have : ((xs.drop k).take ys.length == ys) = false := by
    refine beq_no_at (k := j) (x := x) (y := y) ?_ hy h
    rw [← hx]
    simp [List.getD, hj]
  rw [this]; simp
theorem sameAt_all {xs ys : List Int} {k : Nat} (h : k + ys.length ≤ xs.length) (he : ∀ i, i < ys.length → xs.getD (k + i) 0 = ys.getD i 0) : sameAt xs k ys = true := by
  unfold sameAt
  rw [decide_eq_true h, Bool.true_and]
  have hl : ((xs.drop k).take ys.length).length = ys.length := by rw [List.length_take, List.length_drop]; omega
  refine beq_yes hl fun i hi => ?_
  rw [hl] at hi
  rw [← he i hi]
  simp [List.getD, hi]

end Go.Proofs.Ytomlejfilfdnbaa
