/- Chapter 2: numbers, bytes and places are drawn. -/
import Derived.Test.YtomlejfilfdnbaaDA
import Derived.Test.YtomlejfilfdnbaaW2
namespace Go.Proofs.Ytomlejfilfdnbaa
open Go.ChangeShapes Go.WideShapes Go.ChangeAt Go.RowKit
set_option linter.unusedVariables false

def SomeRes (w : World) (B c most : Nat) (e : Ending) (w' : World) : Prop :=
  ∃ (v : Value) (xs : List Int), e = .returned v ∧ (∃ g cap, v = .slice (some ⟨g, 0, none⟩) xs.length cap) ∧ Own w' w.heap.size v xs ∧ xs.length ≤ most ∧ Rd w' B (c + most + 4) ∧ w.grownBy w' (some B)

def DrawnRow (w : World) (most : Nat) (e : Ending) (w' : World) : Prop := ∃ (v : Value) (xs : List Int), e = .returned v ∧ (∃ g off cap, v = .slice (some ⟨g, off, none⟩) xs.length cap) ∧ Ints w' v xs ∧ xs.length ≤ most ∧ Below w.heap.size w w'



end Go.Proofs.Ytomlejfilfdnbaa
