import Derived.Test.YthlboonobepdaaaW1
import Derived.Test.YthlboonobepdaaaA0
namespace Go.Proofs.Ythlboonobepdaaa
open Go.ChangeShapes Go.WideShapes Go.ChangeAt Go.RowKit
set_option linter.unusedVariables false

def varS (n : Int) : Int := if inV n = true then ((varB n).length : Int) else -1
theorem varS_no {n : Int} (h : inV n = false) : varS n = -1 := by unfold varS; rw [h]; rfl
theorem varS_yes {n : Int} (h : inV n = true) : varS n = ((varB n).length : Int) := by unfold varS; rw [if_pos h]

end Go.Proofs.Ythlboonobepdaaa
