/- Chapter 3: how the program writes records. -/
import Derived.Test.YthlboonobepdaaaW3i
namespace Go.Proofs.Ythlboonobepdaaa
open Go.ChangeShapes Go.WideShapes Go.ChangeAt Go.RowKit
set_option linter.unusedVariables false

/-- numbers of the call's own if both tests say yes, none if not -/
def IfInts (w : World) (b1 b2 : Bool) (ys : List Int) (e : Ending) (w' : World) : Prop := NewInts w (if (b1 && b2) = true then ys else []) (b1 && b2) e w'

end Go.Proofs.Ythlboonobepdaaa
