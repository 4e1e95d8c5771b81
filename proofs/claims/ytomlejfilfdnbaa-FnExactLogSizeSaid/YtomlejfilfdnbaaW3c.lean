/- Chapter 3: how the model reads parts of records. -/
import Derived.Test.YtomlejfilfdnbaaW3b
import Derived.Test.YtomlejfilfdnbaaP3b
namespace Go.Proofs.Ytomlejfilfdnbaa
open Go.ChangeShapes Go.WideShapes Go.ChangeAt Go.RowKit
set_option linter.unusedVariables false

def GetRes (g : Bool × List Int × Int × Bool) (w : World) (e : Ending) (w' : World) : Prop :=
  ∃ u, e = .returned (.tuple #[.bool g.1, u, .int .i64 g.2.2.1, .bool g.2.2.2]) ∧ Own w' w.heap.size u g.2.1 ∧ Below w.heap.size w w'

end Go.Proofs.Ytomlejfilfdnbaa
