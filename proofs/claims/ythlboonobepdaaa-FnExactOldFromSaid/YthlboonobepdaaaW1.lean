/- Chapter 1: what each function of the program and of the model answers. -/
import Derived.Test.YthlboonobepdaaaProg
import Derived.Test.YthlboonobepdaaaBase
import Derived.Test.YthlboonobepdaaaP1
namespace Go.Proofs.Ythlboonobepdaaa
open Go.ChangeShapes Go.WideShapes Go.ChangeAt Go.RowKit
set_option linter.unusedVariables false

theorem neg_half (n : Int) (h0 : 0 ≤ n) (h1 : n ≤ 9000000000000000000) : wrap64 (-(n + 1).tdiv 2) = -((n + 1) / 2) := by
  rw [Int.tdiv_eq_ediv_of_nonneg (by omega)]
  exact IntWalk.wrap64_in _ ⟨by omega, by omega⟩

end Go.Proofs.Ythlboonobepdaaa
