import Derived.Test.YtomlejfilfdnbaaW1c
import Derived.Test.YtomlejfilfdnbaaA1
namespace Go.Proofs.Ytomlejfilfdnbaa
open Go.ChangeShapes Go.WideShapes Go.ChangeAt Go.RowKit
set_option linter.unusedVariables false

/-- what VarFrom answers for all bytes and places -/
def rdV (xs : List Int) (k : Int) : Int × Int × Bool :=
  if okBs xs = true then if k < 0 then (0, 0, false) else rdR k (joinV (xs.drop k.toNat)) else (0, 0, false)
theorem rdV_bad {xs : List Int} {k : Int} (h : okBs xs = false) : rdV xs k = (0, 0, false) := by unfold rdV; rw [h]; rfl
theorem rdV_neg {xs : List Int} {k : Int} (h : k < 0) : rdV xs k = (0, 0, false) := by unfold rdV; rw [if_pos h]; split <;> rfl
theorem rdV_at {xs : List Int} (k : Nat) (h : okBs xs = true) : rdV xs (k : Int) = rdR k (joinV (xs.drop k)) := by
  unfold rdV; rw [if_pos h, if_neg (by omega), Int.toNat_natCast]

def FromRes (r : Int × Int × Bool) (w : World) (e : Ending) (w' : World) : Prop := e = .returned (.tuple #[.int .i64 r.1, .int .i64 r.2.1, .bool r.2.2]) ∧ w = w'

end Go.Proofs.Ytomlejfilfdnbaa
