/- Records in memory. -/
import Derived.Test.YtfapeppocfodpaaA1
import Derived.Test.YtfapeppocfodpaaPX3
import Derived.Test.YtfapeppocfodpaaS0
namespace Go.Proofs.Ytfapeppocfodpaa
open Go.ChangeShapes Go.WideShapes Go.ChangeAt Go.RowKit
set_option linter.unusedVariables false

/-- v is a record by value, its parts in the world w -/
def RecV (w : World) (v : Value) (r : Rec) : Prop :=
  ∃ kv vv, v = .agg #[.int .i64 r.off, .int .i64 r.time, .bool r.hk, kv, .bool r.hv, vv] ∧ Ints w kv r.key ∧ Ints w vv r.val
theorem RecV.below {w w' : World} {v : Value} {r : Rec} (h : RecV w v r) (hb : Below w.heap.size w w') : RecV w' v r := by
  obtain ⟨kv, vv, rfl, h1, h2⟩ := h
  exact ⟨kv, vv, rfl, h1.below hb, h2.below hb⟩

end Go.Proofs.Ytfapeppocfodpaa
