/- Chapter 3: a record as bytes, as the model makes it. -/
import Derived.Test.YthlboonobepdaaaW3
namespace Go.Proofs.Ythlboonobepdaaa
open Go.ChangeShapes Go.WideShapes Go.ChangeAt Go.RowKit
set_option linter.unusedVariables false

theorem cell_of_block {w : World} {B : Nat} {cs : Array Value} {t : TypeId} {fr : Nat × Nat} (h : w.heap[B]? = some (.cells cs t fr)) (i : Nat) : w.cell? ⟨B, i, none⟩ = cs[i]? := by simp [World.cell?, h]
/-- the box of a record in block B holds its six fields -/
def BoxR (W : World) (B : Nat) (off time : Int) (hk : Bool) (kv : Value) (hv : Bool) (vv : Value) : Prop :=
  W.cell? ⟨B, 0, none⟩ = some (.int .i64 off) ∧ W.cell? ⟨B, 1, none⟩ = some (.int .i64 time) ∧ W.cell? ⟨B, 2, none⟩ = some (.bool hk) ∧ W.cell? ⟨B, 3, none⟩ = some kv ∧ W.cell? ⟨B, 4, none⟩ = some (.bool hv) ∧ W.cell? ⟨B, 5, none⟩ = some vv
theorem BoxR.made (w : World) (t : TypeId) (off time : Int) (hk : Bool) (kv : Value) (hv : Bool) (vv : Value) :
    BoxR (w.alloc (.cells #[.int .i64 off, .int .i64 time, .bool hk, kv, .bool hv, vv] t)) w.heap.size off time hk kv hv vv := by
  have hb := heap_alloc_new w (.cells #[.int .i64 off, .int .i64 time, .bool hk, kv, .bool hv, vv] t)
  exact ⟨cell_of_block hb 0, cell_of_block hb 1, cell_of_block hb 2, cell_of_block hb 3, cell_of_block hb 4, cell_of_block hb 5⟩
theorem BoxR.below {w W : World} {B : Nat} {off time : Int} {hk : Bool} {kv : Value} {hv : Bool} {vv : Value} (h : BoxR w B off time hk kv hv vv) (hB : B < w.heap.size) (hb : Below w.heap.size w W) : BoxR W B off time hk kv hv vv := by
  obtain ⟨h0, h1, h2, h3, h4, h5⟩ := h
  have k : ∀ i, W.cell? ⟨B, i, none⟩ = w.cell? ⟨B, i, none⟩ := fun i => hb.cell (p := ⟨B, i, none⟩) hB
  exact ⟨(k 0).trans h0, (k 1).trans h1, (k 2).trans h2, (k 3).trans h3, (k 4).trans h4, (k 5).trans h5⟩

end Go.Proofs.Ythlboonobepdaaa
