/- Chapter 3: the program's reader reads parts and records. -/
import Derived.Test.YthlboonobepdaaaW3k
import Derived.Test.YthlboonobepdaaaR1
namespace Go.Proofs.Ythlboonobepdaaa
open Go.ChangeShapes Go.WideShapes Go.ChangeAt Go.RowKit
set_option linter.unusedVariables false

theorem grown_none {w w' : World} {row : Option Nat} (h : w.grownBy w' none) : w.grownBy w' row := ⟨h.os, h.tape, h.output, h.size, fun k hk _ => h.block k hk (by simp)⟩

theorem takeR_len (xs : List Int) (k : Int) (f : Bool) (m : Int) : (takeR xs k f m).1.length ≤ m.toNat := by
  unfold takeR
  split
  · simp
  split
  · simp
  split
  · simp
  split
  · simp
  · simp only [List.length_take]; omega
def RPartRes (w : World) (B : Nat) (v : Value) (g : Bool × List Int × Int × Bool) (e : Ending) (w' : World) : Prop :=
  ∃ u, e = .returned (.tuple #[.bool g.1, u]) ∧ Own w' w.heap.size u g.2.1 ∧ Rdr w' B v g.2.2.1 g.2.2.2 ∧ w.grownBy w' (some B)

def RRecRes (w : World) (B : Nat) (v : Value) (g : Rec × Int × Bool) (e : Ending) (w' : World) : Prop :=
  ∃ kv vv, e = .returned (.agg #[.int .i64 g.1.off, .int .i64 g.1.time, .bool g.1.hk, kv, .bool g.1.hv, vv]) ∧ Own w' w.heap.size kv g.1.key ∧ Own w' w.heap.size vv g.1.val ∧ (∀ q, vv.ownBlock = some q → kv.ownBlock ≠ some q) ∧ Rdr w' B v g.2.1 g.2.2 ∧ w.grownBy w' (some B)
theorem partR_range {xs : List Int} (hok : okBs xs = true) (k : Int) (f : Bool) : k ≤ (partR xs k f).2.2.1 ∧ ((partR xs k f).2.2.1 = k ∨ (partR xs k f).2.2.1 ≤ xs.length) := by
  obtain ⟨_, _, r3, r4⟩ := numR_range hok k f
  have t := takeR_range xs (numR xs k f).2.1 (numR xs k f).2.2 (numR xs k f).1
  unfold partR
  split
  · exact ⟨r3, r4⟩
  · simp only; omega
end Go.Proofs.Ythlboonobepdaaa
