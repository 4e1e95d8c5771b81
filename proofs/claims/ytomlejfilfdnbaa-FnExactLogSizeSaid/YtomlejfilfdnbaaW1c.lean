import Derived.Test.YtomlejfilfdnbaaW1b
namespace Go.Proofs.Ytomlejfilfdnbaa
open Go.ChangeShapes Go.WideShapes Go.ChangeAt Go.RowKit
set_option linter.unusedVariables false

/-- the cells of the first numbers, each by itself -/
theorem Ints.nil {w : World} {v : Value} (h : Ints w v []) : ∃ a cap, v = .slice a 0 cap := by
  obtain ⟨a, cap, rfl, _⟩ := h
  exact ⟨a, cap, rfl⟩
theorem Ints.cons {w : World} {v : Value} {x : Int} {xs : List Int} (h : Ints w v (x :: xs)) : ∃ b off cap, v = .slice (some ⟨b, off, none⟩) (xs.length + 1) cap ∧ xs.length + 1 ≤ cap ∧ cap ≤ maxLen ∧
    ∀ i, i < xs.length + 1 → w.cell? ⟨b, off + i, none⟩ = some (.int .i64 ((x :: xs).getD i 0)) := by
  obtain ⟨a, cap, rfl, hl, hm, hc⟩ := h
  obtain ⟨b, off, rfl, hcell⟩ := hc (by simp)
  exact ⟨b, off, cap, rfl, by simpa using hl, hm, by simpa using hcell⟩

def JoinRes (r : Int × Int) (w : World) (e : Ending) (w' : World) : Prop := e = .returned (.tuple #[.int .i64 r.1, .int .i64 r.2]) ∧ w = w'

theorem or0 (x : Int) (h0 : 0 ≤ x) (h1 : x < 4611686018427387904) : bits .or .i64 0 x = x := by
  rw [or_small 0 0 x (by decide) (by omega) (by decide) h0 h1 (by omega)]; omega
theorem or7 (x y : Int) (h0 : 0 ≤ x) (h1 : x < 128) (h2 : 0 ≤ y) (h3 : y < 128) : bits .or .i64 x (y * 128) = x + y * 128 := by
  rw [or_small 7 x (y * 128) (by decide) h0 (by omega) (by omega) (by omega) (by omega)]
theorem or14 (x y : Int) (h0 : 0 ≤ x) (h1 : x < 16384) (h2 : 0 ≤ y) (h3 : y < 128) : bits .or .i64 x (y * 16384) = x + y * 16384 := by
  rw [or_small 14 x (y * 16384) (by decide) h0 (by omega) (by omega) (by omega) (by omega)]

end Go.Proofs.Ytomlejfilfdnbaa
