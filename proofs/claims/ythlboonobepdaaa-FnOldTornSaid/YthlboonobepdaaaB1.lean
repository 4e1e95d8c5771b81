/- Parts of slices, as 's[a:b]' gives them. -/
import Derived.Test.YthlboonobepdaaaA1
import Derived.Test.YthlboonobepdaaaB0
namespace Go.Proofs.Ythlboonobepdaaa
open Go.ChangeShapes Go.WideShapes Go.ChangeAt Go.RowKit
set_option linter.unusedVariables false

theorem Ints.part {w : World} {a : Option Addr} {n cap : Nat} {xs : List Int} (h : Ints w (.slice a n cap) xs) (k m : Nat) (hkm : k + m ≤ n) : Ints w (.slice (if cap = k then a else a.map (·.add (k * 1))) (k + m - k) (cap - k)) ((xs.drop k).take m) := by
  obtain ⟨rfl, hl, hm⟩ := h.sizes
  have hlen : ((xs.drop k).take m).length = m := by rw [List.length_take, List.length_drop]; omega
  rw [Nat.add_sub_cancel_left]
  by_cases hm0 : m = 0
  · subst hm0
    rw [List.take_zero]
    exact Ints.empty _ _ _ (by omega)
  · obtain ⟨a', cap', e, _, _, hc⟩ := h
    simp only [Value.slice.injEq] at e
    obtain ⟨rfl, _, rfl⟩ := e
    obtain ⟨b, off, rfl, hcell⟩ := hc (by omega)
    rw [if_neg (by omega)]
    have h2 : Ints w (.slice (some ⟨b, off, none⟩) xs.length cap) xs := ⟨_, cap, rfl, hl, hm, fun _ => ⟨b, off, rfl, hcell⟩⟩
    have h3 := (h2.drop' k (by omega)).take m (by omega)
    by_cases hk0 : k = 0
    · subst hk0; simpa [Addr.add] using h3
    · simpa [Addr.add, hk0] using h3
/-- 's[k:k+m]' -/
theorem run_part {w : World} {a : Option Addr} {n cap : Nat} {xs : List Int} (h : Ints w (.slice a n cap) xs) (k m : Nat) (hkm : k + m ≤ n) :
    ∃ u, (∀ W, (Instr.slice 23 (.slice a n cap) (some (.int .i64 (k : Int))) (some (.int .i64 ((k : Int) + (m : Int)))) none).run Try.prog W = .ok u W) ∧ ∀ W, Ints W (.slice a n cap) xs → Ints W u ((xs.drop k).take m) := by
  obtain ⟨_, hl, hm⟩ := h.sizes
  refine ⟨_, fun W => ?_, fun W hW => hW.part k m hkm⟩
  simp [Instr.slice, run_underlying Try.underlying23, Instr.sliceBounds, Instr.sliceBound, asIntOf]
  rw [if_pos (by omega), if_pos (by omega), show ((k : Int) + (m : Int)).toNat - k = m by omega]

/-- 's[k:]' -/
theorem Ints.from' {w : World} {a : Option Addr} {n cap : Nat} {xs : List Int} (h : Ints w (.slice a n cap) xs) (k : Nat) (hk : k ≤ n) : Ints w (.slice (if cap = k then a else a.map (·.add (k * 1))) (n - k) (cap - k)) (xs.drop k) := by
  have h1 := h.part k (n - k) (by omega)
  obtain ⟨hn, _, _⟩ := h.sizes
  rw [List.take_of_length_le (by rw [List.length_drop]; omega), show k + (n - k) - k = n - k by omega] at h1
  exact h1
theorem run_from {w : World} {a : Option Addr} {n cap : Nat} {xs : List Int} (h : Ints w (.slice a n cap) xs) (k : Nat) (hk : k ≤ n) :
    ∃ a2 cap2, (∀ W, (Instr.slice 23 (.slice a n cap) (some (.int .i64 (k : Int))) none none).run Try.prog W = .ok (.slice a2 (n - k) cap2) W) ∧ ∀ W, Ints W (.slice a n cap) xs → Ints W (.slice a2 (n - k) cap2) (xs.drop k) := by
  obtain ⟨_, hl, hm⟩ := h.sizes
  refine ⟨_, _, fun W => ?_, fun W hW => hW.from' k hk⟩
  simp [Instr.slice, run_underlying Try.underlying23, Instr.sliceBounds, Instr.sliceBound, asIntOf]
  omega
theorem Ints.cons2 {w : World} {v : Value} {x : Int} {xs : List Int} (h : Ints w v (x :: xs)) : ∃ b off cap, v = .slice (some ⟨b, off, none⟩) (xs.length + 1) cap ∧ xs.length + 1 ≤ cap ∧ cap ≤ maxLen ∧
    ∀ i, i < xs.length + 1 → w.cell? ⟨b, off + i, none⟩ = some (.int .i64 ((x :: xs).getD i 0)) := by
  obtain ⟨a, cap, rfl, hl, hm, hc⟩ := h
  obtain ⟨b, off, rfl, hcell⟩ := hc (by simp)
  exact ⟨b, off, cap, rfl, by simpa using hl, hm, by simpa using hcell⟩
end Go.Proofs.Ythlboonobepdaaa
