/- Chapter 23: where a term ends. -/
import Derived.Test.YtddemgdclilgpaaW14c
namespace Go.Proofs.Ytddemgdclilgpaa
open Go.ChangeShapes Go.WideShapes Go.ChangeAt Go.RowKit
set_option linter.unusedVariables false

theorem impl_begin (x y : Int) (w : World) : Calls Try.prog 49 #[.agg #[.int .i64 x, .int .i64 y]] w fun e w' => e = .returned (.int .i64 y) ∧ Below w.heap.size w w' := by
  have bA := alloc_below' w (.cells #[.int .i64 x, .int .i64 y] 29)
  go_enter Try.func49, Try.ntmps49
  go_wp2_with fail
  go_ret
  exact ⟨rfl, bA⟩

theorem impl_endAt (v : Value) (ts : List Trm) (i : Nat) (en : Int) (w : World) (h : Ts w v ts) (hi : i < ts.length) : Calls Try.prog 23 #[v, .int .i64 (i : Int), .int .i64 en] w fun e w' => e = .returned (.int .i64 (endAtT ts i en)) ∧ Below w.heap.size w w' := by
  have hv := h
  obtain ⟨a, cap, rfl, hl, hm, hc⟩ := h
  unfold maxLen at hm
  clear hc
  have s1 : IntKind.i64.wrap ((i : Int) + 1) = (i : Int) + 1 := IntWalk.i64_in _ ⟨by omega, by omega⟩
  by_cases hlt : i + 1 < ts.length
  · obtain ⟨b, off, cp, e, _, _, hcell⟩ := hv.form (by omega)
    simp only [Value.slice.injEq, true_and] at e
    obtain ⟨rfl, rfl⟩ := e
    obtain ⟨c0, c1⟩ := hcell (i + 1) hlt
    have E : endAtT ts i en = (tAt ts (i + 1)).first := by unfold endAtT; rw [if_pos hlt]
    rw [E]
    clear hcell
    have C1 := Lib.hid (impl_begin (tAt ts (i + 1)).num (tAt ts (i + 1)).first w)
    go_enter Try.func23, Try.ntmps23
    go_wp2_with fail
    (with_reducible refine C1.out.mono ?_)
    rintro e w2 ⟨rfl, b2⟩
    go_wp2_with fail
    go_ret
    exact ⟨rfl, b2⟩
  · have E : endAtT ts i en = en := by unfold endAtT; rw [if_neg hlt]
    rw [E]
    go_enter Try.func23, Try.ntmps23
    go_wp2_with fail
    go_ret
    exact ⟨rfl, Below.refl _ _⟩
end Go.Proofs.Ytddemgdclilgpaa
