/- Chapter 32: parts of rows of groups, and what the laws of ends and cuts need of plain facts. -/
import Derived.Test.YtmhgddlkhbkbaaaW32d
namespace Go.Proofs.Ytmhgddlkhbkbaaa
open Go.ChangeShapes Go.WideShapes Go.ChangeAt Go.RowKit
set_option linter.unusedVariables false

/-- 's[:m]' -/
theorem run_uptoT {w : World} {a : Option Addr} {n cap : Nat} {ts : List Trm} (h : Ts w (.slice a n cap) ts) (m : Nat) (hm : m ≤ n) (W : World) :
    (Instr.slice 23 (.slice a n cap) none (some (.int .i64 (m : Int))) none).run Try.prog W = .ok (.slice a m cap) W := by
  obtain ⟨_, hl, _⟩ := h.sizes
  have e : (if cap = 0 then a else Option.map (fun x : Addr => x.add 0) a) = a := by
    split
    · rfl
    · cases a with
      | none => rfl
      | some a => simp [Addr.add]
  obtain ⟨i0, hi, hz0, hz1, hz2⟩ := info_parts info_term
  simp [Instr.slice, run_underlying Try.underlying23, Instr.sliceBounds, Instr.sliceBound, asIntOf]
  rw [if_pos (by omega)]
  try simp only [Nat.sub_zero]
  try rw [e]
theorem Ts.from' {w : World} {a : Option Addr} {n cap : Nat} {ts : List Trm} (h : Ts w (.slice a n cap) ts) (k : Nat) (hk : k ≤ n) : Ts w (.slice (if cap = k then a else a.map (·.add (k * 2))) (n - k) (cap - k)) (ts.drop k) := by
  obtain ⟨rfl, hl, hm⟩ := h.sizes
  by_cases h0 : k = ts.length
  · subst h0
    rw [Nat.sub_self, List.drop_length]
    exact Ts.empty _ _ _ (by omega)
  · obtain ⟨b, off, cp, e, _, _, _⟩ := h.form (by omega)
    simp only [Value.slice.injEq, true_and] at e
    obtain ⟨rfl, rfl⟩ := e
    rw [if_neg (by omega)]
    have := h.drop k hk
    rw [Option.map_some, Addr.add_lit]
    exact this
/-- 's[k:]' -/
theorem run_fromT {w : World} {a : Option Addr} {n cap : Nat} {ts : List Trm} (h : Ts w (.slice a n cap) ts) (k : Nat) (hk : k ≤ n) :
    ∃ a2 cap2, (∀ W, (Instr.slice 23 (.slice a n cap) (some (.int .i64 (k : Int))) none none).run Try.prog W = .ok (.slice a2 (n - k) cap2) W) ∧ ∀ W, Ts W (.slice a n cap) ts → Ts W (.slice a2 (n - k) cap2) (ts.drop k) := by
  obtain ⟨_, hl, hm⟩ := h.sizes
  refine ⟨_, _, fun W => ?_, fun W hW => hW.from' k hk⟩
  simp [Instr.slice, run_underlying Try.underlying23, Instr.sliceBounds, Instr.sliceBound, asIntOf]
  omega

end Go.Proofs.Ytmhgddlkhbkbaaa
