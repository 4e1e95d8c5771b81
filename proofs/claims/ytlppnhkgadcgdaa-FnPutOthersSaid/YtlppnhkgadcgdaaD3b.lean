/- Chapter 3: a record is drawn. -/
import Derived.Test.YtlppnhkgadcgdaaD3
import Derived.Test.YtlppnhkgadcgdaaDX
namespace Go.Proofs.Ytlppnhkgadcgdaa
open Go.ChangeShapes Go.WideShapes Go.ChangeAt Go.RowKit
set_option linter.unusedVariables false

theorem Rd.set {w w' : World} {B c X : Nat} (h : Rd w B c) (hX : B < X) (hg : w.grownBy w' (some X)) : Rd w' B c :=
  h.keep fun b hb => hg.block b (Nat.lt_of_le_of_lt hb h.lt) fun e => by simp only [Option.some.injEq] at e; omega

/-- a record by value, its parts in memory of the call's own -/
def RecP (w : World) (base : Nat) (v : Value) (r : Rec) : Prop :=
  ∃ kv vv, v = .agg #[.int .i64 r.off, .int .i64 r.time, .bool r.hk, kv, .bool r.hv, vv] ∧ Own w base kv r.key ∧ Own w base vv r.val
theorem RecP.recV {w : World} {base : Nat} {v : Value} {r : Rec} (h : RecP w base v r) : RecV w v r := by
  obtain ⟨kv, vv, rfl, h1, h2⟩ := h
  exact ⟨kv, vv, rfl, h1.ints, h2.ints⟩
theorem RecP.below {w w' : World} {base : Nat} {v : Value} {r : Rec} (h : RecP w base v r) (hb : Below w.heap.size w w') : RecP w' base v r := by
  obtain ⟨kv, vv, rfl, h1, h2⟩ := h
  exact ⟨kv, vv, rfl, h1.below hb, h2.below hb⟩
/-- a record that was drawn -/
def RecDrawn (w : World) (B c : Nat) (e : Ending) (w' : World) : Prop :=
  ∃ (r : Rec) (v : Value), e = .returned v ∧ RecP w' w.heap.size v r ∧ -1 ≤ r.off ∧ r.off ≤ 100000 ∧ 0 ≤ r.time ∧ r.time ≤ 100000 ∧ r.key.length ≤ 13 ∧ r.val.length ≤ 13 ∧ Rd w' B (c + 80) ∧ w.grownBy w' (some B)

end Go.Proofs.Ytlppnhkgadcgdaa
