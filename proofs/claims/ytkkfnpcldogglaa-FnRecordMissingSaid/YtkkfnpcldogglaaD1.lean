/- Chapter 1: bytes and a place are drawn. -/
import Derived.Test.YtkkfnpcldogglaaD0
import Derived.Test.YtkkfnpcldogglaaW1d
import Derived.Laws.AppendOwnNone
namespace Go.Proofs.Ytkkfnpcldogglaa
open Go.ChangeShapes Go.WideShapes Go.ChangeAt Go.RowKit
set_option linter.unusedVariables false

theorem Own.nil_or {w : World} {base : Nat} {v : Value} {xs : List Int} (h : Own w base v xs) : (v = .slice .none 0 0 ∧ xs = []) ∨ ∃ g cap, v = .slice (some ⟨g, 0, .none⟩) xs.length cap := by
  rcases h.2 with ⟨rfl, h0⟩ | ⟨g, cap, cur, rfl, _⟩
  · exact .inl ⟨rfl, List.eq_nil_of_length_eq_zero h0⟩
  · exact .inr ⟨g, cap, rfl⟩

/-- 'append(s, u...)', both made by the call itself -/
theorem wp_appO {w : World} {ops : Array Oper} {rest : List Oper} {o : Oper} {a : Act} {Q : Exit → Act → World → Prop}
    (hg : o.guard = none) (s x : Operand) (hop : o.op = Op.call { callee := Callee.builtin Builtin.append, args := #[s, x], argTypes := #[23, 23] })
    (base base2 : Nat) (v u : Value) (xs ys : List Int) (hs : a.eval s = v) (hx : a.eval x = u)
    (hown : Own w base v xs) (hown2 : Own w base2 u ys) (hlen : xs.length + ys.length < 10000000000) (hb : base ≤ w.heap.size)
    (hK : ∀ v' w', Own w' base v' (xs ++ ys) → w.grownBy w' v.ownBlock → wpList Try.prog ops Q rest (a.put o.dst v') w') :
    wpList Try.prog ops Q (o :: rest) a w := by
  obtain ⟨i0, hi, hz0, hz1, hz2⟩ := info_parts info_int
  rcases hown2.nil_or with ⟨rfl, rfl⟩ | ⟨g, cap, rfl⟩
  · refine wpList_append_own_none hg s x 23 hop base 3 i0 1 Try.underlying23 hi v xs.length _ hs hown hx ?_
    exact hK v w (by simpa using hown) (World.grownBy.refl _ _)
  · refine wpList_append_own w hg s x 23 hop base 3 i0 (.int .i64 0) 1 8 Try.underlying23 hi hz0 hz1 hz2 rfl (by decide) v xs.length _ hs hown ⟨g, 0, none⟩ ys.length cap (ys.map (Value.int .i64)) hx (by simp) (World.ownsRow.cells hown2 rfl) (ints_oneCell _ _) ?_ ?_ hb ?_
    · unfold maxLen; omega
    · omega
    · intro v' w' hown' hgrow _
      refine hK v' w' ?_ hgrow
      unfold Own
      simpa using hown'

theorem Rd.app {w w' : World} {B c : Nat} {v : Value} {xs : List Int} (h : Rd w B c) (hown : Own w (B + 1) v xs) (hg : w.grownBy w' v.ownBlock) : Rd w' B c :=
  h.keep fun b hb => hg.block b (Nat.lt_of_le_of_lt hb h.lt) fun e => by have := hown.lt b e.symm; omega
theorem Own.pick {w w' : World} {B : Nat} {v : Value} {xs : List Int} (hown : Own w (B + 1) v xs) (hg : w.grownBy w' (some B)) : Own w' (B + 1) v xs :=
  hown.grown hg (by
    cases e : v.ownBlock with
    | none => exact .inl rfl
    | some k => refine .inr fun e2 => ?_; have := hown.lt k e; simp only [Option.some.injEq] at e2; omega)
def DrawnAt (w : World) (e : Ending) (w' : World) : Prop := ∃ (v : Value) (xs : List Int) (k : Int), e = .returned (.tuple #[v, .int .i64 k]) ∧ Ints w' v xs ∧ xs.length ≤ 100 ∧ 0 ≤ k ∧ k ≤ 100 ∧ Below w.heap.size w w'

end Go.Proofs.Ytkkfnpcldogglaa
