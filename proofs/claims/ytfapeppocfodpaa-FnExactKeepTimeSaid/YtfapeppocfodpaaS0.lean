/- Appending, as a step of a region that draws its order. -/
import Derived.Test.YtfapeppocfodpaaA1
namespace Go.Proofs.Ytfapeppocfodpaa
open Go.ChangeShapes Go.WideShapes Go.ChangeAt Go.RowKit
set_option linter.unusedVariables false

theorem Own.base {w : World} {base b : Nat} {v : Value} {xs : List Int} (h : Own w base v xs) (hb : b ≤ base) : Own w b v xs := by
  refine ⟨h.1, ?_⟩
  rcases h.2 with h0 | ⟨g, cap, cur, e, hg, rest⟩
  · exact .inl h0
  · exact .inr ⟨g, cap, cur, e, Nat.le_trans hb hg, rest⟩

/-- 'append(s, u...)' as a step of a region that draws -/
theorem step_appI {w : World} {ops : Array Oper} {o : Oper} {a : Act} {K : Act → World → Prop} {Q : Exit → Act → World → Prop} {E : Prop}
    (hg : o.guard = none) (s x : Operand) (hop : o.op = Op.call { callee := Callee.builtin Builtin.append, args := #[s, x], argTypes := #[25, 25] })
    (base : Nat) (v u : Value) (xs ys : List Int) (hs : a.eval s = v) (hx : a.eval x = u)
    (hown : Own w base v xs) (hsrc : Ints w u ys) (hlen : xs.length + ys.length < 10000000000) (hb : base ≤ w.heap.size)
    (hK : ∀ v' w', Own w' base v' (xs ++ ys) → w.grownBy w' v.ownBlock → K (a.put o.dst v') w') :
    if Region.wanted o (yielded ops a.tmps) = true then Oper.wp Try.prog o a w K Q else E := by
  obtain ⟨i0, hi, hz0, hz1, hz2⟩ := info_parts info_int
  have hw : Region.wanted o (yielded ops a.tmps) = true := by simp [Region.wanted, hg]
  rw [if_pos hw]
  obtain ⟨ad, cap, rfl, hl, hm, hc⟩ := hsrc
  cases ad with
  | none =>
    have h0 : ys = [] := by
      rcases Nat.eq_zero_or_pos ys.length with h | h
      · exact List.eq_nil_of_length_eq_zero h
      · obtain ⟨b, off, e, _⟩ := hc h; cases e
    subst h0
    have hrun := run_append_none_any (P := Try.prog) (w := w) base 25 o.type 3 i0 1 Try.underlying25 hi v xs.length _ hown cap
    unfold Oper.wp
    simp [execOp, hop, resolve, invoke, builtin, hs, hx, hrun, Result.andThen]
    exact hK v w (by simpa using hown) (World.grownBy.refl _ _)
  | some ad =>
    obtain ⟨v', w', hrun, r1, r2, _⟩ := run_append_own (P := Try.prog) w base 25 o.type 3 i0 (.int .i64 0) 1 8 Try.underlying25 hi hz0 hz1 hz2 rfl (by decide) v xs.length _ hown ad ys.length cap (ys.map (Value.int .i64)) (by simp) (by
      intro j u hu
      have hj : j < ys.length := by
        rcases Nat.lt_or_ge j ys.length with h | h
        · exact h
        · simp [List.getElem?_eq_none (show (ys.map (Value.int .i64)).length ≤ j by simpa using h)] at hu
      obtain ⟨b, off, e, hcell⟩ := hc (by omega)
      simp only [Option.some.injEq] at e
      subst e
      rw [Addr.add_lit, hcell j hj]
      simp [hj] at hu
      simp [List.getD, hj, hu]) (ints_oneCell _ _) (by unfold maxLen; omega) (by omega) hb
    unfold Oper.wp
    simp [execOp, hop, resolve, invoke, builtin, hs, hx, hrun, Result.andThen]
    refine hK v' w' ?_ r2
    unfold Own
    simpa using r1
/-- numbers of the call's own, grown from others -/
def AppRes (w : World) (base : Nat) (ys : List Int) (e : Ending) (w' : World) : Prop := ∃ v, e = .returned v ∧ Own w' base v ys ∧ Below base w w'
end Go.Proofs.Ytfapeppocfodpaa
