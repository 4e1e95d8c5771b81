/- Appending, as a guarded step of a region that draws its order. -/
import Derived.Test.YthlboonobepdaaaS0
import Derived.Deep.RegionLaw
namespace Go.Proofs.Ythlboonobepdaaa
open Go.ChangeShapes Go.WideShapes Go.ChangeAt Go.RowKit
set_option linter.unusedVariables false

/-- 'append(s, u...)' as a step of a region that draws, guarded or not, in a world that bears what an earlier one bore -/
theorem step_appB {w0 w : World} {ops : Array Oper} {o : Oper} {a : Act} {K : Act → World → Prop} {Q : Exit → Act → World → Prop} {E : Prop}
    (hw : Region.wanted o (yielded ops a.tmps) = true) (s x : Operand) (hop : o.op = Op.call { callee := Callee.builtin Builtin.append, args := #[s, x], argTypes := #[23, 23] })
    (base : Nat) (v u : Value) (xs ys : List Int) (hs : a.eval s = v) (hx : a.eval x = u)
    (hown0 : Own w0 base v xs) (hsrc0 : Ints w0 u ys) (hlen : xs.length + ys.length < 10000000000) (hb0 : base ≤ w0.heap.size) (hbel : Below w0.heap.size w0 w)
    (hK : ∀ v' w', Own w' base v' (xs ++ ys) → w0.grownBy w' v.ownBlock → K (a.put o.dst v') w') :
    if Region.wanted o (yielded ops a.tmps) = true then Oper.wp Try.prog o a w K Q else E := by
  have hown := hown0.below hbel
  have hsrc := hsrc0.below hbel
  have hb := Nat.le_trans hb0 hbel.size
  have hK' : ∀ v' w', Own w' base v' (xs ++ ys) → w.grownBy w' v.ownBlock → K (a.put o.dst v') w' := fun v' w' ho hg' => hK v' w' ho ⟨hg'.os.trans hbel.os, hg'.tape.trans hbel.tape, hg'.output.trans hbel.output, Nat.le_trans hbel.size hg'.size, fun k hk hne => (hg'.block k (Nat.lt_of_lt_of_le hk hbel.size) hne).trans (hbel.block k hk)⟩
  obtain ⟨i0, hi, hz0, hz1, hz2⟩ := info_parts info_int
  rw [if_pos hw]
  obtain ⟨ad, cap, rfl, hl, hm, hc⟩ := hsrc
  cases ad with
  | none =>
    have h0 : ys = [] := by
      rcases Nat.eq_zero_or_pos ys.length with h | h
      · exact List.eq_nil_of_length_eq_zero h
      · obtain ⟨b, off, e, _⟩ := hc h; cases e
    subst h0
    have hrun := run_append_none_any (P := Try.prog) (w := w) base 23 o.type 3 i0 1 Try.underlying23 hi v xs.length _ hown cap
    unfold Oper.wp
    simp [execOp, hop, resolve, invoke, builtin, hs, hx, hrun, Result.andThen]
    exact hK' v w (by simpa using hown) (World.grownBy.refl _ _)
  | some ad =>
    obtain ⟨v', w', hrun, r1, r2, _⟩ := run_append_own (P := Try.prog) w base 23 o.type 3 i0 (.int .i64 0) 1 8 Try.underlying23 hi hz0 hz1 hz2 rfl (by decide) v xs.length _ hown ad ys.length cap (ys.map (Value.int .i64)) (by simp) (by
      intro j u hu
      have hj : j < ys.length := by
        rcases Nat.lt_or_ge j ys.length with h | h
        · exact h
        · simp [List.getElem?_eq_none (show (ys.map (Value.int .i64)).length ≤ j by simpa using h)] at hu
      obtain ⟨b, off, e, hcell⟩ := hc (by omega)
      simp only [Option.some.injEq] at e
      subst e
      rw [Addr.add_lit, hcell j hj]
      simp [hj] at hu
      simp [List.getD, hj, hu]) (ints_oneCell _ _) (by unfold maxLen; omega) (by omega) hb
    unfold Oper.wp
    simp [execOp, hop, resolve, invoke, builtin, hs, hx, hrun, Result.andThen]
    refine hK' v' w' ?_ r2
    unfold Own
    simpa using r1

/-- 'append(s, u...)', guarded or not -/
theorem wp_appG {w0 w : World} {ops : Array Oper} {rest : List Oper} {o : Oper} {a : Act} {Q : Exit → Act → World → Prop}
    (hw : Region.wanted o (yielded ops a.tmps) = true) (s x : Operand) (hop : o.op = Op.call { callee := Callee.builtin Builtin.append, args := #[s, x], argTypes := #[23, 23] })
    (base : Nat) (v u : Value) (xs ys : List Int) (hs : a.eval s = v) (hx : a.eval x = u)
    (hown0 : Own w0 base v xs) (hsrc0 : Ints w0 u ys) (hlen : xs.length + ys.length < 10000000000) (hb0 : base ≤ w0.heap.size) (hbel : Below w0.heap.size w0 w)
    (hK : ∀ v' w', Own w' base v' (xs ++ ys) → w0.grownBy w' v.ownBlock → wpList Try.prog ops Q rest (a.put o.dst v') w') :
    wpList Try.prog ops Q (o :: rest) a w := by
  have h := step_appB (E := False) (Q := Q) hw s x hop base v u xs ys hs hx hown0 hsrc0 hlen hb0 hbel hK
  rw [if_pos hw] at h
  unfold wpList
  rw [if_pos hw]
  exact .inl h
end Go.Proofs.Ythlboonobepdaaa
