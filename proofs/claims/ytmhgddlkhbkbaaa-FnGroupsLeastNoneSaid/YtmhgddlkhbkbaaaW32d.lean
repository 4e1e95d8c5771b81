/- Chapter 32: a term begins. -/
import Derived.Test.YtmhgddlkhbkbaaaL32
import Derived.Deep.RegionLawGrows
namespace Go.Proofs.Ytmhgddlkhbkbaaa
open Go.ChangeShapes Go.WideShapes Go.ChangeAt Go.RowKit
set_option linter.unusedVariables false

def NewT (w : World) (ts : List Trm) (ok : Bool) (e : Ending) (w' : World) : Prop :=
  ∃ v, e = .returned (.tuple #[v, .bool ok]) ∧ OwnT w' w.heap.size v ts ∧ Below w.heap.size w w'
/-- 'append(s, u...)', u any row of groups, at an operation -/
theorem op_appAny {w : World} {o : Oper} {a : Act} {K : Act → World → Prop} {Q : Exit → Act → World → Prop}
    (s x : Operand) (hop : o.op = Op.call { callee := Callee.builtin Builtin.append, args := #[s, x], argTypes := #[23, 23] })
    (base : Nat) (v u : Value) (ts ss : List Trm) (hs : a.eval s = v) (hx : a.eval x = u) (hown : OwnT w base v ts) (hsrc : Ts w u ss) (hlen : ts.length + ss.length < 1000000000) (hb : base ≤ w.heap.size)
    (hK : ∀ v' w', OwnT w' base v' (ts ++ ss) → w.grownBy w' v.ownBlock → K (a.put o.dst v') w') :
    Oper.wp Try.prog o a w K Q := by
  obtain ⟨i0, hi, hz0, hz1, hz2⟩ := info_parts info_term
  have hsrc' := hsrc
  obtain ⟨ad, cap, rfl, hl, hm, hc⟩ := hsrc
  have fin : ∀ v' w', OwnT w' base v' (ts ++ ss) → w.grownBy w' v.ownBlock → (Builtin.append_ #[23, 23] o.type #[v, .slice ad ss.length cap]).run Try.prog w = .ok v' w' → Oper.wp Try.prog o a w K Q := fun v' w' h1 h2 hrun => by
    unfold Oper.wp execOp
    simp only [hop, resolve, invoke, builtin, Sem.run_bind, Sem.run_pure, Result.andThen_ok, List.map_toArray, List.map_cons, List.map_nil, hs, hx, hrun]
    exact hK v' w' h1 h2
  obtain ⟨xs, hr, hf⟩ := hown
  have hxl := hr.1
  cases ad with
  | none =>
    have h0 : ss = [] := by
      rcases Nat.eq_zero_or_pos ss.length with h | h
      · exact List.eq_nil_of_length_eq_zero h
      · obtain ⟨b, off, e, _⟩ := hc h; cases e
    subst h0
    exact fin v w (by rw [List.append_nil]; exact ⟨xs, hr, hf⟩) (World.grownBy.refl _ _) (run_append_none_any (P := Try.prog) (w := w) base 23 o.type 25 i0 2 Try.underlying23 hi v ts.length xs hr cap)
  | some ad =>
    have hnl : ((List.range (ss.length * 2)).map (rowT ss)).length = ss.length * 2 := by simp
    obtain ⟨v', w', hrun, r1, r2, _⟩ := run_append_own (P := Try.prog) w base 23 o.type 25 i0 _ 2 24 Try.underlying23 hi hz0 hz1 hz2 rfl (by decide) v ts.length xs hr ad ss.length cap ((List.range (ss.length * 2)).map (rowT ss)) hnl (by
      intro j u hj
      have hjl : j < ss.length * 2 := by
        rcases Nat.lt_or_ge j (ss.length * 2) with h | h
        · exact h
        · rw [List.getElem?_eq_none (by omega)] at hj; cases hj
      rw [List.getElem?_map, List.getElem?_range hjl] at hj
      simp only [Option.map_some, Option.some.injEq] at hj
      subst hj
      obtain ⟨b, off, e, hcell⟩ := hc (by omega)
      simp only [Option.some.injEq] at e
      subst e
      have q := hcell (j / 2) (by omega)
      rw [Addr.add_lit]
      rcases (show j = j / 2 * 2 ∨ j = j / 2 * 2 + 1 by omega) with e | e
      · have q1 := q.1
        rw [← e] at q1
        rw [q1]
        exact congrArg some (by rw [e, rowT_0, ← e])
      · have q2 := q.2
        rw [show off + j / 2 * 2 + 1 = off + j by omega] at q2
        rw [q2]
        exact congrArg some (by rw [e, rowT_1, ← e])) (by
      intro u hu
      obtain ⟨i, _, rfl⟩ := List.mem_map.1 hu
      unfold rowT twoV
      split <;> rfl) (by unfold maxLen; omega) (by omega) hb
    refine fin v' w' ⟨_, by rw [List.length_append]; exact r1, fun i hi => ?_⟩ r2 hrun
    rw [List.length_append] at hi
    by_cases hlt : i < ts.length * 2
    · rw [List.getElem?_append_left (by omega), hf i hlt]
      exact congrArg some (rowT_eq (by rw [tAt_app1 (by omega)]))
    · rw [List.getElem?_append_right (by omega), hxl, List.getElem?_map, List.getElem?_range (by omega)]
      simp only [Option.map_some, Option.some.injEq]
      have e2 : tAt (ts ++ ss) (i / 2) = tAt ss ((i - ts.length * 2) / 2) := by
        unfold tAt List.getD
        rw [List.getElem?_append_right (by omega), show i / 2 - ts.length = (i - ts.length * 2) / 2 by omega]
      unfold rowT
      rw [e2, show (i - ts.length * 2) % 2 = i % 2 by omega]
/-- the same, as a step of a region that draws; the facts are of an earlier world -/
theorem step_appAny {w0 w : World} {ops : Array Oper} {o : Oper} {a : Act} {K : Act → World → Prop} {Q : Exit → Act → World → Prop} {E : Prop}
    (hg : o.guard = none) (s x : Operand) (hop : o.op = Op.call { callee := Callee.builtin Builtin.append, args := #[s, x], argTypes := #[23, 23] })
    (base : Nat) (v u : Value) (ts ss : List Trm) (hs : a.eval s = v) (hx : a.eval x = u) (hbel : Below w0.heap.size w0 w) (hown : OwnT w0 base v ts) (hsrc : Ts w u ss) (hlen : ts.length + ss.length < 1000000000) (hb : base ≤ w0.heap.size)
    (hK : ∀ v' w', OwnT w' base v' (ts ++ ss) → w.grownBy w' v.ownBlock → K (a.put o.dst v') w') :
    if Region.wanted o (yielded ops a.tmps) = true then Oper.wp Try.prog o a w K Q else E := by
  have hw : Region.wanted o (yielded ops a.tmps) = true := by simp [Region.wanted, hg]
  rw [if_pos hw]
  exact op_appAny s x hop base v u ts ss hs hx (hown.below hbel) hsrc hlen (Nat.le_trans hb hbel.size) hK
theorem wp_appAny {w : World} {ops : Array Oper} {rest : List Oper} {o : Oper} {a : Act} {Q : Exit → Act → World → Prop}
    (hg : o.guard = none) (s x : Operand) (hop : o.op = Op.call { callee := Callee.builtin Builtin.append, args := #[s, x], argTypes := #[23, 23] })
    (base : Nat) (v u : Value) (ts ss : List Trm) (hs : a.eval s = v) (hx : a.eval x = u) (hown : OwnT w base v ts) (hsrc : Ts w u ss) (hlen : ts.length + ss.length < 1000000000) (hb : base ≤ w.heap.size)
    (hK : ∀ v' w', OwnT w' base v' (ts ++ ss) → w.grownBy w' v.ownBlock → wpList Try.prog ops Q rest (a.put o.dst v') w') :
    wpList Try.prog ops Q (o :: rest) a w :=
  wpList_plain hg fun _ hk => op_appAny s x hop base v u ts ss hs hx hown hsrc hlen hb fun v' w' h1 h2 => hk _ _ (hK v' w' h1 h2)
theorem OwnT.form' {w : World} {base : Nat} {v : Value} {ts : List Trm} (h : OwnT w base v ts) : ∃ a cap, v = .slice a ts.length cap := by
  obtain ⟨a, cap, rfl, _⟩ := h.ts
  exact ⟨a, cap, rfl⟩
/-- the term laid at a block -/
theorem blk_ts {w : World} {B : Nat} {t : Trm} (h : Blk w B #[.string t.name, .int .i64 t.next]) : Ts w (.slice (some ⟨B, 0, none⟩) 1 1) [t] :=
  ⟨_, 1, rfl, by simp, by unfold maxLen; omega, fun _ => ⟨B, 0, rfl, fun i hi => by
    obtain rfl : i = 0 := by simp at hi; omega
    exact ⟨h.cell 0, h.cell 1⟩⟩⟩
theorem NewT.mk' {w w' : World} {ts ss : List Trm} {ok b : Bool} {v : Value} {e : Ending} (he : e = .returned (.tuple #[v, .bool b])) (hb : ok = b) (hs : ts = ss) (own : OwnT w' w.heap.size v ss) (bel : Below w.heap.size w w') : NewT w ts ok e w' := by
  subst hb hs
  exact ⟨v, he, own, bel⟩
end Go.Proofs.Ytmhgddlkhbkbaaa
