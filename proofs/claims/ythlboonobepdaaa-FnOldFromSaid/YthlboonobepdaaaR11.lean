/- Messages in memory. -/
import Derived.Test.YthlboonobepdaaaA1
import Derived.Test.YthlboonobepdaaaB0
import Derived.Test.YthlboonobepdaaaR0
import Derived.Test.YthlboonobepdaaaS1
import Derived.Test.YthlboonobepdaaaP11
import Derived.ArgAppend
namespace Go.Proofs.Ythlboonobepdaaa
open Go.ChangeShapes Go.WideShapes Go.ChangeAt Go.RowKit
set_option linter.unusedVariables false

/-- v is a message by value, its parts in the world w -/
def MesV (w : World) (v : Value) (m : Mes) : Prop :=
  ∃ kv vv, v = .agg #[.int .i64 m.off, .bool m.timed, .int .i64 m.time, kv, vv, .bool m.hk, .bool m.miss] ∧ Ints w kv m.key ∧ Ints w vv m.val
theorem MesV.below {w w' : World} {v : Value} {m : Mes} (h : MesV w v m) (hb : Below w.heap.size w w') : MesV w' v m := by
  obtain ⟨kv, vv, rfl, h1, h2⟩ := h
  exact ⟨kv, vv, rfl, h1.below hb, h2.below hb⟩
/-- a message of the call's own, its parts apart -/
def MesOwn (w : World) (base : Nat) (v : Value) (m : Mes) : Prop :=
  ∃ kv vv, v = .agg #[.int .i64 m.off, .bool m.timed, .int .i64 m.time, kv, vv, .bool m.hk, .bool m.miss] ∧ Own w base kv m.key ∧ Own w base vv m.val ∧ (∀ k, vv.ownBlock = some k → kv.ownBlock ≠ some k)
theorem MesOwn.mesV {w : World} {base : Nat} {v : Value} {m : Mes} (h : MesOwn w base v m) : MesV w v m := by
  obtain ⟨kv, vv, rfl, h1, h2, _⟩ := h
  exact ⟨kv, vv, rfl, h1.ints, h2.ints⟩
theorem MesOwn.below {w w' : World} {base : Nat} {v : Value} {m : Mes} (h : MesOwn w base v m) (hb : Below w.heap.size w w') : MesOwn w' base v m := by
  obtain ⟨kv, vv, rfl, h1, h2, h3⟩ := h
  exact ⟨kv, vv, rfl, h1.below hb, h2.below hb, h3⟩
/-- the seven cells of a block -/
def Seven (W : World) (B : Nat) (v0 v1 v2 v3 v4 v5 v6 : Value) : Prop :=
  W.cell? ⟨B, 0, none⟩ = some v0 ∧ W.cell? ⟨B, 1, none⟩ = some v1 ∧ W.cell? ⟨B, 2, none⟩ = some v2 ∧ W.cell? ⟨B, 3, none⟩ = some v3 ∧ W.cell? ⟨B, 4, none⟩ = some v4 ∧ W.cell? ⟨B, 5, none⟩ = some v5 ∧ W.cell? ⟨B, 6, none⟩ = some v6
theorem Blk.seven? {w : World} {B : Nat} {v0 v1 v2 v3 v4 v5 v6 : Value} (h : Blk w B #[v0, v1, v2, v3, v4, v5, v6]) : Seven w B v0 v1 v2 v3 v4 v5 v6 :=
  ⟨h.cell 0, h.cell 1, h.cell 2, h.cell 3, h.cell 4, h.cell 5, h.cell 6⟩
theorem Blk.sevenS {w : World} {B : Nat} {u0 u1 u2 u3 u4 u5 u6 : Value} (h : Blk w B #[u0, u1, u2, u3, u4, u5, u6]) (v0 v1 v2 v3 v4 v5 v6 : Value) :
    Blk (((((((w.setCell ⟨B, 0, none⟩ v0).setCell ⟨B, 1, none⟩ v1).setCell ⟨B, 2, none⟩ v2).setCell ⟨B, 3, none⟩ v3).setCell ⟨B, 4, none⟩ v4).setCell ⟨B, 5, none⟩ v5).setCell ⟨B, 6, none⟩ v6) B #[v0, v1, v2, v3, v4, v5, v6] := by
  have := ((((((h.set 0 v0).set 1 v1).set 2 v2).set 3 v3).set 4 v4).set 5 v5).set 6 v6
  simpa using this
theorem seven_grown (w : World) (B : Nat) (v0 v1 v2 v3 v4 v5 v6 : Value) :
    w.grownBy (((((((w.setCell ⟨B, 0, none⟩ v0).setCell ⟨B, 1, none⟩ v1).setCell ⟨B, 2, none⟩ v2).setCell ⟨B, 3, none⟩ v3).setCell ⟨B, 4, none⟩ v4).setCell ⟨B, 5, none⟩ v5).setCell ⟨B, 6, none⟩ v6) (some B) := by
  have g : ∀ (w : World) (i : Nat) (u : Value), w.grownBy (w.setCell ⟨B, i, none⟩ u) (some B) := fun w i u => ⟨rfl, rfl, rfl, by simp, fun b hb hne => Below.heap_setCell w _ _ b fun e => hne (by rw [e])⟩
  have t : ∀ {a b c : World}, a.grownBy b (some B) → b.grownBy c (some B) → a.grownBy c (some B) := fun h k => ⟨k.os.trans h.os, k.tape.trans h.tape, k.output.trans h.output, Nat.le_trans h.size k.size, fun i hi hne => (k.block i (Nat.lt_of_lt_of_le hi h.size) hne).trans (h.block i hi hne)⟩
  exact t (t (t (t (t (t (g _ _ _) (g _ _ _)) (g _ _ _)) (g _ _ _)) (g _ _ _)) (g _ _ _)) (g _ _ _)
theorem bel_seven {n : Nat} {w W : World} (h : Below n w W) {B : Nat} (hB : n ≤ B) (v0 v1 v2 v3 v4 v5 v6 : Value) :
    Below n w (((((((W.setCell ⟨B, 0, none⟩ v0).setCell ⟨B, 1, none⟩ v1).setCell ⟨B, 2, none⟩ v2).setCell ⟨B, 3, none⟩ v3).setCell ⟨B, 4, none⟩ v4).setCell ⟨B, 5, none⟩ v5).setCell ⟨B, 6, none⟩ v6) :=
  ((((((h.setCell hB _).setCell hB _).setCell hB _).setCell hB _).setCell hB _).setCell hB _).setCell hB _
/-- 'append([]int{}, u...)': nothing that was there turns -/
theorem run_appE {w : World} {ty : TypeId} (E base : Nat) (u : Value) (ys : List Int) (hown : Own w base (.slice (some ⟨E, 0, none⟩) 0 0) []) (hsrc : Ints w u ys) (hlen : ys.length < 10000000000) (hb : base ≤ w.heap.size) :
    ∃ v' w', (Builtin.append_ #[23, 23] ty #[.slice (some ⟨E, 0, none⟩) 0 0, u]).run Try.prog w = .ok v' w' ∧ Own w' base v' ys ∧ Below w.heap.size w w' ∧ (∀ k, v'.ownBlock = some k → k = E ∨ w.heap.size ≤ k) := by
  obtain ⟨i0, hi, hz0, hz1, hz2⟩ := info_parts info_int
  obtain ⟨ad, cap, rfl, hl, hm, hc⟩ := hsrc
  rcases Nat.eq_zero_or_pos ys.length with h0 | h0
  · have e : ys = [] := List.eq_nil_of_length_eq_zero h0
    subst e
    cases ad with
    | none =>
      have hrun := run_append_none_any (P := Try.prog) (w := w) base 23 ty 3 i0 1 Try.underlying23 hi (.slice (some ⟨E, 0, none⟩) 0 0) 0 _ hown cap
      exact ⟨_, w, hrun, hown, Below.refl _ _, fun k hk => .inl (by simpa [Value.ownBlock] using hk.symm)⟩
    | some ad =>
      have hrun := run_append_room_cells (P := Try.prog) w 23 ty 3 i0 Try.underlying23 hi E 0 0 0 ad 0 cap [] (by simp) (fun j u h => by simp at h) (fun u h => by simp at h) (by omega) (fun j h => by simp at h) (fun j h => by simp at h)
      exact ⟨_, _, hrun, hown, Below.refl _ _, fun k hk => .inl (by simpa [Value.ownBlock] using hk.symm)⟩
  · obtain ⟨b, off, rfl, hcell⟩ := hc h0
    obtain ⟨v', w', hrun, r1, r2⟩ := run_append_arg_grows (P := Try.prog) w 23 ty 3 i0 (.int .i64 0) 1 8 Try.underlying23 hi hz0 hz1 hz2 rfl (by decide) ⟨E, 0, none⟩ 0 0 [] (by simp) (fun j u h => by simp at h) ⟨b, off, none⟩ ys.length cap (ys.map (Value.int .i64)) (by simp) (by
      intro j u hu
      have hj : j < ys.length := by
        rcases Nat.lt_or_ge j ys.length with h | h
        · exact h
        · simp [List.getElem?_eq_none (show (ys.map (Value.int .i64)).length ≤ j by simpa using h)] at hu
      rw [Addr.add_lit, hcell j hj]
      simp [hj] at hu
      simp [List.getD, hj, hu]) (by omega) (by unfold maxLen; omega) (by omega)
    have own : Own w' w.heap.size v' ys := by
      unfold Own
      simpa using r1
    exact ⟨v', w', hrun, own.base hb, ⟨r2.os, r2.tape, r2.output, r2.size, fun k hk => r2.block k hk (by simp)⟩, fun k hk => .inr (own.lt k hk)⟩
/-- the same, as an operation -/
theorem op_appE {w : World} {o : Oper} {a : Act} {K : Act → World → Prop} {Q : Exit → Act → World → Prop}
    (s x : Operand) (hop : o.op = Op.call { callee := Callee.builtin Builtin.append, args := #[s, x], argTypes := #[23, 23] })
    (E base : Nat) (u : Value) (ys : List Int) (hs : a.eval s = .slice (some ⟨E, 0, none⟩) 0 0) (hx : a.eval x = u)
    (hown : Own w base (.slice (some ⟨E, 0, none⟩) 0 0) []) (hsrc : Ints w u ys) (hlen : ys.length < 10000000000) (hb : base ≤ w.heap.size)
    (hK : ∀ v' w', Own w' base v' ys → Below w.heap.size w w' → (∀ k, v'.ownBlock = some k → k = E ∨ w.heap.size ≤ k) → K (a.put o.dst v') w') : Oper.wp Try.prog o a w K Q := by
  obtain ⟨v', w', hrun, h1, h2, h3⟩ := run_appE (ty := o.type) E base u ys hown hsrc hlen hb
  unfold Oper.wp execOp
  simp only [hop, resolve, invoke, builtin, Sem.run_bind, Sem.run_pure, Result.andThen_ok, List.map_toArray, List.map_cons, List.map_nil, hs, hx, hrun]
  exact hK v' w' h1 h2 h3
end Go.Proofs.Ythlboonobepdaaa
