/- Chapter 21: rows of producers are appended to, divided and stored into. -/
import Derived.Test.YtfapeppocfodpaaL12
import Derived.Test.YtfapeppocfodpaaP12b
import Derived.Deep.RegionLawGrows
namespace Go.Proofs.Ytfapeppocfodpaa
open Go.ChangeShapes Go.WideShapes Go.ChangeAt Go.RowKit
set_option linter.unusedVariables false

/-- 'append(s, u...)', at an operation: m producers of any row appended to a row of the call's own -/
theorem op_appTs {w : World} {o : Oper} {a : Act} {K : Act → World → Prop} {Q : Exit → Act → World → Prop}
    (s x : Operand) (hop : o.op = Op.call { callee := Callee.builtin Builtin.append, args := #[s, x], argTypes := #[24, 24] })
    (base : Nat) (v : Value) (ts ss : List Trm) (ad : Addr) (c : Nat) (hs : a.eval s = v) (hx : a.eval x = .slice (some ad) ss.length c)
    (hown : OwnT w base v ts) (hsrc : ∀ i, i < ss.length → w.cell? (ad.add (i * 3)) = some (.int .i64 (tAt ss i).num) ∧ w.cell? (ad.add (i * 3 + 1)) = some (.int .i64 (tAt ss i).first) ∧ w.cell? (ad.add (i * 3 + 2)) = some (.int .i64 (tAt ss i).third)) (h0 : 0 < ss.length) (hlen : ts.length + ss.length < 1000000000) (hb : base ≤ w.heap.size) (H : Nat) (hH : w.heap.size = H)
    (hK : ∀ g cap w', OwnT w' base (.slice (some ⟨g, 0, none⟩) (ts.length + ss.length) cap) (ts ++ ss) → w.grownBy w' v.ownBlock → (v.ownBlock = some g ∨ g = H) → K (a.put o.dst (.slice (some ⟨g, 0, none⟩) (ts.length + ss.length) cap)) w') :
    Oper.wp Try.prog o a w K Q := by
  obtain ⟨i0, hi, hz0, hz1, hz2⟩ := info_parts info_term
  obtain ⟨xs, hown, hf⟩ := hown
  have hxl := hown.1
  have hnl : ((List.range (ss.length * 3)).map (rowT ss)).length = ss.length * 3 := by simp
  refine wp_append_lies w s x 24 hop base 61 i0 _ 3 24 Try.underlying24 hi hz0 hz1 hz2 rfl (by decide) v ts.length xs hs hown ad ss.length c ((List.range (ss.length * 3)).map (rowT ss)) hx hnl ?_ ?_ h0 (by unfold maxLen; omega) (by omega) hb H hH ?_
  · intro j u hj
    have hjl : j < ss.length * 3 := by
      rcases Nat.lt_or_ge j (ss.length * 3) with h | h
      · exact h
      · rw [List.getElem?_eq_none (by omega)] at hj; cases hj
    rw [List.getElem?_map, List.getElem?_range hjl] at hj
    simp only [Option.map_some, Option.some.injEq] at hj
    subst hj
    have q := hsrc (j / 3) (by omega)
    rcases (show j = j / 3 * 3 ∨ j = j / 3 * 3 + 1 ∨ j = j / 3 * 3 + 2 by omega) with e | e | e
    · rw [e, rowT_0, ← e, show w.cell? (ad.add j) = w.cell? (ad.add (j / 3 * 3)) by rw [← e]]; exact q.1
    · rw [e, rowT_1, ← e, show w.cell? (ad.add j) = w.cell? (ad.add (j / 3 * 3 + 1)) by rw [← e]]; exact q.2.1
    · rw [e, rowT_2, ← e, show w.cell? (ad.add j) = w.cell? (ad.add (j / 3 * 3 + 2)) by rw [← e]]; exact q.2.2
  · intro u hu
    obtain ⟨i, _, rfl⟩ := List.mem_map.1 hu
    unfold rowT twoV
    split
    · rfl
    · split <;> rfl
  · intro g cap w' h2 h3 h4 _
    refine hK g cap w' ?_ h3 h4
    refine ⟨_, by rw [List.length_append]; exact h2, fun i hi => ?_⟩
    rw [List.length_append] at hi
    by_cases hlt : i < ts.length * 3
    · rw [List.getElem?_append_left (by omega), hf i hlt]
      exact congrArg some (rowT_eq (by rw [tAt_app1 (by omega)]))
    · rw [List.getElem?_append_right (by omega), hxl, List.getElem?_map, List.getElem?_range (by omega)]
      simp only [Option.map_some, Option.some.injEq]
      have e2 : tAt (ts ++ ss) (i / 3) = tAt ss ((i - ts.length * 3) / 3) := by
        unfold tAt List.getD
        rw [List.getElem?_append_right (by omega), show i / 3 - ts.length = (i - ts.length * 3) / 3 by omega]
      unfold rowT
      rw [e2, show (i - ts.length * 3) % 3 = i % 3 by omega]
/-- 'append(s, u...)', in a region in order -/
theorem wp_appTs {w : World} {ops : Array Oper} {rest : List Oper} {o : Oper} {a : Act} {Q : Exit → Act → World → Prop}
    (hg : o.guard = none) (s x : Operand) (hop : o.op = Op.call { callee := Callee.builtin Builtin.append, args := #[s, x], argTypes := #[24, 24] })
    (base : Nat) (v : Value) (ts ss : List Trm) (ad : Addr) (c : Nat) (hs : a.eval s = v) (hx : a.eval x = .slice (some ad) ss.length c)
    (hown : OwnT w base v ts) (hsrc : ∀ i, i < ss.length → w.cell? (ad.add (i * 3)) = some (.int .i64 (tAt ss i).num) ∧ w.cell? (ad.add (i * 3 + 1)) = some (.int .i64 (tAt ss i).first) ∧ w.cell? (ad.add (i * 3 + 2)) = some (.int .i64 (tAt ss i).third)) (h0 : 0 < ss.length) (hlen : ts.length + ss.length < 1000000000) (hb : base ≤ w.heap.size) (H : Nat) (hH : w.heap.size = H)
    (hK : ∀ g cap w', OwnT w' base (.slice (some ⟨g, 0, none⟩) (ts.length + ss.length) cap) (ts ++ ss) → w.grownBy w' v.ownBlock → (v.ownBlock = some g ∨ g = H) → wpList Try.prog ops Q rest (a.put o.dst (.slice (some ⟨g, 0, none⟩) (ts.length + ss.length) cap)) w') :
    wpList Try.prog ops Q (o :: rest) a w :=
  wpList_plain hg fun _ hk => op_appTs s x hop base v ts ss ad c hs hx hown hsrc h0 hlen hb H hH fun g cap w' h2 h3 h4 => hk _ _ (hK g cap w' h2 h3 h4)
/-- 'append(s, t)', the term laid just before -/
theorem wp_appT {w : World} {ops : Array Oper} {rest : List Oper} {o : Oper} {a : Act} {Q : Exit → Act → World → Prop}
    (hg : o.guard = none) (s x : Operand) (hop : o.op = Op.call { callee := Callee.builtin Builtin.append, args := #[s, x], argTypes := #[24, 24] })
    (base : Nat) (v : Value) (ts : List Trm) (n f z : Int) (H : Nat) (hH : w.heap.size = H) (hs : a.eval s = v) (hx : a.eval x = .slice (some ⟨H, 0, none⟩) 1 1)
    (hown : OwnT w base v ts) (hlen : ts.length < 100000000) (hb : base ≤ w.heap.size)
    (hK : ∀ g cap w', OwnT w' base (.slice (some ⟨g, 0, none⟩) (ts.length + 1) cap) (ts ++ [⟨n, f, z⟩]) → w.grownBy w' v.ownBlock → wpList Try.prog ops Q rest (a.put o.dst (.slice (some ⟨g, 0, none⟩) (ts.length + 1) cap)) w') :
    wpList Try.prog ops Q (o :: rest) a (w.alloc (.cells #[.int .i64 n, .int .i64 f, .int .i64 z] 61)) := by
  subst hH
  have hb' : Below w.heap.size w (w.alloc (.cells #[.int .i64 n, .int .i64 f, .int .i64 z] 61)) := (Below.refl _ _).alloc (Nat.le_refl _) _
  have blk := Blk.made w #[.int .i64 n, .int .i64 f, .int .i64 z] 61
  refine wp_appTs hg s x hop base v ts [⟨n, f, z⟩] ⟨w.heap.size, 0, none⟩ 1 hs hx (hown.below hb') ?_ (by simp) (by simp; omega) (by simp; omega) _ rfl ?_
  · intro i hi
    obtain rfl : i = 0 := by simp at hi; omega
    exact ⟨blk.cell 0, blk.cell 1, blk.cell 2⟩
  · intro g cap w' h2 h3 _
    exact hK g cap w' h2 (grown_of_alloc h3 fun k hk => (hown.lt k hk).2)
/-- the new row lies apart -/
theorem grown_alloc_below {w w' : World} {base : Nat} {v : Value} {ts : List Trm} (B : Nat) (hB : B ≤ base) (hs : B ≤ w.heap.size) (hown : OwnT w base v ts) (hg : w.grownBy w' v.ownBlock) : Below B w w' :=
  ⟨hg.os, hg.tape, hg.output, hg.size, fun b hb => hg.block b (by omega) fun e => by have := (hown.lt b e.symm).1; omega⟩
/-- 'append(s, u...)', u any row of producers, at an operation -/
theorem op_appAny {w : World} {o : Oper} {a : Act} {K : Act → World → Prop} {Q : Exit → Act → World → Prop}
    (s x : Operand) (hop : o.op = Op.call { callee := Callee.builtin Builtin.append, args := #[s, x], argTypes := #[24, 24] })
    (base : Nat) (v u : Value) (ts ss : List Trm) (hs : a.eval s = v) (hx : a.eval x = u) (hown : OwnT w base v ts) (hsrc : Ts w u ss) (hlen : ts.length + ss.length < 1000000000) (hb : base ≤ w.heap.size)
    (hK : ∀ v' w', OwnT w' base v' (ts ++ ss) → w.grownBy w' v.ownBlock → K (a.put o.dst v') w') :
    Oper.wp Try.prog o a w K Q := by
  obtain ⟨i0, hi, hz0, hz1, hz2⟩ := info_parts info_term
  have hsrc' := hsrc
  obtain ⟨ad, cap, rfl, hl, hm, hc⟩ := hsrc
  have fin : ∀ v' w', OwnT w' base v' (ts ++ ss) → w.grownBy w' v.ownBlock → (Builtin.append_ #[24, 24] o.type #[v, .slice ad ss.length cap]).run Try.prog w = .ok v' w' → Oper.wp Try.prog o a w K Q := fun v' w' h1 h2 hrun => by
    unfold Oper.wp execOp
    simp only [hop, resolve, invoke, builtin, Sem.run_bind, Sem.run_pure, Result.andThen_ok, List.map_toArray, List.map_cons, List.map_nil, hs, hx, hrun]
    exact hK v' w' h1 h2
  obtain ⟨xs, hr, hf⟩ := hown
  have hxl := hr.1
  cases ad with
  | none =>
    have h0 : ss = [] := by
      rcases Nat.eq_zero_or_pos ss.length with h | h
      · exact List.eq_nil_of_length_eq_zero h
      · obtain ⟨b, off, e, _⟩ := hc h; cases e
    subst h0
    exact fin v w (by rw [List.append_nil]; exact ⟨xs, hr, hf⟩) (World.grownBy.refl _ _) (run_append_none_any (P := Try.prog) (w := w) base 24 o.type 61 i0 3 Try.underlying24 hi v ts.length xs hr cap)
  | some ad =>
    have hnl : ((List.range (ss.length * 3)).map (rowT ss)).length = ss.length * 3 := by simp
    obtain ⟨v', w', hrun, r1, r2, _⟩ := run_append_own (P := Try.prog) w base 24 o.type 61 i0 _ 3 24 Try.underlying24 hi hz0 hz1 hz2 rfl (by decide) v ts.length xs hr ad ss.length cap ((List.range (ss.length * 3)).map (rowT ss)) hnl (by
      intro j u hj
      have hjl : j < ss.length * 3 := by
        rcases Nat.lt_or_ge j (ss.length * 3) with h | h
        · exact h
        · rw [List.getElem?_eq_none (by omega)] at hj; cases hj
      rw [List.getElem?_map, List.getElem?_range hjl] at hj
      simp only [Option.map_some, Option.some.injEq] at hj
      subst hj
      obtain ⟨b, off, e, hcell⟩ := hc (by omega)
      simp only [Option.some.injEq] at e
      subst e
      have q := hcell (j / 3) (by omega)
      rw [Addr.add_lit]
      rcases (show j = j / 3 * 3 ∨ j = j / 3 * 3 + 1 ∨ j = j / 3 * 3 + 2 by omega) with e | e | e
      · have q1 := q.1
        rw [← e] at q1
        rw [q1]
        exact congrArg some (by rw [e, rowT_0, ← e])
      · have q2 := q.2.1
        rw [show off + j / 3 * 3 + 1 = off + j by omega] at q2
        rw [q2]
        exact congrArg some (by rw [e, rowT_1, ← e])
      · have q2 := q.2.2
        rw [show off + j / 3 * 3 + 2 = off + j by omega] at q2
        rw [q2]
        exact congrArg some (by rw [e, rowT_2, ← e])) (by
      intro u hu
      obtain ⟨i, _, rfl⟩ := List.mem_map.1 hu
      unfold rowT twoV
      split
      · rfl
      · split <;> rfl) (by unfold maxLen; omega) (by omega) hb
    refine fin v' w' ⟨_, by rw [List.length_append]; exact r1, fun i hi => ?_⟩ r2 hrun
    rw [List.length_append] at hi
    by_cases hlt : i < ts.length * 3
    · rw [List.getElem?_append_left (by omega), hf i hlt]
      exact congrArg some (rowT_eq (by rw [tAt_app1 (by omega)]))
    · rw [List.getElem?_append_right (by omega), hxl, List.getElem?_map, List.getElem?_range (by omega)]
      simp only [Option.map_some, Option.some.injEq]
      have e2 : tAt (ts ++ ss) (i / 3) = tAt ss ((i - ts.length * 3) / 3) := by
        unfold tAt List.getD
        rw [List.getElem?_append_right (by omega), show i / 3 - ts.length = (i - ts.length * 3) / 3 by omega]
      unfold rowT
      rw [e2, show (i - ts.length * 3) % 3 = i % 3 by omega]
/-- the same, as a step of a region that draws; the facts are of an earlier world -/
theorem step_appAny {w0 w : World} {ops : Array Oper} {o : Oper} {a : Act} {K : Act → World → Prop} {Q : Exit → Act → World → Prop} {E : Prop}
    (hg : o.guard = none) (s x : Operand) (hop : o.op = Op.call { callee := Callee.builtin Builtin.append, args := #[s, x], argTypes := #[24, 24] })
    (base : Nat) (v u : Value) (ts ss : List Trm) (hs : a.eval s = v) (hx : a.eval x = u) (hbel : Below w0.heap.size w0 w) (hown : OwnT w0 base v ts) (hsrc : Ts w u ss) (hlen : ts.length + ss.length < 1000000000) (hb : base ≤ w0.heap.size)
    (hK : ∀ v' w', OwnT w' base v' (ts ++ ss) → w.grownBy w' v.ownBlock → K (a.put o.dst v') w') :
    if Region.wanted o (yielded ops a.tmps) = true then Oper.wp Try.prog o a w K Q else E := by
  have hw : Region.wanted o (yielded ops a.tmps) = true := by simp [Region.wanted, hg]
  rw [if_pos hw]
  exact op_appAny s x hop base v u ts ss hs hx (hown.below hbel) hsrc hlen (Nat.le_trans hb hbel.size) hK
theorem wp_appAny {w : World} {ops : Array Oper} {rest : List Oper} {o : Oper} {a : Act} {Q : Exit → Act → World → Prop}
    (hg : o.guard = none) (s x : Operand) (hop : o.op = Op.call { callee := Callee.builtin Builtin.append, args := #[s, x], argTypes := #[24, 24] })
    (base : Nat) (v u : Value) (ts ss : List Trm) (hs : a.eval s = v) (hx : a.eval x = u) (hown : OwnT w base v ts) (hsrc : Ts w u ss) (hlen : ts.length + ss.length < 1000000000) (hb : base ≤ w.heap.size)
    (hK : ∀ v' w', OwnT w' base v' (ts ++ ss) → w.grownBy w' v.ownBlock → wpList Try.prog ops Q rest (a.put o.dst v') w') :
    wpList Try.prog ops Q (o :: rest) a w :=
  wpList_plain hg fun _ hk => op_appAny s x hop base v u ts ss hs hx hown hsrc hlen hb fun v' w' h1 h2 => hk _ _ (hK v' w' h1 h2)
theorem OwnT.form' {w : World} {base : Nat} {v : Value} {ts : List Trm} (h : OwnT w base v ts) : ∃ a cap, v = .slice a ts.length cap := by
  obtain ⟨a, cap, rfl, _⟩ := h.ts
  exact ⟨a, cap, rfl⟩
theorem run_uptoT {w : World} {a : Option Addr} {n cap : Nat} {ts : List Trm} (h : Ts w (.slice a n cap) ts) (m : Nat) (hm : m ≤ n) (W : World) :
    (Instr.slice 24 (.slice a n cap) none (some (.int .i64 (m : Int))) none).run Try.prog W = .ok (.slice a m cap) W := by
  obtain ⟨_, hl, _⟩ := h.sizes
  have e : (if cap = 0 then a else Option.map (fun x : Addr => x.add 0) a) = a := by
    split
    · rfl
    · cases a with
      | none => rfl
      | some a => simp [Addr.add]
  obtain ⟨i0, hi, hz0, hz1, hz2⟩ := info_parts info_term
  simp [Instr.slice, run_underlying Try.underlying24, Instr.sliceBounds, Instr.sliceBound, asIntOf]
  rw [if_pos (by omega)]
  try simp only [Nat.sub_zero]
  try rw [e]
theorem Ts.from' {w : World} {a : Option Addr} {n cap : Nat} {ts : List Trm} (h : Ts w (.slice a n cap) ts) (k : Nat) (hk : k ≤ n) : Ts w (.slice (if cap = k then a else a.map (·.add (k * 3))) (n - k) (cap - k)) (ts.drop k) := by
  obtain ⟨rfl, hl, hm⟩ := h.sizes
  by_cases h0 : k = ts.length
  · subst h0
    rw [Nat.sub_self, List.drop_length]
    exact Ts.empty _ _ _ (by omega)
  · obtain ⟨b, off, cp, e, _, _, _⟩ := h.form (by omega)
    simp only [Value.slice.injEq, true_and] at e
    obtain ⟨rfl, rfl⟩ := e
    rw [if_neg (by omega)]
    have := h.drop k hk
    rw [Option.map_some, Addr.add_lit]
    exact this
/-- 's[k:]' -/
theorem run_fromT {w : World} {a : Option Addr} {n cap : Nat} {ts : List Trm} (h : Ts w (.slice a n cap) ts) (k : Nat) (hk : k ≤ n) :
    ∃ a2 cap2, (∀ W, (Instr.slice 24 (.slice a n cap) (some (.int .i64 (k : Int))) none none).run Try.prog W = .ok (.slice a2 (n - k) cap2) W) ∧ ∀ W, Ts W (.slice a n cap) ts → Ts W (.slice a2 (n - k) cap2) (ts.drop k) := by
  obtain ⟨_, hl, hm⟩ := h.sizes
  refine ⟨_, _, fun W => ?_, fun W hW => hW.from' k hk⟩
  simp [Instr.slice, run_underlying Try.underlying24, Instr.sliceBounds, Instr.sliceBound, asIntOf]
  omega

theorem OwnT.cellsAt {w : World} {base g n cap : Nat} {ts : List Trm} (h : OwnT w base (.slice (some ⟨g, 0, none⟩) n cap) ts) (i : Nat) (hi : i < ts.length) :
    w.cell? ⟨g, i * 3 + 1, none⟩ = some (.int .i64 (tAt ts i).first) ∧ w.frozen? ⟨g, i * 3 + 1, none⟩ = false := by
  have hn : n = ts.length := h.ts.sizes.1
  subst hn
  have h' : Row2 w base (.slice (some ⟨g, 0, none⟩) ts.length cap) ts.length (rowT ts) := h
  refine ⟨?_, h'.frozen _⟩
  rw [h'.cell (i * 3 + 1) (by omega), rowT_1]
/-- the second number of one of a row is stored -/
theorem OwnT.store1 {w : World} {base g n cap : Nat} {ts ss : List Trm} (h : OwnT w base (.slice (some ⟨g, 0, none⟩) n cap) ts) (i : Nat) (hi : i < ts.length) (y : Int) (hl : ss.length = ts.length)
    (hat : tAt ss i = ⟨(tAt ts i).num, y, (tAt ts i).third⟩) (hne : ∀ j, j < ts.length → j ≠ i → tAt ss j = tAt ts j) :
    OwnT (w.setCell ⟨g, i * 3 + 1, none⟩ (.int .i64 y)) base (.slice (some ⟨g, 0, none⟩) n cap) ss ∧ w.grownBy (w.setCell ⟨g, i * 3 + 1, none⟩ (.int .i64 y)) (some g) := by
  have hn : n = ts.length := h.ts.sizes.1
  subst hn
  have h' : Row2 w base (.slice (some ⟨g, 0, none⟩) ts.length cap) ts.length (rowT ts) := h
  refine ⟨?_, cell_grown _ _ _ _⟩
  unfold OwnT
  rw [hl]
  refine (h'.set (i * 3 + 1) (by omega) (.int .i64 y)).congr fun j hj => ?_
  by_cases e1 : j = i * 3 + 1
  · subst e1
    rw [if_pos rfl, rowT_1, hat]
  · rw [if_neg e1]
    by_cases e0 : j = i * 3
    · subst e0
      rw [rowT_0, rowT_0, hat]
    · by_cases e2 : j = i * 3 + 2
      · subst e2
        rw [rowT_2, rowT_2, hat]
      · exact (rowT_eq (hne (j / 3) (by omega) (by omega))).symm
end Go.Proofs.Ytfapeppocfodpaa
