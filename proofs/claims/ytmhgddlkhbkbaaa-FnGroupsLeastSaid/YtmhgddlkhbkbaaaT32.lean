/- Chapter 32: rows of groups in memory. -/
import Derived.Test.YtmhgddlkhbkbaaaP32
import Derived.Test.YtmhgddlkhbkbaaaB0
import Derived.Test.YtmhgddlkhbkbaaaOwn
import Derived.Deep.AppendLies
namespace Go.Proofs.Ytmhgddlkhbkbaaa
open Go.ChangeShapes Go.WideShapes Go.ChangeAt Go.RowKit
set_option linter.unusedVariables false

/-- one of two -/
def twoV (v0 v1 : Value) (k : Nat) : Value := if k = 0 then v0 else v1
/-- v is a row of the groups ts -/
def Ts (w : World) (v : Value) (ts : List Trm) : Prop :=
  ∃ a cap, v = .slice a ts.length cap ∧ ts.length ≤ cap ∧ cap ≤ maxLen ∧
    (0 < ts.length → ∃ b off, a = some ⟨b, off, none⟩ ∧ ∀ i, i < ts.length → w.cell? ⟨b, off + i * 2, none⟩ = some (.string (tAt ts i).name) ∧ w.cell? ⟨b, off + i * 2 + 1, none⟩ = some (.int .i64 (tAt ts i).next))
theorem Ts.keep {w w' : World} {v : Value} {ts : List Trm} (h : Ts w v ts) (hb : 0 < ts.length → ∀ b, v.ownBlock = some b → b < w.heap.size → w'.heap[b]? = w.heap[b]?) : Ts w' v ts := by
  obtain ⟨a, cap, rfl, hl, hm, hc⟩ := h
  refine ⟨a, cap, rfl, hl, hm, fun h0 => ?_⟩
  obtain ⟨b, off, rfl, hcell⟩ := hc h0
  refine ⟨b, off, rfl, fun i hi => ?_⟩
  have hk := hb h0 b rfl (World.block_lt_of_cell? w _ (hcell 0 h0).1)
  exact ⟨(World.cell?_of_block hk).trans (hcell i hi).1, (World.cell?_of_block hk).trans (hcell i hi).2⟩
theorem Ts.below {w w' : World} {v : Value} {ts : List Trm} (h : Ts w v ts) (hb : Below w.heap.size w w') : Ts w' v ts := h.keep fun _ b _ hlt => hb.block b hlt
theorem Ts.grown {w w' : World} {v : Value} {ts : List Trm} {row : Option Nat} (h : Ts w v ts) (hg : w.grownBy w' row) (hne : 0 < ts.length → ∀ k, row = some k → v.ownBlock ≠ some k) : Ts w' v ts :=
  h.keep fun h0 b hb hlt => hg.block b hlt fun e => hne h0 b e.symm hb
theorem Ts.lt {w : World} {v : Value} {ts : List Trm} (h : Ts w v ts) : 0 < ts.length → ∀ k, v.ownBlock = some k → k < w.heap.size := by
  obtain ⟨a, cap, rfl, hl, hm, hc⟩ := h
  intro h0 k hk
  obtain ⟨b, off, rfl, hcell⟩ := hc h0
  simp only [Value.ownBlock, Option.some.injEq] at hk
  subst hk
  exact World.block_lt_of_cell? w _ (hcell 0 h0).1
theorem ts_none (w : World) : Ts w (.slice .none 0 0) [] := ⟨.none, 0, rfl, by simp, by simp, fun h => by simp at h⟩
theorem Ts.empty (w : World) (a : Option Addr) (cap : Nat) (h : cap ≤ maxLen) : Ts w (.slice a 0 cap) [] := ⟨a, cap, rfl, by simp, h, fun h => by simp at h⟩
theorem Ts.form {w : World} {v : Value} {ts : List Trm} (h : Ts w v ts) (h0 : 0 < ts.length) : ∃ b off cap, v = .slice (some ⟨b, off, none⟩) ts.length cap ∧ ts.length ≤ cap ∧ cap ≤ maxLen ∧ ∀ i, i < ts.length → w.cell? ⟨b, off + i * 2, none⟩ = some (.string (tAt ts i).name) ∧ w.cell? ⟨b, off + i * 2 + 1, none⟩ = some (.int .i64 (tAt ts i).next) := by
  obtain ⟨a, cap, rfl, hl, hm, hc⟩ := h
  obtain ⟨b, off, rfl, hcell⟩ := hc h0
  exact ⟨b, off, cap, rfl, hl, hm, hcell⟩
theorem Ts.sizes {w : World} {a : Option Addr} {n cap : Nat} {ts : List Trm} (h : Ts w (.slice a n cap) ts) : n = ts.length ∧ n ≤ cap ∧ cap ≤ maxLen := by
  obtain ⟨a', cap', e, hl, hm, hc⟩ := h
  simp only [Value.slice.injEq] at e
  obtain ⟨rfl, rfl, rfl⟩ := e
  exact ⟨rfl, hl, hm⟩
theorem Ts.cells {w : World} {b off n cap : Nat} {ts : List Trm} (h : Ts w (.slice (some ⟨b, off, .none⟩) n cap) ts) (i : Nat) (hi : i < ts.length) : w.cell? ⟨b, off + i * 2, .none⟩ = some (.string (tAt ts i).name) ∧ w.cell? ⟨b, off + i * 2 + 1, .none⟩ = some (.int .i64 (tAt ts i).next) := by
  obtain ⟨a', cap', e, hl, hm, hc⟩ := h
  simp only [Value.slice.injEq] at e
  obtain ⟨rfl, rfl, rfl⟩ := e
  obtain ⟨b', off', e, hcell⟩ := hc (by omega)
  simp only [Option.some.injEq, Addr.mk.injEq, and_true] at e
  obtain ⟨rfl, rfl⟩ := e
  exact hcell i hi
/-- the first groups -/
theorem Ts.take {w : World} {a : Option Addr} {n cap : Nat} {ts : List Trm} (h : Ts w (.slice a n cap) ts) (k : Nat) (hk : k ≤ n) : Ts w (.slice a k cap) (ts.take k) := by
  obtain ⟨a', cap', e, hl, hm, hc⟩ := h
  simp only [Value.slice.injEq] at e
  obtain ⟨rfl, rfl, rfl⟩ := e
  have hn : (ts.take k).length = k := by rw [List.length_take]; omega
  refine ⟨a, cap, by rw [hn], by omega, hm, fun h0 => ?_⟩
  obtain ⟨b, off, rfl, hcell⟩ := hc (by omega)
  refine ⟨b, off, rfl, fun i hi => ?_⟩
  rw [tAt_take (by omega)]
  exact hcell i (by omega)
/-- the last groups -/
theorem Ts.drop {w : World} {b off n cap : Nat} {ts : List Trm} (h : Ts w (.slice (some ⟨b, off, .none⟩) n cap) ts) (k : Nat) (hk : k ≤ n) : Ts w (.slice (some ⟨b, off + k * 2, .none⟩) (n - k) (cap - k)) (ts.drop k) := by
  have hs := h.sizes
  have hn : (ts.drop k).length = n - k := by rw [List.length_drop]; omega
  refine ⟨_, cap - k, by rw [hn], by omega, by omega, fun h0 => ⟨b, off + k * 2, rfl, fun i hi => ?_⟩⟩
  have := h.cells (k + i) (by omega)
  rw [tAt_drop, show off + k * 2 + i * 2 = off + (k + i) * 2 by omega]
  exact this

/-- a row of n elements of two cells each, of the call's own -/
def Row2 (w : World) (base : Nat) (v : Value) (n : Nat) (f : Nat → Value) : Prop := ∃ xs, w.ownsRow base 25 2 v n xs ∧ ∀ i, i < n * 2 → xs[i]? = some (f i)
theorem Row2.lt {w : World} {base n : Nat} {v : Value} {f : Nat → Value} (h : Row2 w base v n f) : ∀ k, v.ownBlock = some k → base ≤ k ∧ k < w.heap.size := by
  obtain ⟨xs, h, _⟩ := h
  exact World.ownsRow.lt h
theorem Row2.kept {w w' : World} {base n : Nat} {v : Value} {f : Nat → Value} {row : Option Nat} (h : Row2 w base v n f) (hg : w.grownBy w' row) (hne : v.ownBlock = none ∨ v.ownBlock ≠ row) : Row2 w' base v n f := by
  obtain ⟨xs, h, hx⟩ := h
  exact ⟨xs, World.ownsRow.kept h hg hne, hx⟩
theorem Row2.congr {w : World} {base n : Nat} {v : Value} {f g : Nat → Value} (h : Row2 w base v n f) (e : ∀ i, i < n * 2 → f i = g i) : Row2 w base v n g := by
  obtain ⟨xs, h, hx⟩ := h
  exact ⟨xs, h, fun i hi => (hx i hi).trans (by rw [e i hi])⟩
theorem Row2.cell {w : World} {base g n cap : Nat} {f : Nat → Value} (h : Row2 w base (.slice (some ⟨g, 0, none⟩) n cap) n f) (i : Nat) (hi : i < n * 2) : w.cell? ⟨g, i, none⟩ = some (f i) := by
  obtain ⟨xs, h, hx⟩ := h
  exact (World.ownsRow.cellAt h i hi).trans (hx i hi)
theorem Row2.frozen {w : World} {base g n cap : Nat} {f : Nat → Value} (h : Row2 w base (.slice (some ⟨g, 0, none⟩) n cap) n f) (i : Nat) : w.frozen? ⟨g, i, none⟩ = false := by
  obtain ⟨xs, h, hx⟩ := h
  exact World.ownsRow.frozenAt h i
theorem Row2.set {w : World} {base g n cap : Nat} {f : Nat → Value} (h : Row2 w base (.slice (some ⟨g, 0, none⟩) n cap) n f) (i : Nat) (hi : i < n * 2) (u : Value) :
    Row2 (w.setCell ⟨g, i, none⟩ u) base (.slice (some ⟨g, 0, none⟩) n cap) n (fun j => if j = i then u else f j) := by
  obtain ⟨xs, h, hx⟩ := h
  have hl := h.1
  refine ⟨xs.set i u, (World.ownsRow.stored h i u).1, fun j hj => ?_⟩
  by_cases e : j = i
  · subst e
    simp only [if_true]
    rw [List.getElem?_set_self (by omega)]
  · dsimp only
    rw [if_neg e, List.getElem?_set_ne (fun x => e x.symm)]
    exact hx j hj
theorem cell_grown (w : World) (g i : Nat) (u : Value) : w.grownBy (w.setCell ⟨g, i, none⟩ u) (some g) := ⟨rfl, rfl, rfl, by simp, fun b hb hne => Below.heap_setCell w _ _ b fun e => hne (by rw [e])⟩
/-- the cells of a row of groups -/
def rowT (ts : List Trm) (i : Nat) : Value := twoV (.string (tAt ts (i / 2)).name) (.int .i64 (tAt ts (i / 2)).next) (i % 2)
theorem rowT_0 (ts : List Trm) (j : Nat) : rowT ts (j * 2) = .string (tAt ts j).name := by
  unfold rowT
  rw [show j * 2 / 2 = j by omega, show j * 2 % 2 = 0 by omega]
  rfl
theorem rowT_1 (ts : List Trm) (j : Nat) : rowT ts (j * 2 + 1) = .int .i64 (tAt ts j).next := by
  unfold rowT
  rw [show (j * 2 + 1) / 2 = j by omega, show (j * 2 + 1) % 2 = 1 by omega]
  rfl
theorem rowT_eq {ts ss : List Trm} {i : Nat} (h : tAt ts (i / 2) = tAt ss (i / 2)) : rowT ts i = rowT ss i := by
  unfold rowT
  rw [h]
/-- v is a row of the groups ts, of the call's own -/
def OwnT (w : World) (base : Nat) (v : Value) (ts : List Trm) : Prop := Row2 w base v ts.length (rowT ts)
theorem OwnT.lt {w : World} {base : Nat} {v : Value} {ts : List Trm} (h : OwnT w base v ts) : ∀ k, v.ownBlock = some k → base ≤ k ∧ k < w.heap.size := Row2.lt h
theorem OwnT.grown {w w' : World} {base : Nat} {v : Value} {ts : List Trm} {row : Option Nat} (h : OwnT w base v ts) (hg : w.grownBy w' row) (hne : v.ownBlock = none ∨ v.ownBlock ≠ row) : OwnT w' base v ts := Row2.kept h hg hne
theorem OwnT.below {w w' : World} {base : Nat} {v : Value} {ts : List Trm} (h : OwnT w base v ts) (hb : Below w.heap.size w w') : OwnT w' base v ts :=
  h.grown (row := none) ⟨hb.os, hb.tape, hb.output, hb.size, fun k hk _ => hb.block k hk⟩ (by cases v.ownBlock <;> simp)
theorem OwnT.by {w w' : World} {base B : Nat} {v : Value} {ts : List Trm} (h : OwnT w base v ts) (hB : B < base) (hg : w.grownBy w' (some B)) : OwnT w' base v ts :=
  h.grown hg (by
    cases e : v.ownBlock with
    | none => exact .inl rfl
    | some k => refine .inr fun e2 => ?_; have := (h.lt k e).1; simp only [Option.some.injEq] at e2; omega)
theorem OwnT.ts {w : World} {base : Nat} {v : Value} {ts : List Trm} (h : OwnT w base v ts) : Ts w v ts := by
  have h1 := h
  obtain ⟨xs, hr, _⟩ := h1
  rcases hr.2 with ⟨rfl, h0⟩ | ⟨g, cap, cur, rfl, _, _, hl, hm, _⟩
  · exact ⟨none, 0, by rw [h0], by omega, by simp, fun h => by omega⟩
  · refine ⟨_, cap, rfl, hl, hm, fun _ => ⟨g, 0, rfl, fun i hi => ⟨?_, ?_⟩⟩⟩
    · rw [Nat.zero_add, Row2.cell h (i * 2) (by omega), rowT_0]
    · rw [Nat.zero_add, Row2.cell h (i * 2 + 1) (by omega), rowT_1]
theorem OwnT.form {w : World} {base : Nat} {v : Value} {ts : List Trm} (h : OwnT w base v ts) (h0 : 0 < ts.length) : ∃ g cap, v = .slice (some ⟨g, 0, none⟩) ts.length cap := by
  obtain ⟨xs, hr, _⟩ := h
  rcases hr.2 with ⟨_, hz⟩ | ⟨g, cap, cur, rfl, _⟩
  · omega
  · exact ⟨g, cap, rfl⟩
theorem OwnT.base {w : World} {base m : Nat} {v : Value} {ts : List Trm} (h : OwnT w base v ts) (hm : m ≤ base) : OwnT w m v ts := by
  obtain ⟨xs, hr, hx⟩ := h
  refine ⟨xs, ⟨hr.1, ?_⟩, hx⟩
  rcases hr.2 with h0 | ⟨g, cap, cur, e, hb, r⟩
  · exact .inl h0
  · exact .inr ⟨g, cap, cur, e, by omega, r⟩
/-- a term of a row is stored -/
theorem OwnT.store {w : World} {base g n cap : Nat} {ts ss : List Trm} (h : OwnT w base (.slice (some ⟨g, 0, none⟩) n cap) ts) (i : Nat) (hi : i < ts.length) (t : Trm) (hl : ss.length = ts.length)
    (hat : tAt ss i = t) (hne : ∀ j, j < ts.length → j ≠ i → tAt ss j = tAt ts j) :
    OwnT ((w.setCell ⟨g, i * 2, none⟩ (.string t.name)).setCell ⟨g, i * 2 + 1, none⟩ (.int .i64 t.next)) base (.slice (some ⟨g, 0, none⟩) n cap) ss ∧
      w.grownBy ((w.setCell ⟨g, i * 2, none⟩ (.string t.name)).setCell ⟨g, i * 2 + 1, none⟩ (.int .i64 t.next)) (some g) := by
  have hn : n = ts.length := h.ts.sizes.1
  subst hn
  have h' : Row2 w base (.slice (some ⟨g, 0, none⟩) ts.length cap) ts.length (rowT ts) := h
  have tt : ∀ {a b c : World}, a.grownBy b (some g) → b.grownBy c (some g) → a.grownBy c (some g) := fun h k => ⟨k.os.trans h.os, k.tape.trans h.tape, k.output.trans h.output, Nat.le_trans h.size k.size, fun i hi hne => (k.block i (Nat.lt_of_lt_of_le hi h.size) hne).trans (h.block i hi hne)⟩
  refine ⟨?_, tt (cell_grown _ _ _ _) (cell_grown _ _ _ _)⟩
  unfold OwnT
  rw [hl]
  refine ((h'.set (i * 2) (by omega) (.string t.name)).set (i * 2 + 1) (by omega) (.int .i64 t.next)).congr fun j hj => ?_
  by_cases e1 : j = i * 2 + 1
  · subst e1
    rw [if_pos rfl, rowT_1, hat]
  · rw [if_neg e1]
    by_cases e0 : j = i * 2
    · subst e0
      rw [if_pos rfl, rowT_0, hat]
    · rw [if_neg e0]
      exact (rowT_eq (hne (j / 2) (by omega) (by omega))).symm
theorem OwnT.cellsAt {w : World} {base g n cap : Nat} {ts : List Trm} (h : OwnT w base (.slice (some ⟨g, 0, none⟩) n cap) ts) (i : Nat) (hi : i < ts.length) :
    w.cell? ⟨g, i * 2, none⟩ = some (.string (tAt ts i).name) ∧ w.cell? ⟨g, i * 2 + 1, none⟩ = some (.int .i64 (tAt ts i).next) ∧ w.frozen? ⟨g, i * 2, none⟩ = false ∧ w.frozen? ⟨g, i * 2 + 1, none⟩ = false := by
  have hn : n = ts.length := h.ts.sizes.1
  subst hn
  have h' : Row2 w base (.slice (some ⟨g, 0, none⟩) ts.length cap) ts.length (rowT ts) := h
  refine ⟨?_, ?_, h'.frozen _, h'.frozen _⟩
  · rw [h'.cell (i * 2) (by omega), rowT_0]
  · rw [h'.cell (i * 2 + 1) (by omega), rowT_1]
theorem own_nilT (w : World) (base : Nat) : OwnT w base (.slice none 0 0) [] := ⟨[], World.ownsRow_nil _ _ _ _, fun i hi => by simp at hi⟩
theorem own_emptyT (w : World) (base : Nat) (hb : base ≤ w.heap.size) : OwnT (w.alloc (.cells #[] 25)) base (.slice (some ⟨w.heap.size, 0, none⟩) 0 0) [] :=
  ⟨[], World.ownsRow_made w #[] 0 hb (by simp) (by simp), fun i hi => by simp at hi⟩

theorem info_term : (Try.prog.info? 25).map (fun i => (i.zero, i.size, i.bytes)) = some (some (.agg #[.string .empty, .int .i64 0]), 2, 24) := by kernel_rfl
/-- 'append(s, u...)', at an operation: m groups of any row appended to a row of the call's own -/
theorem op_appTs {w : World} {o : Oper} {a : Act} {K : Act → World → Prop} {Q : Exit → Act → World → Prop}
    (s x : Operand) (hop : o.op = Op.call { callee := Callee.builtin Builtin.append, args := #[s, x], argTypes := #[23, 23] })
    (base : Nat) (v : Value) (ts ss : List Trm) (ad : Addr) (c : Nat) (hs : a.eval s = v) (hx : a.eval x = .slice (some ad) ss.length c)
    (hown : OwnT w base v ts) (hsrc : ∀ i, i < ss.length → w.cell? (ad.add (i * 2)) = some (.string (tAt ss i).name) ∧ w.cell? (ad.add (i * 2 + 1)) = some (.int .i64 (tAt ss i).next)) (h0 : 0 < ss.length) (hlen : ts.length + ss.length < 1000000000) (hb : base ≤ w.heap.size) (H : Nat) (hH : w.heap.size = H)
    (hK : ∀ g cap w', OwnT w' base (.slice (some ⟨g, 0, none⟩) (ts.length + ss.length) cap) (ts ++ ss) → w.grownBy w' v.ownBlock → (v.ownBlock = some g ∨ g = H) → K (a.put o.dst (.slice (some ⟨g, 0, none⟩) (ts.length + ss.length) cap)) w') :
    Oper.wp Try.prog o a w K Q := by
  obtain ⟨i0, hi, hz0, hz1, hz2⟩ := info_parts info_term
  obtain ⟨xs, hown, hf⟩ := hown
  have hxl := hown.1
  have hnl : ((List.range (ss.length * 2)).map (rowT ss)).length = ss.length * 2 := by simp
  refine wp_append_lies w s x 23 hop base 25 i0 _ 2 24 Try.underlying23 hi hz0 hz1 hz2 rfl (by decide) v ts.length xs hs hown ad ss.length c ((List.range (ss.length * 2)).map (rowT ss)) hx hnl ?_ ?_ h0 (by unfold maxLen; omega) (by omega) hb H hH ?_
  · intro j u hj
    have hjl : j < ss.length * 2 := by
      rcases Nat.lt_or_ge j (ss.length * 2) with h | h
      · exact h
      · rw [List.getElem?_eq_none (by omega)] at hj; cases hj
    rw [List.getElem?_map, List.getElem?_range hjl] at hj
    simp only [Option.map_some, Option.some.injEq] at hj
    subst hj
    have q := hsrc (j / 2) (by omega)
    rcases (show j = j / 2 * 2 ∨ j = j / 2 * 2 + 1 by omega) with e | e
    · rw [e, rowT_0, ← e, show w.cell? (ad.add j) = w.cell? (ad.add (j / 2 * 2)) by rw [← e]]; exact q.1
    · rw [e, rowT_1, ← e, show w.cell? (ad.add j) = w.cell? (ad.add (j / 2 * 2 + 1)) by rw [← e]]; exact q.2
  · intro u hu
    obtain ⟨i, _, rfl⟩ := List.mem_map.1 hu
    unfold rowT twoV
    split <;> rfl
  · intro g cap w' h2 h3 h4 _
    refine hK g cap w' ?_ h3 h4
    refine ⟨_, by rw [List.length_append]; exact h2, fun i hi => ?_⟩
    rw [List.length_append] at hi
    by_cases hlt : i < ts.length * 2
    · rw [List.getElem?_append_left (by omega), hf i hlt]
      exact congrArg some (rowT_eq (by rw [tAt_app1 (by omega)]))
    · rw [List.getElem?_append_right (by omega), hxl, List.getElem?_map, List.getElem?_range (by omega)]
      simp only [Option.map_some, Option.some.injEq]
      have e2 : tAt (ts ++ ss) (i / 2) = tAt ss ((i - ts.length * 2) / 2) := by
        unfold tAt List.getD
        rw [List.getElem?_append_right (by omega), show i / 2 - ts.length = (i - ts.length * 2) / 2 by omega]
      unfold rowT
      rw [e2, show (i - ts.length * 2) % 2 = i % 2 by omega]
/-- 'append(s, u...)', in a region in order -/
theorem wp_appTs {w : World} {ops : Array Oper} {rest : List Oper} {o : Oper} {a : Act} {Q : Exit → Act → World → Prop}
    (hg : o.guard = none) (s x : Operand) (hop : o.op = Op.call { callee := Callee.builtin Builtin.append, args := #[s, x], argTypes := #[23, 23] })
    (base : Nat) (v : Value) (ts ss : List Trm) (ad : Addr) (c : Nat) (hs : a.eval s = v) (hx : a.eval x = .slice (some ad) ss.length c)
    (hown : OwnT w base v ts) (hsrc : ∀ i, i < ss.length → w.cell? (ad.add (i * 2)) = some (.string (tAt ss i).name) ∧ w.cell? (ad.add (i * 2 + 1)) = some (.int .i64 (tAt ss i).next)) (h0 : 0 < ss.length) (hlen : ts.length + ss.length < 1000000000) (hb : base ≤ w.heap.size) (H : Nat) (hH : w.heap.size = H)
    (hK : ∀ g cap w', OwnT w' base (.slice (some ⟨g, 0, none⟩) (ts.length + ss.length) cap) (ts ++ ss) → w.grownBy w' v.ownBlock → (v.ownBlock = some g ∨ g = H) → wpList Try.prog ops Q rest (a.put o.dst (.slice (some ⟨g, 0, none⟩) (ts.length + ss.length) cap)) w') :
    wpList Try.prog ops Q (o :: rest) a w :=
  wpList_plain hg fun _ hk => op_appTs s x hop base v ts ss ad c hs hx hown hsrc h0 hlen hb H hH fun g cap w' h2 h3 h4 => hk _ _ (hK g cap w' h2 h3 h4)
/-- 'append(s, t)', the term laid just before -/
theorem wp_appT {w : World} {ops : Array Oper} {rest : List Oper} {o : Oper} {a : Act} {Q : Exit → Act → World → Prop}
    (hg : o.guard = none) (s x : Operand) (hop : o.op = Op.call { callee := Callee.builtin Builtin.append, args := #[s, x], argTypes := #[23, 23] })
    (base : Nat) (v : Value) (ts : List Trm) (t : Trm) (H : Nat) (hH : w.heap.size = H) (hs : a.eval s = v) (hx : a.eval x = .slice (some ⟨H, 0, none⟩) 1 1)
    (hown : OwnT w base v ts) (hlen : ts.length < 100000000) (hb : base ≤ w.heap.size)
    (hK : ∀ g cap w', OwnT w' base (.slice (some ⟨g, 0, none⟩) (ts.length + 1) cap) (ts ++ [t]) → w.grownBy w' v.ownBlock → wpList Try.prog ops Q rest (a.put o.dst (.slice (some ⟨g, 0, none⟩) (ts.length + 1) cap)) w') :
    wpList Try.prog ops Q (o :: rest) a (w.alloc (.cells #[.string t.name, .int .i64 t.next] 25)) := by
  subst hH
  have hb' : Below w.heap.size w (w.alloc (.cells #[.string t.name, .int .i64 t.next] 25)) := (Below.refl _ _).alloc (Nat.le_refl _) _
  have blk := Blk.made w #[.string t.name, .int .i64 t.next] 25
  refine wp_appTs hg s x hop base v ts [t] ⟨w.heap.size, 0, none⟩ 1 hs hx (hown.below hb') ?_ (by simp) (by simp; omega) (by simp; omega) _ rfl ?_
  · intro i hi
    obtain rfl : i = 0 := by simp at hi; omega
    exact ⟨blk.cell 0, blk.cell 1⟩
  · intro g cap w' h2 h3 _
    exact hK g cap w' h2 (grown_of_alloc h3 fun k hk => (hown.lt k hk).2)
/-- the new row lies apart -/
theorem grown_alloc_below {w w' : World} {base : Nat} {v : Value} {ts : List Trm} (B : Nat) (hB : B ≤ base) (hs : B ≤ w.heap.size) (hown : OwnT w base v ts) (hg : w.grownBy w' v.ownBlock) : Below B w w' :=
  ⟨hg.os, hg.tape, hg.output, hg.size, fun b hb => hg.block b (by omega) fun e => by have := (hown.lt b e.symm).1; omega⟩
end Go.Proofs.Ytmhgddlkhbkbaaa
