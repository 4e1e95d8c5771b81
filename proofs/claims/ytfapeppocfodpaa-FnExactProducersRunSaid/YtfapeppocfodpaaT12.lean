/- Chapter 21: rows of producers in memory. -/
import Derived.Test.YtfapeppocfodpaaP12
import Derived.Test.YtfapeppocfodpaaB0
import Derived.Test.YtfapeppocfodpaaOwn
import Derived.Deep.AppendLies
namespace Go.Proofs.Ytfapeppocfodpaa
open Go.ChangeShapes Go.WideShapes Go.ChangeAt Go.RowKit
set_option linter.unusedVariables false

/-- one of two -/
def twoV (v0 v1 v2 : Value) (k : Nat) : Value := if k = 0 then v0 else if k = 1 then v1 else v2
/-- v is a row of the producers ts -/
def Ts (w : World) (v : Value) (ts : List Trm) : Prop :=
  ∃ a cap, v = .slice a ts.length cap ∧ ts.length ≤ cap ∧ cap ≤ maxLen ∧
    (0 < ts.length → ∃ b off, a = some ⟨b, off, none⟩ ∧ ∀ i, i < ts.length → w.cell? ⟨b, off + i * 3, none⟩ = some (.int .i64 (tAt ts i).num) ∧ w.cell? ⟨b, off + i * 3 + 1, none⟩ = some (.int .i64 (tAt ts i).first) ∧ w.cell? ⟨b, off + i * 3 + 2, none⟩ = some (.int .i64 (tAt ts i).third))
theorem Ts.keep {w w' : World} {v : Value} {ts : List Trm} (h : Ts w v ts) (hb : 0 < ts.length → ∀ b, v.ownBlock = some b → b < w.heap.size → w'.heap[b]? = w.heap[b]?) : Ts w' v ts := by
  obtain ⟨a, cap, rfl, hl, hm, hc⟩ := h
  refine ⟨a, cap, rfl, hl, hm, fun h0 => ?_⟩
  obtain ⟨b, off, rfl, hcell⟩ := hc h0
  refine ⟨b, off, rfl, fun i hi => ?_⟩
  have hk := hb h0 b rfl (World.block_lt_of_cell? w _ (hcell 0 h0).1)
  exact ⟨(World.cell?_of_block hk).trans (hcell i hi).1, (World.cell?_of_block hk).trans (hcell i hi).2.1, (World.cell?_of_block hk).trans (hcell i hi).2.2⟩
theorem Ts.below {w w' : World} {v : Value} {ts : List Trm} (h : Ts w v ts) (hb : Below w.heap.size w w') : Ts w' v ts := h.keep fun _ b _ hlt => hb.block b hlt
theorem Ts.grown {w w' : World} {v : Value} {ts : List Trm} {row : Option Nat} (h : Ts w v ts) (hg : w.grownBy w' row) (hne : 0 < ts.length → ∀ k, row = some k → v.ownBlock ≠ some k) : Ts w' v ts :=
  h.keep fun h0 b hb hlt => hg.block b hlt fun e => hne h0 b e.symm hb
theorem Ts.lt {w : World} {v : Value} {ts : List Trm} (h : Ts w v ts) : 0 < ts.length → ∀ k, v.ownBlock = some k → k < w.heap.size := by
  obtain ⟨a, cap, rfl, hl, hm, hc⟩ := h
  intro h0 k hk
  obtain ⟨b, off, rfl, hcell⟩ := hc h0
  simp only [Value.ownBlock, Option.some.injEq] at hk
  subst hk
  exact World.block_lt_of_cell? w _ (hcell 0 h0).1
theorem ts_none (w : World) : Ts w (.slice .none 0 0) [] := ⟨.none, 0, rfl, by simp, by simp, fun h => by simp at h⟩
theorem Ts.empty (w : World) (a : Option Addr) (cap : Nat) (h : cap ≤ maxLen) : Ts w (.slice a 0 cap) [] := ⟨a, cap, rfl, by simp, h, fun h => by simp at h⟩
theorem Ts.form {w : World} {v : Value} {ts : List Trm} (h : Ts w v ts) (h0 : 0 < ts.length) : ∃ b off cap, v = .slice (some ⟨b, off, none⟩) ts.length cap ∧ ts.length ≤ cap ∧ cap ≤ maxLen ∧ ∀ i, i < ts.length → w.cell? ⟨b, off + i * 3, none⟩ = some (.int .i64 (tAt ts i).num) ∧ w.cell? ⟨b, off + i * 3 + 1, none⟩ = some (.int .i64 (tAt ts i).first) ∧ w.cell? ⟨b, off + i * 3 + 2, none⟩ = some (.int .i64 (tAt ts i).third) := by
  obtain ⟨a, cap, rfl, hl, hm, hc⟩ := h
  obtain ⟨b, off, rfl, hcell⟩ := hc h0
  exact ⟨b, off, cap, rfl, hl, hm, hcell⟩
theorem Ts.sizes {w : World} {a : Option Addr} {n cap : Nat} {ts : List Trm} (h : Ts w (.slice a n cap) ts) : n = ts.length ∧ n ≤ cap ∧ cap ≤ maxLen := by
  obtain ⟨a', cap', e, hl, hm, hc⟩ := h
  simp only [Value.slice.injEq] at e
  obtain ⟨rfl, rfl, rfl⟩ := e
  exact ⟨rfl, hl, hm⟩
theorem Ts.cells {w : World} {b off n cap : Nat} {ts : List Trm} (h : Ts w (.slice (some ⟨b, off, .none⟩) n cap) ts) (i : Nat) (hi : i < ts.length) : w.cell? ⟨b, off + i * 3, .none⟩ = some (.int .i64 (tAt ts i).num) ∧ w.cell? ⟨b, off + i * 3 + 1, .none⟩ = some (.int .i64 (tAt ts i).first) ∧ w.cell? ⟨b, off + i * 3 + 2, .none⟩ = some (.int .i64 (tAt ts i).third) := by
  obtain ⟨a', cap', e, hl, hm, hc⟩ := h
  simp only [Value.slice.injEq] at e
  obtain ⟨rfl, rfl, rfl⟩ := e
  obtain ⟨b', off', e, hcell⟩ := hc (by omega)
  simp only [Option.some.injEq, Addr.mk.injEq, and_true] at e
  obtain ⟨rfl, rfl⟩ := e
  exact hcell i hi
/-- the first producers -/
theorem Ts.take {w : World} {a : Option Addr} {n cap : Nat} {ts : List Trm} (h : Ts w (.slice a n cap) ts) (k : Nat) (hk : k ≤ n) : Ts w (.slice a k cap) (ts.take k) := by
  obtain ⟨a', cap', e, hl, hm, hc⟩ := h
  simp only [Value.slice.injEq] at e
  obtain ⟨rfl, rfl, rfl⟩ := e
  have hn : (ts.take k).length = k := by rw [List.length_take]; omega
  refine ⟨a, cap, by rw [hn], by omega, hm, fun h0 => ?_⟩
  obtain ⟨b, off, rfl, hcell⟩ := hc (by omega)
  refine ⟨b, off, rfl, fun i hi => ?_⟩
  rw [tAt_take (by omega)]
  exact hcell i (by omega)
/-- the last producers -/
theorem Ts.drop {w : World} {b off n cap : Nat} {ts : List Trm} (h : Ts w (.slice (some ⟨b, off, .none⟩) n cap) ts) (k : Nat) (hk : k ≤ n) : Ts w (.slice (some ⟨b, off + k * 3, .none⟩) (n - k) (cap - k)) (ts.drop k) := by
  have hs := h.sizes
  have hn : (ts.drop k).length = n - k := by rw [List.length_drop]; omega
  refine ⟨_, cap - k, by rw [hn], by omega, by omega, fun h0 => ⟨b, off + k * 3, rfl, fun i hi => ?_⟩⟩
  have := h.cells (k + i) (by omega)
  rw [tAt_drop, show off + k * 3 + i * 3 = off + (k + i) * 3 by omega]
  exact this

/-- a row of n elements of two cells each, of the call's own -/
def Row2 (w : World) (base : Nat) (v : Value) (n : Nat) (f : Nat → Value) : Prop := ∃ xs, w.ownsRow base 61 3 v n xs ∧ ∀ i, i < n * 3 → xs[i]? = some (f i)
theorem Row2.lt {w : World} {base n : Nat} {v : Value} {f : Nat → Value} (h : Row2 w base v n f) : ∀ k, v.ownBlock = some k → base ≤ k ∧ k < w.heap.size := by
  obtain ⟨xs, h, _⟩ := h
  exact World.ownsRow.lt h
theorem Row2.kept {w w' : World} {base n : Nat} {v : Value} {f : Nat → Value} {row : Option Nat} (h : Row2 w base v n f) (hg : w.grownBy w' row) (hne : v.ownBlock = none ∨ v.ownBlock ≠ row) : Row2 w' base v n f := by
  obtain ⟨xs, h, hx⟩ := h
  exact ⟨xs, World.ownsRow.kept h hg hne, hx⟩
theorem Row2.congr {w : World} {base n : Nat} {v : Value} {f g : Nat → Value} (h : Row2 w base v n f) (e : ∀ i, i < n * 3 → f i = g i) : Row2 w base v n g := by
  obtain ⟨xs, h, hx⟩ := h
  exact ⟨xs, h, fun i hi => (hx i hi).trans (by rw [e i hi])⟩
theorem Row2.cell {w : World} {base g n cap : Nat} {f : Nat → Value} (h : Row2 w base (.slice (some ⟨g, 0, none⟩) n cap) n f) (i : Nat) (hi : i < n * 3) : w.cell? ⟨g, i, none⟩ = some (f i) := by
  obtain ⟨xs, h, hx⟩ := h
  exact (World.ownsRow.cellAt h i hi).trans (hx i hi)
theorem Row2.frozen {w : World} {base g n cap : Nat} {f : Nat → Value} (h : Row2 w base (.slice (some ⟨g, 0, none⟩) n cap) n f) (i : Nat) : w.frozen? ⟨g, i, none⟩ = false := by
  obtain ⟨xs, h, hx⟩ := h
  exact World.ownsRow.frozenAt h i
theorem Row2.set {w : World} {base g n cap : Nat} {f : Nat → Value} (h : Row2 w base (.slice (some ⟨g, 0, none⟩) n cap) n f) (i : Nat) (hi : i < n * 3) (u : Value) :
    Row2 (w.setCell ⟨g, i, none⟩ u) base (.slice (some ⟨g, 0, none⟩) n cap) n (fun j => if j = i then u else f j) := by
  obtain ⟨xs, h, hx⟩ := h
  have hl := h.1
  refine ⟨xs.set i u, (World.ownsRow.stored h i u).1, fun j hj => ?_⟩
  by_cases e : j = i
  · subst e
    simp only [if_true]
    rw [List.getElem?_set_self (by omega)]
  · dsimp only
    rw [if_neg e, List.getElem?_set_ne (fun x => e x.symm)]
    exact hx j hj
theorem cell_grown (w : World) (g i : Nat) (u : Value) : w.grownBy (w.setCell ⟨g, i, none⟩ u) (some g) := ⟨rfl, rfl, rfl, by simp, fun b hb hne => Below.heap_setCell w _ _ b fun e => hne (by rw [e])⟩
/-- the cells of a row of producers -/
def rowT (ts : List Trm) (i : Nat) : Value := twoV (.int .i64 (tAt ts (i / 3)).num) (.int .i64 (tAt ts (i / 3)).first) (.int .i64 (tAt ts (i / 3)).third) (i % 3)
theorem rowT_0 (ts : List Trm) (j : Nat) : rowT ts (j * 3) = .int .i64 (tAt ts j).num := by
  unfold rowT
  rw [show j * 3 / 3 = j by omega, show j * 3 % 3 = 0 by omega]
  rfl
theorem rowT_1 (ts : List Trm) (j : Nat) : rowT ts (j * 3 + 1) = .int .i64 (tAt ts j).first := by
  unfold rowT
  rw [show (j * 3 + 1) / 3 = j by omega, show (j * 3 + 1) % 3 = 1 by omega]
  rfl
theorem rowT_2 (ts : List Trm) (j : Nat) : rowT ts (j * 3 + 2) = .int .i64 (tAt ts j).third := by
  unfold rowT
  rw [show (j * 3 + 2) / 3 = j by omega, show (j * 3 + 2) % 3 = 2 by omega]
  rfl
theorem rowT_eq {ts ss : List Trm} {i : Nat} (h : tAt ts (i / 3) = tAt ss (i / 3)) : rowT ts i = rowT ss i := by
  unfold rowT
  rw [h]
/-- v is a row of the producers ts, of the call's own -/
def OwnT (w : World) (base : Nat) (v : Value) (ts : List Trm) : Prop := Row2 w base v ts.length (rowT ts)
theorem OwnT.lt {w : World} {base : Nat} {v : Value} {ts : List Trm} (h : OwnT w base v ts) : ∀ k, v.ownBlock = some k → base ≤ k ∧ k < w.heap.size := Row2.lt h
theorem OwnT.grown {w w' : World} {base : Nat} {v : Value} {ts : List Trm} {row : Option Nat} (h : OwnT w base v ts) (hg : w.grownBy w' row) (hne : v.ownBlock = none ∨ v.ownBlock ≠ row) : OwnT w' base v ts := Row2.kept h hg hne
theorem OwnT.below {w w' : World} {base : Nat} {v : Value} {ts : List Trm} (h : OwnT w base v ts) (hb : Below w.heap.size w w') : OwnT w' base v ts :=
  h.grown (row := none) ⟨hb.os, hb.tape, hb.output, hb.size, fun k hk _ => hb.block k hk⟩ (by cases v.ownBlock <;> simp)
theorem OwnT.by {w w' : World} {base B : Nat} {v : Value} {ts : List Trm} (h : OwnT w base v ts) (hB : B < base) (hg : w.grownBy w' (some B)) : OwnT w' base v ts :=
  h.grown hg (by
    cases e : v.ownBlock with
    | none => exact .inl rfl
    | some k => refine .inr fun e2 => ?_; have := (h.lt k e).1; simp only [Option.some.injEq] at e2; omega)
theorem OwnT.ts {w : World} {base : Nat} {v : Value} {ts : List Trm} (h : OwnT w base v ts) : Ts w v ts := by
  have h1 := h
  obtain ⟨xs, hr, _⟩ := h1
  rcases hr.2 with ⟨rfl, h0⟩ | ⟨g, cap, cur, rfl, _, _, hl, hm, _⟩
  · exact ⟨none, 0, by rw [h0], by omega, by simp, fun h => by omega⟩
  · refine ⟨_, cap, rfl, hl, hm, fun _ => ⟨g, 0, rfl, fun i hi => ⟨?_, ?_, ?_⟩⟩⟩
    · rw [Nat.zero_add, Row2.cell h (i * 3) (by omega), rowT_0]
    · rw [Nat.zero_add, Row2.cell h (i * 3 + 1) (by omega), rowT_1]
    · rw [Nat.zero_add, Row2.cell h (i * 3 + 2) (by omega), rowT_2]
theorem OwnT.form {w : World} {base : Nat} {v : Value} {ts : List Trm} (h : OwnT w base v ts) (h0 : 0 < ts.length) : ∃ g cap, v = .slice (some ⟨g, 0, none⟩) ts.length cap := by
  obtain ⟨xs, hr, _⟩ := h
  rcases hr.2 with ⟨_, hz⟩ | ⟨g, cap, cur, rfl, _⟩
  · omega
  · exact ⟨g, cap, rfl⟩
theorem OwnT.base {w : World} {base m : Nat} {v : Value} {ts : List Trm} (h : OwnT w base v ts) (hm : m ≤ base) : OwnT w m v ts := by
  obtain ⟨xs, hr, hx⟩ := h
  refine ⟨xs, ⟨hr.1, ?_⟩, hx⟩
  rcases hr.2 with h0 | ⟨g, cap, cur, e, hb, r⟩
  · exact .inl h0
  · exact .inr ⟨g, cap, cur, e, by omega, r⟩
theorem own_nilT (w : World) (base : Nat) : OwnT w base (.slice none 0 0) [] := ⟨[], World.ownsRow_nil _ _ _ _, fun i hi => by simp at hi⟩
theorem own_emptyT (w : World) (base : Nat) (hb : base ≤ w.heap.size) : OwnT (w.alloc (.cells #[] 61)) base (.slice (some ⟨w.heap.size, 0, none⟩) 0 0) [] :=
  ⟨[], World.ownsRow_made w #[] 0 hb (by simp) (by simp), fun i hi => by simp at hi⟩

theorem info_term : (Try.prog.info? 61).map (fun i => (i.zero, i.size, i.bytes)) = some (some (.agg #[.int .i64 0, .int .i64 0, .int .i64 0]), 3, 24) := by kernel_rfl
end Go.Proofs.Ytfapeppocfodpaa
