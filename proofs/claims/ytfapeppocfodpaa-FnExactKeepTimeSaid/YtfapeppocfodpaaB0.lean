/- Blocks that are known whole: a struct in memory, its fields read and written. -/
import Derived.Test.YtfapeppocfodpaaA1
namespace Go.Proofs.Ytfapeppocfodpaa
open Go.ChangeShapes Go.WideShapes Go.ChangeAt Go.RowKit
set_option linter.unusedVariables false

/-- block B holds the cells cs, and may be written -/
def Blk (w : World) (B : Nat) (cs : Array Value) : Prop := ∃ t, w.heap[B]? = some (.cells cs t (0, 0))
theorem Blk.lt {w : World} {B : Nat} {cs : Array Value} (h : Blk w B cs) : B < w.heap.size := by
  obtain ⟨t, h⟩ := h
  rcases Nat.lt_or_ge B w.heap.size with h' | h'
  · exact h'
  · simp [Array.getElem?_eq_none h'] at h
theorem Blk.cell {w : World} {B : Nat} {cs : Array Value} (h : Blk w B cs) (i : Nat) : w.cell? ⟨B, i, none⟩ = cs[i]? := by obtain ⟨t, h⟩ := h; simp [World.cell?, h]
theorem Blk.free {w : World} {B : Nat} {cs : Array Value} (h : Blk w B cs) (i : Nat) : w.frozen? ⟨B, i, none⟩ = false := by obtain ⟨t, h⟩ := h; simp [World.frozen?, h]
theorem Blk.made (w : World) (cs : Array Value) (t : TypeId) : Blk (w.alloc (.cells cs t (0, 0))) w.heap.size cs := ⟨t, heap_alloc_new w _⟩
theorem Blk.eq {w w' : World} {B : Nat} {cs : Array Value} (h : Blk w B cs) (e : w'.heap[B]? = w.heap[B]?) : Blk w' B cs := by obtain ⟨t, h⟩ := h; exact ⟨t, e.trans h⟩
theorem Blk.below {n : Nat} {w w' : World} {B : Nat} {cs : Array Value} (h : Blk w B cs) (hB : B < n) (hb : Below n w w') : Blk w' B cs := h.eq (hb.block B hB)
theorem Blk.belowS {w w' : World} {B : Nat} {cs : Array Value} (h : Blk w B cs) (hb : Below w.heap.size w w') : Blk w' B cs := h.below h.lt hb
theorem Blk.by {w w' : World} {B X : Nat} {cs : Array Value} (h : Blk w B cs) (hne : B ≠ X) (hg : w.grownBy w' (some X)) : Blk w' B cs :=
  h.eq (hg.block B h.lt fun e => hne (by simpa using e))
theorem Blk.grown {w w' : World} {B : Nat} {cs : Array Value} {row : Option Nat} (h : Blk w B cs) (hne : row ≠ some B) (hg : w.grownBy w' row) : Blk w' B cs :=
  h.eq (hg.block B h.lt fun e => hne e.symm)
theorem Blk.other {w : World} {B X i : Nat} {cs : Array Value} {u : Value} (h : Blk w B cs) (hne : B ≠ X) : Blk (w.setCell ⟨X, i, none⟩ u) B cs :=
  h.eq (Below.heap_setCell w _ _ B hne)
theorem Blk.set {w : World} {B : Nat} {cs : Array Value} (h : Blk w B cs) (i : Nat) (u : Value) : Blk (w.setCell ⟨B, i, none⟩ u) B (cs.setIfInBounds i u) := by
  obtain ⟨t, h⟩ := h
  have hlt := Blk.lt ⟨t, h⟩
  have h' : w.heap[B] = .cells cs t (0, 0) := by simpa [Array.getElem?_eq_getElem hlt] using h
  refine ⟨t, ?_⟩
  show (w.heap.modify B _)[B]? = _
  rw [Array.getElem?_eq_getElem (by simpa using hlt), Array.getElem_modify_self, h']
  rfl
/-- six cells are stored into a block of six -/
theorem Blk.six {w : World} {B : Nat} {u0 u1 u2 u3 u4 u5 : Value} (h : Blk w B #[u0, u1, u2, u3, u4, u5]) (v0 v1 v2 v3 v4 v5 : Value) :
    Blk ((((((w.setCell ⟨B, 0, none⟩ v0).setCell ⟨B, 1, none⟩ v1).setCell ⟨B, 2, none⟩ v2).setCell ⟨B, 3, none⟩ v3).setCell ⟨B, 4, none⟩ v4).setCell ⟨B, 5, none⟩ v5) B #[v0, v1, v2, v3, v4, v5] :=
  (((((h.set 0 v0).set 1 v1).set 2 v2).set 3 v3).set 4 v4).set 5 v5
theorem Blk.drew {w : World} {B : Nat} {cs : Array Value} (h : Blk w B cs) (n : Nat) : Blk (w.drewN n) B cs := h.belowS (below_drewN (Below.refl _ _) n)

/-- of what was there, nothing but blocks from lo on and ahead of hi has turned -/
def Turned (w w' : World) (lo hi : Nat) : Prop := w'.os = w.os ∧ w'.tape = w.tape ∧ w'.output = w.output ∧ w.heap.size ≤ w'.heap.size ∧ ∀ b, b < w.heap.size → (b < lo ∨ hi ≤ b) → w'.heap[b]? = w.heap[b]?
theorem Turned.of_below {w w' : World} {lo hi : Nat} (h : Below w.heap.size w w') : Turned w w' lo hi := ⟨h.os, h.tape, h.output, h.size, fun b hb _ => h.block b hb⟩
theorem Turned.of_grown {w w' : World} {lo hi : Nat} {row : Option Nat} (h : w.grownBy w' row) (hr : ∀ k, row = some k → lo ≤ k ∧ k < hi) : Turned w w' lo hi :=
  ⟨h.os, h.tape, h.output, h.size, fun b hb ho => h.block b hb fun e => by have := hr b e.symm; omega⟩
theorem Turned.trans {a b c : World} {lo hi : Nat} (h : Turned a b lo hi) (k : Turned b c lo hi) : Turned a c lo hi :=
  ⟨k.1.trans h.1, k.2.1.trans h.2.1, k.2.2.1.trans h.2.2.1, Nat.le_trans h.2.2.2.1 k.2.2.2.1, fun i hi ho => (k.2.2.2.2 i (Nat.lt_of_lt_of_le hi h.2.2.2.1) ho).trans (h.2.2.2.2 i hi ho)⟩
theorem Turned.belowLo {w w' : World} {lo hi n : Nat} (h : Turned w w' lo hi) (hn : n ≤ lo) (hs : lo ≤ w.heap.size) : Below n w w' := ⟨h.1, h.2.1, h.2.2.1, h.2.2.2.1, fun b hb => h.2.2.2.2 b (by omega) (.inl (by omega))⟩
theorem Ints.turned {w w' : World} {lo hi : Nat} {v : Value} {xs : List Int} (h : Ints w v xs) (ht : Turned w w' lo hi) (ho : ∀ b, v.ownBlock = some b → b < lo ∨ hi ≤ b) : Ints w' v xs :=
  h.keep fun b hb hlt => ht.2.2.2.2 b hlt (ho b hb)
theorem Own.turned {w w' : World} {lo hi base : Nat} {v : Value} {xs : List Int} (h : Own w base v xs) (ht : Turned w w' lo hi) (ho : ∀ b, v.ownBlock = some b → b < lo ∨ hi ≤ b) : Own w' base v xs := by
  refine ⟨h.1, ?_⟩
  rcases h.2 with h0 | ⟨g, cap, cur, e, hg, hh, r⟩
  · exact .inl h0
  · have hlt := World.ownsRow.lt h g (by rw [e]; rfl)
    exact .inr ⟨g, cap, cur, e, hg, (ht.2.2.2.2 g hlt.2 (ho g (by rw [e]; rfl))).trans hh, r⟩
theorem Blk.turned {w w' : World} {lo hi B : Nat} {cs : Array Value} (h : Blk w B cs) (ht : Turned w w' lo hi) (ho : B < lo ∨ hi ≤ B) : Blk w' B cs := h.eq (ht.2.2.2.2 B h.lt ho)
end Go.Proofs.Ytfapeppocfodpaa
