/- Six cells of a block, written and read: the boxes of records. -/
import Derived.Test.YtomlejfilfdnbaaW3e
import Derived.Test.YtomlejfilfdnbaaD2
namespace Go.Proofs.Ytomlejfilfdnbaa
open Go.ChangeShapes Go.WideShapes Go.ChangeAt Go.RowKit
set_option linter.unusedVariables false

theorem Box6.by {w w' : World} {X B : Nat} {v0 v1 v2 v3 v4 v5 : Value} (h : Box6 w X v0 v1 v2 v3 v4 v5) (hX : X < w.heap.size) (hne : X ≠ B) (hg : w.grownBy w' (some B)) : Box6 w' X v0 v1 v2 v3 v4 v5 := by
  have hk : w'.heap[X]? = w.heap[X]? := hg.block X hX fun e => hne (by simpa using e)
  have k : ∀ i, w'.cell? ⟨X, i, none⟩ = w.cell? ⟨X, i, none⟩ := fun i => World.cell?_of_block hk
  obtain ⟨h0, h1, h2, h3, h4, h5⟩ := h
  exact ⟨(k 0).trans h0, (k 1).trans h1, (k 2).trans h2, (k 3).trans h3, (k 4).trans h4, (k 5).trans h5⟩
/-- the block is written to freely -/
def Thawed (w : World) (X : Nat) : Prop := X < w.heap.size ∧ ∀ i, w.frozen? ⟨X, i, none⟩ = false
theorem frozen_of_heap {w w' : World} {X : Nat} (h : w'.heap[X]? = w.heap[X]?) (i : Nat) : w'.frozen? ⟨X, i, none⟩ = w.frozen? ⟨X, i, none⟩ := by
  unfold World.frozen?
  simp only [h]
theorem Thawed.by {w w' : World} {X B : Nat} (h : Thawed w X) (hne : X ≠ B) (hg : w.grownBy w' (some B)) : Thawed w' X :=
  ⟨Nat.lt_of_lt_of_le h.1 hg.size, fun i => (frozen_of_heap (hg.block X h.1 fun e => hne (by simpa using e)) i).trans (h.2 i)⟩
theorem Thawed.below {w w' : World} {X : Nat} (h : Thawed w X) (hb : Below w.heap.size w w') : Thawed w' X :=
  ⟨Nat.lt_of_lt_of_le h.1 hb.size, fun i => (frozen_of_heap (hb.block X h.1) i).trans (h.2 i)⟩
theorem Thawed.made (w : World) (cs : Array Value) (t : TypeId) : Thawed (w.alloc (.cells cs t (0, 0))) w.heap.size := ⟨by simp, fun i => frozen_made w i⟩
theorem Box6.below {w w' : World} {X : Nat} {v0 v1 v2 v3 v4 v5 : Value} (h : Box6 w X v0 v1 v2 v3 v4 v5) (hX : X < w.heap.size) (hb : Below w.heap.size w w') : Box6 w' X v0 v1 v2 v3 v4 v5 := by
  have k : ∀ i, w'.cell? ⟨X, i, none⟩ = w.cell? ⟨X, i, none⟩ := fun i => World.cell?_of_block (hb.block X hX)
  obtain ⟨h0, h1, h2, h3, h4, h5⟩ := h
  exact ⟨(k 0).trans h0, (k 1).trans h1, (k 2).trans h2, (k 3).trans h3, (k 4).trans h4, (k 5).trans h5⟩
theorem Box6.made (w : World) (t : TypeId) (v0 v1 v2 v3 v4 v5 : Value) : Box6 (w.alloc (.cells #[v0, v1, v2, v3, v4, v5] t)) w.heap.size v0 v1 v2 v3 v4 v5 := by
  have hb := heap_alloc_new w (.cells #[v0, v1, v2, v3, v4, v5] t)
  exact ⟨cell_of_block hb 0, cell_of_block hb 1, cell_of_block hb 2, cell_of_block hb 3, cell_of_block hb 4, cell_of_block hb 5⟩
theorem set_grown (W : World) (X i : Nat) (u : Value) : W.grownBy (W.setCell ⟨X, i, none⟩ u) (some X) :=
  ⟨rfl, rfl, rfl, by simp, fun b hb hne => Below.heap_setCell W _ _ b fun e => hne (by rw [e])⟩
theorem Ints.grownX {w w' : World} {v : Value} {xs : List Int} {X : Nat} (h : Ints w v xs) (hg : w.grownBy w' (some X)) (hne : v.ownBlock ≠ some X) : Ints w' v xs := h.grown hg fun k hk => by
  simp only [Option.some.injEq] at hk
  subst hk
  exact hne

theorem grown_new {w a b : World} {row : Option Nat} {X : Nat} (h : w.grownBy a row) (hX : w.heap.size ≤ X) (k : a.grownBy b (some X)) : w.grownBy b row :=
  ⟨k.os.trans h.os, k.tape.trans h.tape, k.output.trans h.output, Nat.le_trans h.size k.size, fun i hi hne => (k.block i (Nat.lt_of_lt_of_le hi h.size) fun e => by simp only [Option.some.injEq] at e; omega).trans (h.block i hi hne)⟩
theorem set_ne (W : World) (X i j : Nat) (v : Value) (hij : i ≠ j) : (W.setCell ⟨X, i, none⟩ v).cell? ⟨X, j, none⟩ = W.cell? ⟨X, j, none⟩ := by
  refine World.cell?_setCell_other _ _ _ _ (fun e => hij ?_)
  exact congrArg Addr.off e
theorem set_same (W : World) (X i : Nat) (v u : Value) (h : W.cell? ⟨X, i, none⟩ = some u) : (W.setCell ⟨X, i, none⟩ v).cell? ⟨X, i, none⟩ = some v := World.cell?_setCell_same' W _ v (by rw [h]; rfl)
theorem Box6.set0 {w : World} {X : Nat} {v0 v1 v2 v3 v4 v5 : Value} (h : Box6 w X v0 v1 v2 v3 v4 v5) (u : Value) : Box6 (w.setCell ⟨X, 0, none⟩ u) X u v1 v2 v3 v4 v5 := by
  obtain ⟨h0, h1, h2, h3, h4, h5⟩ := h
  exact ⟨set_same _ _ _ _ _ h0, (set_ne _ _ _ _ _ (by decide)).trans h1, (set_ne _ _ _ _ _ (by decide)).trans h2, (set_ne _ _ _ _ _ (by decide)).trans h3, (set_ne _ _ _ _ _ (by decide)).trans h4, (set_ne _ _ _ _ _ (by decide)).trans h5⟩
theorem Box6.set2 {w : World} {X : Nat} {v0 v1 v2 v3 v4 v5 : Value} (h : Box6 w X v0 v1 v2 v3 v4 v5) (u : Value) : Box6 (w.setCell ⟨X, 2, none⟩ u) X v0 v1 u v3 v4 v5 := by
  obtain ⟨h0, h1, h2, h3, h4, h5⟩ := h
  exact ⟨(set_ne _ _ _ _ _ (by decide)).trans h0, (set_ne _ _ _ _ _ (by decide)).trans h1, set_same _ _ _ _ _ h2, (set_ne _ _ _ _ _ (by decide)).trans h3, (set_ne _ _ _ _ _ (by decide)).trans h4, (set_ne _ _ _ _ _ (by decide)).trans h5⟩
theorem Box6.set3 {w : World} {X : Nat} {v0 v1 v2 v3 v4 v5 : Value} (h : Box6 w X v0 v1 v2 v3 v4 v5) (u : Value) : Box6 (w.setCell ⟨X, 3, none⟩ u) X v0 v1 v2 u v4 v5 := by
  obtain ⟨h0, h1, h2, h3, h4, h5⟩ := h
  exact ⟨(set_ne _ _ _ _ _ (by decide)).trans h0, (set_ne _ _ _ _ _ (by decide)).trans h1, (set_ne _ _ _ _ _ (by decide)).trans h2, set_same _ _ _ _ _ h3, (set_ne _ _ _ _ _ (by decide)).trans h4, (set_ne _ _ _ _ _ (by decide)).trans h5⟩
theorem Box6.set4 {w : World} {X : Nat} {v0 v1 v2 v3 v4 v5 : Value} (h : Box6 w X v0 v1 v2 v3 v4 v5) (u : Value) : Box6 (w.setCell ⟨X, 4, none⟩ u) X v0 v1 v2 v3 u v5 := by
  obtain ⟨h0, h1, h2, h3, h4, h5⟩ := h
  exact ⟨(set_ne _ _ _ _ _ (by decide)).trans h0, (set_ne _ _ _ _ _ (by decide)).trans h1, (set_ne _ _ _ _ _ (by decide)).trans h2, (set_ne _ _ _ _ _ (by decide)).trans h3, set_same _ _ _ _ _ h4, (set_ne _ _ _ _ _ (by decide)).trans h5⟩
theorem Box6.set5 {w : World} {X : Nat} {v0 v1 v2 v3 v4 v5 : Value} (h : Box6 w X v0 v1 v2 v3 v4 v5) (u : Value) : Box6 (w.setCell ⟨X, 5, none⟩ u) X v0 v1 v2 v3 v4 u := by
  obtain ⟨h0, h1, h2, h3, h4, h5⟩ := h
  exact ⟨(set_ne _ _ _ _ _ (by decide)).trans h0, (set_ne _ _ _ _ _ (by decide)).trans h1, (set_ne _ _ _ _ _ (by decide)).trans h2, (set_ne _ _ _ _ _ (by decide)).trans h3, (set_ne _ _ _ _ _ (by decide)).trans h4, set_same _ _ _ _ _ h5⟩
theorem Thawed.set {w : World} {X Y i : Nat} {u : Value} (h : Thawed w X) : Thawed (w.setCell ⟨Y, i, none⟩ u) X := ⟨by simpa using h.1, fun j => by rw [World.frozen?_setCell]; exact h.2 j⟩
theorem Box6.setOther {w : World} {X Y i : Nat} {u v0 v1 v2 v3 v4 v5 : Value} (h : Box6 w X v0 v1 v2 v3 v4 v5) (hne : Y ≠ X) : Box6 (w.setCell ⟨Y, i, none⟩ u) X v0 v1 v2 v3 v4 v5 := by
  have k : ∀ j, (w.setCell ⟨Y, i, none⟩ u).cell? ⟨X, j, none⟩ = w.cell? ⟨X, j, none⟩ := fun j => World.cell?_setCell_other _ _ _ _ (fun e => hne (congrArg Addr.block e))
  obtain ⟨h0, h1, h2, h3, h4, h5⟩ := h
  exact ⟨(k 0).trans h0, (k 1).trans h1, (k 2).trans h2, (k 3).trans h3, (k 4).trans h4, (k 5).trans h5⟩

theorem Box6.belowN {n : Nat} {w w' : World} {X : Nat} {v0 v1 v2 v3 v4 v5 : Value} (h : Box6 w X v0 v1 v2 v3 v4 v5) (hX : X < n) (hb : Below n w w') : Box6 w' X v0 v1 v2 v3 v4 v5 := by
  have k : ∀ i, w'.cell? ⟨X, i, none⟩ = w.cell? ⟨X, i, none⟩ := fun i => World.cell?_of_block (hb.block X hX)
  obtain ⟨h0, h1, h2, h3, h4, h5⟩ := h
  exact ⟨(k 0).trans h0, (k 1).trans h1, (k 2).trans h2, (k 3).trans h3, (k 4).trans h4, (k 5).trans h5⟩
theorem Thawed.belowN {n : Nat} {w w' : World} {X : Nat} (h : Thawed w X) (hX : X < n) (hb : Below n w w') : Thawed w' X :=
  ⟨Nat.lt_of_lt_of_le h.1 hb.size, fun i => (frozen_of_heap (hb.block X hX) i).trans (h.2 i)⟩
theorem six_grown (W : World) (X : Nat) (v0 v1 v2 v3 v4 v5 : Value) : W.grownBy ((((((W.setCell ⟨X, 0, none⟩ v0).setCell ⟨X, 1, none⟩ v1).setCell ⟨X, 2, none⟩ v2).setCell ⟨X, 3, none⟩ v3).setCell ⟨X, 4, none⟩ v4).setCell ⟨X, 5, none⟩ v5) (some X) :=
  grown_trans (grown_trans (grown_trans (grown_trans (grown_trans (set_grown _ _ _ _) (set_grown _ _ _ _)) (set_grown _ _ _ _)) (set_grown _ _ _ _)) (set_grown _ _ _ _)) (set_grown _ _ _ _)
end Go.Proofs.Ytomlejfilfdnbaa
