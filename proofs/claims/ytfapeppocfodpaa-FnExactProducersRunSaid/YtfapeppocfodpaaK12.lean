/- Chapter 21: the exact laws of terms. -/
import Derived.Test.YtfapeppocfodpaaW12b
import Derived.Deep.Fields
import Derived.Deep.Slices
import Derived.ChangeSame
import Derived.ChangeArms
import Derived.ChangeSlices
namespace Go.Proofs.Ytfapeppocfodpaa
open Go.ChangeShapes Go.WideShapes Go.ChangeAt Go.RowKit
set_option linter.unusedVariables false

section
variable {H : Type} {enc : TypeId × Value → H} {P : Program} {w : World} {base : Nat} {spare : Nat → Bool} {held : Bool}
/-- a struct of one-cell fields, field by field, out of its cells -/
theorem fields_ofT {t : TypeId} {fs : Array Field} {cs : List Value} {fuel : Nat} {x : DataW H × List MemPlace} (hs : P.underlying t = some (.struct fs)) (hone : Go.Deep.oneCellFields P fs = true) (hC : P.cellsOf t = fs.size)
    (h : DataW.trod enc P w base spare held fuel t cs = some x) : cs.length = fs.size ∧ ∃ n, ∀ (j : Nat) (f : Field), fs[j]? = some f → ∃ c y, cs[j]? = some c ∧ DataW.trod enc P w base spare held n f.type [c] = some y := by
  obtain ⟨xs, n, _, _, hcl, hlen, hg⟩ := DataW.trod_struct hs h
  refine ⟨hcl.trans hC, n, fun j f hj => ?_⟩
  have hjl : j < fs.size := (Array.getElem?_eq_some_iff.1 hj).1
  have hjc : j < cs.length := by omega
  obtain ⟨o, k⟩ := Go.Deep.hone_of hone j f hj
  have h1 := hg j f hj
  rw [o, k, List.drop_eq_getElem_cons hjc] at h1
  exact ⟨cs[j], _, List.getElem?_eq_getElem hjc, h1.trans (List.getElem?_eq_getElem (show j < xs.length by omega))⟩
end
theorem below_row {w w' x : World} {base : Nat} {v : Value} {ts : List Trm} (h : Below w.heap.size w w') (own : OwnT w' base v ts) (hb : w.heap.size ≤ base) (hg : w'.grownBy x v.ownBlock) : Below w.heap.size w x :=
  h.grown hg h.size fun k hk => Nat.le_trans hb (own.lt k hk).1
theorem apart_row {w1 w2 : World} {b1 b2 : Nat} {v u : Value} {ts ss : List Trm} (h : OwnT w1 b1 v ts) (g : OwnT w2 b2 u ss) (hb : w1.heap.size ≤ b2) : v.ownBlock = none ∨ v.ownBlock ≠ u.ownBlock := by
  cases e : v.ownBlock with
  | none => exact .inl rfl
  | some q => exact .inr fun e2 => by have h1 := (h.lt q e).2; have h2 := (g.lt q e2.symm).1; omega
theorem apart_row' {w1 w2 : World} {b1 b2 : Nat} {v u : Value} {ts ss : List Trm} (h : OwnT w1 b1 v ts) (g : OwnT w2 b2 u ss) (hb : w1.heap.size ≤ b2) : u.ownBlock = none ∨ u.ownBlock ≠ v.ownBlock := by
  cases e : u.ownBlock with
  | none => exact .inl rfl
  | some q => exact .inr fun e2 => by have h1 := (h.lt q e2.symm).2; have h2 := (g.lt q e).1; omega
end Go.Proofs.Ytfapeppocfodpaa
