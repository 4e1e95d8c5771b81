/- A reader beside slices that grow. -/
import Derived.Test.YtomlejfilfdnbaaD0
namespace Go.Proofs.Ytomlejfilfdnbaa
open Go.ChangeShapes Go.WideShapes Go.ChangeAt Go.RowKit
set_option linter.unusedVariables false

theorem Own.by {w w' : World} {base B : Nat} {v : Value} {xs : List Int} (hown : Own w base v xs) (hB : B < base) (hg : w.grownBy w' (some B)) : Own w' base v xs :=
  hown.grown hg (by
    cases e : v.ownBlock with
    | none => exact .inl rfl
    | some k => refine .inr fun e2 => ?_; have := hown.lt k e; simp only [Option.some.injEq] at e2; omega)
theorem Rd.by {w w' : World} {B c base : Nat} {v : Value} {xs : List Int} (h : Rd w B c) (hown : Own w base v xs) (hB : B < base) (hg : w.grownBy w' v.ownBlock) : Rd w' B c :=
  h.keep fun b hb => hg.block b (Nat.lt_of_le_of_lt hb h.lt) fun e => by have := hown.lt b e.symm; omega
theorem grown_row {a b c : World} {B base : Nat} {v : Value} {xs : List Int} (h : a.grownBy b (some B)) (hown : Own b base v xs) (hb : a.heap.size ≤ base) (k : b.grownBy c v.ownBlock) : a.grownBy c (some B) :=
  ⟨k.os.trans h.os, k.tape.trans h.tape, k.output.trans h.output, Nat.le_trans h.size k.size, fun i hi hne => (k.block i (Nat.lt_of_lt_of_le hi h.size) fun e => by have := hown.lt i e.symm; omega).trans (h.block i hi hne)⟩

end Go.Proofs.Ytomlejfilfdnbaa
