/- Chapter 21: the exact laws of terms. -/
import Derived.Test.YtlppnhkgadcgdaaW12b
import Derived.Deep.Fields
import Derived.Deep.Slices
import Derived.ChangeSame
import Derived.ChangeArms
import Derived.ChangeSlices
namespace Go.Proofs.Ytlppnhkgadcgdaa
open Go.ChangeShapes Go.WideShapes Go.ChangeAt Go.RowKit
set_option linter.unusedVariables false

section
variable {H : Type} {enc : TypeId × Value → H} {P : Program} {w : World} {base : Nat} {spare : Nat → Bool} {held : Bool}
/-- a struct of one-cell fields, field by field, out of its cells -/
theorem fields_ofT {t : TypeId} {fs : Array Field} {cs : List Value} {fuel : Nat} {x : DataW H × List MemPlace} (hs : P.underlying t = some (.struct fs)) (hone : Go.Deep.oneCellFields P fs = true) (hC : P.cellsOf t = fs.size)
    (h : DataW.trod enc P w base spare held fuel t cs = some x) : cs.length = fs.size ∧ ∃ n, ∀ (j : Nat) (f : Field), fs[j]? = some f → ∃ c y, cs[j]? = some c ∧ DataW.trod enc P w base spare held n f.type [c] = some y := by
  obtain ⟨xs, n, _, _, hcl, hlen, hg⟩ := DataW.trod_struct hs h
  refine ⟨hcl.trans hC, n, fun j f hj => ?_⟩
  have hjl : j < fs.size := (Array.getElem?_eq_some_iff.1 hj).1
  have hjc : j < cs.length := by omega
  obtain ⟨o, k⟩ := Go.Deep.hone_of hone j f hj
  have h1 := hg j f hj
  rw [o, k, List.drop_eq_getElem_cons hjc] at h1
  exact ⟨cs[j], _, List.getElem?_eq_getElem hjc, h1.trans (List.getElem?_eq_getElem (show j < xs.length by omega))⟩
end
/-- the cells of a term that comes in -/
theorem term_cells {H : Type} {enc : TypeId × Value → H} {W : World} {held : Bool} {n : Nat} {cs : List Value} {y : DataW H × List MemPlace} (h : DataW.trod enc Try.prog W 0 (fun _ => true) held n 61 cs = some y) :
    ∃ t : Trm, cs = [.int .i64 t.num, .int .i64 t.first, .int .i64 t.third] := by
  obtain ⟨hlen, m, hf⟩ := fields_ofT Try.underlying61 (by kernel_rfl) (by kernel_rfl) h
  match cs, hlen with
  | [c0, c1, c2], _ =>
    obtain ⟨_, y0, e0, h0⟩ := hf 0 _ rfl
    obtain ⟨_, y1, e1, h1⟩ := hf 1 _ rfl
    obtain ⟨_, y2, e2, h2⟩ := hf 2 _ rfl
    cases e0
    cases e1
    cases e2
    obtain ⟨n0, f0, _, r0⟩ := DataW.trod_int Try.underlying3 h0
    obtain ⟨n1, f1, _, r1⟩ := DataW.trod_int Try.underlying3 h1
    obtain ⟨n2, f2, _, r2⟩ := DataW.trod_int Try.underlying3 h2
    cases f0
    cases f1
    cases f2
    exact ⟨⟨n0, n1, n2⟩, rfl⟩
theorem cell_Ts {H : Type} {enc : TypeId × Value → H} {W : World} {held : Bool} {n : Nat} {c : Value} {y : DataW H × List MemPlace} (h : DataW.trod enc Try.prog W 0 (fun _ => true) held n 22 [c] = some y) : ∃ ts, Ts W c ts := by
  rcases Go.Deep.open_slice Try.underlying22 h with ⟨hcs, _⟩ | ⟨a, len, cap, m, k, D, Pl, hcs, _, hl, hm, hmm, _, hi⟩
  · simp only [List.cons.injEq, and_true] at hcs
    subst hcs
    exact ⟨[], ts_none W⟩
  · simp only [List.cons.injEq, and_true] at hcs
    subst hcs
    have hC : Try.prog.cellsOf 61 = 3 := by kernel_rfl
    rw [hC] at hi
    have hex : ∀ i, i < len → ∃ t : Trm, ∀ j v, [Value.int .i64 t.num, .int .i64 t.first, .int .i64 t.third][j]? = some v → W.cell? ((a.add (i * 3)).add j) = some v := fun i hil => by
      obtain ⟨cs', hc, ht'⟩ := hi i (by rw [hmm]; simp; omega)
      obtain ⟨_, hlen, hat⟩ := World.cells?_some hc
      obtain ⟨t, rfl⟩ := term_cells ht'
      refine ⟨t, fun j v hj => ?_⟩
      have hjl : j < 3 := by
        have := (List.getElem?_eq_some_iff.1 hj).1
        simpa using this
      rw [hat j hjl, hj]
    by_cases h0 : len = 0
    · subst h0
      exact ⟨[], ⟨some a, cap, rfl, by simp, hm, fun h => by simp at h⟩⟩
    · have : Inhabited Trm := ⟨Trm.zero⟩
      obtain ⟨f, hf⟩ := Go.Deep.choose_lt hex
      obtain ⟨b, off, spot⟩ := a
      have hs : spot = none := by
        have := hf 0 (by omega) 0 _ rfl
        simpa [Addr.add] using World.cell?_spot this
      subst hs
      refine ⟨(List.range len).map f, ⟨_, cap, by simp, by simpa using hl, hm, fun _ => ⟨b, off, rfl, fun i hil => ?_⟩⟩⟩
      have hil' : i < len := by simpa using hil
      have er : tAt ((List.range len).map f) i = f i := by
        rw [tAt_in hil]
        simp
      rw [er]
      have q : ∀ j v, [Value.int .i64 (f i).num, .int .i64 (f i).first, .int .i64 (f i).third][j]? = some v → W.cell? ⟨b, off + i * 3 + j, none⟩ = some v := fun j v h => by
        have := hf i hil' j v h
        rw [Addr.add_lit, Addr.add_lit] at this
        exact this
      exact ⟨q 0 _ rfl, q 1 _ rfl, q 2 _ rfl⟩
theorem in_SProducer {H : Type} {enc : TypeId × Value → H} {W : World} {held : Bool} {r : Reach} {b0 : Nat} {v : Value} {d : DataW H} {p : List MemPlace}
    (hv : Value.okWide Try.prog W r b0 22 v) (h : DataW.Trod enc Try.prog W 0 (fun _ => true) held 22 v d p) : ∃ z, Ts W v z := by
  obtain ⟨a, len, cap, rfl⟩ := okWide_slice Try.underlying22 hv
  obtain ⟨fuel, hfu⟩ := h
  exact cell_Ts hfu
theorem in_Producer {H : Type} {enc : TypeId × Value → H} {W : World} {held : Bool} {r : Reach} {b0 : Nat} {v : Value} {d : DataW H} {p : List MemPlace}
    (hv : Value.okWide Try.prog W r b0 61 v) (h : DataW.Trod enc Try.prog W 0 (fun _ => true) held 61 v d p) : ∃ t : Trm, v = .agg #[.int .i64 t.num, .int .i64 t.first, .int .i64 t.third] := by
  obtain ⟨cs, rfl, hsz⟩ := okWide_struct Try.underlying61 hv
  obtain ⟨fuel, hfu⟩ := h
  obtain ⟨cs⟩ := cs
  have hfu' : DataW.trod enc Try.prog W 0 (fun _ => true) held fuel 61 cs = some (d, p) := hfu
  obtain ⟨t, rfl⟩ := term_cells hfu'
  exact ⟨t, rfl⟩
theorem below_row {w w' x : World} {base : Nat} {v : Value} {ts : List Trm} (h : Below w.heap.size w w') (own : OwnT w' base v ts) (hb : w.heap.size ≤ base) (hg : w'.grownBy x v.ownBlock) : Below w.heap.size w x :=
  h.grown hg h.size fun k hk => Nat.le_trans hb (own.lt k hk).1
theorem apart_row {w1 w2 : World} {b1 b2 : Nat} {v u : Value} {ts ss : List Trm} (h : OwnT w1 b1 v ts) (g : OwnT w2 b2 u ss) (hb : w1.heap.size ≤ b2) : v.ownBlock = none ∨ v.ownBlock ≠ u.ownBlock := by
  cases e : v.ownBlock with
  | none => exact .inl rfl
  | some q => exact .inr fun e2 => by have h1 := (h.lt q e).2; have h2 := (g.lt q e2.symm).1; omega
theorem apart_row' {w1 w2 : World} {b1 b2 : Nat} {v u : Value} {ts ss : List Trm} (h : OwnT w1 b1 v ts) (g : OwnT w2 b2 u ss) (hb : w1.heap.size ≤ b2) : u.ownBlock = none ∨ u.ownBlock ≠ v.ownBlock := by
  cases e : u.ownBlock with
  | none => exact .inl rfl
  | some q => exact .inr fun e2 => by have h1 := (h.lt q e2.symm).2; have h2 := (g.lt q e).1; omega
end Go.Proofs.Ytlppnhkgadcgdaa
