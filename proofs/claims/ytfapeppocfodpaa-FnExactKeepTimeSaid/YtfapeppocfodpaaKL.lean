/- Chapter 12: the exact law of a segment's test. -/
import Derived.Test.YtfapeppocfodpaaWXL
import Derived.Test.YtfapeppocfodpaaLLX
import Derived.Test.YtfapeppocfodpaaK5
namespace Go.Proofs.Ytfapeppocfodpaa
open Go.ChangeShapes Go.WideShapes Go.ChangeAt Go.RowKit
set_option linter.unusedVariables false

set_option maxRecDepth 100000 in
/-- the cells of a batch that comes in -/
theorem bat_cells {H : Type} {enc : TypeId × Value → H} {W : World} {held : Bool} {n : Nat} {cs : List Value} {y : DataW H × List MemPlace} (h : DataW.trod enc Try.prog W 0 (fun _ => true) held n 50 cs = some y) :
    ∃ (x : Bat) (rv : Value), cs = [.bool x.packed, .bool x.mark, .int .i64 x.prod, .int .i64 x.epoch, .int .i64 x.seq, rv] ∧ Recs W rv x.recs := by
  obtain ⟨hlen, m, hf⟩ := fields_of Try.underlying50 (by kernel_rfl) (by kernel_rfl) h
  match cs, hlen with
  | [c0, c1, c2, c3, c4, c5], _ =>
    obtain ⟨_, y0, e0, h0⟩ := hf 0 _ rfl
    obtain ⟨_, y1, e1, h1⟩ := hf 1 _ rfl
    obtain ⟨_, y2, e2, h2⟩ := hf 2 _ rfl
    obtain ⟨_, y3, e3, h3⟩ := hf 3 _ rfl
    obtain ⟨_, y4, e4, h4⟩ := hf 4 _ rfl
    obtain ⟨_, y5, e5, h5⟩ := hf 5 _ rfl
    cases e0
    cases e1
    cases e2
    cases e3
    cases e4
    cases e5
    obtain ⟨n0, f0, _⟩ := DataW.trod_bool Try.underlying4 h0
    obtain ⟨n1, f1, _⟩ := DataW.trod_bool Try.underlying4 h1
    obtain ⟨n2, f2, _, r2⟩ := DataW.trod_int Try.underlying3 h2
    obtain ⟨n3, f3, _, r3⟩ := DataW.trod_int Try.underlying3 h3
    obtain ⟨n4, f4, _, r4⟩ := DataW.trod_int Try.underlying3 h4
    obtain ⟨z5, i5⟩ := cell_Recs h5
    cases f0
    cases f1
    cases f2
    cases f3
    cases f4
    exact ⟨⟨n0, n1, n2, n3, n4, z5⟩, _, rfl, i5⟩
theorem cell_Bats {H : Type} {enc : TypeId × Value → H} {W : World} {held : Bool} {n : Nat} {c : Value} {y : DataW H × List MemPlace} (h : DataW.trod enc Try.prog W 0 (fun _ => true) held n 22 [c] = some y) : ∃ bs, Bats W c bs := by
  rcases Go.Deep.open_slice Try.underlying22 h with ⟨hcs, _⟩ | ⟨a, len, cap, m, k, D, Pl, hcs, _, hl, hm, hmm, _, hi⟩
  · simp only [List.cons.injEq, and_true] at hcs
    subst hcs
    exact ⟨[], Bats.none W⟩
  · simp only [List.cons.injEq, and_true] at hcs
    subst hcs
    have hC : Try.prog.cellsOf 50 = 6 := by kernel_rfl
    rw [hC] at hi
    have hex : ∀ i, i < len → ∃ r : Bat, ∃ rv, ∀ j v, [Value.bool r.packed, .bool r.mark, .int .i64 r.prod, .int .i64 r.epoch, .int .i64 r.seq, rv][j]? = some v → W.cell? ((a.add (i * 6)).add j) = some v ∧ Recs W rv r.recs := fun i hil => by
      obtain ⟨cs', hc, ht'⟩ := hi i (by rw [hmm]; simp; omega)
      obtain ⟨_, hlen, hat⟩ := World.cells?_some hc
      obtain ⟨r, rv, rfl, i1⟩ := bat_cells ht'
      refine ⟨r, rv, fun j v hj => ⟨?_, i1⟩⟩
      have hjl : j < 6 := by
        have := (List.getElem?_eq_some_iff.1 hj).1
        simpa using this
      rw [hat j hjl, hj]
    by_cases h0 : len = 0
    · subst h0
      exact ⟨[], ⟨some a, cap, rfl, by simp, hm, fun h => by simp at h⟩⟩
    · have : Inhabited Bat := ⟨Bat.zero⟩
      obtain ⟨f, hf⟩ := Go.Deep.choose_lt hex
      obtain ⟨b, off, spot⟩ := a
      have hs : spot = none := by
        obtain ⟨rv, hj⟩ := hf 0 (by omega)
        have := (hj 0 _ rfl).1
        simpa [Addr.add] using World.cell?_spot this
      subst hs
      refine ⟨(List.range len).map f, ⟨_, cap, by simp, by simpa using hl, hm, fun _ => ⟨b, off, rfl, fun i hil => ?_⟩⟩⟩
      have hil' : i < len := by simpa using hil
      have er : batN ((List.range len).map f) i = f i := by
        rw [batN_in hil]
        simp
      rw [er]
      obtain ⟨rv, hj⟩ := hf i hil'
      refine ⟨rv, ?_⟩
      have q : ∀ j v, [Value.bool (f i).packed, .bool (f i).mark, .int .i64 (f i).prod, .int .i64 (f i).epoch, .int .i64 (f i).seq, rv][j]? = some v → W.cell? ⟨b, off + i * 6 + j, none⟩ = some v := fun j v h => by
        have := (hj j v h).1
        rwa [Addr.add_lit, Addr.add_lit] at this
      exact ⟨q 0 _ rfl, q 1 _ rfl, q 2 _ rfl, q 3 _ rfl, q 4 _ rfl, q 5 _ rfl, (hj 0 _ rfl).2⟩
set_option maxRecDepth 100000 in
/-- batches as they come in -/
theorem in_SBatch {H : Type} {enc : TypeId × Value → H} {W : World} {held : Bool} {r : Reach} {b0 : Nat} {v : Value} {d : DataW H} {p : List MemPlace}
    (hv : Value.okWide Try.prog W r b0 22 v) (h : DataW.Trod enc Try.prog W 0 (fun _ => true) held 22 v d p) : ∃ z, Bats W v z := by
  obtain ⟨a, len, cap, rfl⟩ := okWide_slice Try.underlying22 hv
  obtain ⟨fuel, hfu⟩ := h
  exact cell_Bats hfu
end Go.Proofs.Ytfapeppocfodpaa
