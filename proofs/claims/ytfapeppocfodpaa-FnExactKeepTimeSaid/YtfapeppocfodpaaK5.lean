/- Chapter 5: the exact laws of a batch's test and span. -/
import Derived.Test.YtfapeppocfodpaaLX5
import Derived.Deep.Fields
import Derived.Deep.Slices
import Derived.ChangeSame
import Derived.ChangeArms
import Derived.ChangeSlices
namespace Go.Proofs.Ytfapeppocfodpaa
open Go.ChangeShapes Go.WideShapes Go.ChangeAt Go.RowKit
set_option linter.unusedVariables false

section
variable {H : Type} {enc : TypeId × Value → H} {P : Program} {w : World} {base : Nat} {spare : Nat → Bool} {held : Bool}
/-- a struct of one-cell fields, field by field, out of its cells -/
theorem fields_of {t : TypeId} {fs : Array Field} {cs : List Value} {fuel : Nat} {x : DataW H × List MemPlace} (hs : P.underlying t = some (.struct fs)) (hone : Go.Deep.oneCellFields P fs = true) (hC : P.cellsOf t = fs.size)
    (h : DataW.trod enc P w base spare held fuel t cs = some x) : cs.length = fs.size ∧ ∃ n, ∀ (j : Nat) (f : Field), fs[j]? = some f → ∃ c y, cs[j]? = some c ∧ DataW.trod enc P w base spare held n f.type [c] = some y := by
  obtain ⟨xs, n, _, _, hcl, hlen, hg⟩ := DataW.trod_struct hs h
  refine ⟨hcl.trans hC, n, fun j f hj => ?_⟩
  have hjl : j < fs.size := (Array.getElem?_eq_some_iff.1 hj).1
  have hjc : j < cs.length := by omega
  obtain ⟨o, k⟩ := Go.Deep.hone_of hone j f hj
  have h1 := hg j f hj
  rw [o, k, List.drop_eq_getElem_cons hjc] at h1
  exact ⟨cs[j], _, List.getElem?_eq_getElem hjc, h1.trans (List.getElem?_eq_getElem (show j < xs.length by omega))⟩
end
theorem cell_Ints {H : Type} {enc : TypeId × Value → H} {W : World} {held : Bool} {n : Nat} {c : Value} {y : DataW H × List MemPlace} (hf : DataW.trod enc Try.prog W 0 (fun _ => true) held n 25 [c] = some y) : ∃ zs, IntsIn W c zs := by
  rcases open_ints Try.underlying25 Try.underlying3 (by kernel_rfl) hf with ⟨hcs, _⟩ | ⟨x, l, cp, zs, hcs, _, hl, hm, hz, _, hcell, hwz⟩
  · simp only [List.cons.injEq, and_true] at hcs
    subst hcs
    exact ⟨[], IntsIn.none W⟩
  · simp only [List.cons.injEq, and_true] at hcs
    subst hcs
    exact ⟨zs.take l, IntsIn.of hl hm (by simpa using hz) hcell hwz⟩
/-- the cells of a record that comes in -/
theorem rec_cells {H : Type} {enc : TypeId × Value → H} {W : World} {held : Bool} {n : Nat} {cs : List Value} {y : DataW H × List MemPlace} (h : DataW.trod enc Try.prog W 0 (fun _ => true) held n 93 cs = some y) :
    ∃ (r : Rec) (kv vv : Value), cs = [.int .i64 r.off, .int .i64 r.time, .bool r.hk, kv, .bool r.hv, vv] ∧ Ints W kv r.key ∧ Ints W vv r.val := by
  obtain ⟨hlen, m, hf⟩ := fields_of Try.underlying93 (by kernel_rfl) (by kernel_rfl) h
  match cs, hlen with
  | [c0, c1, c2, c3, c4, c5], _ =>
    obtain ⟨_, y0, e0, h0⟩ := hf 0 _ rfl
    obtain ⟨_, y1, e1, h1⟩ := hf 1 _ rfl
    obtain ⟨_, y2, e2, h2⟩ := hf 2 _ rfl
    obtain ⟨_, y3, e3, h3⟩ := hf 3 _ rfl
    obtain ⟨_, y4, e4, h4⟩ := hf 4 _ rfl
    obtain ⟨_, y5, e5, h5⟩ := hf 5 _ rfl
    cases e0
    cases e1
    cases e2
    cases e3
    cases e4
    cases e5
    obtain ⟨n0, f0, _, r0⟩ := DataW.trod_int Try.underlying3 h0
    obtain ⟨n1, f1, _, r1⟩ := DataW.trod_int Try.underlying3 h1
    obtain ⟨n2, f2, _⟩ := DataW.trod_bool Try.underlying4 h2
    obtain ⟨n4, f4, _⟩ := DataW.trod_bool Try.underlying4 h4
    obtain ⟨z3, i3⟩ := cell_Ints h3
    obtain ⟨z5, i5⟩ := cell_Ints h5
    cases f0
    cases f1
    cases f2
    cases f4
    exact ⟨⟨n0, n1, n2, z3, n4, z5⟩, _, _, rfl, i3.1, i5.1⟩
theorem cell_Recs {H : Type} {enc : TypeId × Value → H} {W : World} {held : Bool} {n : Nat} {c : Value} {y : DataW H × List MemPlace} (h : DataW.trod enc Try.prog W 0 (fun _ => true) held n 48 [c] = some y) : ∃ rs, Recs W c rs := by
  rcases Go.Deep.open_slice Try.underlying48 h with ⟨hcs, _⟩ | ⟨a, len, cap, m, k, D, Pl, hcs, _, hl, hm, hmm, _, hi⟩
  · simp only [List.cons.injEq, and_true] at hcs
    subst hcs
    exact ⟨[], Recs.none W⟩
  · simp only [List.cons.injEq, and_true] at hcs
    subst hcs
    have hC : Try.prog.cellsOf 93 = 6 := by kernel_rfl
    rw [hC] at hi
    have hex : ∀ i, i < len → ∃ r : Rec, ∃ kv vv, ∀ j v, [Value.int .i64 r.off, .int .i64 r.time, .bool r.hk, kv, .bool r.hv, vv][j]? = some v → W.cell? ((a.add (i * 6)).add j) = some v ∧ Ints W kv r.key ∧ Ints W vv r.val := fun i hil => by
      obtain ⟨cs', hc, ht'⟩ := hi i (by rw [hmm]; simp; omega)
      obtain ⟨_, hlen, hat⟩ := World.cells?_some hc
      obtain ⟨r, kv, vv, rfl, i1, i2⟩ := rec_cells ht'
      refine ⟨r, kv, vv, fun j v hj => ⟨?_, i1, i2⟩⟩
      have hjl : j < 6 := by
        have := (List.getElem?_eq_some_iff.1 hj).1
        simpa using this
      rw [hat j hjl, hj]
    by_cases h0 : len = 0
    · subst h0
      exact ⟨[], ⟨some a, cap, rfl, by simp, hm, fun h => by simp at h⟩⟩
    · have : Inhabited Rec := ⟨Rec.zero⟩
      obtain ⟨f, hf⟩ := Go.Deep.choose_lt hex
      obtain ⟨b, off, spot⟩ := a
      have hs : spot = none := by
        obtain ⟨kv, vv, hj⟩ := hf 0 (by omega)
        have := (hj 0 _ rfl).1
        simpa [Addr.add] using World.cell?_spot this
      subst hs
      refine ⟨(List.range len).map f, ⟨_, cap, by simp, by simpa using hl, hm, fun _ => ⟨b, off, rfl, fun i hil => ?_⟩⟩⟩
      have hil' : i < len := by simpa using hil
      have er : recAt ((List.range len).map f) i = f i := by
        rw [recAt_in hil]
        simp
      rw [er]
      obtain ⟨kv, vv, hj⟩ := hf i hil'
      refine ⟨kv, vv, ?_⟩
      have q : ∀ j v, [Value.int .i64 (f i).off, .int .i64 (f i).time, .bool (f i).hk, kv, .bool (f i).hv, vv][j]? = some v → W.cell? ⟨b, off + i * 6 + j, none⟩ = some v := fun j v h => by
        have := (hj j v h).1
        rwa [Addr.add_lit, Addr.add_lit] at this
      exact ⟨q 0 _ rfl, q 1 _ rfl, q 2 _ rfl, q 3 _ rfl, q 4 _ rfl, q 5 _ rfl, (hj 0 _ rfl).2.1, (hj 0 _ rfl).2.2⟩
set_option maxRecDepth 100000 in
/-- a batch as it comes in -/
theorem in_Batch {H : Type} {enc : TypeId × Value → H} {W : World} {held : Bool} {r : Reach} {b0 : Nat} {v : Value} {d : DataW H} {p : List MemPlace}
    (hv : Value.okWide Try.prog W r b0 50 v) (h : DataW.Trod enc Try.prog W 0 (fun _ => true) held 50 v d p) : ∃ z, BatV W v z := by
  obtain ⟨cs, rfl, hsz⟩ := okWide_struct Try.underlying50 hv
  obtain ⟨fuel, hfu⟩ := h
  obtain ⟨cs⟩ := cs
  have hfu' : DataW.trod enc Try.prog W 0 (fun _ => true) held fuel 50 cs = some (d, p) := hfu
  obtain ⟨hlen, m, hf⟩ := fields_of Try.underlying50 (by kernel_rfl) (by kernel_rfl) hfu'
  match cs, hlen with
  | [c0, c1, c2, c3, c4, c5], _ =>
    obtain ⟨_, y0, e0, h0⟩ := hf 0 _ rfl
    obtain ⟨_, y1, e1, h1⟩ := hf 1 _ rfl
    obtain ⟨_, y2, e2, h2⟩ := hf 2 _ rfl
    obtain ⟨_, y3, e3, h3⟩ := hf 3 _ rfl
    obtain ⟨_, y4, e4, h4⟩ := hf 4 _ rfl
    obtain ⟨_, y5, e5, h5⟩ := hf 5 _ rfl
    cases e0
    cases e1
    cases e2
    cases e3
    cases e4
    cases e5
    obtain ⟨n0, f0, _⟩ := DataW.trod_bool Try.underlying4 h0
    obtain ⟨n1, f1, _⟩ := DataW.trod_bool Try.underlying4 h1
    obtain ⟨n2, f2, _, r2⟩ := DataW.trod_int Try.underlying3 h2
    obtain ⟨n3, f3, _, r3⟩ := DataW.trod_int Try.underlying3 h3
    obtain ⟨n4, f4, _, r4⟩ := DataW.trod_int Try.underlying3 h4
    obtain ⟨z5, i5⟩ := cell_Recs h5
    cases f0
    cases f1
    cases f2
    cases f3
    cases f4
    exact ⟨⟨n0, n1, n2, n3, n4, z5⟩, _, rfl, i5⟩
/-- the cells of two boxes of batches, as the last comparison reads them -/
def TwoBats (W : World) (A X : Nat) (v0 v1 v2 v3 v4 r1 r2 : Value) : Prop :=
  W.cell? ⟨A, 0, none⟩ = some v0 ∧ W.cell? ⟨A, 1, none⟩ = some v1 ∧ W.cell? ⟨A, 2, none⟩ = some v2 ∧ W.cell? ⟨A, 3, none⟩ = some v3 ∧ W.cell? ⟨A, 4, none⟩ = some v4 ∧ W.cell? ⟨A, 5, none⟩ = some r1 ∧
  W.cell? ⟨X, 0, none⟩ = some v0 ∧ W.cell? ⟨X, 1, none⟩ = some v1 ∧ W.cell? ⟨X, 2, none⟩ = some v2 ∧ W.cell? ⟨X, 3, none⟩ = some v3 ∧ W.cell? ⟨X, 4, none⟩ = some v4 ∧ W.cell? ⟨X, 5, none⟩ = some r2
theorem two_bats {W : World} {A X : Nat} {v0 v1 v2 v3 v4 r1 r2 : Value} (h : Blk W A #[v0, v1, v2, v3, v4, r1]) (g : Blk W X #[v0, v1, v2, v3, v4, r2]) : TwoBats W A X v0 v1 v2 v3 v4 r1 r2 :=
  have a := h.sixC
  have b := g.sixC
  ⟨a.1, a.2.1, a.2.2.1, a.2.2.2.1, a.2.2.2.2.1, a.2.2.2.2.2, b⟩
end Go.Proofs.Ytfapeppocfodpaa
