/- Rows of batches in memory. -/
import Derived.Test.YtcajbipgecdfeaaPL
import Derived.Test.YtcajbipgecdfeaaR5
import Derived.Test.YtcajbipgecdfeaaW5b
namespace Go.Proofs.Ytcajbipgecdfeaa
open Go.ChangeShapes Go.WideShapes Go.ChangeAt Go.RowKit
set_option linter.unusedVariables false

/-- six cells from a place on hold a batch -/
def BatC (w : World) (b q : Nat) (x : Bat) (rv : Value) : Prop :=
  w.cell? ⟨b, q, none⟩ = some (.bool x.packed) ∧ w.cell? ⟨b, q + 1, none⟩ = some (.bool x.mark) ∧ w.cell? ⟨b, q + 2, none⟩ = some (.int .i64 x.prod) ∧ w.cell? ⟨b, q + 3, none⟩ = some (.int .i64 x.epoch) ∧
    w.cell? ⟨b, q + 4, none⟩ = some (.int .i64 x.seq) ∧ w.cell? ⟨b, q + 5, none⟩ = some rv ∧ Recs w rv x.recs
theorem BatC.lt {w : World} {b q : Nat} {x : Bat} {rv : Value} (h : BatC w b q x rv) : b < w.heap.size := World.block_lt_of_cell? (a := ⟨b, q, none⟩) w h.1
theorem BatC.keep {w w' : World} {b q : Nat} {x : Bat} {rv : Value} (h : BatC w b q x rv) (hb : w'.heap[b]? = w.heap[b]?) (hr : Recs w' rv x.recs) : BatC w' b q x rv := by
  obtain ⟨h0, h1, h2, h3, h4, h5, _⟩ := h
  have k : ∀ i, w'.cell? ⟨b, i, none⟩ = w.cell? ⟨b, i, none⟩ := fun i => World.cell?_of_block hb
  exact ⟨(k _).trans h0, (k _).trans h1, (k _).trans h2, (k _).trans h3, (k _).trans h4, (k _).trans h5, hr⟩
theorem BatC.below {w w' : World} {b q : Nat} {x : Bat} {rv : Value} (h : BatC w b q x rv) (hb : Below w.heap.size w w') : BatC w' b q x rv :=
  h.keep (hb.block b h.lt) (h.2.2.2.2.2.2.below hb)
theorem BatC.batV {w : World} {b q : Nat} {x : Bat} {rv : Value} (h : BatC w b q x rv) : BatV w (.agg #[.bool x.packed, .bool x.mark, .int .i64 x.prod, .int .i64 x.epoch, .int .i64 x.seq, rv]) x := ⟨rv, rfl, h.2.2.2.2.2.2⟩

/-- v is a slice of the batches bs, as the world w has it -/
def Bats (w : World) (v : Value) (bs : List Bat) : Prop :=
  ∃ a cap, v = .slice a bs.length cap ∧ bs.length ≤ cap ∧ cap ≤ maxLen ∧
    (0 < bs.length → ∃ b off, a = some ⟨b, off, none⟩ ∧ ∀ i, i < bs.length → ∃ rv, BatC w b (off + i * 6) (batN bs i) rv)
theorem Bats.below {w w' : World} {v : Value} {bs : List Bat} (h : Bats w v bs) (hb : Below w.heap.size w w') : Bats w' v bs := by
  obtain ⟨a, cap, rfl, hl, hm, hc⟩ := h
  refine ⟨a, cap, rfl, hl, hm, fun h0 => ?_⟩
  obtain ⟨b, off, rfl, hcell⟩ := hc h0
  refine ⟨b, off, rfl, fun i hi => ?_⟩
  obtain ⟨rv, hr⟩ := hcell i hi
  exact ⟨rv, hr.below hb⟩
theorem Bats.none (w : World) : Bats w (.slice .none 0 0) [] := ⟨.none, 0, rfl, by simp, by simp, fun h => by simp at h⟩
theorem Bats.take {w : World} {a : Option Addr} {n cap : Nat} {bs : List Bat} (h : Bats w (.slice a n cap) bs) (k : Nat) (hk : k ≤ n) : Bats w (.slice a k cap) (bs.take k) := by
  obtain ⟨a', cap', e, hl, hm, hc⟩ := h
  simp only [Value.slice.injEq] at e
  obtain ⟨rfl, rfl, rfl⟩ := e
  refine ⟨a, cap, by rw [List.length_take, Nat.min_eq_left hk], by rw [List.length_take]; omega, hm, fun h0 => ?_⟩
  rw [List.length_take] at h0
  obtain ⟨b, off, rfl, hcell⟩ := hc (by omega)
  refine ⟨b, off, rfl, fun i hi => ?_⟩
  rw [List.length_take] at hi
  rw [batN_take (by omega)]
  exact hcell i (by omega)
theorem Bats.form {w : World} {v : Value} {bs : List Bat} (h : Bats w v bs) (h0 : 0 < bs.length) : ∃ b off cap, v = .slice (some ⟨b, off, .none⟩) bs.length cap ∧ cap ≤ maxLen := by
  obtain ⟨a, cap, rfl, hl, hm, hc⟩ := h
  obtain ⟨b, off, rfl, _⟩ := hc h0
  exact ⟨b, off, cap, rfl, hm⟩
/-- a batch of a row, taken apart -/
theorem Bats.parts {w : World} {b off n cap : Nat} {bs : List Bat} (h : Bats w (.slice (some ⟨b, off, .none⟩) n cap) bs) (i : Nat) (hi : i < bs.length) :
    ∃ (x : Bat) (a1 : Option Addr) (c1 : Nat), Hid (batN bs i = x) ∧ BatC w b (off + i * 6) x (.slice a1 x.recs.length c1) := by
  obtain ⟨a', cap', e, _, _, hc⟩ := h
  simp only [Value.slice.injEq] at e
  obtain ⟨rfl, rfl, rfl⟩ := e
  obtain ⟨b', off', e, hcell⟩ := hc (by omega)
  simp only [Option.some.injEq, Addr.mk.injEq, and_true] at e
  obtain ⟨rfl, rfl⟩ := e
  obtain ⟨rv, hR⟩ := hcell i hi
  obtain ⟨a1, c1, rfl, _⟩ := id hR.2.2.2.2.2.2
  exact ⟨_, a1, c1, Lib.hid rfl, hR⟩
end Go.Proofs.Ytcajbipgecdfeaa
