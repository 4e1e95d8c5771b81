/- Rows of records in memory. -/
import Derived.Test.YtfapeppocfodpaaR0
import Derived.Test.YtfapeppocfodpaaPX3
import Derived.Test.YtfapeppocfodpaaB0
namespace Go.Proofs.Ytfapeppocfodpaa
open Go.ChangeShapes Go.WideShapes Go.ChangeAt Go.RowKit
set_option linter.unusedVariables false

/-- six cells from a place on hold a record -/
def RecC (w : World) (b q : Nat) (r : Rec) (kv vv : Value) : Prop :=
  w.cell? ⟨b, q, none⟩ = some (.int .i64 r.off) ∧ w.cell? ⟨b, q + 1, none⟩ = some (.int .i64 r.time) ∧ w.cell? ⟨b, q + 2, none⟩ = some (.bool r.hk) ∧ w.cell? ⟨b, q + 3, none⟩ = some kv ∧
    w.cell? ⟨b, q + 4, none⟩ = some (.bool r.hv) ∧ w.cell? ⟨b, q + 5, none⟩ = some vv ∧ Ints w kv r.key ∧ Ints w vv r.val
theorem RecC.lt {w : World} {b q : Nat} {r : Rec} {kv vv : Value} (h : RecC w b q r kv vv) : b < w.heap.size := World.block_lt_of_cell? (a := ⟨b, q, none⟩) w h.1
theorem RecC.keep {w w' : World} {b q : Nat} {r : Rec} {kv vv : Value} (h : RecC w b q r kv vv) (hb : w'.heap[b]? = w.heap[b]?) (hk : Ints w' kv r.key) (hv : Ints w' vv r.val) : RecC w' b q r kv vv := by
  obtain ⟨h0, h1, h2, h3, h4, h5, _, _⟩ := h
  have k : ∀ i, w'.cell? ⟨b, i, none⟩ = w.cell? ⟨b, i, none⟩ := fun i => World.cell?_of_block hb
  exact ⟨(k _).trans h0, (k _).trans h1, (k _).trans h2, (k _).trans h3, (k _).trans h4, (k _).trans h5, hk, hv⟩
theorem RecC.below {w w' : World} {b q : Nat} {r : Rec} {kv vv : Value} (h : RecC w b q r kv vv) (hb : Below w.heap.size w w') : RecC w' b q r kv vv :=
  h.keep (hb.block b h.lt) (h.2.2.2.2.2.2.1.below hb) (h.2.2.2.2.2.2.2.below hb)
theorem RecC.recV {w : World} {b q : Nat} {r : Rec} {kv vv : Value} (h : RecC w b q r kv vv) : RecV w (.agg #[.int .i64 r.off, .int .i64 r.time, .bool r.hk, kv, .bool r.hv, vv]) r := ⟨kv, vv, rfl, h.2.2.2.2.2.2.1, h.2.2.2.2.2.2.2⟩

/-- v is a slice of the records rs, as the world w has it -/
def Recs (w : World) (v : Value) (rs : List Rec) : Prop :=
  ∃ a cap, v = .slice a rs.length cap ∧ rs.length ≤ cap ∧ cap ≤ maxLen ∧
    (0 < rs.length → ∃ b off, a = some ⟨b, off, none⟩ ∧ ∀ i, i < rs.length → ∃ kv vv, RecC w b (off + i * 6) (recAt rs i) kv vv)
theorem Recs.below {w w' : World} {v : Value} {rs : List Rec} (h : Recs w v rs) (hb : Below w.heap.size w w') : Recs w' v rs := by
  obtain ⟨a, cap, rfl, hl, hm, hc⟩ := h
  refine ⟨a, cap, rfl, hl, hm, fun h0 => ?_⟩
  obtain ⟨b, off, rfl, hcell⟩ := hc h0
  refine ⟨b, off, rfl, fun i hi => ?_⟩
  obtain ⟨kv, vv, hr⟩ := hcell i hi
  exact ⟨kv, vv, hr.below hb⟩
theorem Recs.none (w : World) : Recs w (.slice .none 0 0) [] := ⟨.none, 0, rfl, by simp, by simp, fun h => by simp at h⟩
/-- the record of a row at a place -/
theorem Recs.rec {w : World} {b off n cap : Nat} {rs : List Rec} (h : Recs w (.slice (some ⟨b, off, .none⟩) n cap) rs) (i : Nat) (hi : i < rs.length) : ∃ kv vv, RecC w b (off + i * 6) (recAt rs i) kv vv := by
  obtain ⟨a', cap', e, _, _, hc⟩ := h
  simp only [Value.slice.injEq] at e
  obtain ⟨rfl, rfl, rfl⟩ := e
  obtain ⟨b', off', e, hcell⟩ := hc (by omega)
  simp only [Option.some.injEq, Addr.mk.injEq, and_true] at e
  obtain ⟨rfl, rfl⟩ := e
  exact hcell i hi
theorem Recs.form {w : World} {v : Value} {rs : List Rec} (h : Recs w v rs) (h0 : 0 < rs.length) : ∃ b off cap, v = .slice (some ⟨b, off, .none⟩) rs.length cap ∧ cap ≤ maxLen := by
  obtain ⟨a, cap, rfl, hl, hm, hc⟩ := h
  obtain ⟨b, off, rfl, _⟩ := hc h0
  exact ⟨b, off, cap, rfl, hm⟩

/-- v is a batch by value, its records in the world w -/
def BatV (w : World) (v : Value) (b : Bat) : Prop :=
  ∃ rv, v = .agg #[.bool b.packed, .bool b.mark, .int .i64 b.prod, .int .i64 b.epoch, .int .i64 b.seq, rv] ∧ Recs w rv b.recs
theorem BatV.below {w w' : World} {v : Value} {b : Bat} (h : BatV w v b) (hb : Below w.heap.size w w') : BatV w' v b := by
  obtain ⟨rv, rfl, h1⟩ := h
  exact ⟨rv, rfl, h1.below hb⟩
/-- numbers as a batch has them -/
def Bat.fits (b : Bat) : Prop := I64 b.prod ∧ I64 b.epoch ∧ I64 b.seq
end Go.Proofs.Ytfapeppocfodpaa
