/- Plain facts about worlds, slices of numbers and numbers that every walk of this seat uses. -/
import Derived.WalkKit
import Derived.ProofKit
import Derived.OpenShut
import Derived.Handy
import Derived.Outline
import Derived.Lib.Hide
import Derived.WalkLawsBesides
import Derived.WalkSpells
import Derived.BigGuardPart
namespace Go.Proofs.Ytfapeppocfodpaa
open Go.ChangeShapes Go.WideShapes Go.ChangeAt Go.RowKit

theorem i64_range {a : Int} (h : (Lit.int .i64 a).wf = true) : -9223372036854775808 ≤ a ∧ a ≤ 9223372036854775807 := by
  simpa [Lit.wf, IntKind.min, IntKind.max, IntKind.signed, IntKind.bits] using h

/-- an int in its range -/
def I64 (a : Int) : Prop := -9223372036854775808 ≤ a ∧ a ≤ 9223372036854775807

theorem ret_int {k : IntKind} {a b : Int} (h : a = b) : Ending.returned (.int k a) = .returned (.int k b) := by rw [h]
theorem ret_bool {a b : Bool} (h : a = b) : Ending.returned (.bool a) = .returned (.bool b) := by rw [h]

theorem wraps_i64 (n : Int) (h₀ : 0 ≤ n) (h₁ : n < 2 ^ 62) : IntKind.i64.wrap n = n := by rw [IntKind.wrap_i64]; omega
theorem and127 (x : Int) (h0 : 0 ≤ x) (h1 : x < 4611686018427387904) : bits .and .i64 x 127 = x % 128 := bits_mask .i64 62 (by decide) wraps_i64 7 (by decide) x h0 (by omega)
theorem and1 (x : Int) (h0 : 0 ≤ x) (h1 : x < 4611686018427387904) : bits .and .i64 x 1 = x % 2 := bits_mask .i64 62 (by decide) wraps_i64 1 (by decide) x h0 (by omega)
theorem and255 (x : Int) (h0 : 0 ≤ x) (h1 : x < 4611686018427387904) : bits .and .i64 x 255 = x % 256 := bits_mask .i64 62 (by decide) wraps_i64 8 (by decide) x h0 (by omega)
theorem or_nat (x y : Nat) (hx : x < 4611686018427387904) (hy : y < 4611686018427387904) : bits .or .i64 (x : Int) (y : Int) = ((x ||| y : Nat) : Int) := (bits_nat .i64 62 (by decide) wraps_i64 x y (by omega) (by omega)).2
theorem or_small (i : Nat) (x y : Int) (hi : i ≤ 62) (hx : 0 ≤ x) (hx1 : x < 2 ^ i) (hy : 0 ≤ y) (hy1 : y < 4611686018427387904) (hd : y % 2 ^ i = 0) : bits .or .i64 x y = x + y := by
  obtain ⟨a, rfl⟩ := Int.eq_ofNat_of_zero_le hx
  obtain ⟨b, rfl⟩ := Int.eq_ofNat_of_zero_le hy
  have ha : a < 2 ^ i := by exact_mod_cast hx1
  have hp : 2 ^ i ≤ 2 ^ 62 := Nat.pow_le_pow_right (by decide) hi
  have ha' : a < 4611686018427387904 := by omega
  have h := bits_join .i64 62 (by decide) wraps_i64 i (b : Int) (a : Int) hy hd (by omega) hx hx1 (by omega)
  rw [or_nat b a (by omega) ha'] at h
  rw [or_nat a b ha' (by omega), Nat.or_comm, h]; omega

/-- v is a slice of the numbers xs, as the world w has it. -/
def Ints (w : World) (v : Value) (xs : List Int) : Prop :=
  ∃ a cap, v = .slice a xs.length cap ∧ xs.length ≤ cap ∧ cap ≤ maxLen ∧
    (0 < xs.length → ∃ b off, a = some ⟨b, off, none⟩ ∧ ∀ i, i < xs.length → w.cell? ⟨b, off + i, none⟩ = some (.int .i64 (xs.getD i 0)))

/-- v is a slice that the call itself made (its row from block 'base' on) and holds xs. -/
def Own (w : World) (base : Nat) (v : Value) (xs : List Int) : Prop := w.ownsRow base 3 1 v xs.length (xs.map (Value.int .i64))

theorem Own.lt {w : World} {base : Nat} {v : Value} {xs : List Int} (h : Own w base v xs) : ∀ k, v.ownBlock = some k → base ≤ k := fun k hk => (World.ownsRow.lt h k hk).1
theorem Own.ints {w : World} {base : Nat} {v : Value} {xs : List Int} (h : Own w base v xs) : Ints w v xs := by
  rcases h.2 with ⟨rfl, h0⟩ | ⟨g, cap, cur, rfl, hb, hg, hl, hm, hs, ht⟩
  · exact ⟨none, 0, by rw [h0], by omega, by simp, fun h => by omega⟩
  · refine ⟨_, cap, rfl, hl, hm, fun _ => ⟨g, 0, rfl, fun i hi => ?_⟩⟩
    have hc := World.ownsRow.cellAt h i (by omega)
    rw [Nat.zero_add, hc]
    simp [List.getD, hi]

theorem Ints.keep {w w' : World} {v : Value} {xs : List Int} (h : Ints w v xs) (hb : ∀ b, v.ownBlock = some b → b < w.heap.size → w'.heap[b]? = w.heap[b]?) : Ints w' v xs := by
  obtain ⟨a, cap, rfl, hl, hm, hc⟩ := h
  refine ⟨a, cap, rfl, hl, hm, fun h0 => ?_⟩
  obtain ⟨b, off, rfl, hcell⟩ := hc h0
  refine ⟨b, off, rfl, fun i hi => ?_⟩
  rw [← hcell i hi]
  exact World.cell?_of_block (hb b rfl (World.block_lt_of_cell? (a := ⟨b, off + 0, none⟩) w (hcell 0 h0)))

theorem Ints.below {w w' : World} {v : Value} {xs : List Int} (h : Ints w v xs) (hb : Below w.heap.size w w') : Ints w' v xs :=
  h.keep fun b _ hlt => hb.block b hlt

theorem Own.grown {w w' : World} {base : Nat} {v : Value} {xs : List Int} {row : Option Nat} (h : Own w base v xs) (hg : w.grownBy w' row) (hne : v.ownBlock = none ∨ v.ownBlock ≠ row) : Own w' base v xs :=
  World.ownsRow.kept h hg hne

theorem Own.below {w w' : World} {base : Nat} {v : Value} {xs : List Int} (h : Own w base v xs) (hb : Below w.heap.size w w') : Own w' base v xs :=
  World.ownsRow.kept (row := none) h ⟨hb.os, hb.tape, hb.output, hb.size, fun k hk _ => hb.block k hk⟩ (by cases v.ownBlock <;> simp)

theorem Bstep {w a b : World} (h : Below w.heap.size w a) (k : Below a.heap.size a b) : Below w.heap.size w b := h.trans (k.mono h.size)
theorem Bgrow {w a b : World} {base : Nat} {v : Value} {xs : List Int} (h : Below w.heap.size w a) (own : Own a base v xs) (hb : w.heap.size ≤ base) (hg : a.grownBy b v.ownBlock) : Below w.heap.size w b :=
  h.grown hg h.size fun k hk => Nat.le_trans hb (own.lt k hk)
theorem Own.lt2 {w : World} {base : Nat} {v : Value} {xs : List Int} (h : Own w base v xs) : ∀ k, v.ownBlock = some k → k < w.heap.size := fun k hk => (World.ownsRow.lt h k hk).2
theorem Ints.grown {w w' : World} {v : Value} {xs : List Int} {row : Option Nat} (h : Ints w v xs) (hg : w.grownBy w' row) (hne : ∀ k, row = some k → v.ownBlock ≠ some k) : Ints w' v xs :=
  h.keep fun b hb hlt => hg.block b hlt fun e => hne b e.symm hb
/-- two rows that were made one after the other lie apart -/
theorem Own.apart {w w' : World} {base : Nat} {v u : Value} {xs ys : List Int} (h : Own w base v xs) (g : Own w' w.heap.size u ys) : ∀ k, u.ownBlock = some k → v.ownBlock ≠ some k := fun k hk e => by
  have h1 := h.lt2 k e
  have h2 := g.lt k hk
  omega

/-- v is a slice of bytes, as it comes in -/
def U8s (w : World) (v : Value) (zs : List Int) : Prop :=
  ∃ a cap, v = .slice a zs.length cap ∧ zs.length ≤ cap ∧ cap ≤ maxLen ∧
    (0 < zs.length → ∃ b off, a = some ⟨b, off, none⟩ ∧ ∀ i, i < zs.length → w.cell? ⟨b, off + i, none⟩ = some (.int .u8 (zs.getD i 0))) ∧
    ∀ i, 0 ≤ zs.getD i 0 ∧ zs.getD i 0 ≤ 255
/-- v is a slice of numbers, as it comes in -/
def IntsIn (w : World) (v : Value) (zs : List Int) : Prop := Ints w v zs ∧ ∀ i, I64 (zs.getD i 0)

theorem getD_in (xs : List Int) (i : Nat) (h : i < xs.length) : xs.getD i 0 = xs[i] := by simp [h]
theorem getD_out (xs : List Int) (i : Nat) (h : xs.length ≤ i) : xs.getD i 0 = 0 := by simp [h]
theorem U8s.none (w : World) : U8s w (.slice .none 0 0) [] := ⟨.none, 0, rfl, by simp, by simp, fun h => by simp at h, fun i => by simp⟩
theorem IntsIn.none (w : World) : IntsIn w (.slice .none 0 0) [] := ⟨⟨.none, 0, rfl, by simp, by simp, fun h => by simp at h⟩, fun i => by simp [I64]⟩
theorem row_at {k : IntKind} {w : World} {x : Addr} {n cap : Nat} {zs : List Int} (hl : n ≤ cap) (hz : zs.length = cap) (hc : ∀ i, i < zs.length → w.cell? (x.add i) = some (.int k (zs.getD i 0))) (h0 : 0 < n) :
    ∃ b off, some x = some (⟨b, off, .none⟩ : Addr) ∧ ∀ i, i < n → w.cell? ⟨b, off + i, .none⟩ = some (.int k ((zs.take n).getD i 0)) := by
  obtain ⟨b, off, spot⟩ := x
  have hs : spot = Option.none := by simpa [Addr.add] using World.cell?_spot (hc 0 (by omega))
  subst hs
  refine ⟨b, off, rfl, fun i hi => ?_⟩
  have := hc i (by omega)
  rw [Addr.add_lit] at this
  rw [this]
  simp [List.getD, hi]
theorem U8s.of {w : World} {x : Addr} {n cap : Nat} {zs : List Int} (hl : n ≤ cap) (hm : cap ≤ maxLen) (hz : zs.length = cap) (hc : ∀ i, i < zs.length → w.cell? (x.add i) = some (.int .u8 (zs.getD i 0)))
    (hw : ∀ m ∈ zs, (Lit.int .u8 m).wf = true) : U8s w (.slice (some x) n cap) (zs.take n) := by
  have hn : (zs.take n).length = n := by rw [List.length_take]; omega
  refine ⟨some x, cap, by rw [hn], by omega, hm, fun h0 => ?_, fun i => ?_⟩
  · rw [hn] at h0 ⊢
    exact row_at hl hz hc h0
  · by_cases hi : i < (zs.take n).length
    · have hmem : (zs.take n)[i] ∈ zs := List.mem_of_mem_take (List.getElem_mem hi)
      have := hw _ hmem
      have hr : 0 ≤ (zs.take n)[i] ∧ (zs.take n)[i] ≤ 255 := by simpa [Lit.wf, IntKind.min, IntKind.max, IntKind.signed, IntKind.bits] using this
      rw [getD_in _ _ hi]
      exact hr
    · rw [getD_out _ _ (by omega)]
      simp
theorem IntsIn.of {w : World} {x : Addr} {n cap : Nat} {zs : List Int} (hl : n ≤ cap) (hm : cap ≤ maxLen) (hz : zs.length = cap) (hc : ∀ i, i < zs.length → w.cell? (x.add i) = some (.int .i64 (zs.getD i 0)))
    (hw : ∀ m ∈ zs, (Lit.int .i64 m).wf = true) : IntsIn w (.slice (some x) n cap) (zs.take n) := by
  have hn : (zs.take n).length = n := by rw [List.length_take]; omega
  refine ⟨⟨some x, cap, by rw [hn], by omega, hm, fun h0 => ?_⟩, fun i => ?_⟩
  · rw [hn] at h0 ⊢
    exact row_at hl hz hc h0
  · by_cases hi : i < (zs.take n).length
    · have hmem : (zs.take n)[i] ∈ zs := List.mem_of_mem_take (List.getElem_mem hi)
      rw [getD_in _ _ hi]
      exact i64_range (hw _ hmem)
    · rw [getD_out _ _ (by omega)]
      simp [I64]

/-- all numbers are bytes -/
def okBs (xs : List Int) : Bool := xs.all fun n => decide (0 ≤ n) && decide (n ≤ 255)
theorem okBs_false {xs : List Int} {k : Nat} {x : Int} (hk : k < xs.length) (hx : xs.getD k 0 = x) (h : x < 0 ∨ 255 < x) : okBs xs = false := by
  have hm : x ∈ xs := by rw [← hx]; simp [List.getD, hk]
  unfold okBs
  rw [List.all_eq_false]
  exact ⟨x, hm, by simp; omega⟩
theorem okBs_true {xs : List Int} (h : ∀ i, i < xs.length → 0 ≤ xs.getD i 0 ∧ xs.getD i 0 ≤ 255) : okBs xs = true := by
  unfold okBs
  rw [List.all_eq_true]
  intro x hx
  obtain ⟨i, hi, rfl⟩ := List.getElem_of_mem hx
  have := h i hi
  simp [List.getD, hi] at this
  simp; exact this
theorem okBs_at {xs : List Int} (h : okBs xs = true) (i : Nat) (hi : i < xs.length) : 0 ≤ xs.getD i 0 ∧ xs.getD i 0 ≤ 255 := by
  unfold okBs at h
  rw [List.all_eq_true] at h
  have := h (xs[i]) (List.getElem_mem hi)
  simp at this
  simp [List.getD, hi]; exact this
end Go.Proofs.Ytfapeppocfodpaa
