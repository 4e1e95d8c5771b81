/- The helpers of the laws on producers: rows are the same; they are copied, marked, and held against their marks. -/
import Derived.Test.YtfapeppocfodpaaT12
import Derived.Laws.StructEq
import Derived.Deep.QuietTactic
import Derived.BigQuiet
import Derived.Deep.RegionHeld3
import Derived.Deep.Cut
namespace Go.Proofs.Ytfapeppocfodpaa
open Go.ChangeShapes Go.WideShapes Go.ChangeAt Go.RowKit
set_option linter.unusedVariables false

theorem grown_trans' {a b c : World} {row : Option Nat} (h : a.grownBy b row) (k : b.grownBy c row) : a.grownBy c row :=
  ⟨k.os.trans h.os, k.tape.trans h.tape, k.output.trans h.output, Nat.le_trans h.size k.size, fun i hi hne => (k.block i (Nat.lt_of_lt_of_le hi h.size) hne).trans (h.block i hi hne)⟩
theorem laws_eqProducer (a b c : Int) (w : World) : Calls Try.prog 34 #[.agg #[.int .i64 a, .int .i64 b, .int .i64 c], .agg #[.int .i64 a, .int .i64 b, .int .i64 c]] w (Same w true) := by
  have q1 : (a != a) = false := by simp
  have q2 : (b != b) = false := by simp
  have q3 : (c != c) = false := by simp
  have bA := alloc_below' w (.cells #[.int .i64 a, .int .i64 b, .int .i64 c] 61)
  have bB := Bstep bA (alloc_below' _ (.cells #[.int .i64 a, .int .i64 b, .int .i64 c] 61))
  go_enter Try.func34, Try.ntmps34
  go_wp2_with fail
  go_ret
  exact ⟨rfl, bB⟩
/-- the cells of two producers -/
def TwoT (W : World) (b p b' p' : Nat) (t : Trm) : Prop := W.cell? ⟨b, p, none⟩ = some (.int .i64 t.num) ∧ W.cell? ⟨b, p + 1, none⟩ = some (.int .i64 t.first) ∧ W.cell? ⟨b, p + 2, none⟩ = some (.int .i64 t.third) ∧ W.cell? ⟨b', p', none⟩ = some (.int .i64 t.num) ∧ W.cell? ⟨b', p' + 1, none⟩ = some (.int .i64 t.first) ∧ W.cell? ⟨b', p' + 2, none⟩ = some (.int .i64 t.third)
theorem laws_eqProducerS (v u : Value) (ts : List Trm) (w : World) (h : Ts w v ts) (g : Ts w u ts) : Calls Try.prog 12 #[v, u] w (Same w true) := by
  have hv := h
  have hu := g
  obtain ⟨a, cap, rfl, hl, hm, hc⟩ := h
  obtain ⟨a', cap', rfl, hl', hm', hc'⟩ := g
  unfold maxLen at hm hm'
  clear hc hc'
  have q0 : ((ts.length : Int) != (ts.length : Int)) = false := by simp
  go_enter Try.func12, Try.ntmps12
  go_wp2_with fail
  go_loopw [5] (fun i wr => ∃ k : Nat, k ≤ ts.length ∧ i = .int .i64 k ∧ Below w.heap.size w wr) (fun i _ => ts.length - (intOf i).toNat)
  case atStart => exact ⟨0, Nat.zero_le _, rfl, Below.refl _ _⟩
  case round =>
    obtain ⟨k, hk, rfl, bel⟩ := hrel
    by_cases hlt : k < ts.length
    · obtain ⟨b, off, cp, e, _, _, hcell⟩ := (hv.below bel).form (by omega)
      simp only [Value.slice.injEq, true_and] at e
      obtain ⟨rfl, rfl⟩ := e
      obtain ⟨b', off', cp', e, _, _, hcell'⟩ := (hu.below bel).form (by omega)
      simp only [Value.slice.injEq, true_and] at e
      obtain ⟨rfl, rfl⟩ := e
      obtain ⟨x0, x1, x2⟩ := hcell k hlt
      obtain ⟨y0, y1, y2⟩ := hcell' k hlt
      obtain ⟨t, Ht⟩ : ∃ t, Hid (tAt ts k = t) := ⟨_, Lib.hid rfl⟩
      rw [Ht.out] at x0 x1 x2 y0 y1 y2
      have HS : Hid (∀ W, Below wr.heap.size wr W → TwoT W b (off + k * 3) b' (off' + k * 3) t) := Lib.hid fun W hW =>
        ⟨(hW.cell (World.block_lt_of_cell? _ _ x0)).trans x0, (hW.cell (World.block_lt_of_cell? _ _ x1)).trans x1, (hW.cell (World.block_lt_of_cell? _ _ x2)).trans x2, (hW.cell (World.block_lt_of_cell? _ _ y0)).trans y0, (hW.cell (World.block_lt_of_cell? _ _ y1)).trans y1, (hW.cell (World.block_lt_of_cell? _ _ y2)).trans y2⟩
      have bdr : Below wr.heap.size wr wr.drew := below_drewN (Below.refl _ _) 1
      have S1 := HS.out wr.drew bdr
      have D1 : Hid (Calls Try.prog 34 #[.agg #[.int .i64 t.num, .int .i64 t.first, .int .i64 t.third], .agg #[.int .i64 t.num, .int .i64 t.first, .int .i64 t.third]] wr.drew (Same wr.drew true)) := Lib.hid (laws_eqProducer t.num t.first t.third wr.drew)
      clear hcell hcell' x0 x1 x2 y0 y1 y2 Ht
      go_upto_region 6 with (fail)
      unfold TwoT at S1
      go_region_held3 (fun W => W.cell? ⟨b, off + k * 3, none⟩ = some (.int .i64 t.num) ∧ W.cell? ⟨b, off + k * 3 + 1, none⟩ = some (.int .i64 t.first) ∧ W.cell? ⟨b, off + k * 3 + 2, none⟩ = some (.int .i64 t.third) ∧ W.cell? ⟨b', off' + k * 3, none⟩ = some (.int .i64 t.num) ∧ W.cell? ⟨b', off' + k * 3 + 1, none⟩ = some (.int .i64 t.first) ∧ W.cell? ⟨b', off' + k * 3 + 2, none⟩ = some (.int .i64 t.third)) (first | with_reducible exact S1 | exact HS.out _ (Bstep bdr b8) | go_keep)
        (first | (go_at_call 34; ((with_reducible refine D1.out.mono ?_); rintro e w8 ⟨rfl, b8⟩)))
      have B8 := Bstep bel (Bstep bdr b8)
      go_wp2_with fail
      go_roundw
      case rel => exact ⟨k + 1, by omega, by go_num, B8⟩
      case measure => simp [intOf]; omega
    · go_wp2_with fail
      go_ret
      exact ⟨rfl, bel⟩
end Go.Proofs.Ytfapeppocfodpaa
