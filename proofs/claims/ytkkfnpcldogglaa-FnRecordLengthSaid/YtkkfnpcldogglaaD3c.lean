/- Chapter 3: what the laws on records draw. -/
import Derived.Test.YtkkfnpcldogglaaD3b
import Derived.Deep.RegionHeld3
import Derived.Deep.RegionLaw
import Derived.Great.BuildSlice
namespace Go.Proofs.Ytkkfnpcldogglaa
open Go.ChangeShapes Go.WideShapes Go.ChangeAt Go.RowKit
set_option linter.unusedVariables false

/-- a record that a law draws -/
def DrawnRec (w : World) (e : Ending) (w' : World) : Prop :=
  ∃ (r : Rec) (v : Value), e = .returned v ∧ RecP w' w.heap.size v r ∧ -1 ≤ r.off ∧ r.off ≤ 100000 ∧ 0 ≤ r.time ∧ r.time ≤ 100000 ∧ r.key.length ≤ 13 ∧ r.val.length ≤ 13 ∧ Below w.heap.size w w'

/-- the zero box of a result: its cells, and that it may be written -/
theorem zbox (w : World) (t : TypeId) : Hid (∀ wn, Below (w.alloc (.cells #[.int .i64 0, .int .i64 0, .bool false, .slice none 0 0, .bool false, .slice none 0 0] t)).heap.size (w.alloc (.cells #[.int .i64 0, .int .i64 0, .bool false, .slice none 0 0, .bool false, .slice none 0 0] t)) wn →
    Box6 wn w.heap.size (.int .i64 0) (.int .i64 0) (.bool false) (.slice none 0 0) (.bool false) (.slice none 0 0) ∧ Thawed wn w.heap.size ∧ Below w.heap.size w wn) := fun wn hw =>
  ⟨(Box6.made w t (.int .i64 0) (.int .i64 0) (.bool false) (.slice none 0 0) (.bool false) (.slice none 0 0)).below (by simp) hw, (Thawed.made w #[.int .i64 0, .int .i64 0, .bool false, .slice none 0 0, .bool false, .slice none 0 0] t).below hw, Bstep (alloc_below' _ _) hw⟩

theorem spec_DrawRecordValid (v : Value) (zs : List Int) (w : World) (h : U8s w v zs) (hs : zs.length ≤ 1048576) :
    Calls Try.prog 28 #[v] w (DrawnRec w) := by
  have zf := zbox w 25
  have C1 := Lib.hid (spec_l6Open v zs _ (h.keep fun h0 b e hb => (alloc_below' w (.cells #[.int .i64 0, .int .i64 0, .bool false, .slice none 0 0, .bool false, .slice none 0 0] 25)).block b hb) hs)
  go_enter Try.func28, Try.ntmps28
  go_wp2_with fail
  refine C1.out.mono ?_
  rintro e w1 ⟨B, rfl, hB, hR, b1⟩
  go_wp2_with fail
  refine (spec_l91Record B 0 w1 hR (by omega)).mono ?_
  rintro e w2 ⟨⟨off, time, hk, key, hv, val⟩, u, rfl, ⟨kv, vv, rfl, ok, ov⟩, f1, f2, f3, f4, f5, f6, hR2, g2⟩
  simp only at ok ov f1 f2 f3 f4 f5 f6
  obtain ⟨a1, cap1, rfl, _, _, _⟩ := ok.ints
  obtain ⟨a2, cap2, rfl, _, _, _⟩ := ov.ints
  have hZ : w.heap.size < w1.heap.size := Nat.lt_of_lt_of_le (by simp) b1.size
  have b2 := below_of_grown b1 hB g2
  obtain ⟨z1, z2, B2⟩ := zf.out w2 b2
  obtain ⟨c0, c1, c2, c3, c4, c5⟩ := id z1
  have fz := z2.2
  go_wp2_with fail
  have box8 := Box6.store z1 (.int .i64 off) (.int .i64 time) (.bool hk) (.slice a1 key.length cap1) (.bool hv) (.slice a2 val.length cap2)
  have g8 := six_grown w2 w.heap.size (.int .i64 off) (.int .i64 time) (.bool hk) (.slice a1 key.length cap1) (.bool hv) (.slice a2 val.length cap2)
  have bel8 := bel_six B2 (Nat.le_refl _) (.int .i64 off) (.int .i64 time) (.bool hk) (.slice a1 key.length cap1) (.bool hv) (.slice a2 val.length cap2)
  generalize hW8 : ((((((w2.setCell ⟨w.heap.size, 0, none⟩ (.int .i64 off)).setCell ⟨w.heap.size, 1, none⟩ (.int .i64 time)).setCell ⟨w.heap.size, 2, none⟩ (.bool hk)).setCell ⟨w.heap.size, 3, none⟩ (.slice a1 key.length cap1)).setCell ⟨w.heap.size, 4, none⟩ (.bool hv)).setCell ⟨w.heap.size, 5, none⟩ (.slice a2 val.length cap2)) = W8 at box8 g8 bel8 ⊢
  have o1 := (ok.by hZ g8).base (Nat.le_of_lt hZ)
  have o2 := (ov.by hZ g8).base (Nat.le_of_lt hZ)
  clear c0 c1 c2 c3 c4 c5 fz hW8
  obtain ⟨c0, c1, c2, c3, c4, c5⟩ := box8
  refine bodyPost_ret (v := .agg #[.int .i64 off, .int .i64 time, .bool hk, .slice a1 key.length cap1, .bool hv, .slice a2 val.length cap2]) (by simp [results, Try.results28, go_sem, c0, c1, c2, c3, c4, c5]) rfl ?_
  exact ⟨⟨off, time, hk, key, hv, val⟩, _, rfl, ⟨_, _, rfl, o1, o2⟩, f1, f2, f3, f4, f5, f6, bel8⟩

/-- block b is the list -1, 99999, 100000 -/
def Lit3 (W : World) (b : Nat) : Prop :=
  W.cell? ⟨b, 0, none⟩ = some (.int .i64 (-1)) ∧ W.cell? ⟨b, 1, none⟩ = some (.int .i64 99999) ∧ W.cell? ⟨b, 2, none⟩ = some (.int .i64 100000)
def litv (k : Nat) : Int := if k = 0 then -1 else if k = 1 then 99999 else 100000
theorem litv_in (k : Nat) : -1 ≤ litv k ∧ litv k ≤ 100000 := by
  unfold litv
  split
  · omega
  · split <;> omega
theorem Lit3.at {W : World} {b : Nat} (h : Lit3 W b) {k : Nat} (hk : (k : Int) < 3) : W.cell? ⟨b, k, none⟩ = some (.int .i64 (litv k)) := by
  match k, hk with
  | 0, _ => exact h.1
  | 1, _ => exact h.2.1
  | 2, _ => exact h.2.2
theorem Lit3.keep {W W' : World} {b : Nat} (h : Lit3 W b) (hb : W'.heap[b]? = W.heap[b]?) : Lit3 W' b :=
  ⟨(World.cell?_of_block hb).trans h.1, (World.cell?_of_block hb).trans h.2.1, (World.cell?_of_block hb).trans h.2.2⟩
/-- the list of three numbers, in a block behind B -/
def LitAt (W : World) (B b : Nat) : Prop := Lit3 W b ∧ b < W.heap.size ∧ B < b
theorem LitAt.below {W W' : World} {B b : Nat} (h : LitAt W B b) (hb : Below W.heap.size W W') : LitAt W' B b := ⟨h.1.keep (hb.block b h.2.1), Nat.lt_of_lt_of_le h.2.1 hb.size, h.2.2⟩
theorem LitAt.by {W W' : World} {B b : Nat} (h : LitAt W B b) (hg : W.grownBy W' (some B)) : LitAt W' B b :=
  ⟨h.1.keep (hg.block b h.2.1 fun e => by simp only [Option.some.injEq] at e; have := h.2.2; omega), Nat.lt_of_lt_of_le h.2.1 hg.size, h.2.2⟩
/-- the list of three numbers, built as a step of a region that draws -/
theorem step_lit {w : World} {ops : Array Oper} {o : Oper} {a : Act} {K : Act → World → Prop} {Q : Exit → Act → World → Prop} {E : Prop}
    (d : Nat) (hd : o.dst = some d) (hg : o.guard = none) (hop : o.op = Op.buildSlice 23 3 #[(0, .const (.int .i64 (-1))), (1, .const (.int .i64 99999)), (2, .const (.int .i64 100000))])
    (hK : ∀ b w', b = w.heap.size → Lit3 w' b → Below w.heap.size w w' → b < w'.heap.size → K (a.put o.dst (.slice (some ⟨b, 0, none⟩) 3 3)) w') :
    if Region.wanted o (yielded ops a.tmps) = true then Oper.wp Try.prog o a w K Q else E := by
  obtain ⟨i0, hi, hz0, hz1, hz2⟩ := info_parts info_int
  have hw : Region.wanted o (yielded ops a.tmps) = true := by simp [Region.wanted, hg]
  rw [if_pos hw]
  refine wp_buildSlice 23 3 3 _ hop #[.int .i64 (-1), .int .i64 99999, .int .i64 100000] i0 (.int .i64 0) Try.underlying23 hi hz0 (by rw [hz1]; decide) (by rw [hz1]; decide) (by
    rw [hz1]
    rw [parts_eval a _ .i64 [-1, 99999, 100000] (by rfl)]
    kernel_rfl) ?_
  have hb := heap_alloc_new w (.cells #[.int .i64 (-1), .int .i64 99999, .int .i64 100000] 3)
  exact hK _ _ rfl ⟨cell_of_block hb 0, cell_of_block hb 1, cell_of_block hb 2⟩ (alloc_below' _ _) (by simp)

theorem lit_made (W : World) : Lit3 (W.alloc (.cells #[.int .i64 (-1), .int .i64 99999, .int .i64 100000] 3)) W.heap.size := by
  have hb := heap_alloc_new W (.cells #[.int .i64 (-1), .int .i64 99999, .int .i64 100000] 3)
  exact ⟨cell_of_block hb 0, cell_of_block hb 1, cell_of_block hb 2⟩
end Go.Proofs.Ytkkfnpcldogglaa
