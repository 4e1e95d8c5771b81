/- Chapter 4: forms are drawn. -/
import Derived.Test.YtkdikdkeaomobaaD4
namespace Go.Proofs.Ytkdikdkeaomobaa
open Go.ChangeShapes Go.WideShapes Go.ChangeAt Go.RowKit
set_option linter.unusedVariables false

/-- bytes that a law draws -/
def DrawnRow (w : World) (e : Ending) (w' : World) : Prop := ∃ (v : Value) (xs : List Int), e = .returned v ∧ Ints w' v xs ∧ xs.length ≤ 300 ∧ (∀ k, v.ownBlock = some k → w.heap.size ≤ k) ∧ Below w.heap.size w w'

theorem spec_DrawPackBytes (v : Value) (zs : List Int) (w : World) (h : U8s w v zs) (hs : zs.length ≤ 1048576) :
    Calls Try.prog 13 #[v] w (DrawnRow w) := by
  have C1 := Lib.hid (spec_l6Open v zs w h hs)
  go_enter Try.func13, Try.ntmps13
  go_wp2_with fail
  refine C1.out.mono ?_
  rintro e w1 ⟨B, rfl, hB, hR, bel⟩
  go_wp2_with fail
  refine (spec_l91Rows B 0 w1 hR (by omega)).mono ?_
  rintro e w2 ⟨u, xs, rfl, _, own2, hxl, hR2, g2⟩
  have bel2 := below_of_grown bel hB g2
  have hsz := bel.size
  go_wp2_with fail
  go_ret
  exact ⟨u, xs, rfl, own2.ints, by omega, fun k hk => Nat.le_trans hsz (own2.lt k hk), bel2⟩
theorem spec_DrawPackGain (v : Value) (zs : List Int) (w : World) (h : U8s w v zs) (hs : zs.length ≤ 1048576) :
    Calls Try.prog 20 #[v] w (DrawnRow w) := by
  have C1 := Lib.hid (spec_l6Open v zs w h hs)
  go_enter Try.func20, Try.ntmps20
  go_wp2_with fail
  refine C1.out.mono ?_
  rintro e w1 ⟨B, rfl, hB, hR, bel⟩
  go_wp2_with fail
  refine (spec_l91Rows B 0 w1 hR (by omega)).mono ?_
  rintro e w2 ⟨u, xs, rfl, _, own2, hxl, hR2, g2⟩
  have bel2 := below_of_grown bel hB g2
  have hsz := bel.size
  go_wp2_with fail
  go_ret
  exact ⟨u, xs, rfl, own2.ints, by omega, fun k hk => Nat.le_trans hsz (own2.lt k hk), bel2⟩
set_option maxHeartbeats 1000000 in
theorem spec_DrawUnpackBytes (v : Value) (zs : List Int) (w : World) (h : U8s w v zs) (hs : zs.length ≤ 1048576) :
    Calls Try.prog 18 #[v] w (DrawnRow w) := by
  have C1 := Lib.hid (spec_l6Open v zs w h hs)
  go_enter Try.func18, Try.ntmps18
  go_wp2_with fail
  refine C1.out.mono ?_
  rintro e w1 ⟨B, rfl, hB, hR, bel⟩
  go_wp2_with fail
  refine (spec_l91Rows B 0 w1 hR (by omega)).mono ?_
  rintro e w2 ⟨u, xs, rfl, _, own2, hxl, hR2, g2⟩
  have bel2 := below_of_grown bel hB g2
  have C2 := Lib.hid (spec_PackBytes u xs w2 own2.ints (by omega))
  have hpl := pckL_len xs
  obtain ⟨b, hb⟩ : ∃ b, pckB xs = b := ⟨_, rfl⟩
  obtain ⟨ys, hy⟩ : ∃ ys, pckL xs = ys := ⟨_, rfl⟩
  rw [hb, hy] at C2
  rw [hy] at hpl
  have hB1 := bel.size
  clear hb hy bel hR g2 own2 C1
  go_wp2_with fail
  refine C2.out.mono ?_
  rintro e w3 ⟨f, rfl, own3, b3⟩
  have bel3 := Bstep bel2 b3
  have hR3 := hR2.below b3
  have hw2 := hR2.lt
  have own3' : Own w3 (B + 1) f ys := own3.base (by omega)
  clear C2 bel2 hR2 b3 own3
  cases b with
  | false =>
    go_wp2_with fail
    go_ret
    have hb := heap_alloc_new w3 (.cells #[.int .i64 0, .int .i64 7, .int .i64 127, .int .i64 1, .int .i64 127, .int .i64 1, .int .i64 127, .int .i64 1, .int .i64 127, .int .i64 1] 3)
    exact ⟨_, [0, 7, 127, 1, 127, 1, 127, 1, 127, 1], rfl, ⟨_, 10, rfl, by simp, by unfold maxLen; omega, fun _ => ⟨_, 0, rfl, fun i hi => by rw [Nat.zero_add]; exact lit_cell [0, 7, 127, 1, 127, 1, 127, 1, 127, 1] hb i hi⟩⟩, by simp, fun k hk => by simp [Value.ownBlock] at hk; have := bel3.size; omega, Bstep bel3 (alloc_below' _ _)⟩
  | true =>
    by_cases h0 : ys.length = 0
    · have e0 : ((ys.length : Int) == 0) = true := by rw [beq_iff_eq]; omega
      obtain ⟨a, cap, rfl, _⟩ := own3'.ints
      go_wp2_with fail
      go_ret
      have hb := heap_alloc_new w3 (.cells #[.int .i64 0, .int .i64 7, .int .i64 127, .int .i64 1, .int .i64 127, .int .i64 1, .int .i64 127, .int .i64 1, .int .i64 127, .int .i64 1] 3)
      exact ⟨_, [0, 7, 127, 1, 127, 1, 127, 1, 127, 1], rfl, ⟨_, 10, rfl, by simp, by unfold maxLen; omega, fun _ => ⟨_, 0, rfl, fun i hi => by rw [Nat.zero_add]; exact lit_cell [0, 7, 127, 1, 127, 1, 127, 1, 127, 1] hb i hi⟩⟩, by simp, fun k hk => by simp [Value.ownBlock] at hk; have := bel3.size; omega, Bstep bel3 (alloc_below' _ _)⟩
    · have e0 : ((ys.length : Int) == 0) = false := by rw [beq_eq_false_iff_ne]; omega
      obtain ⟨g, cap, rfl⟩ : ∃ g cap, f = .slice (some ⟨g, 0, none⟩) ys.length cap := by
        rcases own3'.2 with ⟨rfl, h1⟩ | ⟨g, cap, cur, rfl, _⟩
        · omega
        · exact ⟨g, cap, rfl⟩
      go_wp2_with fail
      refine (spec_pick B _ _ w3 hR3 (by omega) (by omega) (by omega)).mono ?_
      rintro e w4 ⟨i, rfl, hi, hR4, g4⟩
      have hi2 : i < ys.length := by omega
      have own4 := own3'.by (Nat.lt_succ_self B) g4
      have bel4 := below_of_grown bel3 hB g4
      clear own3' bel3 hR3 g4 hi
      go_wp2_with fail
      refine (spec_pick B _ 6 w4 hR4 (by omega) (by omega) (by omega)).mono ?_
      rintro e w5 ⟨q, rfl, hq, hR5, g5⟩
      have own5 := own4.by (Nat.lt_succ_self B) g5
      have bel5 := below_of_grown bel4 hB g5
      have hgB := own5.lt g rfl
      have hgw : w.heap.size ≤ g := by omega
      clear own4 bel4 hR4 g5 hq
      by_cases q0 : q = 0
      · have e0 : ((q : Int) == 0) = true := by rw [beq_iff_eq]; omega
        go_wp2_with fail
        refine (spec_pick B _ 140 w5 hR5 (by omega) (by omega) (by omega)).mono ?_
        rintro e w6 ⟨y, rfl, hy, hR6, g6⟩
        have own6 := own5.by (Nat.lt_succ_self B) g6
        have bel6 := below_of_grown bel5 hB g6
        have hc := World.ownsRow.cellAt own6 i (by omega)
        have hf := World.ownsRow.frozenAt own6 i
        have hst := World.ownsRow.stored own6 i (.int .i64 (y : Int))
        have hnew : Own (w6.setCell ⟨g, i, none⟩ (.int .i64 (y : Int))) (B + 1) (.slice (some ⟨g, 0, none⟩) ys.length cap) (ys.set i (y : Int)) := by
          unfold Own
          rw [List.length_set, List.map_set]
          exact hst.1
        obtain ⟨old, hold⟩ : ∃ old, w6.cell? ⟨g, i, none⟩ = some (.int .i64 old) := by
          rw [hc]; exact ⟨ys.getD i 0, by simp only [List.getElem?_map, List.getD]; rw [List.getElem?_eq_getElem (by omega)]; rfl⟩
        have bel7 : Below w.heap.size w (w6.setCell ⟨g, i, none⟩ (.int .i64 (y : Int))) := bel6.setCell (by simp; omega) _
        clear hc hst own5 bel5 hR5 g6
        go_wp2_with fail
        go_ret
        exact ⟨_, _, rfl, hnew.ints, by rw [List.length_set]; omega, fun k hk => by have := hnew.lt k hk; omega, bel7⟩
      · have e0 : ((q : Int) == 0) = false := by rw [beq_eq_false_iff_ne]; omega
        by_cases q1 : q = 1
        · have e1 : ((q : Int) == 1) = true := by rw [beq_iff_eq]; omega
          obtain ⟨_, _, e9, hl12, hm12, _⟩ := own5.ints
          simp only [Value.slice.injEq] at e9
          obtain ⟨rfl, _, rfl⟩ := e9
          unfold maxLen at hm12
          go_wp2_with fail
          go_ret
          exact ⟨_, ys.take i, rfl, own5.ints.take i (by omega), by rw [List.length_take]; omega, fun k hk => by have := own5.lt k hk; omega, bel5⟩
        · have e1 : ((q : Int) == 1) = false := by rw [beq_eq_false_iff_ne]; omega
          go_wp2_with fail
          go_ret
          exact ⟨_, ys, rfl, own5.ints, by omega, fun k hk => by have := own5.lt k hk; omega, bel5⟩
end Go.Proofs.Ytkdikdkeaomobaa
