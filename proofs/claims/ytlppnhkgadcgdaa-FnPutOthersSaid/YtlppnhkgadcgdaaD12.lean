/- Chapter 21: producers are drawn. -/
import Derived.Test.YtlppnhkgadcgdaaDX
import Derived.Test.YtlppnhkgadcgdaaT12b
namespace Go.Proofs.Ytlppnhkgadcgdaa
open Go.ChangeShapes Go.WideShapes Go.ChangeAt Go.RowKit
set_option linter.unusedVariables false

def smallT (t : Trm) : Prop := (0 ≤ t.num ∧ t.num ≤ 1000) ∧ (-1000 ≤ t.first ∧ t.first ≤ 1000) ∧ 0 ≤ t.third ∧ t.third ≤ 1000
def ShortB (ts : List Trm) : Prop := ts.length ≤ 9 ∧ ∀ i, i < ts.length → smallT (tAt ts i)
def TermsRes (w : World) (B c : Nat) (e : Ending) (w' : World) : Prop := ∃ v ts, e = .returned v ∧ OwnT w' w.heap.size v ts ∧ ShortB ts ∧ Rd w' B (c + 40) ∧ w.grownBy w' (some B)
theorem Rd.byT {w w' : World} {B c base : Nat} {v : Value} {ts : List Trm} (h : Rd w B c) (hown : OwnT w base v ts) (hB : B < base) (hg : w.grownBy w' v.ownBlock) : Rd w' B c :=
  h.keep fun b hb => hg.block b (Nat.lt_of_le_of_lt hb h.lt) fun e => by have := (hown.lt b e.symm).1; omega
theorem grown_rowT {a b c : World} {B base : Nat} {v : Value} {ts : List Trm} (h : a.grownBy b (some B)) (hown : OwnT b base v ts) (hb : a.heap.size ≤ base) (k : b.grownBy c v.ownBlock) : a.grownBy c (some B) :=
  ⟨k.os.trans h.os, k.tape.trans h.tape, k.output.trans h.output, Nat.le_trans h.size k.size, fun i hi hne => (k.block i (Nat.lt_of_lt_of_le hi h.size) fun e => by have := (hown.lt i e.symm).1; omega).trans (h.block i hi hne)⟩

set_option maxHeartbeats 2000000 in
theorem spec_l92Producers (B c : Nat) (w : World) (h : Rd w B c) (hc : c ≤ 900000000) :
    Calls Try.prog 68 #[.pointer (some ⟨B, 0, none⟩)] w (TermsRes w B c) := by
  have hB := h.lt
  have own0 := own_emptyT w w.heap.size (Nat.le_refl _)
  have g0 := grown_of_below (row := some B) (alloc_below w (.cells #[] 42))
  have hR0 := h.below (alloc_below w (.cells #[] 42))
  go_enter Try.func68, Try.ntmps68
  go_wp2_with fail
  go_loopw [3, 4] (fun u i wr => ∃ (j : Nat) (pre : List Trm), i = .int .i64 j ∧ j ≤ 4 ∧ pre.length ≤ j ∧ Hid (∀ i, i < pre.length → smallT (tAt pre i)) ∧ OwnT wr w.heap.size u pre ∧ Rd wr B (c + 3 * j) ∧ w.grownBy wr (some B)) (fun _ i _ => 4 - (intOf i).toNat)
  case atStart => exact ⟨0, [], rfl, by omega, by simp, Lib.hid (fun i hi => by simp at hi), own0, hR0.more (by omega), g0⟩
  case round =>
    clear own0 hR0 g0
    obtain ⟨j, pre, rfl, hj, hpl, hSm, hown, hRr, gr⟩ := hrel
    have hp9 : pre.length ≤ 9 := by omega
    by_cases hlt : j < 4
    · have dj : decide ((j : Int) < 4) = true := decide_eq_true (by omega)
      go_wp2_with fail
      refine (spec_pick B _ 3 wr hRr (by omega) (by omega) (by omega)).mono ?_
      rintro e w5 ⟨k5, rfl, hk5, hR5, g5⟩
      have own5 := hown.by hB g5
      have G5 := grown_trans gr g5
      clear hown gr g5 hRr hk5
      by_cases q0 : 0 < k5
      · have d1 : decide ((0 : Int) < (k5 : Int)) = true := decide_eq_true (by omega)
        have d1n : decide (0 < k5) = true := decide_eq_true q0
        go_wp2_with fail
        refine (spec_pick B _ 3 w5 hR5 (by omega) (by omega) (by omega)).mono ?_
        rintro e w6 ⟨k6, rfl, hk6, hR6, g6⟩
        have own6 := own5.by hB g6
        have G6 := grown_trans G5 g6
        have hk6b : k6 ≤ 1000 := by omega
        clear own5 G5 g6 hR5 hk6
        go_wp2_with fail
        refine (spec_pick B _ 6 w6 hR6 (by omega) (by omega) (by omega)).mono ?_
        rintro e w7 ⟨k7, rfl, hk7, hR7, g7⟩
        have own7 := own6.by hB g7
        have G7 := grown_trans G6 g7
        have hsz : w.heap.size ≤ w7.heap.size := G7.size
        have hk7b : k7 ≤ 1000 := by omega
        have hSm2 : Hid (∀ i, i < (pre ++ [(⟨(j : Int), (k6 : Int), (k7 : Int)⟩ : Trm)]).length → smallT (tAt (pre ++ [(⟨(j : Int), (k6 : Int), (k7 : Int)⟩ : Trm)]) i)) := Lib.hid fun i hi => by
          rw [List.length_append, List.length_cons, List.length_nil] at hi
          by_cases q : i < pre.length
          · rw [tAt_app1 q]; exact hSm.out i q
          · obtain rfl : i = pre.length := by omega
            rw [tAt_app2]
            exact (show smallT ⟨(j : Int), (k6 : Int), (k7 : Int)⟩ from ⟨⟨by simp only; omega, by simp only; omega⟩, ⟨by simp only; omega, by simp only; omega⟩, by simp only; omega, by simp only; omega⟩)
        clear own6 G6 g7 hR6 hk7
        go_wp2_with (at_builtin; refine wp_appT rfl _ _ rfl w.heap.size u3 pre (j : Int) (k6 : Int) (k7 : Int) w7.heap.size rfl rfl rfl own7 (by omega) hsz ?_; intro g cp w8 own8 g8)
        have hR8 := hR7.byT own7 hB g8
        have G8 := grown_rowT G7 own7 (Nat.le_refl _) g8
        clear own7 G7 g8 hR7
        go_roundw
        case rel => exact ⟨j + 1, pre ++ [⟨(j : Int), (k6 : Int), (k7 : Int)⟩], by go_num, by omega, by simp; omega, hSm2, own8, hR8.more (by omega), G8⟩
        case measure => simp [intOf]; omega
      · have d1 : decide ((0 : Int) < (k5 : Int)) = false := decide_eq_false (by omega)
        have d1n : decide (0 < k5) = false := decide_eq_false q0
        go_wp2_with fail
        go_roundw
        case rel => exact ⟨j + 1, pre, by go_num, by omega, by omega, hSm, own5, hR5.more (by omega), G5⟩
        case measure => simp [intOf]; omega
    · obtain rfl : j = 4 := by omega
      obtain ⟨a, cp, rfl⟩ := hown.form'
      have zc := hown.ts.sizes.2
      unfold maxLen at zc
      by_cases h0 : 0 < pre.length
      · have d0 : decide ((0 : Int) < (pre.length : Int)) = true := decide_eq_true (by omega)
        have d0n : decide (0 < pre.length) = true := decide_eq_true h0
        go_wp2_with fail
        refine (spec_pick B _ 24 wr hRr (by omega) (by omega) (by omega)).mono ?_
        rintro e w5 ⟨k5, rfl, hk5, hR5, g5⟩
        have own5 := hown.by hB g5
        have G5 := grown_trans gr g5
        clear hown gr g5 hRr hk5
        by_cases q0 : k5 = 0
        · have e5 : ((k5 : Int) == 0) = true := by rw [beq_iff_eq]; omega
          go_wp2_with fail
          refine (spec_pick B _ (pre.length : Int) w5 hR5 (by omega) (by omega) (by omega)).mono ?_
          rintro e w6 ⟨k6, rfl, hk6, hR6, g6⟩
          have own6 := own5.by hB g6
          have G6 := grown_trans G5 g6
          have hk6l : k6 < pre.length := by omega
          clear own5 G5 g6 hR5 hk6
          have bY := alloc_below' w6 (.cells #[.int .i64 (-1), .int .i64 100] 3)
          have yY := Blk.made w6 #[.int .i64 (-1), .int .i64 100] 3
          have own6b := own6.below bY
          have hR6b := hR6.below bY
          have G6b := grown_trans G6 (grown_of_below (row := some B) bY)
          have hBY : w6.heap.size ≠ B := by have := hR6.lt; omega
          go_wp2_with fail
          generalize w6.alloc (.cells #[.int .i64 (-1), .int .i64 100] 3) = w7 at yY own6b hR6b G6b ⊢
          obtain ⟨Y, hY⟩ : ∃ Y, w6.heap.size = Y := ⟨_, rfl⟩
          rw [hY] at yY hBY ⊢
          clear hY bY own6 hR6 G6
          refine (spec_pick B _ 2 w7 hR6b (by omega) (by omega) (by omega)).mono ?_
          rintro e w8 ⟨k8, rfl, hk8, hR8, g8⟩
          have own8 := own6b.by hB g8
          have G8 := grown_trans G6b g8
          have y8 := yY.by hBY g8
          have hk8b : k8 = 0 ∨ k8 = 1 := by omega
          clear own6b hR6b G6b g8 yY hk8
          obtain ⟨g, cp2, e⟩ := own8.form (by omega)
          simp only [Value.slice.injEq, true_and] at e
          obtain ⟨rfl, rfl⟩ := e
          have m0 : w8.cell? ⟨Y, 0, none⟩ = some (.int .i64 (-1)) := y8.cell 0
          have m1 : w8.cell? ⟨Y, 1, none⟩ = some (.int .i64 100) := y8.cell 1
          have key : ∀ z : Int, OwnT (w8.setCell ⟨g, k6 * 3 + 1, none⟩ (.int .i64 z)) w.heap.size (.slice (some ⟨g, 0, none⟩) pre.length cp) (pre.set k6 ⟨(tAt pre k6).num, z, (tAt pre k6).third⟩) ∧ w8.grownBy (w8.setCell ⟨g, k6 * 3 + 1, none⟩ (.int .i64 z)) (some g) := fun z =>
            own8.store1 (ss := pre.set k6 ⟨(tAt pre k6).num, z, (tAt pre k6).third⟩) k6 hk6l z (by simp) (by simp [tAt, hk6l]) (fun i hi hne => by
              unfold tAt List.getD
              rw [List.getElem?_set_ne (fun e => hne e.symm)])
          obtain ⟨c1, c3⟩ := own8.cellsAt k6 hk6l
          have i0 : (0 : Int) ≤ (k6 : Int) := by omega
          have i1 : (k6 : Int) < (pre.length : Int) := by omega
          have HBR : Hid (∀ z : Int, Rd (w8.setCell ⟨g, k6 * 3 + 1, none⟩ (.int .i64 z)) B (c + 40)) := Lib.hid fun z => ((hR8.more (show c + 3 * 4 + 1 + 1 + 1 ≤ c + 40 by omega)).byT own8 hB (key z).2)
          have HBG : Hid (∀ z : Int, w.grownBy (w8.setCell ⟨g, k6 * 3 + 1, none⟩ (.int .i64 z)) (some B)) := Lib.hid fun z => grown_rowT G8 own8 (Nat.le_refl _) (key z).2
          have HBO := Lib.hid fun z => (key z).1
          have HBL : Hid (∀ z : Int, (pre.set k6 ⟨(tAt pre k6).num, z, (tAt pre k6).third⟩).length ≤ 9) := Lib.hid fun z => by rw [List.length_set]; exact hp9
          have HBS : Hid (∀ z : Int, -1000 ≤ z ∧ z ≤ 1000 → ∀ i, i < (pre.set k6 ⟨(tAt pre k6).num, z, (tAt pre k6).third⟩).length → smallT (tAt (pre.set k6 ⟨(tAt pre k6).num, z, (tAt pre k6).third⟩) i)) := Lib.hid fun z hz i hi => by
            rw [List.length_set] at hi
            by_cases q : i = k6
            · subst q
              have e : tAt (pre.set i ⟨(tAt pre i).num, z, (tAt pre i).third⟩) i = ⟨(tAt pre i).num, z, (tAt pre i).third⟩ := by simp [tAt, hi]
              rw [e]
              exact ⟨(hSm.out i hi).1, hz, (hSm.out i hi).2.2⟩
            · have e : tAt (pre.set k6 ⟨(tAt pre k6).num, z, (tAt pre k6).third⟩) i = tAt pre i := by
                unfold tAt List.getD
                rw [List.getElem?_set_ne (fun e => q e.symm)]
              rw [e]
              exact hSm.out i hi
          clear key own8 hR8 G8
          rcases hk8b with rfl | rfl
          · go_wp2_with fail
            go_ret
            exact ⟨_, _, rfl, HBO.out _, ⟨HBL.out _, HBS.out _ ⟨by decide, by decide⟩⟩, HBR.out _, HBG.out _⟩
          · go_wp2_with fail
            go_ret
            exact ⟨_, _, rfl, HBO.out _, ⟨HBL.out _, HBS.out _ ⟨by decide, by decide⟩⟩, HBR.out _, HBG.out _⟩
        · have e5 : ((k5 : Int) == 0) = false := by rw [beq_eq_false_iff_ne]; omega
          go_wp2_with fail
          go_ret
          exact ⟨_, pre, rfl, own5, ⟨hp9, hSm.out⟩, hR5.more (by omega), G5⟩
      · have d0 : decide ((0 : Int) < (pre.length : Int)) = false := decide_eq_false (by omega)
        have d0n : decide (0 < pre.length) = false := decide_eq_false h0
        go_wp2_with fail
        go_ret
        exact ⟨_, pre, rfl, hown, ⟨hp9, hSm.out⟩, hRr.more (by omega), gr⟩
end Go.Proofs.Ytlppnhkgadcgdaa
