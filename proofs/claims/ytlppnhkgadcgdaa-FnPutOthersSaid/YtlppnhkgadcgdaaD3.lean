/- Chapter 3: records are drawn. -/
import Derived.Test.YtlppnhkgadcgdaaDX
import Derived.Test.YtlppnhkgadcgdaaWX3
namespace Go.Proofs.Ytlppnhkgadcgdaa
open Go.ChangeShapes Go.WideShapes Go.ChangeAt Go.RowKit
set_option linter.unusedVariables false

def PartRes (w : World) (B c : Nat) (e : Ending) (w' : World) : Prop :=
  ∃ (has : Bool) (v : Value) (xs : List Int), e = .returned (.tuple #[.bool has, v]) ∧ Own w' w.heap.size v xs ∧ xs.length ≤ 12 ∧ Rd w' B (c + 30) ∧ w.grownBy w' (some B)

set_option maxHeartbeats 1000000 in
theorem spec_l91Part (B c : Nat) (w : World) (h : Rd w B c) (hc : c ≤ 900000000) :
    Calls Try.prog 83 #[.pointer (some ⟨B, 0, none⟩)] w (PartRes w B c) := by
  have hB := h.lt
  go_enter Try.func83, Try.ntmps83
  go_wp2_with fail
  refine (spec_pick B c 4 w h (by omega) (by omega) (by omega)).mono ?_
  rintro e w1 ⟨q, rfl, hq, hR1, g1⟩
  by_cases q0 : q = 0
  · have e0 : ((q : Int) == 0) = true := by rw [beq_iff_eq]; omega
    go_wp2_with fail
    go_ret2
    exact ⟨_, _, [], rfl, own_empty _ _ g1.size, by simp, (hR1.below (alloc_below' _ _)).more (by omega), grown_trans g1 (grown_of_below (alloc_below' _ _))⟩
  have e0 : ((q : Int) == 0) = false := by rw [beq_eq_false_iff_ne]; omega
  clear hq q0
  have own0 : Own (w1.alloc (.cells #[] 3)) w.heap.size (.slice (some ⟨w1.heap.size, 0, none⟩) 0 0) [] := own_empty w1 _ g1.size
  go_wp2_with fail
  refine (spec_pick B _ 5 _ (hR1.below (alloc_below' _ _)) (by omega) (by omega) (by omega)).mono ?_
  rintro e w2 ⟨n, rfl, hn, hR2, g2⟩
  have hn4 : n ≤ 4 := by omega
  have own2 := own0.by hB g2
  have G2 := grown_trans (grown_trans g1 (grown_of_below (alloc_below' w1 (.cells #[] 3)))) g2
  clear hn own0 g1 g2
  go_wp2_with fail
  refine (spec_pick B _ 12 w2 hR2 (by omega) (by omega) (by omega)).mono ?_
  rintro e w3 ⟨q2, rfl, hq2, hR3, g3⟩
  have own3 := own2.by hB g3
  have G3 := grown_trans G2 g3
  clear own2 G2 g3 hR2 hR1
  by_cases q1 : q2 = 0
  · have e1 : ((q2 : Int) == 0) = true := by rw [beq_iff_eq]; omega
    clear q1 hq2
    go_wp2_with fail
    go_loopw [4, 6] (fun u i wr => ∃ (j : Nat) (pre : List Int), i = .int .i64 j ∧ j ≤ 12 ∧ pre.length = j ∧ Own wr w.heap.size u pre ∧ Rd wr B (c + 3 + 2 * j) ∧ w.grownBy wr (some B)) (fun _ i _ => 12 - (intOf i).toNat)
    case atStart => exact ⟨0, [], rfl, Nat.zero_le _, rfl, own3, hR3.more (by omega), G3⟩
    case round =>
      obtain ⟨j, pre, rfl, hj, hpl, hown, hRr, gr⟩ := hrel
      have Hpl := Lib.hid hpl
      have hp2 : pre.length ≤ 12 := by omega
      clear hpl
      by_cases hlt : j < 12
      · have d0 : decide ((j : Int) < (12 : Int)) = true := decide_eq_true (by omega)
        go_wp2_with fail
        refine (spec_pick B _ 256 wr hRr (by omega) (by omega) (by omega)).mono ?_
        rintro e w4 ⟨k, rfl, hk, hR4, g4⟩
        have own4 := hown.by hB g4
        have G4 := grown_trans gr g4
        clear hk
        go_wp2_with fail
        refine (spec_pick B _ 4 _ (hR4.below (alloc_below' _ _)) (by omega) (by omega) (by omega)).mono ?_
        rintro e w5 ⟨i, rfl, hi, hR5, g5⟩
        have hi4 : i < 4 := by omega
        have own5 := (own4.below (alloc_below' w4 (.cells #[.int .i64 1, .int .i64 2, .int .i64 3, .int .i64 (k : Int)] 3))).by hB g5
        have G5 := grown_trans (grown_trans G4 (grown_of_below (alloc_below' w4 (.cells #[.int .i64 1, .int .i64 2, .int .i64 3, .int .i64 (k : Int)] 3)))) g5
        have hblk := (g5.block w4.heap.size (by simp) (by have := hR4.lt; simp; omega)).trans (heap_alloc_new w4 _)
        have hcell := lit_cell [1, 2, 3, (k : Int)] hblk i hi4
        obtain ⟨x, ex⟩ : ∃ x, [1, 2, 3, (k : Int)].getD i 0 = x := ⟨_, rfl⟩
        rw [ex] at hcell
        have hsz : w.heap.size ≤ w5.heap.size := G5.size
        clear ex hblk own4 G4 g4 g5 hi
        go_wp2_with (at_builtin; refine wp_app1 rfl _ _ rfl w.heap.size u4 pre _ rfl rfl own5 (by omega) hsz ?_; intro v' w6 own6 g6 hv6)
        go_roundw
        case rel => exact ⟨j + 1, pre ++ [x], by go_num, by omega, by simp [Hpl.out], own6, (hR5.by own5 hB g6).more (by omega), grown_row G5 own5 (Nat.le_refl _) g6⟩
        case measure => simp [intOf]; omega
      · have d0 : decide ((j : Int) < (12 : Int)) = false := decide_eq_false (by omega)
        go_wp2_with fail
        go_ret2
        exact ⟨_, _, pre, rfl, hown, hp2, hRr.more (by omega), gr⟩
  · have e1 : ((q2 : Int) == 0) = false := by rw [beq_eq_false_iff_ne]; omega
    clear q1 hq2
    go_wp2_with fail
    go_loopw [4, 6] (fun u i wr => ∃ (j : Nat) (pre : List Int), i = .int .i64 j ∧ j ≤ n ∧ pre.length = j ∧ Own wr w.heap.size u pre ∧ Rd wr B (c + 3 + 2 * j) ∧ w.grownBy wr (some B)) (fun _ i _ => n - (intOf i).toNat)
    case atStart => exact ⟨0, [], rfl, Nat.zero_le _, rfl, own3, hR3.more (by omega), G3⟩
    case round =>
      obtain ⟨j, pre, rfl, hj, hpl, hown, hRr, gr⟩ := hrel
      have Hpl := Lib.hid hpl
      have hp2 : pre.length ≤ 12 := by omega
      clear hpl
      by_cases hlt : j < n
      · have d0 : decide ((j : Int) < (n : Int)) = true := decide_eq_true (by omega)
        go_wp2_with fail
        refine (spec_pick B _ 256 wr hRr (by omega) (by omega) (by omega)).mono ?_
        rintro e w4 ⟨k, rfl, hk, hR4, g4⟩
        have own4 := hown.by hB g4
        have G4 := grown_trans gr g4
        clear hk
        go_wp2_with fail
        refine (spec_pick B _ 4 _ (hR4.below (alloc_below' _ _)) (by omega) (by omega) (by omega)).mono ?_
        rintro e w5 ⟨i, rfl, hi, hR5, g5⟩
        have hi4 : i < 4 := by omega
        have own5 := (own4.below (alloc_below' w4 (.cells #[.int .i64 1, .int .i64 2, .int .i64 3, .int .i64 (k : Int)] 3))).by hB g5
        have G5 := grown_trans (grown_trans G4 (grown_of_below (alloc_below' w4 (.cells #[.int .i64 1, .int .i64 2, .int .i64 3, .int .i64 (k : Int)] 3)))) g5
        have hblk := (g5.block w4.heap.size (by simp) (by have := hR4.lt; simp; omega)).trans (heap_alloc_new w4 _)
        have hcell := lit_cell [1, 2, 3, (k : Int)] hblk i hi4
        obtain ⟨x, ex⟩ : ∃ x, [1, 2, 3, (k : Int)].getD i 0 = x := ⟨_, rfl⟩
        rw [ex] at hcell
        have hsz : w.heap.size ≤ w5.heap.size := G5.size
        clear ex hblk own4 G4 g4 g5 hi
        go_wp2_with (at_builtin; refine wp_app1 rfl _ _ rfl w.heap.size u4 pre _ rfl rfl own5 (by omega) hsz ?_; intro v' w6 own6 g6 hv6)
        go_roundw
        case rel => exact ⟨j + 1, pre ++ [x], by go_num, by omega, by simp [Hpl.out], own6, (hR5.by own5 hB g6).more (by omega), grown_row G5 own5 (Nat.le_refl _) g6⟩
        case measure => simp [intOf]; omega
      · have d0 : decide ((j : Int) < (n : Int)) = false := decide_eq_false (by omega)
        go_wp2_with fail
        go_ret2
        exact ⟨_, _, pre, rfl, hown, hp2, hRr.more (by omega), gr⟩
end Go.Proofs.Ytlppnhkgadcgdaa
