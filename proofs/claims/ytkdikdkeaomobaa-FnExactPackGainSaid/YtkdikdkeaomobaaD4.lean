/- Chapter 4: rows of bytes are drawn. -/
import Derived.Test.YtkdikdkeaomobaaDA
import Derived.Test.YtkdikdkeaomobaaW4e
import Derived.Test.YtkdikdkeaomobaaW4b
namespace Go.Proofs.Ytkdikdkeaomobaa
open Go.ChangeShapes Go.WideShapes Go.ChangeAt Go.RowKit
set_option linter.unusedVariables false

theorem lit3 (w : World) (x y z : Int) : Ints (w.alloc (.cells #[.int .i64 x, .int .i64 y, .int .i64 z] 3)) (.slice (some ⟨w.heap.size, 0, none⟩) 3 3) [x, y, z] :=
  ⟨_, 3, rfl, by simp, by unfold maxLen; omega, fun _ => ⟨_, 0, rfl, fun i hi => by
    match i, hi with
    | 0, _ => exact (Blk.made w #[.int .i64 x, .int .i64 y, .int .i64 z] 3).cell 0
    | 1, _ => exact (Blk.made w #[.int .i64 x, .int .i64 y, .int .i64 z] 3).cell 1
    | 2, _ => exact (Blk.made w #[.int .i64 x, .int .i64 y, .int .i64 z] 3).cell 2
    | n + 3, hi => simp at hi; omega⟩⟩
def lenOf : Value → Nat
  | .slice _ n _ => n
  | _ => 0
/-- bytes that a reader gives, 210 at most -/
def RowsRes (w : World) (B c : Nat) (e : Ending) (w' : World) : Prop :=
  ∃ (v : Value) (xs : List Int), e = .returned v ∧ (∃ g cap, v = .slice (some ⟨g, 0, none⟩) xs.length cap) ∧ Own w' w.heap.size v xs ∧ xs.length ≤ 210 ∧ Rd w' B (c + 50) ∧ w.grownBy w' (some B)

set_option maxHeartbeats 2000000 in
theorem spec_l91Rows (B c : Nat) (w : World) (h : Rd w B c) (hc : c ≤ 900000000) :
    Calls Try.prog 28 #[.pointer (some ⟨B, 0, none⟩)] w (RowsRes w B c) := by
  have hB := h.lt
  have own0 : Own (w.alloc (.cells #[] 3)) w.heap.size (.slice (some ⟨w.heap.size, 0, none⟩) 0 0) [] := own_empty w _ (Nat.le_refl _)
  have hR0 := h.below (alloc_below w (.cells #[] 3))
  have G0 : w.grownBy (w.alloc (.cells #[] 3)) (some B) := grown_of_below (alloc_below w _)
  clear h
  go_enter Try.func28, Try.ntmps28
  go_wp2_with fail
  refine (spec_pick B c 8 _ hR0 (by omega) (by omega) (by omega)).mono ?_
  rintro e w1 ⟨n, rfl, hn, hR1, g1⟩
  have hn7 : n ≤ 7 := by omega
  have own1 := own0.by hB g1
  have G1 := grown_trans G0 g1
  clear own0 hR0 G0 g1 hn
  go_wp2_with fail
  go_loopw [3, 5] (fun u i wr => ∃ (j : Nat) (xs : List Int), i = .int .i64 j ∧ j ≤ n ∧ xs.length ≤ 12 * j ∧ (∃ g cap, u = .slice (some ⟨g, 0, none⟩) xs.length cap) ∧ Own wr w.heap.size u xs ∧ Rd wr B (c + 1 + 4 * j) ∧ w.grownBy wr (some B)) (fun _ i _ => n - (intOf i).toNat)
  case atStart => exact ⟨0, [], rfl, Nat.zero_le _, by simp, ⟨_, _, rfl⟩, own1, hR1, G1⟩
  case round =>
    clear own1 hR1 G1
    obtain ⟨j, xs, rfl, hj, hxl, ⟨g0, cap0, rfl⟩, hown, hRr, gr⟩ := hrel
    by_cases hlt : j < n
    · by_cases h2 : 2 < xs.length
      · have d2 : decide ((2 : Int) < (xs.length : Int)) = true := decide_eq_true (by omega)
        go_wp2_with fail
        refine (spec_pick B _ 2 wr hRr (by omega) (by omega) (by omega)).mono ?_
        rintro e w2 ⟨q, rfl, hq, hR2, g2⟩
        have own2 := hown.by hB g2
        have G2 := grown_trans gr g2
        clear hown hRr gr g2
        by_cases q0 : q = 0
        · have e0 : ((q : Int) == 0) = true := by rw [beq_iff_eq]; omega
          go_wp2_with fail
          refine (spec_pick B _ _ w2 hR2 (by omega) (by omega) (by omega)).mono ?_
          rintro e w3 ⟨b, rfl, hb, hR3, g3⟩
          have hb2 : b < xs.length := by omega
          have own3 := own2.by hB g3
          have G3 := grown_trans G2 g3
          clear own2 hR2 G2 g3 hb hq
          go_wp2_with fail
          refine (spec_pick B _ 12 w3 hR3 (by omega) (by omega) (by omega)).mono ?_
          rintro e w4 ⟨k, rfl, hk, hR4, g4⟩
          have hk2 : k ≤ 11 := by omega
          have own4 := own3.by hB g4
          have G4 := grown_trans G3 g4
          clear own3 hR3 G3 g4 hk
          go_wp2_with fail
          go_loopw [3, 8] (fun u i ws => ∃ (m : Nat) (ys : List Int), i = .int .i64 m ∧ m ≤ k + 1 ∧ ys.length = xs.length + m ∧ (∃ g cap, u = .slice (some ⟨g, 0, none⟩) ys.length cap) ∧ Own ws w.heap.size u ys ∧ Rd ws B (c + 1 + 4 * j + 3) ∧ w.grownBy ws (some B)) (fun _ i _ => k + 1 - (intOf i).toNat)
          case atStart => exact ⟨0, xs, rfl, Nat.zero_le _, rfl, ⟨_, _, rfl⟩, own4, hR4, G4⟩
          case round =>
            clear own4 hR4 G4
            obtain ⟨m, ys, rfl, hm, hyl, ⟨g1, cap1, rfl⟩, hoy, hRy, gy⟩ := hrel
            by_cases hmk : m < k + 1
            · have d3 : decide ((m : Int) < 1 + (k : Int)) = true := decide_eq_true (by omega)
              obtain ⟨old, hold⟩ : ∃ old, wr.cell? ⟨g1, b + m, none⟩ = some (.int .i64 old) := by
                rw [World.ownsRow.cellAt hoy (b + m) (by omega)]; exact ⟨ys.getD (b + m) 0, by simp only [List.getElem?_map, List.getD]; rw [List.getElem?_eq_getElem (by omega)]; rfl⟩
              have n1 : ((b : Int) + (m : Int)).toNat = b + m := by omega
              have hsz := gy.size
              go_wp2_with (at_builtin; refine wp_app1 rfl _ _ rfl w.heap.size (.slice (some ⟨g1, 0, none⟩) ys.length cap1) ys _ rfl rfl hoy (by omega) hsz ?_; intro v' w5 own5 g5 hv5)
              have G5 := grown_row gy hoy (Nat.le_refl _) g5
              have hR5 := hRy.by hoy hB g5
              obtain ⟨g6, cap6, rfl⟩ := hv5
              go_roundw
              case rel => exact ⟨m + 1, ys ++ [old], by go_num, by omega, by rw [List.length_append]; simp; omega, ⟨g6, cap6, by rw [List.length_append]; rfl⟩, own5, hR5, G5⟩
              case measure => simp [intOf]; omega
            · have d3 : decide ((m : Int) < 1 + (k : Int)) = false := decide_eq_false (by omega)
              go_wp2_with fail
              go_roundw
              case rel => exact ⟨j + 1, ys, by go_num, by omega, by omega, ⟨_, _, rfl⟩, hoy, hRy.more (by omega), gy⟩
              case measure => simp [intOf]; omega
        · have e0 : ((q : Int) == 0) = false := by rw [beq_eq_false_iff_ne]; omega
          go_wp2_with fail
          refine (spec_pick B _ 4 w2 hR2 (by omega) (by omega) (by omega)).mono ?_
          rintro e w3 ⟨x1, rfl, hx1, hR3, g3⟩
          have own3 := own2.by hB g3
          have G3 := grown_trans G2 g3
          clear hR2 own2 G2 g3 hx1
          go_wp2_with fail
          refine (spec_pick B _ 4 w3 hR3 (by omega) (by omega) (by omega)).mono ?_
          rintro e w4 ⟨x2, rfl, hx2, hR4, g4⟩
          have own4 := own3.by hB g4
          have G4 := grown_trans G3 g4
          clear hR3 own3 G3 g4 hx2
          go_wp2_with fail
          refine (spec_pick B _ 256 w4 hR4 (by omega) (by omega) (by omega)).mono ?_
          rintro e w5 ⟨x3, rfl, hx3, hR5, g5⟩
          have a5 := alloc_below' w5 (.cells #[.int .i64 (x1 : Int), .int .i64 (x2 : Int), .int .i64 (x3 : Int)] 3)
          have own5 := (own4.by hB g5).below a5
          have G5 := grown_trans (grown_trans G4 g5) (grown_of_below a5)
          have hR6 := hR5.below a5
          have hsz5 : w.heap.size ≤ (w5.alloc (.cells #[.int .i64 (x1 : Int), .int .i64 (x2 : Int), .int .i64 (x3 : Int)] 3)).heap.size := G5.size
          clear hR4 own4 G4 g5 hR5 hx3 a5
          go_wp2_with (at_builtin; refine wp_appI rfl _ _ rfl w.heap.size (.slice (some ⟨g0, 0, none⟩) xs.length cap0) _ xs [(x1 : Int), (x2 : Int), (x3 : Int)] rfl rfl own5 (lit3 w5 _ _ _) (by simp; omega) hsz5 ?_; intro v6 w6 own6 g6)
          have hfm : ∃ g cap, v6 = .slice (some ⟨g, 0, none⟩) (xs ++ [(x1 : Int), (x2 : Int), (x3 : Int)]).length cap := by
            rcases own6.2 with ⟨_, h0⟩ | ⟨g, cap, cur, e, _⟩
            · simp at h0
            · exact ⟨g, cap, e⟩
          have G6 := grown_row G5 own5 (Nat.le_refl _) g6
          have hR7 := hR6.by own5 hB g6
          clear own5 hR6 G5 g6
          go_roundw
          case rel => exact ⟨j + 1, _, by go_num, by omega, by rw [List.length_append]; simp; omega, hfm, own6, hR7.more (by omega), G6⟩
          case measure => simp [intOf]; omega
      · have d2 : decide ((2 : Int) < (xs.length : Int)) = false := decide_eq_false (by omega)
        go_wp2_with fail
        refine (spec_pick B _ 4 wr hRr (by omega) (by omega) (by omega)).mono ?_
        rintro e w3 ⟨x1, rfl, hx1, hR3, g3⟩
        have own3 := hown.by hB g3
        have G3 := grown_trans gr g3
        clear hRr hown gr g3 hx1
        go_wp2_with fail
        refine (spec_pick B _ 4 w3 hR3 (by omega) (by omega) (by omega)).mono ?_
        rintro e w4 ⟨x2, rfl, hx2, hR4, g4⟩
        have own4 := own3.by hB g4
        have G4 := grown_trans G3 g4
        clear hR3 own3 G3 g4 hx2
        go_wp2_with fail
        refine (spec_pick B _ 256 w4 hR4 (by omega) (by omega) (by omega)).mono ?_
        rintro e w5 ⟨x3, rfl, hx3, hR5, g5⟩
        have a5 := alloc_below' w5 (.cells #[.int .i64 (x1 : Int), .int .i64 (x2 : Int), .int .i64 (x3 : Int)] 3)
        have own5 := (own4.by hB g5).below a5
        have G5 := grown_trans (grown_trans G4 g5) (grown_of_below a5)
        have hR6 := hR5.below a5
        have hsz5 : w.heap.size ≤ (w5.alloc (.cells #[.int .i64 (x1 : Int), .int .i64 (x2 : Int), .int .i64 (x3 : Int)] 3)).heap.size := G5.size
        clear hR4 own4 G4 g5 hR5 hx3 a5
        go_wp2_with (at_builtin; refine wp_appI rfl _ _ rfl w.heap.size (.slice (some ⟨g0, 0, none⟩) xs.length cap0) _ xs [(x1 : Int), (x2 : Int), (x3 : Int)] rfl rfl own5 (lit3 w5 _ _ _) (by simp; omega) hsz5 ?_; intro v6 w6 own6 g6)
        have hfm : ∃ g cap, v6 = .slice (some ⟨g, 0, none⟩) (xs ++ [(x1 : Int), (x2 : Int), (x3 : Int)]).length cap := by
          rcases own6.2 with ⟨_, h0⟩ | ⟨g, cap, cur, e, _⟩
          · simp at h0
          · exact ⟨g, cap, e⟩
        have G6 := grown_row G5 own5 (Nat.le_refl _) g6
        have hR7 := hR6.by own5 hB g6
        clear own5 hR6 G5 g6
        go_roundw
        case rel => exact ⟨j + 1, _, by go_num, by omega, by rw [List.length_append]; simp; omega, hfm, own6, hR7.more (by omega), G6⟩
        case measure => simp [intOf]; omega
    · obtain rfl : j = n := by omega
      have hxl2 : xs.length ≤ 84 := by omega
      go_wp2_with fail
      refine (spec_pick B _ 12 wr hRr (by omega) (by omega) (by omega)).mono ?_
      rintro e w2 ⟨q, rfl, hq, hR2, g2⟩
      have own2 := hown.by hB g2
      have G2 := grown_trans gr g2
      have hR2' := hR2.more (d := c + 40) (by omega)
      clear hown hRr gr g2 hR2 hxl hj
      by_cases q0 : q = 0
      · have e0 : ((q : Int) == 0) = true := by rw [beq_iff_eq]; omega
        go_wp2_with fail
        have a2 := alloc_below w2 (.cells #[.int .i64 64, .int .i64 65, .int .i64 70, .int .i64 199, .int .i64 200, .int .i64 201] 3)
        refine (spec_pick B _ 6 _ (hR2'.below a2) (by omega) (by omega) (by omega)).mono ?_
        rintro e w3 ⟨i, rfl, hi, hR3, g3⟩
        have hi6 : i < 6 := by omega
        have own3 := (own2.below a2).by hB g3
        have G3 := grown_trans G2 (grown_trans (grown_of_below a2) g3)
        have hblk := (g3.block w2.heap.size (by simp) (by have := hR2'.lt; simp; omega)).trans (heap_alloc_new w2 _)
        have hcell := lit_cell [64, 65, 70, 199, 200, 201] hblk i hi6
        have hn : ∃ t, [64, 65, 70, 199, 200, 201].getD i (0 : Int) = t ∧ 0 ≤ t ∧ t ≤ 201 := by
          match i, hi6 with
          | 0, _ => exact ⟨_, rfl, by decide, by decide⟩
          | 1, _ => exact ⟨_, rfl, by decide, by decide⟩
          | 2, _ => exact ⟨_, rfl, by decide, by decide⟩
          | 3, _ => exact ⟨_, rfl, by decide, by decide⟩
          | 4, _ => exact ⟨_, rfl, by decide, by decide⟩
          | 5, _ => exact ⟨_, rfl, by decide, by decide⟩
        obtain ⟨t, et, t0, t1⟩ := hn
        rw [et] at hcell
        have hR3' := hR3.more (d := c + 41) (by omega)
        clear et hblk own2 G2 hR2' hR3 g3 a2 hi
        go_wp2_with fail
        go_loopw [3] (fun u ws => ∃ (ys : List Int), ys.length ≤ 201 ∧ (∃ g cap, u = .slice (some ⟨g, 0, none⟩) ys.length cap) ∧ Own ws w.heap.size u ys ∧ Rd ws B (c + 41) ∧ w.grownBy ws (some B)) (fun u _ => 201 - lenOf u)
        case atStart => exact ⟨xs, by omega, ⟨_, _, rfl⟩, own3, hR3', G3⟩
        case round =>
          clear own3 hR3' G3 hcell
          obtain ⟨ys, hyl, ⟨g1, cap1, rfl⟩, hoz, hRz, gz⟩ := hrel
          obtain ⟨wz, rfl⟩ : ∃ wz, wz = wr := ⟨_, rfl⟩
          by_cases hyt : (ys.length : Int) < t
          · have d3 : decide ((ys.length : Int) < t) = true := decide_eq_true hyt
            have s1 : IntKind.i64.wrap ((ys.length : Int) * 7) = (ys.length : Int) * 7 := IntWalk.i64_in _ ⟨by omega, by omega⟩
            have hsz := gz.size
            go_wp2_with (at_builtin; refine wp_app1 rfl _ _ rfl w.heap.size (.slice (some ⟨g1, 0, none⟩) ys.length cap1) ys _ rfl rfl hoz (by omega) hsz ?_; intro v' w5 own5 g5 hv5)
            have G5 := grown_row gz hoz (Nat.le_refl _) g5
            have hR5 := hRz.by hoz hB g5
            obtain ⟨g6, cap6, rfl⟩ := hv5
            go_roundw
            case rel => exact ⟨_, by rw [List.length_append]; simp; omega, ⟨g6, cap6, by rw [List.length_append]; rfl⟩, own5, hR5, G5⟩
            case measure => simp [lenOf]; omega
          · have d3 : decide ((ys.length : Int) < t) = false := decide_eq_false hyt
            by_cases hpos : 0 < ys.length
            · have d0 : decide ((0 : Int) < (ys.length : Int)) = true := decide_eq_true (by omega)
              go_wp2_with fail
              refine (spec_pick B _ 30 wz hRz (by omega) (by omega) (by omega)).mono ?_
              rintro e wa ⟨k, rfl, hk, hRa, ga⟩
              have owna := hoz.by hB ga
              have Ga := grown_trans gz ga
              clear hoz hRz gz ga
              by_cases k0 : k = 0
              · have e0 : ((k : Int) == 0) = true := by rw [beq_iff_eq]; omega
                go_wp2_with fail
                refine (spec_pick B _ _ wa hRa (by omega) (by omega) (by omega)).mono ?_
                rintro e wb ⟨i, rfl, hi, hRb, gb⟩
                have ownb := owna.by hB gb
                have Gb := grown_trans Ga gb
                have hi2 : i < ys.length := by omega
                have hc := World.ownsRow.cellAt ownb i (by omega)
                have hf := World.ownsRow.frozenAt ownb i
                have hst := World.ownsRow.stored ownb i (.int .i64 256)
                have hnew : Own (wb.setCell ⟨g1, i, none⟩ (.int .i64 256)) w.heap.size (.slice (some ⟨g1, 0, none⟩) ys.length cap1) (ys.set i 256) := by
                  unfold Own
                  rw [List.length_set, List.map_set]
                  exact hst.1
                obtain ⟨old, hold⟩ : ∃ old, wb.cell? ⟨g1, i, none⟩ = some (.int .i64 old) := by
                  rw [hc]; exact ⟨ys.getD i 0, by simp only [List.getElem?_map, List.getD]; rw [List.getElem?_eq_getElem (by omega)]; rfl⟩
                have gs : wb.grownBy (wb.setCell ⟨g1, i, none⟩ (.int .i64 256)) (Value.slice (some ⟨g1, 0, none⟩) ys.length cap1).ownBlock := ⟨rfl, rfl, rfl, by simp, fun k hk hne => Below.heap_setCell wb _ _ k fun e => hne (by rw [e]; rfl)⟩
                have Gc := grown_row Gb ownb (Nat.le_refl _) gs
                have hRc := (hRb.by ownb hB gs).more (d := c + 50) (by omega)
                clear hc hst gs Gb hRb ownb owna hRa Ga
                go_wp2_with fail
                go_ret
                exact ⟨_, ys.set i 256, rfl, by rw [List.length_set]; exact ⟨_, _, rfl⟩, hnew, by rw [List.length_set]; omega, hRc, Gc⟩
              · have e0 : ((k : Int) == 0) = false := by rw [beq_eq_false_iff_ne]; omega
                go_wp2_with fail
                go_ret
                exact ⟨_, ys, rfl, ⟨_, _, rfl⟩, owna, by omega, hRa.more (by omega), Ga⟩
            · have d0 : decide ((0 : Int) < (ys.length : Int)) = false := decide_eq_false (by omega)
              go_wp2_with fail
              go_ret
              exact ⟨_, ys, rfl, ⟨_, _, rfl⟩, hoz, by omega, hRz.more (by omega), gz⟩
      · have e0 : ((q : Int) == 0) = false := by rw [beq_eq_false_iff_ne]; omega
        have hyl : xs.length ≤ 201 := by omega
        obtain ⟨ys, eys⟩ : ∃ ys, ys = xs := ⟨_, rfl⟩
        subst eys
        obtain ⟨g1, rfl⟩ : ∃ g, g = g0 := ⟨_, rfl⟩
        obtain ⟨cap1, rfl⟩ : ∃ g, g = cap0 := ⟨_, rfl⟩
        obtain ⟨wz, rfl⟩ : ∃ wz, wz = w2 := ⟨_, rfl⟩
        have hoz := own2
        have hRz := hR2'
        have gz := G2
        clear own2 hR2' G2
        by_cases hpos : 0 < ys.length
        · have d0 : decide ((0 : Int) < (ys.length : Int)) = true := decide_eq_true (by omega)
          go_wp2_with fail
          refine (spec_pick B _ 30 wz hRz (by omega) (by omega) (by omega)).mono ?_
          rintro e wa ⟨k, rfl, hk, hRa, ga⟩
          have owna := hoz.by hB ga
          have Ga := grown_trans gz ga
          clear hoz hRz gz ga
          by_cases k0 : k = 0
          · have e0 : ((k : Int) == 0) = true := by rw [beq_iff_eq]; omega
            go_wp2_with fail
            refine (spec_pick B _ _ wa hRa (by omega) (by omega) (by omega)).mono ?_
            rintro e wb ⟨i, rfl, hi, hRb, gb⟩
            have ownb := owna.by hB gb
            have Gb := grown_trans Ga gb
            have hi2 : i < ys.length := by omega
            have hc := World.ownsRow.cellAt ownb i (by omega)
            have hf := World.ownsRow.frozenAt ownb i
            have hst := World.ownsRow.stored ownb i (.int .i64 256)
            have hnew : Own (wb.setCell ⟨g1, i, none⟩ (.int .i64 256)) w.heap.size (.slice (some ⟨g1, 0, none⟩) ys.length cap1) (ys.set i 256) := by
              unfold Own
              rw [List.length_set, List.map_set]
              exact hst.1
            obtain ⟨old, hold⟩ : ∃ old, wb.cell? ⟨g1, i, none⟩ = some (.int .i64 old) := by
              rw [hc]; exact ⟨ys.getD i 0, by simp only [List.getElem?_map, List.getD]; rw [List.getElem?_eq_getElem (by omega)]; rfl⟩
            have gs : wb.grownBy (wb.setCell ⟨g1, i, none⟩ (.int .i64 256)) (Value.slice (some ⟨g1, 0, none⟩) ys.length cap1).ownBlock := ⟨rfl, rfl, rfl, by simp, fun k hk hne => Below.heap_setCell wb _ _ k fun e => hne (by rw [e]; rfl)⟩
            have Gc := grown_row Gb ownb (Nat.le_refl _) gs
            have hRc := (hRb.by ownb hB gs).more (d := c + 50) (by omega)
            clear hc hst gs Gb hRb ownb owna hRa Ga
            go_wp2_with fail
            go_ret
            exact ⟨_, ys.set i 256, rfl, by rw [List.length_set]; exact ⟨_, _, rfl⟩, hnew, by rw [List.length_set]; omega, hRc, Gc⟩
          · have e0 : ((k : Int) == 0) = false := by rw [beq_eq_false_iff_ne]; omega
            go_wp2_with fail
            go_ret
            exact ⟨_, ys, rfl, ⟨_, _, rfl⟩, owna, by omega, hRa.more (by omega), Ga⟩
        · have d0 : decide ((0 : Int) < (ys.length : Int)) = false := decide_eq_false (by omega)
          go_wp2_with fail
          go_ret
          exact ⟨_, ys, rfl, ⟨_, _, rfl⟩, hoz, by omega, hRz.more (by omega), gz⟩
end Go.Proofs.Ytkdikdkeaomobaa
