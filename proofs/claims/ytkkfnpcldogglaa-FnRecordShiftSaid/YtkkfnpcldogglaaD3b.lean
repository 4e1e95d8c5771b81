/- Chapter 3: a record is drawn. -/
import Derived.Test.YtkkfnpcldogglaaD3
import Derived.Test.YtkkfnpcldogglaaR1
namespace Go.Proofs.Ytkkfnpcldogglaa
open Go.ChangeShapes Go.WideShapes Go.ChangeAt Go.RowKit
set_option linter.unusedVariables false

theorem Rd.set {w w' : World} {B c X : Nat} (h : Rd w B c) (hX : B < X) (hg : w.grownBy w' (some X)) : Rd w' B c :=
  h.keep fun b hb => hg.block b (Nat.lt_of_le_of_lt hb h.lt) fun e => by simp only [Option.some.injEq] at e; omega

/-- a record by value, its parts in memory of the call's own -/
def RecP (w : World) (base : Nat) (v : Value) (r : Rec) : Prop :=
  ∃ kv vv, v = .agg #[.int .i64 r.off, .int .i64 r.time, .bool r.hk, kv, .bool r.hv, vv] ∧ Own w base kv r.key ∧ Own w base vv r.val
theorem RecP.recV {w : World} {base : Nat} {v : Value} {r : Rec} (h : RecP w base v r) : RecV w v r := by
  obtain ⟨kv, vv, rfl, h1, h2⟩ := h
  exact ⟨kv, vv, rfl, h1.ints, h2.ints⟩
theorem RecP.below {w w' : World} {base : Nat} {v : Value} {r : Rec} (h : RecP w base v r) (hb : Below w.heap.size w w') : RecP w' base v r := by
  obtain ⟨kv, vv, rfl, h1, h2⟩ := h
  exact ⟨kv, vv, rfl, h1.below hb, h2.below hb⟩
/-- a record that was drawn -/
def RecDrawn (w : World) (B c : Nat) (e : Ending) (w' : World) : Prop :=
  ∃ (r : Rec) (v : Value), e = .returned v ∧ RecP w' w.heap.size v r ∧ -1 ≤ r.off ∧ r.off ≤ 100000 ∧ 0 ≤ r.time ∧ r.time ≤ 100000 ∧ r.key.length ≤ 13 ∧ r.val.length ≤ 13 ∧ Rd w' B (c + 80) ∧ w.grownBy w' (some B)

set_option maxHeartbeats 4000000 in
theorem spec_l91Record (B c : Nat) (w : World) (h : Rd w B c) (hc : c ≤ 800000000) :
    Calls Try.prog 40 #[.pointer (some ⟨B, 0, none⟩)] w (RecDrawn w B c) := by
  have hB := h.lt
  have hz1 := Box6.made w 25 (.int .i64 0) (.int .i64 0) (.bool false) (.slice none 0 0) (.bool false) (.slice none 0 0)
  have hz2 := Thawed.made w #[.int .i64 0, .int .i64 0, .bool false, .slice none 0 0, .bool false, .slice none 0 0] 25
  have gz := grown_of_below (row := some B) (alloc_below' w (.cells #[.int .i64 0, .int .i64 0, .bool false, .slice none 0 0, .bool false, .slice none 0 0] 25))
  have hRz := h.below (alloc_below' w (.cells #[.int .i64 0, .int .i64 0, .bool false, .slice none 0 0, .bool false, .slice none 0 0] 25))
  go_enter Try.func40, Try.ntmps40
  go_wp2_with fail
  generalize hWz : w.alloc (.cells #[.int .i64 0, .int .i64 0, .bool false, .slice none 0 0, .bool false, .slice none 0 0] 25) = wz at hz1 hz2 gz hRz ⊢
  clear hWz
  refine (spec_pick B _ 60 wz hRz (by omega) (by omega) (by omega)).mono ?_
  rintro e w1 ⟨k1, rfl, hk1, hR1, g1⟩
  have b1 : (k1 : Int) ≤ 59 := by omega
  go_wp2_with fail
  refine (spec_pick B _ 250 w1 hR1 (by omega) (by omega) (by omega)).mono ?_
  rintro e w2 ⟨k2, rfl, hk2, hR2, g2⟩
  have b2 : (k2 : Int) ≤ 249 := by omega
  go_wp2_with fail
  refine (spec_pick B _ 2 w2 hR2 (by omega) (by omega) (by omega)).mono ?_
  rintro e w3 ⟨k3, rfl, hk3, hR3, g3⟩
  have b3 : (k3 : Int) ≤ 1 := by omega
  go_wp2_with fail
  refine (spec_pick B _ 100 w3 hR3 (by omega) (by omega) (by omega)).mono ?_
  rintro e w4 ⟨k4, rfl, hk4, hR4, g4⟩
  have b4 : (k4 : Int) ≤ 99 := by omega
  have p0 : (0 : Int) ≤ (k3 : Int) * (k4 : Int) := Int.mul_nonneg (by omega) (by omega)
  have p1 : (k3 : Int) * (k4 : Int) ≤ 1 * 99 := Int.mul_le_mul b3 b4 (by omega) (by omega)
  obtain ⟨m, hm⟩ : ∃ m, (k3 : Int) * (k4 : Int) = m := ⟨_, rfl⟩
  rw [hm] at p0 p1
  have p2 : (0 : Int) ≤ (k2 : Int) * (1 + m) := Int.mul_nonneg (by omega) (by omega)
  have p3 : (k2 : Int) * (1 + m) ≤ 249 * 100 := Int.mul_le_mul b2 (by omega) (by omega) (by omega)
  obtain ⟨tm, htm⟩ : ∃ tm, (k2 : Int) * (1 + m) = tm := ⟨_, rfl⟩
  rw [htm] at p2 p3
  have Gz4 := grown_trans (grown_trans (grown_trans g1 g2) g3) g4
  have hne : w.heap.size ≠ B := by omega
  have z1 := hz1.by hz2.1 hne Gz4
  have z2 := hz2.by hne Gz4
  have G4 := grown_trans gz Gz4
  clear hz1 hz2 hRz hR1 hR2 hR3 g1 g2 g3 g4 hk1 hk2 hk3 hk4 gz Gz4
  have x1 := Box6.made w4 25 (.int .i64 (k1 : Int)) (.int .i64 tm) (.bool false) (.slice none 0 0) (.bool false) (.slice none 0 0)
  have x2 := Thawed.made w4 #[.int .i64 (k1 : Int), .int .i64 tm, .bool false, .slice none 0 0, .bool false, .slice none 0 0] 25
  have bx := alloc_below' w4 (.cells #[.int .i64 (k1 : Int), .int .i64 tm, .bool false, .slice none 0 0, .bool false, .slice none 0 0] 25)
  have hZ4 := z2.1
  have hX : w.heap.size < w4.heap.size := hZ4
  have hBX : B < w4.heap.size := by omega
  go_wp2_with fail
  generalize hWx : w4.alloc (.cells #[.int .i64 (k1 : Int), .int .i64 tm, .bool false, .slice none 0 0, .bool false, .slice none 0 0] 25) = wx at x1 x2 bx ⊢
  have hRx := hR4.below bx
  have z1x := z1.below hZ4 bx
  have z2x := z2.below bx
  have Gx := grown_trans G4 (grown_of_below bx)
  obtain ⟨X, hXe⟩ : ∃ X, w4.heap.size = X := ⟨_, rfl⟩
  rw [hXe] at x1 x2 hX hBX ⊢
  clear hWx hR4 z1 z2 G4 bx hZ4 hXe hm htm
  refine (spec_l91Part B _ wx hRx (by omega)).mono ?_
  rintro e w5 ⟨h1, kv, ks, rfl, own1, l1, hR5, g5⟩
  obtain ⟨a1, cap1, rfl, _, _, _⟩ := own1.ints
  go_wp2_with fail
  refine (spec_l91Part B _ w5 hR5 (by omega)).mono ?_
  rintro e w6 ⟨h2, vv, vs, rfl, own2, l2, hR6, g6⟩
  obtain ⟨a2, cap2, rfl, _, _, _⟩ := own2.ints
  have hXB : X ≠ B := by omega
  have hZB : w.heap.size ≠ B := by omega
  have hXZ : X ≠ w.heap.size := by omega
  have hZX : w.heap.size ≠ X := by omega
  have x16 := (x1.by x2.1 hXB g5).by (x2.by hXB g5).1 hXB g6
  have x26 := (x2.by hXB g5).by hXB g6
  have z16 := (z1x.by z2x.1 hZB g5).by (z2x.by hZB g5).1 hZB g6
  have z26 := (z2x.by hZB g5).by hZB g6
  have lt1 : X < wx.heap.size := x2.1
  have lt2 : X < w5.heap.size := (x2.by hXB g5).1
  have apart12 := own1.apart own2
  have own16 : Own w6 (X + 1) (.slice a1 ks.length cap1) ks := (own1.by (by have := hRx.lt; omega) g6).base lt1
  have own26 : Own w6 (X + 1) (.slice a2 vs.length cap2) vs := own2.base lt2
  have G6 := grown_trans (grown_trans Gx g5) g6
  clear x1 x2 z1x z2x own1 own2 g5 g6 Gx hR5 hRx lt1 lt2
  obtain ⟨c0, c1, c2, c3, c4, c5⟩ := id x16
  have fz := x26.2
  go_wp2_with fail
  have x17 := (((x16.set2 (.bool h1)).set3 (.slice a1 ks.length cap1)).set4 (.bool h2)).set5 (.slice a2 vs.length cap2)
  have g67 : w6.grownBy ((((w6.setCell ⟨X, 2, none⟩ (.bool h1)).setCell ⟨X, 3, none⟩ (.slice a1 ks.length cap1)).setCell ⟨X, 4, none⟩ (.bool h2)).setCell ⟨X, 5, none⟩ (.slice a2 vs.length cap2)) (some X) :=
    grown_trans (grown_trans (grown_trans (set_grown _ _ _ _) (set_grown _ _ _ _)) (set_grown _ _ _ _)) (set_grown _ _ _ _)
  generalize hW7 : ((((w6.setCell ⟨X, 2, none⟩ (.bool h1)).setCell ⟨X, 3, none⟩ (.slice a1 ks.length cap1)).setCell ⟨X, 4, none⟩ (.bool h2)).setCell ⟨X, 5, none⟩ (.slice a2 vs.length cap2)) = W7 at x17 g67 ⊢
  have x27 : Thawed W7 X := by rw [← hW7]; exact x26.set.set.set.set
  have z17 : Box6 W7 w.heap.size (.int .i64 0) (.int .i64 0) (.bool false) (.slice none 0 0) (.bool false) (.slice none 0 0) := by rw [← hW7]; exact (((z16.setOther hXZ).setOther hXZ).setOther hXZ).setOther hXZ
  have z27 : Thawed W7 w.heap.size := by rw [← hW7]; exact z26.set.set.set.set
  have own17 := own16.by (Nat.lt_succ_self X) g67
  have own27 := own26.by (Nat.lt_succ_self X) g67
  have hR7 := hR6.set hBX g67
  have G7 := grown_new G6 (by omega) g67
  clear hW7 x16 x26 z16 z26 own16 own26 hR6 G6 g67 c0 c1 c2 c3 c4 c5 fz
  refine (spec_pick B _ 40 W7 hR7 (by omega) (by omega) (by omega)).mono ?_
  rintro e w8 ⟨q, rfl, hq, hR8, g8⟩
  have x18 := x17.by x27.1 hXB g8
  have x28 := x27.by hXB g8
  have z18 := z17.by z27.1 hZB g8
  have z28 := z27.by hZB g8
  have hBX1 : B < X + 1 := by omega
  have own18 := own17.by hBX1 g8
  have own28 := own27.by hBX1 g8
  have G8 := grown_trans G7 g8
  clear x17 x27 z17 z27 own17 own27 hR7 G7 g8 hq
  by_cases q0 : q = 0
  · have e0 : ((q : Int) == 0) = true := by rw [beq_iff_eq]; omega
    go_wp2_with fail
    refine (spec_pick B _ 3 _ (hR8.below (alloc_below' _ _)) (by omega) (by omega) (by omega)).mono ?_
    rintro e w9 ⟨y, rfl, hy, hR9, g9⟩
    have bL := alloc_below' w8 (.cells #[.int .i64 (-1), .int .i64 99999, .int .i64 100000] 3)
    have x19 := (x18.below x28.1 bL).by (x28.below bL).1 hXB g9
    have x29 := (x28.below bL).by hXB g9
    have z19 := (z18.below z28.1 bL).by (z28.below bL).1 hZB g9
    have z29 := (z28.below bL).by hZB g9
    have own19 := (own18.below bL).by hBX1 g9
    have own29 := (own28.below bL).by hBX1 g9
    have G9 := grown_trans (grown_trans G8 (grown_of_below bL)) g9
    have hy2 : y < 3 := by omega
    have hblk := (g9.block w8.heap.size (by simp) (by have := hR8.lt; simp; omega)).trans (heap_alloc_new w8 _)
    have hcell := lit_cell [-1, 99999, 100000] hblk y hy2
    have hn : ∃ n, [-1, 99999, 100000].getD y (0 : Int) = n ∧ -1 ≤ n ∧ n ≤ 100000 := by
      match y, hy2 with
      | 0, _ => exact ⟨_, rfl, by decide, by decide⟩
      | 1, _ => exact ⟨_, rfl, by decide, by decide⟩
      | 2, _ => exact ⟨_, rfl, by decide, by decide⟩
    obtain ⟨n, en, n0, n1⟩ := hn
    rw [en] at hcell
    have x10 := x19.set0 (.int .i64 n)
    have z10 : Box6 (w9.setCell ⟨X, 0, none⟩ (.int .i64 n)) w.heap.size (.int .i64 0) (.int .i64 0) (.bool false) (.slice none 0 0) (.bool false) (.slice none 0 0) := z19.setOther hXZ
    have own10 := own19.by (Nat.lt_succ_self X) (set_grown w9 X 0 (.int .i64 n))
    have own20 := own29.by (Nat.lt_succ_self X) (set_grown w9 X 0 (.int .i64 n))
    have hR10 := hR9.set hBX (set_grown w9 X 0 (.int .i64 n))
    have G10 := grown_new G9 (by omega) (set_grown w9 X 0 (.int .i64 n))
    obtain ⟨c0, c1, c2, c3, c4, c5⟩ := id z19
    obtain ⟨d0, d1, d2, d3, d4, d5⟩ := id x19
    have fz := z29.2
    have fx := x29.2
    clear en hblk bL x18 x28 z18 z28 own18 own28 G8 g9 own19 own29 hR9 G9 hR8
    go_wp2_with fail
    have box8 := Box6.store z10 (.int .i64 n) (.int .i64 tm) (.bool h1) (.slice a1 ks.length cap1) (.bool h2) (.slice a2 vs.length cap2)
    have gR := six_grown (w9.setCell ⟨X, 0, none⟩ (.int .i64 n)) w.heap.size (.int .i64 n) (.int .i64 tm) (.bool h1) (.slice a1 ks.length cap1) (.bool h2) (.slice a2 vs.length cap2)
    generalize hWR : (((((((w9.setCell ⟨X, 0, none⟩ (.int .i64 n)).setCell ⟨w.heap.size, 0, none⟩ (.int .i64 n)).setCell ⟨w.heap.size, 1, none⟩ (.int .i64 tm)).setCell ⟨w.heap.size, 2, none⟩ (.bool h1)).setCell ⟨w.heap.size, 3, none⟩ (.slice a1 ks.length cap1)).setCell ⟨w.heap.size, 4, none⟩ (.bool h2)).setCell ⟨w.heap.size, 5, none⟩ (.slice a2 vs.length cap2)) = WR at box8 gR ⊢
    have o1 := own10.by (show w.heap.size < X + 1 by omega) gR
    have o2 := own20.by (show w.heap.size < X + 1 by omega) gR
    have rR := Rd.set hR10 hB gR
    have GR := grown_new G10 (Nat.le_refl _) gR
    clear c0 c1 c2 c3 c4 c5 d0 d1 d2 d3 d4 d5 fz fx hWR
    obtain ⟨c0, c1, c2, c3, c4, c5⟩ := box8
    refine bodyPost_ret (v := .agg #[.int .i64 n, .int .i64 tm, .bool h1, (.slice a1 ks.length cap1), .bool h2, (.slice a2 vs.length cap2)]) (by simp [results, Try.results40, go_sem, c0, c1, c2, c3, c4, c5]) rfl ?_
    exact ⟨⟨n, tm, h1, ks, h2, vs⟩, _, rfl, ⟨_, _, rfl, o1.base (by omega), o2.base (by omega)⟩, by show -1 ≤ n; omega, by show n ≤ 100000; omega, by show 0 ≤ tm; omega, by show tm ≤ 100000; omega, by show ks.length ≤ 13; omega, by show (vs).length ≤ 13; omega, rR.more (by omega), GR⟩
  have e0 : ((q : Int) == 0) = false := by rw [beq_eq_false_iff_ne]; omega
  by_cases q1 : q = 1
  · have e1 : ((q : Int) == 1) = true := by rw [beq_iff_eq]; omega
    cases h1
    · have x10 := x18.set2 (.bool true)
      have z10 : Box6 (w8.setCell ⟨X, 2, none⟩ (.bool true)) w.heap.size (.int .i64 0) (.int .i64 0) (.bool false) (.slice none 0 0) (.bool false) (.slice none 0 0) := z18.setOther hXZ
      have own10 := own18.by (Nat.lt_succ_self X) (set_grown w8 X 2 (.bool true))
      have own20 := own28.by (Nat.lt_succ_self X) (set_grown w8 X 2 (.bool true))
      have hR10 := hR8.set hBX (set_grown w8 X 2 (.bool true))
      have G10 := grown_new G8 (by omega) (set_grown w8 X 2 (.bool true))
      obtain ⟨c0, c1, c2, c3, c4, c5⟩ := id z18
      obtain ⟨d0, d1, d2, d3, d4, d5⟩ := id x18
      have fz := z28.2
      have fx := x28.2
      go_wp2_with fail
      have box8 := Box6.store z10 (.int .i64 (k1 : Int)) (.int .i64 tm) (.bool true) (.slice a1 ks.length cap1) (.bool h2) (.slice a2 vs.length cap2)
      have gR := six_grown (w8.setCell ⟨X, 2, none⟩ (.bool true)) w.heap.size (.int .i64 (k1 : Int)) (.int .i64 tm) (.bool true) (.slice a1 ks.length cap1) (.bool h2) (.slice a2 vs.length cap2)
      generalize hWR : (((((((w8.setCell ⟨X, 2, none⟩ (.bool true)).setCell ⟨w.heap.size, 0, none⟩ (.int .i64 (k1 : Int))).setCell ⟨w.heap.size, 1, none⟩ (.int .i64 tm)).setCell ⟨w.heap.size, 2, none⟩ (.bool true)).setCell ⟨w.heap.size, 3, none⟩ (.slice a1 ks.length cap1)).setCell ⟨w.heap.size, 4, none⟩ (.bool h2)).setCell ⟨w.heap.size, 5, none⟩ (.slice a2 vs.length cap2)) = WR at box8 gR ⊢
      have o1 := own10.by (show w.heap.size < X + 1 by omega) gR
      have o2 := own20.by (show w.heap.size < X + 1 by omega) gR
      have rR := Rd.set hR10 hB gR
      have GR := grown_new G10 (Nat.le_refl _) gR
      clear c0 c1 c2 c3 c4 c5 d0 d1 d2 d3 d4 d5 fz fx hWR
      obtain ⟨c0, c1, c2, c3, c4, c5⟩ := box8
      refine bodyPost_ret (v := .agg #[.int .i64 (k1 : Int), .int .i64 tm, .bool true, (.slice a1 ks.length cap1), .bool h2, (.slice a2 vs.length cap2)]) (by simp [results, Try.results40, go_sem, c0, c1, c2, c3, c4, c5]) rfl ?_
      exact ⟨⟨(k1 : Int), tm, true, ks, h2, vs⟩, _, rfl, ⟨_, _, rfl, o1.base (by omega), o2.base (by omega)⟩, by show -1 ≤ (k1 : Int); omega, by show (k1 : Int) ≤ 100000; omega, by show 0 ≤ tm; omega, by show tm ≤ 100000; omega, by show ks.length ≤ 13; omega, by show (vs).length ≤ 13; omega, rR.more (by omega), GR⟩
    · have x10 := x18.set2 (.bool false)
      have z10 : Box6 (w8.setCell ⟨X, 2, none⟩ (.bool false)) w.heap.size (.int .i64 0) (.int .i64 0) (.bool false) (.slice none 0 0) (.bool false) (.slice none 0 0) := z18.setOther hXZ
      have own10 := own18.by (Nat.lt_succ_self X) (set_grown w8 X 2 (.bool false))
      have own20 := own28.by (Nat.lt_succ_self X) (set_grown w8 X 2 (.bool false))
      have hR10 := hR8.set hBX (set_grown w8 X 2 (.bool false))
      have G10 := grown_new G8 (by omega) (set_grown w8 X 2 (.bool false))
      obtain ⟨c0, c1, c2, c3, c4, c5⟩ := id z18
      obtain ⟨d0, d1, d2, d3, d4, d5⟩ := id x18
      have fz := z28.2
      have fx := x28.2
      go_wp2_with fail
      have box8 := Box6.store z10 (.int .i64 (k1 : Int)) (.int .i64 tm) (.bool false) (.slice a1 ks.length cap1) (.bool h2) (.slice a2 vs.length cap2)
      have gR := six_grown (w8.setCell ⟨X, 2, none⟩ (.bool false)) w.heap.size (.int .i64 (k1 : Int)) (.int .i64 tm) (.bool false) (.slice a1 ks.length cap1) (.bool h2) (.slice a2 vs.length cap2)
      generalize hWR : (((((((w8.setCell ⟨X, 2, none⟩ (.bool false)).setCell ⟨w.heap.size, 0, none⟩ (.int .i64 (k1 : Int))).setCell ⟨w.heap.size, 1, none⟩ (.int .i64 tm)).setCell ⟨w.heap.size, 2, none⟩ (.bool false)).setCell ⟨w.heap.size, 3, none⟩ (.slice a1 ks.length cap1)).setCell ⟨w.heap.size, 4, none⟩ (.bool h2)).setCell ⟨w.heap.size, 5, none⟩ (.slice a2 vs.length cap2)) = WR at box8 gR ⊢
      have o1 := own10.by (show w.heap.size < X + 1 by omega) gR
      have o2 := own20.by (show w.heap.size < X + 1 by omega) gR
      have rR := Rd.set hR10 hB gR
      have GR := grown_new G10 (Nat.le_refl _) gR
      clear c0 c1 c2 c3 c4 c5 d0 d1 d2 d3 d4 d5 fz fx hWR
      obtain ⟨c0, c1, c2, c3, c4, c5⟩ := box8
      refine bodyPost_ret (v := .agg #[.int .i64 (k1 : Int), .int .i64 tm, .bool false, (.slice a1 ks.length cap1), .bool h2, (.slice a2 vs.length cap2)]) (by simp [results, Try.results40, go_sem, c0, c1, c2, c3, c4, c5]) rfl ?_
      exact ⟨⟨(k1 : Int), tm, false, ks, h2, vs⟩, _, rfl, ⟨_, _, rfl, o1.base (by omega), o2.base (by omega)⟩, by show -1 ≤ (k1 : Int); omega, by show (k1 : Int) ≤ 100000; omega, by show 0 ≤ tm; omega, by show tm ≤ 100000; omega, by show ks.length ≤ 13; omega, by show (vs).length ≤ 13; omega, rR.more (by omega), GR⟩
  have e1 : ((q : Int) == 1) = false := by rw [beq_eq_false_iff_ne]; omega
  by_cases q2 : q = 2
  · have e2 : ((q : Int) == 2) = true := by rw [beq_iff_eq]; omega
    obtain ⟨c0, c1, c2, c3, c4, c5⟩ := id z18
    obtain ⟨d0, d1, d2, d3, d4, d5⟩ := id x18
    have fz := z28.2
    have fx := x28.2
    have hsz : X + 1 ≤ w8.heap.size := x28.1
    go_wp2_with (
      at_builtin
      refine wp_app1 rfl _ _ rfl (X + 1) (.slice a2 vs.length cap2) vs 256 rfl rfl own28 (by omega) hsz ?_
      intro v9 w9 own29 g9 hv9
      have b9 : Below (X + 1) w8 w9 := (Below.refl (X + 1) w8).grown g9 hsz own28.lt
      have x19 := x18.belowN (Nat.lt_succ_self X) b9
      have x29 := x28.belowN (Nat.lt_succ_self X) b9
      have z19 := z18.belowN (show w.heap.size < X + 1 by omega) b9
      have z29 := z28.belowN (show w.heap.size < X + 1 by omega) b9
      have own19 : Own w9 (X + 1) (.slice a1 ks.length cap1) ks := own18.grown g9 (by
        cases e : (Value.slice a1 ks.length cap1).ownBlock with
        | none => exact .inl rfl
        | some kk => exact .inr fun e2 => apart12 kk e2.symm e)
      have hR9 : Rd w9 B (0 + 0 + (c + 0 + 1 + 1 + 1 + 1 + 30 + 30 + 1)) := (hR8.keep fun b hb => b9.block b (by omega)).more (by omega)
      have G9 : w.grownBy w9 (some B) := ⟨g9.os.trans G8.os, g9.tape.trans G8.tape, g9.output.trans G8.output, Nat.le_trans G8.size g9.size, fun i hi hne => (b9.block i (by omega)).trans (G8.block i hi hne)⟩
      obtain ⟨gg, cap9, rfl⟩ := hv9
      have hl9 : (vs ++ [256]).length = vs.length + 1 := by simp
      have x10 := x19.set5 (.slice (some ⟨gg, 0, none⟩) (vs.length + 1) cap9)
      have z10 : Box6 (w9.setCell ⟨X, 5, none⟩ (.slice (some ⟨gg, 0, none⟩) (vs.length + 1) cap9)) w.heap.size (.int .i64 0) (.int .i64 0) (.bool false) (.slice none 0 0) (.bool false) (.slice none 0 0) := z19.setOther hXZ
      have own10 := own19.by (Nat.lt_succ_self X) (set_grown w9 X 5 (.slice (some ⟨gg, 0, none⟩) (vs.length + 1) cap9))
      have own20 := own29.by (Nat.lt_succ_self X) (set_grown w9 X 5 (.slice (some ⟨gg, 0, none⟩) (vs.length + 1) cap9))
      have hR10 := hR9.set hBX (set_grown w9 X 5 (.slice (some ⟨gg, 0, none⟩) (vs.length + 1) cap9))
      have G10 := grown_new G9 (by omega) (set_grown w9 X 5 (.slice (some ⟨gg, 0, none⟩) (vs.length + 1) cap9))
      clear c0 c1 c2 c3 c4 c5 d0 d1 d2 d3 d4 d5 fz fx hl9
      obtain ⟨c0, c1, c2, c3, c4, c5⟩ := id z19
      obtain ⟨d0, d1, d2, d3, d4, d5⟩ := id x19
      have fz := z29.2
      have fx := x29.2)
    have box8 := Box6.store z10 (.int .i64 (k1 : Int)) (.int .i64 tm) (.bool h1) (.slice a1 ks.length cap1) (.bool h2) (.slice (some ⟨gg, 0, none⟩) (vs.length + 1) cap9)
    have gR := six_grown (w9.setCell ⟨X, 5, none⟩ (.slice (some ⟨gg, 0, none⟩) (vs.length + 1) cap9)) w.heap.size (.int .i64 (k1 : Int)) (.int .i64 tm) (.bool h1) (.slice a1 ks.length cap1) (.bool h2) (.slice (some ⟨gg, 0, none⟩) (vs.length + 1) cap9)
    generalize hWR : (((((((w9.setCell ⟨X, 5, none⟩ (.slice (some ⟨gg, 0, none⟩) (vs.length + 1) cap9)).setCell ⟨w.heap.size, 0, none⟩ (.int .i64 (k1 : Int))).setCell ⟨w.heap.size, 1, none⟩ (.int .i64 tm)).setCell ⟨w.heap.size, 2, none⟩ (.bool h1)).setCell ⟨w.heap.size, 3, none⟩ (.slice a1 ks.length cap1)).setCell ⟨w.heap.size, 4, none⟩ (.bool h2)).setCell ⟨w.heap.size, 5, none⟩ (.slice (some ⟨gg, 0, none⟩) (vs.length + 1) cap9)) = WR at box8 gR ⊢
    have o1 := own10.by (show w.heap.size < X + 1 by omega) gR
    have o2 := own20.by (show w.heap.size < X + 1 by omega) gR
    have rR := Rd.set hR10 hB gR
    have GR := grown_new G10 (Nat.le_refl _) gR
    clear c0 c1 c2 c3 c4 c5 d0 d1 d2 d3 d4 d5 fz fx hWR
    obtain ⟨c0, c1, c2, c3, c4, c5⟩ := box8
    refine bodyPost_ret (v := .agg #[.int .i64 (k1 : Int), .int .i64 tm, .bool h1, (.slice a1 ks.length cap1), .bool h2, (.slice (some ⟨gg, 0, none⟩) (vs.length + 1) cap9)]) (by simp [results, Try.results40, go_sem, c0, c1, c2, c3, c4, c5]) rfl ?_
    exact ⟨⟨(k1 : Int), tm, h1, ks, h2, vs ++ [256]⟩, _, rfl, ⟨_, _, rfl, o1.base (by omega), o2.base (by omega)⟩, by show -1 ≤ (k1 : Int); omega, by show (k1 : Int) ≤ 100000; omega, by show 0 ≤ tm; omega, by show tm ≤ 100000; omega, by show ks.length ≤ 13; omega, by show (vs ++ [256]).length ≤ 13; simp; omega, rR.more (by omega), GR⟩
  have e2 : ((q : Int) == 2) = false := by rw [beq_eq_false_iff_ne]; omega
  obtain ⟨c0, c1, c2, c3, c4, c5⟩ := id z18
  obtain ⟨d0, d1, d2, d3, d4, d5⟩ := id x18
  have fz := z28.2
  have fx := x28.2
  go_wp2_with fail
  have box8 := Box6.store z18 (.int .i64 (k1 : Int)) (.int .i64 tm) (.bool h1) (.slice a1 ks.length cap1) (.bool h2) (.slice a2 vs.length cap2)
  have gR := six_grown w8 w.heap.size (.int .i64 (k1 : Int)) (.int .i64 tm) (.bool h1) (.slice a1 ks.length cap1) (.bool h2) (.slice a2 vs.length cap2)
  generalize hWR : ((((((w8.setCell ⟨w.heap.size, 0, none⟩ (.int .i64 (k1 : Int))).setCell ⟨w.heap.size, 1, none⟩ (.int .i64 tm)).setCell ⟨w.heap.size, 2, none⟩ (.bool h1)).setCell ⟨w.heap.size, 3, none⟩ (.slice a1 ks.length cap1)).setCell ⟨w.heap.size, 4, none⟩ (.bool h2)).setCell ⟨w.heap.size, 5, none⟩ (.slice a2 vs.length cap2)) = WR at box8 gR ⊢
  have o1 := own18.by (show w.heap.size < X + 1 by omega) gR
  have o2 := own28.by (show w.heap.size < X + 1 by omega) gR
  have rR := Rd.set hR8 hB gR
  have GR := grown_new G8 (Nat.le_refl _) gR
  clear c0 c1 c2 c3 c4 c5 d0 d1 d2 d3 d4 d5 fz fx hWR
  obtain ⟨c0, c1, c2, c3, c4, c5⟩ := box8
  refine bodyPost_ret (v := .agg #[.int .i64 (k1 : Int), .int .i64 tm, .bool h1, (.slice a1 ks.length cap1), .bool h2, (.slice a2 vs.length cap2)]) (by simp [results, Try.results40, go_sem, c0, c1, c2, c3, c4, c5]) rfl ?_
  exact ⟨⟨(k1 : Int), tm, h1, ks, h2, vs⟩, _, rfl, ⟨_, _, rfl, o1.base (by omega), o2.base (by omega)⟩, by show -1 ≤ (k1 : Int); omega, by show (k1 : Int) ≤ 100000; omega, by show 0 ≤ tm; omega, by show tm ≤ 100000; omega, by show ks.length ≤ 13; omega, by show (vs).length ≤ 13; omega, rR.more (by omega), GR⟩
end Go.Proofs.Ytkkfnpcldogglaa
