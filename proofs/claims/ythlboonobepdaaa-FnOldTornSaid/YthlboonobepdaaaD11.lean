/- Chapter 11: a message is drawn. -/
import Derived.Test.YthlboonobepdaaaR11
import Derived.Test.YthlboonobepdaaaD3b
namespace Go.Proofs.Ythlboonobepdaaa
open Go.ChangeShapes Go.WideShapes Go.ChangeAt Go.RowKit
set_option linter.unusedVariables false

/-- a message by value, its parts in memory of the call's own -/
def MesP (w : World) (base : Nat) (v : Value) (m : Mes) : Prop :=
  ∃ kv vv, v = .agg #[.int .i64 m.off, .bool m.timed, .int .i64 m.time, kv, vv, .bool m.hk, .bool m.miss] ∧ Own w base kv m.key ∧ Own w base vv m.val
theorem MesP.mesV {w : World} {base : Nat} {v : Value} {m : Mes} (h : MesP w base v m) : MesV w v m := by
  obtain ⟨kv, vv, rfl, h1, h2⟩ := h
  exact ⟨kv, vv, rfl, h1.ints, h2.ints⟩
theorem MesP.below {w w' : World} {base : Nat} {v : Value} {m : Mes} (h : MesP w base v m) (hb : Below w.heap.size w w') : MesP w' base v m := by
  obtain ⟨kv, vv, rfl, h1, h2⟩ := h
  exact ⟨kv, vv, rfl, h1.below hb, h2.below hb⟩
/-- a message that was drawn -/
def MesDrawn (w : World) (B c : Nat) (e : Ending) (w' : World) : Prop :=
  ∃ (m : Mes) (v : Value), e = .returned v ∧ MesP w' w.heap.size v m ∧ m.key.length ≤ 12 ∧ m.val.length ≤ 12 ∧ Rd w' B (c + 90) ∧ w.grownBy w' (some B)
set_option maxHeartbeats 8000000 in
theorem spec_l91Old (B c : Nat) (o : Int) (w : World) (h : Rd w B c) (hc : c ≤ 800000000) :
    Calls Try.prog 33 #[.pointer (some ⟨B, 0, none⟩), .int .i64 o] w (MesDrawn w B c) := by
  have hB := h.lt
  have bz := alloc_below' w (.cells #[.int .i64 0, .bool false, .int .i64 0, .slice none 0 0, .slice none 0 0, .bool false, .bool false] 25)
  have xZ := Blk.made w #[.int .i64 0, .bool false, .int .i64 0, .slice none 0 0, .slice none 0 0, .bool false, .bool false] 25
  have gz := grown_of_below (row := some B) bz
  have hRz := h.below bz
  go_enter Try.func33, Try.ntmps33
  go_wp2_with fail
  generalize hWz : w.alloc (.cells #[.int .i64 0, .bool false, .int .i64 0, .slice none 0 0, .slice none 0 0, .bool false, .bool false] 25) = wz at bz xZ gz hRz ⊢
  clear hWz
  obtain ⟨Z, hZ⟩ : ∃ Z, w.heap.size = Z := ⟨_, rfl⟩
  rw [hZ] at xZ ⊢
  refine (spec_pick B _ 2 wz hRz (by omega) (by omega) (by omega)).mono ?_
  rintro e w1 ⟨k0, rfl, hk0, hR1, g1⟩
  have hZB : Z ≠ B := by omega
  have hBZ : B < Z := by omega
  have hwZ : w.heap.size ≤ Z := by omega
  have z1 := xZ.by hZB g1
  have G1 := grown_trans gz g1
  have hZ1 := z1.lt
  have HZ := Lib.hid hZ
  clear xZ hRz gz g1 bz hZ
  by_cases q0 : k0 = 0
  · have e0 : ((k0 : Int) == 0) = true := by rw [beq_iff_eq]; omega
    clear q0 hk0
    have bx := alloc_below' w1 (.cells #[.int .i64 o, .bool true, .int .i64 0, .slice none 0 0, .slice none 0 0, .bool false, .bool false] 25)
    have x2 := Blk.made w1 #[.int .i64 o, .bool true, .int .i64 0, .slice none 0 0, .slice none 0 0, .bool false, .bool false] 25
    go_upto_region 3 with (fail)
    generalize hWx : w1.alloc (.cells #[.int .i64 o, .bool true, .int .i64 0, .slice none 0 0, .slice none 0 0, .bool false, .bool false] 25) = wx at x2 bx ⊢
    clear hWx
    have hRx := hR1.below bx
    have z2 := z1.belowS bx
    have Gx := grown_trans G1 (grown_of_below bx)
    obtain ⟨X, hX⟩ : ∃ X, w1.heap.size = X := ⟨_, rfl⟩
    rw [hX] at x2 ⊢
    have hZX2 : Z < X := by omega
    clear hR1 z1 G1 bx hZ1 hX
    have hZX : Z ≠ X := by omega
    have hXB : X ≠ B := by omega
    have hBX : B < X := by omega
    have hBX1 : B < X + 1 := by omega
    have hwX0 : w.heap.size ≤ X := by omega
    have hwX : w.heap.size ≤ X + 1 := by omega
    go_wp2_with fail
    refine (spec_pick B _ 250 wx hRx (by omega) (by omega) (by omega)).mono ?_
    rintro e w2 ⟨k1, rfl, hk1, hR2, g2⟩
    have b1 : (k1 : Int) ≤ 249 := by omega
    go_wp2_with fail
    refine (spec_pick B _ 2 w2 hR2 (by omega) (by omega) (by omega)).mono ?_
    rintro e w3 ⟨k2, rfl, hk2, hR3, g3⟩
    have b2 : (k2 : Int) ≤ 1 := by omega
    have p0 : (0 : Int) ≤ (k1 : Int) * (1 + (k2 : Int) * 300) := Int.mul_nonneg (by omega) (by omega)
    have p1 : (k1 : Int) * (1 + (k2 : Int) * 300) ≤ 249 * 301 := Int.mul_le_mul b1 (by omega) (by omega) (by omega)
    obtain ⟨tm, htm⟩ : ∃ tm, (k1 : Int) * (1 + (k2 : Int) * 300) = tm := ⟨_, rfl⟩
    rw [htm] at p0 p1
    have x3 := (x2.by hXB g2).by hXB g3
    have z3 := (z2.by hZB g2).by hZB g3
    have G3 := grown_trans (grown_trans Gx g2) g3
    clear x2 z2 hRx hR2 g2 g3 hk1 hk2 Gx
    obtain ⟨c0, c1, c2, c3, c4, c5, c6⟩ := x3.seven?
    have fx := x3.free
    have x4 := x3.set 2 (.int .i64 tm)
    have g4 : w3.grownBy (w3.setCell ⟨X, 2, none⟩ (.int .i64 tm)) (some X) := set_grown _ _ _ _
    have z4 := z3.by hZX g4
    have hR4 := hR3.set hBX g4
    have G4 := grown_new G3 hwX0 g4
    simp only [List.setIfInBounds_toArray, List.set_cons_zero, List.set_cons_succ] at x4
    go_upto_region 4 with (fail)
    generalize hW4 : w3.setCell ⟨X, 2, none⟩ (.int .i64 tm) = w4 at x4 z4 hR4 G4 ⊢
    clear hW4 htm g4 x3 z3 hR3 G3 c0 c1 c2 c3 c4 c5 c6 fx
    go_wp2_with fail
    refine (spec_l91Part B _ w4 hR4 (by omega)).mono ?_
    rintro e w5 ⟨h1, kv, ks, rfl, own1, l1, hR5, g5⟩
    obtain ⟨a1, cap1, rfl, _, _, _⟩ := own1.ints
    go_wp2_with fail
    refine (spec_l91Part B _ w5 hR5 (by omega)).mono ?_
    rintro e w6 ⟨h2, vv, vs, rfl, own2, l2, hR6, g6⟩
    obtain ⟨a2, cap2, rfl, _, _, _⟩ := own2.ints
    have x5 := x4.by hXB g5
    have z5 := z4.by hZB g5
    have x6 := x5.by hXB g6
    have z6 := z5.by hZB g6
    have o16 : Own w6 (X + 1) (.slice a1 ks.length cap1) ks := (own1.by (by have := hR4.lt; omega) g6).base x4.lt
    have o26 : Own w6 (X + 1) (.slice a2 vs.length cap2) vs := own2.base x5.lt
    have G6 := grown_trans (grown_trans G4 g5) g6
    clear x4 z4 own1 own2 g5 g6 G4 hR4 hR5 x5 z5
    obtain ⟨c0, c1, c2, c3, c4, c5, c6⟩ := x6.seven?
    have fx := x6.free
    go_wp2_with fail
    have x7 := (((x6.set 5 (.bool h1)).set 3 (.slice a1 ks.length cap1)).set 6 (.bool (!h2))).set 4 (.slice a2 vs.length cap2)
    have g67 : w6.grownBy ((((w6.setCell ⟨X, 5, none⟩ (.bool h1)).setCell ⟨X, 3, none⟩ (.slice a1 ks.length cap1)).setCell ⟨X, 6, none⟩ (.bool (!h2))).setCell ⟨X, 4, none⟩ (.slice a2 vs.length cap2)) (some X) := grown_trans (grown_trans (grown_trans (set_grown _ _ _ _) (set_grown _ _ _ _)) (set_grown _ _ _ _)) (set_grown _ _ _ _)
    generalize hW7 : ((((w6.setCell ⟨X, 5, none⟩ (.bool h1)).setCell ⟨X, 3, none⟩ (.slice a1 ks.length cap1)).setCell ⟨X, 6, none⟩ (.bool (!h2))).setCell ⟨X, 4, none⟩ (.slice a2 vs.length cap2)) = W7 at x7 g67 ⊢
    simp only [List.setIfInBounds_toArray, List.set_cons_zero, List.set_cons_succ] at x7
    have z7 := z6.by hZX g67
    have o17 := o16.by (Nat.lt_succ_self X) g67
    have o27 := o26.by (Nat.lt_succ_self X) g67
    have hR7 := hR6.set hBX g67
    have G7 := grown_new G6 hwX0 g67
    clear hW7 x6 z6 o16 o26 hR6 G6 g67 c0 c1 c2 c3 c4 c5 c6 fx
    refine (spec_pick B _ 40 W7 hR7 (by omega) (by omega) (by omega)).mono ?_
    rintro e w8 ⟨q, rfl, hq, hR8, g8⟩
    have x8 := x7.by hXB g8
    have z8 := z7.by hZB g8
    have o18 := o17.by hBX1 g8
    have o28 := o27.by hBX1 g8
    have G8 := grown_trans G7 g8
    clear x7 z7 o17 o27 hR7 G7 g8 hq
    by_cases q0 : q = 0
    · have e0 : ((q : Int) == 0) = true := by rw [beq_iff_eq]; omega
      clear q0
      obtain ⟨c0, c1, c2, c3, c4, c5, c6⟩ := x8.seven?
      have fx := x8.free
      have x9 := x8.set 1 (.bool false)
      have g89 : w8.grownBy (w8.setCell ⟨X, 1, none⟩ (.bool false)) (some X) := set_grown _ _ _ _
      have z9 := z8.by hZX g89
      have o19 := o18.by (Nat.lt_succ_self X) g89
      have o29 := o28.by (Nat.lt_succ_self X) g89
      have hR9 := hR8.set hBX g89
      have G9 := grown_new G8 hwX0 g89
      simp only [List.setIfInBounds_toArray, List.set_cons_zero, List.set_cons_succ] at x9
      go_upto_region 15 with (fail)
      generalize hW9 : w8.setCell ⟨X, 1, none⟩ (.bool false) = W9 at x9 z9 o19 o29 hR9 G9 ⊢
      clear hW9 g89 x8 z8 o18 o28 hR8 G8 c0 c1 c2 c3 c4 c5 c6 fx
      obtain ⟨c0, c1, c2, c3, c4, c5, c6⟩ := z9.seven?
      obtain ⟨d0, d1, d2, d3, d4, d5, d6⟩ := x9.seven?
      have fz := z9.free
      go_wp2_with fail
      have box8 := z9.sevenS (.int .i64 o) (.bool false) (.int .i64 tm) (.slice a1 ks.length cap1) (.slice a2 vs.length cap2) (.bool h1) (.bool (!h2))
      have gR := seven_grown W9 Z (.int .i64 o) (.bool false) (.int .i64 tm) (.slice a1 ks.length cap1) (.slice a2 vs.length cap2) (.bool h1) (.bool (!h2))
      generalize hWR : (((((((W9.setCell ⟨Z, 0, none⟩ (.int .i64 o)).setCell ⟨Z, 1, none⟩ (.bool false)).setCell ⟨Z, 2, none⟩ (.int .i64 tm)).setCell ⟨Z, 3, none⟩ (.slice a1 ks.length cap1)).setCell ⟨Z, 4, none⟩ (.slice a2 vs.length cap2)).setCell ⟨Z, 5, none⟩ (.bool h1)).setCell ⟨Z, 6, none⟩ (.bool (!h2))) = WR at box8 gR ⊢
      have q1 := (o19.by (show Z < X + 1 by omega) gR).base hwX
      have q2 := (o29.by (show Z < X + 1 by omega) gR).base hwX
      have rR := Rd.set hR9 hBZ gR
      have GR := grown_new G9 hwZ gR
      clear c0 c1 c2 c3 c4 c5 c6 d0 d1 d2 d3 d4 d5 d6 fz hWR
      obtain ⟨c0, c1, c2, c3, c4, c5, c6⟩ := box8.seven?
      refine bodyPost_ret (v := .agg #[.int .i64 o, .bool false, .int .i64 tm, .slice a1 ks.length cap1, .slice a2 vs.length cap2, .bool h1, .bool (!h2)]) (by simp [results, Try.results33, go_sem, c0, c1, c2, c3, c4, c5, c6]) rfl ?_
      exact ⟨⟨o, false, tm, ks, vs, h1, !h2⟩, _, rfl, ⟨_, _, rfl, q1, q2⟩, by show ks.length ≤ 12; exact l1, by show vs.length ≤ 12; exact l2, rR.more (by omega), GR⟩
    have e0 : ((q : Int) == 0) = false := by rw [beq_eq_false_iff_ne]; omega
    by_cases q1 : q = 1
    · have e1 : ((q : Int) == 1) = true := by rw [beq_iff_eq]; omega
      clear q0 q1
      have bL := alloc_below' w8 (.cells #[.int .i64 (-1), .int .i64 99999, .int .i64 100000] 3)
      go_wp2_with fail
      refine (spec_pick B _ 3 _ (hR8.below bL) (by omega) (by omega) (by omega)).mono ?_
      rintro e w9 ⟨y, rfl, hy, hR9, g9⟩
      have x9 := (x8.belowS bL).by hXB g9
      have z9 := (z8.belowS bL).by hZB g9
      have o19 := (o18.below bL).by hBX1 g9
      have o29 := (o28.below bL).by hBX1 g9
      have G9 := grown_trans (grown_trans G8 (grown_of_below bL)) g9
      have hy2 : y < 3 := by omega
      have hblk := (g9.block w8.heap.size (by simp) (by have := hR8.lt; simp; omega)).trans (heap_alloc_new w8 _)
      have hcell := lit_cell [-1, 99999, 100000] hblk y hy2
      obtain ⟨n, en⟩ : ∃ n, [-1, 99999, 100000].getD y (0 : Int) = n := ⟨_, rfl⟩
      rw [en] at hcell
      obtain ⟨c0, c1, c2, c3, c4, c5, c6⟩ := x9.seven?
      have fx := x9.free
      have x10 := x9.set 0 (.int .i64 n)
      have g910 : w9.grownBy (w9.setCell ⟨X, 0, none⟩ (.int .i64 n)) (some X) := set_grown _ _ _ _
      have z10 := z9.by hZX g910
      have o110 := o19.by (Nat.lt_succ_self X) g910
      have o210 := o29.by (Nat.lt_succ_self X) g910
      have hR10 := hR9.set hBX g910
      have G10 := grown_new G9 hwX0 g910
      simp only [List.setIfInBounds_toArray, List.set_cons_zero] at x10
      clear en hblk bL x8 z8 o18 o28 G8 g9 hR8 hy
      go_upto_region 15 with (fail)
      generalize hW10 : w9.setCell ⟨X, 0, none⟩ (.int .i64 n) = W10 at x10 z10 o110 o210 hR10 G10 ⊢
      clear hW10 g910 x9 z9 o19 o29 hR9 G9 c0 c1 c2 c3 c4 c5 c6 fx hcell
      obtain ⟨c0, c1, c2, c3, c4, c5, c6⟩ := z10.seven?
      obtain ⟨d0, d1, d2, d3, d4, d5, d6⟩ := x10.seven?
      have fz := z10.free
      go_wp2_with fail
      have box8 := z10.sevenS (.int .i64 n) (.bool true) (.int .i64 tm) (.slice a1 ks.length cap1) (.slice a2 vs.length cap2) (.bool h1) (.bool (!h2))
      have gR := seven_grown W10 Z (.int .i64 n) (.bool true) (.int .i64 tm) (.slice a1 ks.length cap1) (.slice a2 vs.length cap2) (.bool h1) (.bool (!h2))
      generalize hWR : (((((((W10.setCell ⟨Z, 0, none⟩ (.int .i64 n)).setCell ⟨Z, 1, none⟩ (.bool true)).setCell ⟨Z, 2, none⟩ (.int .i64 tm)).setCell ⟨Z, 3, none⟩ (.slice a1 ks.length cap1)).setCell ⟨Z, 4, none⟩ (.slice a2 vs.length cap2)).setCell ⟨Z, 5, none⟩ (.bool h1)).setCell ⟨Z, 6, none⟩ (.bool (!h2))) = WR at box8 gR ⊢
      have q1 := (o110.by (show Z < X + 1 by omega) gR).base hwX
      have q2 := (o210.by (show Z < X + 1 by omega) gR).base hwX
      have rR := Rd.set hR10 hBZ gR
      have GR := grown_new G10 hwZ gR
      clear c0 c1 c2 c3 c4 c5 c6 d0 d1 d2 d3 d4 d5 d6 fz hWR
      obtain ⟨c0, c1, c2, c3, c4, c5, c6⟩ := box8.seven?
      refine bodyPost_ret (v := .agg #[.int .i64 n, .bool true, .int .i64 tm, .slice a1 ks.length cap1, .slice a2 vs.length cap2, .bool h1, .bool (!h2)]) (by simp [results, Try.results33, go_sem, c0, c1, c2, c3, c4, c5, c6]) rfl ?_
      exact ⟨⟨n, true, tm, ks, vs, h1, !h2⟩, _, rfl, ⟨_, _, rfl, q1, q2⟩, by show ks.length ≤ 12; exact l1, by show vs.length ≤ 12; exact l2, rR.more (by omega), GR⟩
    have e1 : ((q : Int) == 1) = false := by rw [beq_eq_false_iff_ne]; omega
    clear q0 q1
    obtain ⟨c0, c1, c2, c3, c4, c5, c6⟩ := z8.seven?
    obtain ⟨d0, d1, d2, d3, d4, d5, d6⟩ := x8.seven?
    have fz := z8.free
    go_wp2_with fail
    have box8 := z8.sevenS (.int .i64 o) (.bool true) (.int .i64 tm) (.slice a1 ks.length cap1) (.slice a2 vs.length cap2) (.bool h1) (.bool (!h2))
    have gR := seven_grown w8 Z (.int .i64 o) (.bool true) (.int .i64 tm) (.slice a1 ks.length cap1) (.slice a2 vs.length cap2) (.bool h1) (.bool (!h2))
    generalize hWR : (((((((w8.setCell ⟨Z, 0, none⟩ (.int .i64 o)).setCell ⟨Z, 1, none⟩ (.bool true)).setCell ⟨Z, 2, none⟩ (.int .i64 tm)).setCell ⟨Z, 3, none⟩ (.slice a1 ks.length cap1)).setCell ⟨Z, 4, none⟩ (.slice a2 vs.length cap2)).setCell ⟨Z, 5, none⟩ (.bool h1)).setCell ⟨Z, 6, none⟩ (.bool (!h2))) = WR at box8 gR ⊢
    have q1 := (o18.by (show Z < X + 1 by omega) gR).base hwX
    have q2 := (o28.by (show Z < X + 1 by omega) gR).base hwX
    have rR := Rd.set hR8 hBZ gR
    have GR := grown_new G8 hwZ gR
    clear c0 c1 c2 c3 c4 c5 c6 d0 d1 d2 d3 d4 d5 d6 fz hWR
    obtain ⟨c0, c1, c2, c3, c4, c5, c6⟩ := box8.seven?
    refine bodyPost_ret (v := .agg #[.int .i64 o, .bool true, .int .i64 tm, .slice a1 ks.length cap1, .slice a2 vs.length cap2, .bool h1, .bool (!h2)]) (by simp [results, Try.results33, go_sem, c0, c1, c2, c3, c4, c5, c6]) rfl ?_
    exact ⟨⟨o, true, tm, ks, vs, h1, !h2⟩, _, rfl, ⟨_, _, rfl, q1, q2⟩, by show ks.length ≤ 12; exact l1, by show vs.length ≤ 12; exact l2, rR.more (by omega), GR⟩
  · have e0 : ((k0 : Int) == 0) = false := by rw [beq_eq_false_iff_ne]; omega
    clear q0 hk0
    have bx := alloc_below' w1 (.cells #[.int .i64 o, .bool false, .int .i64 0, .slice none 0 0, .slice none 0 0, .bool false, .bool false] 25)
    have x4 := Blk.made w1 #[.int .i64 o, .bool false, .int .i64 0, .slice none 0 0, .slice none 0 0, .bool false, .bool false] 25
    go_upto_region 4 with (fail)
    generalize hWx : w1.alloc (.cells #[.int .i64 o, .bool false, .int .i64 0, .slice none 0 0, .slice none 0 0, .bool false, .bool false] 25) = w4 at x4 bx ⊢
    clear hWx
    have hR4 := hR1.below bx
    have z4 := z1.belowS bx
    have G4 := grown_trans G1 (grown_of_below bx)
    obtain ⟨X, hX⟩ : ∃ X, w1.heap.size = X := ⟨_, rfl⟩
    rw [hX] at x4 ⊢
    have hZX2 : Z < X := by omega
    clear hR1 z1 G1 bx hZ1 hX
    have hZX : Z ≠ X := by omega
    have hXB : X ≠ B := by omega
    have hBX : B < X := by omega
    have hBX1 : B < X + 1 := by omega
    have hwX0 : w.heap.size ≤ X := by omega
    have hwX : w.heap.size ≤ X + 1 := by omega
    go_wp2_with fail
    refine (spec_l91Part B _ w4 hR4 (by omega)).mono ?_
    rintro e w5 ⟨h1, kv, ks, rfl, own1, l1, hR5, g5⟩
    obtain ⟨a1, cap1, rfl, _, _, _⟩ := own1.ints
    go_wp2_with fail
    refine (spec_l91Part B _ w5 hR5 (by omega)).mono ?_
    rintro e w6 ⟨h2, vv, vs, rfl, own2, l2, hR6, g6⟩
    obtain ⟨a2, cap2, rfl, _, _, _⟩ := own2.ints
    have x5 := x4.by hXB g5
    have z5 := z4.by hZB g5
    have x6 := x5.by hXB g6
    have z6 := z5.by hZB g6
    have o16 : Own w6 (X + 1) (.slice a1 ks.length cap1) ks := (own1.by (by have := hR4.lt; omega) g6).base x4.lt
    have o26 : Own w6 (X + 1) (.slice a2 vs.length cap2) vs := own2.base x5.lt
    have G6 := grown_trans (grown_trans G4 g5) g6
    clear x4 z4 own1 own2 g5 g6 G4 hR4 hR5 x5 z5
    obtain ⟨c0, c1, c2, c3, c4, c5, c6⟩ := x6.seven?
    have fx := x6.free
    go_wp2_with fail
    have x7 := (((x6.set 5 (.bool h1)).set 3 (.slice a1 ks.length cap1)).set 6 (.bool (!h2))).set 4 (.slice a2 vs.length cap2)
    have g67 : w6.grownBy ((((w6.setCell ⟨X, 5, none⟩ (.bool h1)).setCell ⟨X, 3, none⟩ (.slice a1 ks.length cap1)).setCell ⟨X, 6, none⟩ (.bool (!h2))).setCell ⟨X, 4, none⟩ (.slice a2 vs.length cap2)) (some X) := grown_trans (grown_trans (grown_trans (set_grown _ _ _ _) (set_grown _ _ _ _)) (set_grown _ _ _ _)) (set_grown _ _ _ _)
    generalize hW7 : ((((w6.setCell ⟨X, 5, none⟩ (.bool h1)).setCell ⟨X, 3, none⟩ (.slice a1 ks.length cap1)).setCell ⟨X, 6, none⟩ (.bool (!h2))).setCell ⟨X, 4, none⟩ (.slice a2 vs.length cap2)) = W7 at x7 g67 ⊢
    simp only [List.setIfInBounds_toArray, List.set_cons_zero, List.set_cons_succ] at x7
    have z7 := z6.by hZX g67
    have o17 := o16.by (Nat.lt_succ_self X) g67
    have o27 := o26.by (Nat.lt_succ_self X) g67
    have hR7 := hR6.set hBX g67
    have G7 := grown_new G6 hwX0 g67
    clear hW7 x6 z6 o16 o26 hR6 G6 g67 c0 c1 c2 c3 c4 c5 c6 fx
    refine (spec_pick B _ 40 W7 hR7 (by omega) (by omega) (by omega)).mono ?_
    rintro e w8 ⟨q, rfl, hq, hR8, g8⟩
    have x8 := x7.by hXB g8
    have z8 := z7.by hZB g8
    have o18 := o17.by hBX1 g8
    have o28 := o27.by hBX1 g8
    have G8 := grown_trans G7 g8
    clear x7 z7 o17 o27 hR7 G7 g8 hq
    by_cases q0 : q = 0
    · have e0 : ((q : Int) == 0) = true := by rw [beq_iff_eq]; omega
      clear q0
      obtain ⟨c0, c1, c2, c3, c4, c5, c6⟩ := x8.seven?
      have fx := x8.free
      have x9 := x8.set 1 (.bool true)
      have g89 : w8.grownBy (w8.setCell ⟨X, 1, none⟩ (.bool true)) (some X) := set_grown _ _ _ _
      have z9 := z8.by hZX g89
      have o19 := o18.by (Nat.lt_succ_self X) g89
      have o29 := o28.by (Nat.lt_succ_self X) g89
      have hR9 := hR8.set hBX g89
      have G9 := grown_new G8 hwX0 g89
      simp only [List.setIfInBounds_toArray, List.set_cons_zero, List.set_cons_succ] at x9
      go_upto_region 15 with (fail)
      generalize hW9 : w8.setCell ⟨X, 1, none⟩ (.bool true) = W9 at x9 z9 o19 o29 hR9 G9 ⊢
      clear hW9 g89 x8 z8 o18 o28 hR8 G8 c0 c1 c2 c3 c4 c5 c6 fx
      obtain ⟨c0, c1, c2, c3, c4, c5, c6⟩ := z9.seven?
      obtain ⟨d0, d1, d2, d3, d4, d5, d6⟩ := x9.seven?
      have fz := z9.free
      go_wp2_with fail
      have box8 := z9.sevenS (.int .i64 o) (.bool true) (.int .i64 0) (.slice a1 ks.length cap1) (.slice a2 vs.length cap2) (.bool h1) (.bool (!h2))
      have gR := seven_grown W9 Z (.int .i64 o) (.bool true) (.int .i64 0) (.slice a1 ks.length cap1) (.slice a2 vs.length cap2) (.bool h1) (.bool (!h2))
      generalize hWR : (((((((W9.setCell ⟨Z, 0, none⟩ (.int .i64 o)).setCell ⟨Z, 1, none⟩ (.bool true)).setCell ⟨Z, 2, none⟩ (.int .i64 0)).setCell ⟨Z, 3, none⟩ (.slice a1 ks.length cap1)).setCell ⟨Z, 4, none⟩ (.slice a2 vs.length cap2)).setCell ⟨Z, 5, none⟩ (.bool h1)).setCell ⟨Z, 6, none⟩ (.bool (!h2))) = WR at box8 gR ⊢
      have q1 := (o19.by (show Z < X + 1 by omega) gR).base hwX
      have q2 := (o29.by (show Z < X + 1 by omega) gR).base hwX
      have rR := Rd.set hR9 hBZ gR
      have GR := grown_new G9 hwZ gR
      clear c0 c1 c2 c3 c4 c5 c6 d0 d1 d2 d3 d4 d5 d6 fz hWR
      obtain ⟨c0, c1, c2, c3, c4, c5, c6⟩ := box8.seven?
      refine bodyPost_ret (v := .agg #[.int .i64 o, .bool true, .int .i64 0, .slice a1 ks.length cap1, .slice a2 vs.length cap2, .bool h1, .bool (!h2)]) (by simp [results, Try.results33, go_sem, c0, c1, c2, c3, c4, c5, c6]) rfl ?_
      exact ⟨⟨o, true, 0, ks, vs, h1, !h2⟩, _, rfl, ⟨_, _, rfl, q1, q2⟩, by show ks.length ≤ 12; exact l1, by show vs.length ≤ 12; exact l2, rR.more (by omega), GR⟩
    have e0 : ((q : Int) == 0) = false := by rw [beq_eq_false_iff_ne]; omega
    by_cases q1 : q = 1
    · have e1 : ((q : Int) == 1) = true := by rw [beq_iff_eq]; omega
      clear q0 q1
      have bL := alloc_below' w8 (.cells #[.int .i64 (-1), .int .i64 99999, .int .i64 100000] 3)
      go_wp2_with fail
      refine (spec_pick B _ 3 _ (hR8.below bL) (by omega) (by omega) (by omega)).mono ?_
      rintro e w9 ⟨y, rfl, hy, hR9, g9⟩
      have x9 := (x8.belowS bL).by hXB g9
      have z9 := (z8.belowS bL).by hZB g9
      have o19 := (o18.below bL).by hBX1 g9
      have o29 := (o28.below bL).by hBX1 g9
      have G9 := grown_trans (grown_trans G8 (grown_of_below bL)) g9
      have hy2 : y < 3 := by omega
      have hblk := (g9.block w8.heap.size (by simp) (by have := hR8.lt; simp; omega)).trans (heap_alloc_new w8 _)
      have hcell := lit_cell [-1, 99999, 100000] hblk y hy2
      obtain ⟨n, en⟩ : ∃ n, [-1, 99999, 100000].getD y (0 : Int) = n := ⟨_, rfl⟩
      rw [en] at hcell
      obtain ⟨c0, c1, c2, c3, c4, c5, c6⟩ := x9.seven?
      have fx := x9.free
      have x10 := x9.set 0 (.int .i64 n)
      have g910 : w9.grownBy (w9.setCell ⟨X, 0, none⟩ (.int .i64 n)) (some X) := set_grown _ _ _ _
      have z10 := z9.by hZX g910
      have o110 := o19.by (Nat.lt_succ_self X) g910
      have o210 := o29.by (Nat.lt_succ_self X) g910
      have hR10 := hR9.set hBX g910
      have G10 := grown_new G9 hwX0 g910
      simp only [List.setIfInBounds_toArray, List.set_cons_zero] at x10
      clear en hblk bL x8 z8 o18 o28 G8 g9 hR8 hy
      go_upto_region 15 with (fail)
      generalize hW10 : w9.setCell ⟨X, 0, none⟩ (.int .i64 n) = W10 at x10 z10 o110 o210 hR10 G10 ⊢
      clear hW10 g910 x9 z9 o19 o29 hR9 G9 c0 c1 c2 c3 c4 c5 c6 fx hcell
      obtain ⟨c0, c1, c2, c3, c4, c5, c6⟩ := z10.seven?
      obtain ⟨d0, d1, d2, d3, d4, d5, d6⟩ := x10.seven?
      have fz := z10.free
      go_wp2_with fail
      have box8 := z10.sevenS (.int .i64 n) (.bool false) (.int .i64 0) (.slice a1 ks.length cap1) (.slice a2 vs.length cap2) (.bool h1) (.bool (!h2))
      have gR := seven_grown W10 Z (.int .i64 n) (.bool false) (.int .i64 0) (.slice a1 ks.length cap1) (.slice a2 vs.length cap2) (.bool h1) (.bool (!h2))
      generalize hWR : (((((((W10.setCell ⟨Z, 0, none⟩ (.int .i64 n)).setCell ⟨Z, 1, none⟩ (.bool false)).setCell ⟨Z, 2, none⟩ (.int .i64 0)).setCell ⟨Z, 3, none⟩ (.slice a1 ks.length cap1)).setCell ⟨Z, 4, none⟩ (.slice a2 vs.length cap2)).setCell ⟨Z, 5, none⟩ (.bool h1)).setCell ⟨Z, 6, none⟩ (.bool (!h2))) = WR at box8 gR ⊢
      have q1 := (o110.by (show Z < X + 1 by omega) gR).base hwX
      have q2 := (o210.by (show Z < X + 1 by omega) gR).base hwX
      have rR := Rd.set hR10 hBZ gR
      have GR := grown_new G10 hwZ gR
      clear c0 c1 c2 c3 c4 c5 c6 d0 d1 d2 d3 d4 d5 d6 fz hWR
      obtain ⟨c0, c1, c2, c3, c4, c5, c6⟩ := box8.seven?
      refine bodyPost_ret (v := .agg #[.int .i64 n, .bool false, .int .i64 0, .slice a1 ks.length cap1, .slice a2 vs.length cap2, .bool h1, .bool (!h2)]) (by simp [results, Try.results33, go_sem, c0, c1, c2, c3, c4, c5, c6]) rfl ?_
      exact ⟨⟨n, false, 0, ks, vs, h1, !h2⟩, _, rfl, ⟨_, _, rfl, q1, q2⟩, by show ks.length ≤ 12; exact l1, by show vs.length ≤ 12; exact l2, rR.more (by omega), GR⟩
    have e1 : ((q : Int) == 1) = false := by rw [beq_eq_false_iff_ne]; omega
    clear q0 q1
    obtain ⟨c0, c1, c2, c3, c4, c5, c6⟩ := z8.seven?
    obtain ⟨d0, d1, d2, d3, d4, d5, d6⟩ := x8.seven?
    have fz := z8.free
    go_wp2_with fail
    have box8 := z8.sevenS (.int .i64 o) (.bool false) (.int .i64 0) (.slice a1 ks.length cap1) (.slice a2 vs.length cap2) (.bool h1) (.bool (!h2))
    have gR := seven_grown w8 Z (.int .i64 o) (.bool false) (.int .i64 0) (.slice a1 ks.length cap1) (.slice a2 vs.length cap2) (.bool h1) (.bool (!h2))
    generalize hWR : (((((((w8.setCell ⟨Z, 0, none⟩ (.int .i64 o)).setCell ⟨Z, 1, none⟩ (.bool false)).setCell ⟨Z, 2, none⟩ (.int .i64 0)).setCell ⟨Z, 3, none⟩ (.slice a1 ks.length cap1)).setCell ⟨Z, 4, none⟩ (.slice a2 vs.length cap2)).setCell ⟨Z, 5, none⟩ (.bool h1)).setCell ⟨Z, 6, none⟩ (.bool (!h2))) = WR at box8 gR ⊢
    have q1 := (o18.by (show Z < X + 1 by omega) gR).base hwX
    have q2 := (o28.by (show Z < X + 1 by omega) gR).base hwX
    have rR := Rd.set hR8 hBZ gR
    have GR := grown_new G8 hwZ gR
    clear c0 c1 c2 c3 c4 c5 c6 d0 d1 d2 d3 d4 d5 d6 fz hWR
    obtain ⟨c0, c1, c2, c3, c4, c5, c6⟩ := box8.seven?
    refine bodyPost_ret (v := .agg #[.int .i64 o, .bool false, .int .i64 0, .slice a1 ks.length cap1, .slice a2 vs.length cap2, .bool h1, .bool (!h2)]) (by simp [results, Try.results33, go_sem, c0, c1, c2, c3, c4, c5, c6]) rfl ?_
    exact ⟨⟨o, false, 0, ks, vs, h1, !h2⟩, _, rfl, ⟨_, _, rfl, q1, q2⟩, by show ks.length ≤ 12; exact l1, by show vs.length ≤ 12; exact l2, rR.more (by omega), GR⟩
end Go.Proofs.Ythlboonobepdaaa
