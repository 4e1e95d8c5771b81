/- Chapter 5: records with ascending offsets are drawn. -/
import Derived.Test.YtlppnhkgadcgdaaR7
import Derived.Test.YtlppnhkgadcgdaaD3b
import Derived.Test.YtlppnhkgadcgdaaW5X
import Derived.Test.YtlppnhkgadcgdaaB0
namespace Go.Proofs.Ytlppnhkgadcgdaa
open Go.ChangeShapes Go.WideShapes Go.ChangeAt Go.RowKit
set_option linter.unusedVariables false

theorem own_lit1 (w : World) (base : Nat) (n : Int) (hb : base ≤ w.heap.size) : Own (w.alloc (.cells #[.int .i64 n] 3)) base (.slice (some ⟨w.heap.size, 0, none⟩) 1 1) [n] := by
  have h := World.ownsRow_made (e := 3) (size := 1) w #[.int .i64 n] 1 hb (by unfold maxLen; omega) (by simp)
  refine ⟨by simp, .inr ⟨w.heap.size, 1, #[.int .i64 n], rfl, hb, heap_alloc_new w _, by simp, by unfold maxLen; omega, by simp, by simp⟩⟩
/-- records that were drawn -/
def RecsDrawn (w : World) (B c : Nat) (e : Ending) (w' : World) : Prop :=
  ∃ (rs : List Rec) (v : Value), e = .returned v ∧ OwnRecs w' w.heap.size v rs ∧ 1 ≤ rs.length ∧ rs.length ≤ 6 ∧ Rd w' B (c + 600) ∧ w.grownBy w' (some B)

set_option maxHeartbeats 4000000 in
theorem spec_l91Records (B c : Nat) (o : Int) (most : Nat) (w : World) (h : Rd w B c) (hc : c ≤ 800000000) (o0 : 0 ≤ o) (o1 : o ≤ 1000) (m1 : 1 ≤ most) (m6 : most ≤ 6) :
    Calls Try.prog 78 #[.pointer (some ⟨B, 0, none⟩), .int .i64 o, .int .i64 (most : Int)] w (RecsDrawn w B c) := by
  have hB := h.lt
  go_enter Try.func78, Try.ntmps78
  go_wp2_with fail
  have own0 := own_emptyR w w.heap.size (Nat.le_refl _)
  have hRz := h.below (alloc_below' w (.cells #[] 58))
  have gz := grown_of_below (row := some B) (alloc_below' w (.cells #[] 58))
  generalize hwz : w.alloc (.cells #[] 58) = wz at own0 hRz gz ⊢
  obtain ⟨u0, hu0⟩ : ∃ u0, Value.slice (some ⟨w.heap.size, 0, none⟩) 0 0 = u0 := ⟨_, rfl⟩
  rw [hu0] at own0 ⊢
  clear hwz hu0
  (with_reducible refine (spec_pick B c most wz hRz (by omega) (by omega) (by omega)).mono ?_)
  rintro e w1 ⟨k1, rfl, hk1, hR1, g1⟩
  have own1 := own0.bound.by hB g1
  have G1 := grown_trans gz g1
  have b1 : (k1 : Int) < most := by omega
  have b1' : (k1 : Int) ≤ 5 := by omega
  clear hRz own0 gz g1 hk1
  go_wp2_with fail
  (with_reducible refine (spec_pick B _ 200 w1 hR1 (by omega) (by omega) (by omega)).mono ?_)
  rintro e w2 ⟨k2, rfl, hk2, hR2, g2⟩
  have own2 := (own1.by hB g2).recs
  have G2 := grown_trans G1 g2
  have b2 : (k2 : Int) ≤ 199 := by omega
  have n1 : (1 : Int) ≤ 1 + (k1 : Int) := by omega
  clear hR1 own1 G1 g2 hk2
  have n2 : (1 : Int) + (k1 : Int) ≤ 6 := by omega
  go_wp2_with fail
  go_loopw [1, 7, 9, 10] (fun ov u tv iv wr => ∃ (j : Nat) (ofs tm : Int) (pre : List Rec), ov = .int .i64 ofs ∧ tv = .int .i64 tm ∧ iv = .int .i64 j ∧ j ≤ 1 + k1 ∧ pre.length = j ∧ OwnRecs wr w.heap.size u pre ∧ 0 ≤ ofs ∧ ofs ≤ 1000 + 2 * (j : Int) ∧ 0 ≤ tm ∧ tm ≤ 200 + 30 * (j : Int) ∧ Rd wr B (c + 2 + 90 * j) ∧ w.grownBy wr (some B)) (fun _ _ _ i _ => 1 + k1 - (intOf i).toNat)
  case atStart => exact ⟨0, o, (k2 : Int), [], rfl, rfl, rfl, Nat.zero_le _, rfl, own2, o0, by omega, by omega, by omega, hR2.more (by omega), G2⟩
  case round =>
    clear own2 hR2 G2 b1 b2
    obtain ⟨j, ofs, tm, pre, rfl, rfl, rfl, hj, hpl, hown, f0, f1, t0, t1, hRr, gr⟩ := hrel
    have Hpl := Lib.hid hpl
    have hpj : pre.length ≤ 6 := by omega
    have hpj2 : pre.length = j := hpl
    by_cases hlt : j < 1 + k1
    · have d0 : decide ((j : Int) < 1 + (k1 : Int)) = true := decide_eq_true (by omega)
      have hj5 : j ≤ 5 := by omega
      clear hpl hpj2
      have hsw := gr.size
      have bX := alloc_below' wr (.cells #[.int .i64 ofs, .int .i64 tm, .bool false, .slice none 0 0, .bool false, .slice none 0 0] 58)
      have xX := Blk.made wr #[.int .i64 ofs, .int .i64 tm, .bool false, .slice none 0 0, .bool false, .slice none 0 0] 58
      have hRx := hRr.below bX
      have own1 := hown.bound.below bX
      have Gx := grown_trans gr (grown_of_below (row := some B) bX)
      have hBr := hRr.lt
      go_wp2_with fail
      generalize hwx : wr.alloc (.cells #[.int .i64 ofs, .int .i64 tm, .bool false, .slice none 0 0, .bool false, .slice none 0 0] 58) = wx at bX xX hRx own1 Gx ⊢
      obtain ⟨X, hX⟩ : ∃ X, wr.heap.size = X := ⟨_, rfl⟩
      have lX : X < wx.heap.size := by rw [← hX]; exact xX.lt
      rw [hX] at xX own1 hsw hBr ⊢
      have HX := Lib.hid hX
      clear hwx hRr hown gr bX hX
      (with_reducible refine (spec_l91Part B _ wx hRx (by omega)).mono ?_)
      rintro e w3 ⟨h1, kv, ks, rfl, ok3, lk, hR3, g3⟩
      have hXB : X ≠ B := by omega
      have x3 := xX.by hXB g3
      have own3 := own1.by hB g3
      have G3 := grown_trans Gx g3
      have s3 := g3.size
      clear xX own1 Gx g3 hRx
      go_wp2_with fail
      (with_reducible refine (spec_l91Part B _ w3 hR3 (by omega)).mono ?_)
      rintro e w4 ⟨h2, vv, vs, rfl, ov4, lv, hR4, g4⟩
      have x4 := x3.by hXB g4
      have own4 := own3.by hB g4
      have G4 := grown_trans G3 g4
      have s4 := g4.size
      have ok4 : Own w4 (X + 1) kv ks := (ok3.by (by omega) g4).base lX
      have ap := ok3.apart ov4
      have ov4' : Own w4 (X + 1) vv vs := ov4.base (by omega)
      obtain ⟨ka, kc, rfl, _, _, _⟩ := ok3.ints
      obtain ⟨va, vc, rfl, _, _, _⟩ := ov4.ints
      clear x3 own3 G3 g4 hR3 ok3 ov4
      obtain ⟨c0, c1, c2, c3, c4, c5⟩ := x4.sixC
      have fx := x4.free
      go_upto_region 12 with (fail)
      have x5 : Blk _ X #[.int .i64 ofs, .int .i64 tm, .bool h1, .slice ka ks.length kc, .bool false, .slice none 0 0] := (x4.set 2 (.bool h1)).set 3 (.slice ka ks.length kc)
      have g5 : w4.grownBy ((w4.setCell ⟨X, 2, none⟩ (.bool h1)).setCell ⟨X, 3, none⟩ (.slice ka ks.length kc)) (some X) := grown_trans (set_grown _ _ _ _) (set_grown _ _ _ _)
      generalize hW : (w4.setCell ⟨X, 2, none⟩ (.bool h1)).setCell ⟨X, 3, none⟩ (.slice ka ks.length kc) = W at x5 g5 ⊢
      have ownW := own4.other (Nat.le_refl _) g5
      have okW := ok4.by (Nat.lt_succ_self X) g5
      have ovW := ov4'.by (Nat.lt_succ_self X) g5
      have hRW := hR4.set hBr g5
      have GW := grown_new G4 hsw g5
      have xW := x5
      clear hW x4 own4 ok4 ov4' hR4 G4 g5 x5 c0 c1 c2 c3 c4 c5 fx
      obtain ⟨c0, c1, c2, c3, c4, c5⟩ := xW.sixC
      have fx := xW.free
      cases h1 with
      | false =>
        go_upto_region 16 with (fail)
        have y := (xW.set 4 (.bool h2)).set 5 (.slice va vs.length vc)
        have gy : W.grownBy ((W.setCell ⟨X, 4, none⟩ (.bool h2)).setCell ⟨X, 5, none⟩ (.slice va vs.length vc)) (some X) := grown_trans (set_grown _ _ _ _) (set_grown _ _ _ _)
        generalize hW6 : (W.setCell ⟨X, 4, none⟩ (.bool h2)).setCell ⟨X, 5, none⟩ (.slice va vs.length vc) = W6 at y gy ⊢
        have own6 := ownW.other (Nat.le_refl _) gy
        have ok6 := okW.by (Nat.lt_succ_self X) gy
        have ov6 := ovW.by (Nat.lt_succ_self X) gy
        have hR6 := hRW.set hBr gy
        have G6 := grown_new GW hsw gy
        have y6 : Blk W6 X #[.int .i64 ofs, .int .i64 tm, .bool false, .slice ka ks.length kc, .bool h2, .slice va vs.length vc] := y
        clear hW6 xW ownW okW ovW hRW GW y gy c0 c1 c2 c3 c4 c5 fx
        obtain ⟨c0, c1, c2, c3, c4, c5⟩ := y6.sixC
        have lX6 := y6.lt
        have bL := alloc_below' W6 (.cells #[.int .i64 ofs, .int .i64 tm, .bool false, .slice ka ks.length kc, .bool h2, .slice va vs.length vc] 58)
        have xL := Blk.made W6 #[.int .i64 ofs, .int .i64 tm, .bool false, .slice ka ks.length kc, .bool h2, .slice va vs.length vc] 58
        have own7 := own6.below bL
        have ok7 := (ok6.below bL).base (show X ≤ X + 1 by omega)
        have ov7 := (ov6.below bL).base (show X ≤ X + 1 by omega)
        have hsz7 : (W6.alloc (.cells #[.int .i64 ofs, .int .i64 tm, .bool false, .slice ka ks.length kc, .bool h2, .slice va vs.length vc] 58)).heap.size = W6.heap.size + 1 := by simp
        have hR7 := hR6.below bL
        have G7 := grown_trans G6 (grown_of_below (row := some B) bL)
        go_wp2_with (
          at_builtin
          refine wp_appO rfl _ _ rfl w.heap.size X u7 pre ⟨ofs, tm, false, ks, h2, vs⟩ _ _ ⟨W6.heap.size, 0, none⟩ 1 rfl rfl own7 hsw _ hsz7 (by omega) ok7 ov7 ap ?_ (by omega) ?_
          · intro q hq
            rw [Addr.add_lit, Nat.zero_add, xL.cell q]
            rcases (show q = 0 ∨ q = 1 ∨ q = 2 ∨ q = 3 ∨ q = 4 ∨ q = 5 by omega) with rfl | rfl | rfl | rfl | rfl | rfl
            all_goals rfl
          intro g cp w8 own8 g8 hat8 hv8)
        have hR8 : Rd w8 B (c + 2 + 90 * j + 62) := Rd.more (hR7.keep fun b hb => g8.block b (Nat.lt_of_le_of_lt hb hR7.lt) fun e => by have := hv8 b e.symm; omega) (by omega)
        have G8 : w.grownBy w8 (some B) := ⟨g8.os.trans G7.os, g8.tape.trans G7.tape, g8.output.trans G7.output, Nat.le_trans G7.size g8.size, fun i hi hne => (g8.block i (Nat.lt_of_lt_of_le hi G7.size) fun e => by have := hv8 i e.symm; omega).trans (G7.block i hi hne)⟩
        have own8' := own8.bound
        clear hR7 G7 g8 hat8 hv8 own8 own7 ok7 ov7 xL bL hsz7 y6 own6 ok6 ov6 hR6 G6 c0 c1 c2 c3 c4 c5
        (with_reducible refine (spec_pick B _ 5 w8 hR8 (by omega) (by omega) (by omega)).mono ?_)
        rintro e w9 ⟨q5, rfl, hq5, hR9, g9⟩
        have own9 := own8'.by hB g9
        have G9 := grown_trans G8 g9
        have q51 : (q5 : Int) ≤ 4 := by omega
        clear hR8 own8' G8 g9 hq5
        go_wp2_with fail
        (with_reducible refine (spec_pick B _ 30 w9 hR9 (by omega) (by omega) (by omega)).mono ?_)
        rintro e w10 ⟨q6, rfl, hq6, hR10, g10⟩
        have own10 := (own9.by hB g10).recs
        have G10 := grown_trans G9 g10
        have q61 : (q6 : Int) ≤ 29 := by omega
        clear hR9 own9 G9 g10 hq6
        have hlen : (pre ++ [(⟨ofs, tm, false, ks, h2, vs⟩ : Rec)]).length = j + 1 := by simp [Hpl.out]
        have Hlen := Lib.hid hlen
        clear hlen
        by_cases hmx : tm + (q6 : Int) - 6 ≤ 0
        · have dm : decide (0 < tm + (q6 : Int) - 6) = false := decide_eq_false (by omega)
          go_wp2_with fail
          go_roundw
          case rel => exact ⟨j + 1, ofs + 1 + (q5 : Int) / 4, 0, _, by go_num, by go_num, by go_num, by omega, Hlen.out, own10, by omega, by omega, by omega, by omega, hR10.more (by omega), G10⟩
          case measure => simp [intOf]; omega
        · have dm : decide (0 < tm + (q6 : Int) - 6) = true := decide_eq_true (by omega)
          go_wp2_with fail
          go_roundw
          case rel => exact ⟨j + 1, ofs + 1 + (q5 : Int) / 4, tm + (q6 : Int) - 6, _, by go_num, by go_num, by go_num, by omega, Hlen.out, own10, by omega, by omega, by omega, by omega, hR10.more (by omega), G10⟩
          case measure => simp [intOf]; omega
      | true =>
        go_wp2_with fail
        (with_reducible refine (spec_pick B _ 2 W hRW (by omega) (by omega) (by omega)).mono ?_)
        rintro e w5 ⟨q3, rfl, hq3, hR5, g5⟩
        have x5 := xW.by hXB g5
        have own5 := ownW.by hB g5
        have ok5 := okW.by (show B < X + 1 by omega) g5
        have ov5 := ovW.by (show B < X + 1 by omega) g5
        have G5 := grown_trans GW g5
        clear xW ownW okW ovW hRW GW g5 hq3 c0 c1 c2 c3 c4 c5 fx
        by_cases q0 : q3 = 0
        · have e0 : ((q3 : Int) == 0) = true := by rw [beq_iff_eq]; omega
          clear q0
          go_wp2_with fail
          (with_reducible refine (spec_pick B _ 3 w5 hR5 (by omega) (by omega) (by omega)).mono ?_)
          rintro e w6 ⟨q4, rfl, hq4, hR6, g6⟩
          have x6 := x5.by hXB g6
          have own6 := own5.by hB g6
          have ov6 := ov5.by (show B < X + 1 by omega) g6
          have G6 := grown_trans G5 g6
          clear x5 own5 ok5 ov5 hR5 G5 g6 hq4 ap
          have ap : ∀ k, (Value.slice va vs.length vc).ownBlock = some k → (Value.slice (some ⟨w6.heap.size, 0, none⟩) 1 1).ownBlock ≠ some k := fun k hk e => by
            have h1 := ov6.lt2 k hk
            simp only [Value.ownBlock, Option.some.injEq] at e
            omega
          have g8 := set_grown w6 X 3 (.slice (some ⟨w6.heap.size, 0, none⟩) 1 1)
          have x7 : Blk _ X #[.int .i64 ofs, .int .i64 tm, .bool true, .slice (some ⟨w6.heap.size, 0, none⟩) 1 1, .bool false, .slice none 0 0] := x6.set 3 (.slice (some ⟨w6.heap.size, 0, none⟩) 1 1)
          have own7 := own6.other (Nat.le_refl _) g8
          have ov7 := ov6.by (Nat.lt_succ_self X) g8
          have hR7 := hR6.set hBr g8
          have G7 := grown_new G6 hsw g8
          have bK := alloc_below' (w6.setCell ⟨X, 3, none⟩ (.slice (some ⟨w6.heap.size, 0, none⟩) 1 1)) (.cells #[.int .i64 (q4 : Int)] 3)
          have okW := own_lit1 (w6.setCell ⟨X, 3, none⟩ (.slice (some ⟨w6.heap.size, 0, none⟩) 1 1)) (X + 1) (q4 : Int) (by have := x6.lt; simp; omega)
          rw [show (w6.setCell ⟨X, 3, none⟩ (.slice (some ⟨w6.heap.size, 0, none⟩) 1 1)).heap.size = w6.heap.size by simp] at okW
          have xW := x7.belowS bK
          have ownW := own7.below bK
          have ovW := ov7.below bK
          have hRW := hR7.below bK
          have GW := grown_trans G7 (grown_of_below (row := some B) bK)
          obtain ⟨c0, c1, c2, c3, c4, c5⟩ := x6.sixC
          have fx := x6.free
          have lx := x6.lt
          go_upto_region 14 with (fail)
          generalize hW : (w6.setCell ⟨X, 3, none⟩ (.slice (some ⟨w6.heap.size, 0, none⟩) 1 1)).alloc (.cells #[.int .i64 (q4 : Int)] 3) = W at xW ownW ovW hRW GW okW ⊢
          obtain ⟨K, hK0⟩ : ∃ K, w6.heap.size = K := ⟨_, rfl⟩
          rw [hK0] at xW okW ap ⊢
          clear hW x6 own6 ov6 hR6 G6 bK x7 own7 ov7 hR7 G7 g8 lx hK0 c0 c1 c2 c3 c4 c5 fx
          obtain ⟨c0, c1, c2, c3, c4, c5⟩ := xW.sixC
          have fx := xW.free
          go_upto_region 16 with (fail)
          have y := (xW.set 4 (.bool h2)).set 5 (.slice va vs.length vc)
          have gy : W.grownBy ((W.setCell ⟨X, 4, none⟩ (.bool h2)).setCell ⟨X, 5, none⟩ (.slice va vs.length vc)) (some X) := grown_trans (set_grown _ _ _ _) (set_grown _ _ _ _)
          generalize hW6 : (W.setCell ⟨X, 4, none⟩ (.bool h2)).setCell ⟨X, 5, none⟩ (.slice va vs.length vc) = W6 at y gy ⊢
          have own6 := ownW.other (Nat.le_refl _) gy
          have ok6 := okW.by (Nat.lt_succ_self X) gy
          have ov6 := ovW.by (Nat.lt_succ_self X) gy
          have hR6 := hRW.set hBr gy
          have G6 := grown_new GW hsw gy
          have y6 : Blk W6 X #[.int .i64 ofs, .int .i64 tm, .bool true, .slice (some ⟨K, 0, none⟩) 1 1, .bool h2, .slice va vs.length vc] := y
          clear hW6 xW ownW okW ovW hRW GW y gy c0 c1 c2 c3 c4 c5 fx
          obtain ⟨c0, c1, c2, c3, c4, c5⟩ := y6.sixC
          have lX6 := y6.lt
          have bL := alloc_below' W6 (.cells #[.int .i64 ofs, .int .i64 tm, .bool true, .slice (some ⟨K, 0, none⟩) 1 1, .bool h2, .slice va vs.length vc] 58)
          have xL := Blk.made W6 #[.int .i64 ofs, .int .i64 tm, .bool true, .slice (some ⟨K, 0, none⟩) 1 1, .bool h2, .slice va vs.length vc] 58
          have own7 := own6.below bL
          have ok7 := (ok6.below bL).base (show X ≤ X + 1 by omega)
          have ov7 := (ov6.below bL).base (show X ≤ X + 1 by omega)
          have hsz7 : (W6.alloc (.cells #[.int .i64 ofs, .int .i64 tm, .bool true, .slice (some ⟨K, 0, none⟩) 1 1, .bool h2, .slice va vs.length vc] 58)).heap.size = W6.heap.size + 1 := by simp
          have hR7 := hR6.below bL
          have G7 := grown_trans G6 (grown_of_below (row := some B) bL)
          go_wp2_with (
            at_builtin
            refine wp_appO rfl _ _ rfl w.heap.size X u7 pre ⟨ofs, tm, true, [(q4 : Int)], h2, vs⟩ _ _ ⟨W6.heap.size, 0, none⟩ 1 rfl rfl own7 hsw _ hsz7 (by omega) ok7 ov7 ap ?_ (by omega) ?_
            · intro q hq
              rw [Addr.add_lit, Nat.zero_add, xL.cell q]
              rcases (show q = 0 ∨ q = 1 ∨ q = 2 ∨ q = 3 ∨ q = 4 ∨ q = 5 by omega) with rfl | rfl | rfl | rfl | rfl | rfl
              all_goals rfl
            intro g cp w8 own8 g8 hat8 hv8)
          have hR8 : Rd w8 B (c + 2 + 90 * j + 62) := Rd.more (hR7.keep fun b hb => g8.block b (Nat.lt_of_le_of_lt hb hR7.lt) fun e => by have := hv8 b e.symm; omega) (by omega)
          have G8 : w.grownBy w8 (some B) := ⟨g8.os.trans G7.os, g8.tape.trans G7.tape, g8.output.trans G7.output, Nat.le_trans G7.size g8.size, fun i hi hne => (g8.block i (Nat.lt_of_lt_of_le hi G7.size) fun e => by have := hv8 i e.symm; omega).trans (G7.block i hi hne)⟩
          have own8' := own8.bound
          clear hR7 G7 g8 hat8 hv8 own8 own7 ok7 ov7 xL bL hsz7 y6 own6 ok6 ov6 hR6 G6 c0 c1 c2 c3 c4 c5
          (with_reducible refine (spec_pick B _ 5 w8 hR8 (by omega) (by omega) (by omega)).mono ?_)
          rintro e w9 ⟨q5, rfl, hq5, hR9, g9⟩
          have own9 := own8'.by hB g9
          have G9 := grown_trans G8 g9
          have q51 : (q5 : Int) ≤ 4 := by omega
          clear hR8 own8' G8 g9 hq5
          go_wp2_with fail
          (with_reducible refine (spec_pick B _ 30 w9 hR9 (by omega) (by omega) (by omega)).mono ?_)
          rintro e w10 ⟨q6, rfl, hq6, hR10, g10⟩
          have own10 := (own9.by hB g10).recs
          have G10 := grown_trans G9 g10
          have q61 : (q6 : Int) ≤ 29 := by omega
          clear hR9 own9 G9 g10 hq6
          have hlen : (pre ++ [(⟨ofs, tm, true, [(q4 : Int)], h2, vs⟩ : Rec)]).length = j + 1 := by simp [Hpl.out]
          have Hlen := Lib.hid hlen
          clear hlen
          by_cases hmx : tm + (q6 : Int) - 6 ≤ 0
          · have dm : decide (0 < tm + (q6 : Int) - 6) = false := decide_eq_false (by omega)
            go_wp2_with fail
            go_roundw
            case rel => exact ⟨j + 1, ofs + 1 + (q5 : Int) / 4, 0, _, by go_num, by go_num, by go_num, by omega, Hlen.out, own10, by omega, by omega, by omega, by omega, hR10.more (by omega), G10⟩
            case measure => simp [intOf]; omega
          · have dm : decide (0 < tm + (q6 : Int) - 6) = true := decide_eq_true (by omega)
            go_wp2_with fail
            go_roundw
            case rel => exact ⟨j + 1, ofs + 1 + (q5 : Int) / 4, tm + (q6 : Int) - 6, _, by go_num, by go_num, by go_num, by omega, Hlen.out, own10, by omega, by omega, by omega, by omega, hR10.more (by omega), G10⟩
            case measure => simp [intOf]; omega
        · have e0 : ((q3 : Int) == 0) = false := by rw [beq_eq_false_iff_ne]; omega
          clear q0
          obtain ⟨W, hWe⟩ : ∃ W, w5 = W := ⟨_, rfl⟩
          subst hWe
          obtain ⟨xW, ownW, okW, ovW, hRW, GW⟩ := And.intro x5 (And.intro own5 (And.intro ok5 (And.intro ov5 (And.intro hR5 G5))))
          clear x5 own5 ok5 ov5 hR5 G5
          obtain ⟨c0, c1, c2, c3, c4, c5⟩ := xW.sixC
          have fx := xW.free
          go_upto_region 16 with (fail)
          have y := (xW.set 4 (.bool h2)).set 5 (.slice va vs.length vc)
          have gy : w5.grownBy ((w5.setCell ⟨X, 4, none⟩ (.bool h2)).setCell ⟨X, 5, none⟩ (.slice va vs.length vc)) (some X) := grown_trans (set_grown _ _ _ _) (set_grown _ _ _ _)
          generalize hW6 : (w5.setCell ⟨X, 4, none⟩ (.bool h2)).setCell ⟨X, 5, none⟩ (.slice va vs.length vc) = W6 at y gy ⊢
          have own6 := ownW.other (Nat.le_refl _) gy
          have ok6 := okW.by (Nat.lt_succ_self X) gy
          have ov6 := ovW.by (Nat.lt_succ_self X) gy
          have hR6 := hRW.set hBr gy
          have G6 := grown_new GW hsw gy
          have y6 : Blk W6 X #[.int .i64 ofs, .int .i64 tm, .bool true, .slice ka ks.length kc, .bool h2, .slice va vs.length vc] := y
          clear hW6 xW ownW okW ovW hRW GW y gy c0 c1 c2 c3 c4 c5 fx
          obtain ⟨c0, c1, c2, c3, c4, c5⟩ := y6.sixC
          have lX6 := y6.lt
          have bL := alloc_below' W6 (.cells #[.int .i64 ofs, .int .i64 tm, .bool true, .slice ka ks.length kc, .bool h2, .slice va vs.length vc] 58)
          have xL := Blk.made W6 #[.int .i64 ofs, .int .i64 tm, .bool true, .slice ka ks.length kc, .bool h2, .slice va vs.length vc] 58
          have own7 := own6.below bL
          have ok7 := (ok6.below bL).base (show X ≤ X + 1 by omega)
          have ov7 := (ov6.below bL).base (show X ≤ X + 1 by omega)
          have hsz7 : (W6.alloc (.cells #[.int .i64 ofs, .int .i64 tm, .bool true, .slice ka ks.length kc, .bool h2, .slice va vs.length vc] 58)).heap.size = W6.heap.size + 1 := by simp
          have hR7 := hR6.below bL
          have G7 := grown_trans G6 (grown_of_below (row := some B) bL)
          go_wp2_with (
            at_builtin
            refine wp_appO rfl _ _ rfl w.heap.size X u7 pre ⟨ofs, tm, true, ks, h2, vs⟩ _ _ ⟨W6.heap.size, 0, none⟩ 1 rfl rfl own7 hsw _ hsz7 (by omega) ok7 ov7 ap ?_ (by omega) ?_
            · intro q hq
              rw [Addr.add_lit, Nat.zero_add, xL.cell q]
              rcases (show q = 0 ∨ q = 1 ∨ q = 2 ∨ q = 3 ∨ q = 4 ∨ q = 5 by omega) with rfl | rfl | rfl | rfl | rfl | rfl
              all_goals rfl
            intro g cp w8 own8 g8 hat8 hv8)
          have hR8 : Rd w8 B (c + 2 + 90 * j + 62) := Rd.more (hR7.keep fun b hb => g8.block b (Nat.lt_of_le_of_lt hb hR7.lt) fun e => by have := hv8 b e.symm; omega) (by omega)
          have G8 : w.grownBy w8 (some B) := ⟨g8.os.trans G7.os, g8.tape.trans G7.tape, g8.output.trans G7.output, Nat.le_trans G7.size g8.size, fun i hi hne => (g8.block i (Nat.lt_of_lt_of_le hi G7.size) fun e => by have := hv8 i e.symm; omega).trans (G7.block i hi hne)⟩
          have own8' := own8.bound
          clear hR7 G7 g8 hat8 hv8 own8 own7 ok7 ov7 xL bL hsz7 y6 own6 ok6 ov6 hR6 G6 c0 c1 c2 c3 c4 c5
          (with_reducible refine (spec_pick B _ 5 w8 hR8 (by omega) (by omega) (by omega)).mono ?_)
          rintro e w9 ⟨q5, rfl, hq5, hR9, g9⟩
          have own9 := own8'.by hB g9
          have G9 := grown_trans G8 g9
          have q51 : (q5 : Int) ≤ 4 := by omega
          clear hR8 own8' G8 g9 hq5
          go_wp2_with fail
          (with_reducible refine (spec_pick B _ 30 w9 hR9 (by omega) (by omega) (by omega)).mono ?_)
          rintro e w10 ⟨q6, rfl, hq6, hR10, g10⟩
          have own10 := (own9.by hB g10).recs
          have G10 := grown_trans G9 g10
          have q61 : (q6 : Int) ≤ 29 := by omega
          clear hR9 own9 G9 g10 hq6
          have hlen : (pre ++ [(⟨ofs, tm, true, ks, h2, vs⟩ : Rec)]).length = j + 1 := by simp [Hpl.out]
          have Hlen := Lib.hid hlen
          clear hlen
          by_cases hmx : tm + (q6 : Int) - 6 ≤ 0
          · have dm : decide (0 < tm + (q6 : Int) - 6) = false := decide_eq_false (by omega)
            go_wp2_with fail
            go_roundw
            case rel => exact ⟨j + 1, ofs + 1 + (q5 : Int) / 4, 0, _, by go_num, by go_num, by go_num, by omega, Hlen.out, own10, by omega, by omega, by omega, by omega, hR10.more (by omega), G10⟩
            case measure => simp [intOf]; omega
          · have dm : decide (0 < tm + (q6 : Int) - 6) = true := decide_eq_true (by omega)
            go_wp2_with fail
            go_roundw
            case rel => exact ⟨j + 1, ofs + 1 + (q5 : Int) / 4, tm + (q6 : Int) - 6, _, by go_num, by go_num, by go_num, by omega, Hlen.out, own10, by omega, by omega, by omega, by omega, hR10.more (by omega), G10⟩
            case measure => simp [intOf]; omega
    · have d0 : decide ((j : Int) < 1 + (k1 : Int)) = false := decide_eq_false (by omega)
      go_wp2_with fail
      go_ret
      exact ⟨pre, _, rfl, hown, by omega, by omega, hRr.more (by omega), gr⟩
end Go.Proofs.Ytlppnhkgadcgdaa
