/- Chapter 23: terms and a term are drawn. -/
import Derived.Test.YtfejolnfaechiaaD14
import Derived.RegionTactic
namespace Go.Proofs.Ytfejolnfaechiaa
open Go.ChangeShapes Go.WideShapes Go.ChangeAt Go.RowKit
set_option linter.unusedVariables false

set_option maxHeartbeats 2000000 in
theorem spec_DrawTermsPut (v : Value) (zs : List Int) (w : World) (h : U8s w v zs) (hs : zs.length ≤ 1048576) :
    Calls Try.prog 14 #[v] w fun e w' => ∃ u ts x y, e = .returned (.tuple #[u, .agg #[.int .i64 x, .int .i64 y]]) ∧ OwnT w' w.heap.size u ts ∧ TsB ts ∧ (0 ≤ x ∧ x ≤ 1010) ∧ (0 ≤ y ∧ y ≤ 1010) ∧ Below w.heap.size w w' := by
  have bz := alloc_below' w (.cells #[.int .i64 0, .int .i64 0] 25)
  have zZ := Blk.made w #[.int .i64 0, .int .i64 0] 25
  have C1 := Lib.hid (spec_l6Open v zs _ (h.keep fun h0 b e hb => (alloc_below' w (.cells #[.int .i64 0, .int .i64 0] 25)).block b hb) hs)
  go_enter Try.func14, Try.ntmps14
  go_wp2_with fail
  generalize hwz : w.alloc (.cells #[.int .i64 0, .int .i64 0] 25) = wz at bz zZ C1 ⊢
  clear hwz
  have hzl := zZ.lt
  obtain ⟨Z, hZ⟩ : ∃ Z, w.heap.size = Z := ⟨_, rfl⟩
  have hwZ : w.heap.size ≤ Z := by omega
  rw [hZ] at zZ hzl ⊢
  have HZ := Lib.hid hZ
  clear hZ
  refine C1.out.mono ?_
  rintro e w1 ⟨B, rfl, hB, hR, b1⟩
  have B1 := Bstep bz b1
  have z1 := zZ.belowS b1
  have hZ1 : Z < w1.heap.size := Nat.lt_of_lt_of_le hzl b1.size
  have hZB : Z ≠ B := by omega
  have hwB : w.heap.size ≤ B := by have := HZ.out; omega
  have hB1 := hR.lt
  clear C1 bz b1 zZ
  go_wp2_with fail
  refine (spec_l92Terms B 0 w1 hR (by omega)).mono ?_
  rintro e w2 ⟨u, ts, rfl, own2, hT, hR2, g2⟩
  have B2 := below_of_grown B1 hwB g2
  have z2 := z1.by hZB g2
  clear B1 z1 g2 hR
  go_wp2_with fail
  refine (spec_pick B _ 12 w2 hR2 (by omega) (by omega) (by omega)).mono ?_
  rintro e w3 ⟨x, rfl, hx, hR3, g3⟩
  have B3 := below_of_grown B2 hwB g3
  have z3 := z2.by hZB g3
  have own3 := own2.by hB1 g3
  clear B2 z2 own2 g3 hR2
  go_wp2_with fail
  refine (spec_pick B _ 30 w3 hR3 (by omega) (by omega) (by omega)).mono ?_
  rintro e w4 ⟨y, rfl, hy, hR4, g4⟩
  have B4 := below_of_grown B3 hwB g4
  have z4 := z3.by hZB g4
  have own4 := own3.by hB1 g4
  clear B3 z3 own3 g4 hR3
  have bX := alloc_below' w4 (.cells #[.int .i64 (x : Int), .int .i64 (y : Int)] 25)
  have xX := Blk.made w4 #[.int .i64 (x : Int), .int .i64 (y : Int)] 25
  have hx0 : (x : Int) ≤ 12 := by omega
  have hy0 : (y : Int) ≤ 30 := by omega
  have hx1 : (0 : Int) ≤ (x : Int) := by omega
  have hy1 : (0 : Int) ≤ (y : Int) := by omega
  obtain ⟨a, cap, rfl⟩ := own4.form'
  have hT9 := hT.1
  have z0 := own4.ts.sizes.2
  unfold maxLen at z0
  clear hx hy
  by_cases h0 : 0 < ts.length
  · have d0 : decide ((0 : Int) < (ts.length : Int)) = true := decide_eq_true (by omega)
    have d0n : decide (0 < ts.length) = true := decide_eq_true h0
    go_wp2_with fail
    generalize hW5 : w4.alloc (.cells #[.int .i64 (x : Int), .int .i64 (y : Int)] 25) = w5 at bX xX ⊢
    clear hW5
    obtain ⟨X, hX⟩ : ∃ X, w4.heap.size = X := ⟨_, rfl⟩
    have lgX : ∀ k, (Value.slice a ts.length cap).ownBlock = some k → k ≠ X := fun k hk => by have := (own4.lt k hk).2; omega
    have hXB : X ≠ B := by have := hR4.lt; omega
    have hXZ : X ≠ Z := by have := z4.lt; omega
    have hwX : w.heap.size ≤ X := by have := B4.size; omega
    have h1X : w1.heap.size ≤ X := by have := z4.lt; have := B4.size; have := (hR4.lt); have q := own4.form h0; obtain ⟨g, cp, e⟩ := q; have := (own4.lt g (by rw [e]; rfl)); omega
    rw [hX] at xX ⊢
    clear hX
    have hR5 := hR4.below bX
    have B5 := Bstep B4 bX
    have z5 := z4.belowS bX
    have own5 := own4.below bX
    clear hR4 B4 z4 own4 bX
    refine (spec_pick B _ 4 w5 hR5 (by omega) (by omega) (by omega)).mono ?_
    rintro e w6 ⟨k, rfl, hk, hR6, g6⟩
    have B6 := below_of_grown B5 hwB g6
    have z6 := z5.by hZB g6
    have x6 := xX.by hXB g6
    have own6 := own5.by hB1 g6
    clear B5 z5 own5 g6 hR5 xX
    by_cases k0 : 0 < k
    · have d1 : decide ((0 : Int) < (k : Int)) = true := decide_eq_true (by omega)
      have d1n : decide (0 < k) = true := decide_eq_true k0
      obtain ⟨g, cp, e⟩ := own6.form h0
      simp only [Value.slice.injEq, true_and] at e
      obtain ⟨rfl, rfl⟩ := e
      have hgX : g ≠ X := lgX g rfl
      have hg1 := (own6.lt g rfl).1
      have hgB : g ≠ B := by omega
      obtain ⟨c0, c1, _, _⟩ := own6.cellsAt (ts.length - 1) (by omega)
      have bnd := hT.2 (ts.length - 1) (by omega)
      obtain ⟨⟨nu, fi⟩, ht⟩ : ∃ t, tAt ts (ts.length - 1) = t := ⟨_, rfl⟩
      rw [ht] at c0 c1 bnd
      simp only at c0 c1 bnd
      obtain ⟨⟨u0, u1⟩, f0, f1⟩ := bnd
      have s1 : IntKind.i64.wrap ((ts.length : Int) - 1) = (ts.length : Int) - 1 := IntWalk.i64_in _ ⟨by omega, by omega⟩
      have n1 : ((ts.length : Int) - 1).toNat = ts.length - 1 := by omega
      have n2 : (1 : Int) ≤ (ts.length : Int) := by omega
      have n3 : (ts.length : Int) - 1 < (ts.length : Int) := by omega
      have s2 : IntKind.i64.wrap (nu + 1) = nu + 1 := IntWalk.i64_in _ ⟨by omega, by omega⟩
      have s3 : IntKind.i64.wrap (fi + 1) = fi + 1 := IntWalk.i64_in _ ⟨by omega, by omega⟩
      have W1 : Hid (∀ k1 : Nat, ((k1 : Int) < 3 ∨ k1 = 0) → ((0 : Int) ≤ (k1 : Int) ∧ (k1 : Int) ≤ 2) ∧ IntKind.i64.wrap (nu + 1 + (k1 : Int)) = nu + 1 + (k1 : Int)) := Lib.hid fun k1 h => ⟨by omega, IntWalk.i64_in _ ⟨by omega, by omega⟩⟩
      have W2 : Hid (∀ k1 : Nat, ((k1 : Int) < 9 ∨ k1 = 0) → ((0 : Int) ≤ (k1 : Int) ∧ (k1 : Int) ≤ 8) ∧ IntKind.i64.wrap (fi + 1 + (k1 : Int)) = fi + 1 + (k1 : Int)) := Lib.hid fun k1 h => ⟨by omega, IntWalk.i64_in _ ⟨by omega, by omega⟩⟩
      have bdr : Below w6.heap.size w6 w6.drew := below_drewN (Below.refl _ _) 1
      have gd : w6.grownBy w6.drew (some B) := grown_of_below bdr
      have HS : Hid (∀ W, w6.grownBy W (some B) → W.cell? ⟨g, (ts.length - 1) * 2, none⟩ = some (.int .i64 nu) ∧ W.cell? ⟨g, (ts.length - 1) * 2 + 1, none⟩ = some (.int .i64 fi)) := Lib.hid fun W hW =>
        have e : W.heap[g]? = w6.heap[g]? := hW.block g (own6.lt g rfl).2 (fun e => hgB (by simpa using e))
        ⟨(World.cell?_of_block e).trans c0, (World.cell?_of_block e).trans c1⟩
      have HSX : Hid (∀ (W : World) (p q : Value), (W.cell? ⟨g, (ts.length - 1) * 2, none⟩ = some (.int .i64 nu) ∧ W.cell? ⟨g, (ts.length - 1) * 2 + 1, none⟩ = some (.int .i64 fi)) → ((W.setCell ⟨X, 0, none⟩ p).setCell ⟨X, 1, none⟩ q).cell? ⟨g, (ts.length - 1) * 2, none⟩ = some (.int .i64 nu) ∧ ((W.setCell ⟨X, 0, none⟩ p).setCell ⟨X, 1, none⟩ q).cell? ⟨g, (ts.length - 1) * 2 + 1, none⟩ = some (.int .i64 fi)) := Lib.hid fun W p q hW =>
        have k : ∀ (W : World) (i j : Nat) (u : Value), (W.setCell ⟨X, i, none⟩ u).cell? ⟨g, j, none⟩ = W.cell? ⟨g, j, none⟩ := fun W i j u => World.cell?_of_block (Below.heap_setCell W _ _ g hgX)
        ⟨((k _ _ _ _).trans (k _ _ _ _)).trans hW.1, ((k _ _ _ _).trans (k _ _ _ _)).trans hW.2⟩
      have S1 := HS.out w6.drew gd
      have P1 := Lib.hid (spec_pick B _ 3 w6.drew (hR6.below bdr) (by omega) (by omega) (by omega))
      have P2 : Hid (∀ W, Rd W B _ → Calls Try.prog 35 #[.pointer (some ⟨B, 0, none⟩), .int .i64 9] W (PickRes W B _ 9)) := Lib.hid fun W hW => spec_pick B (0 + 40 + 1 + 1 + 1 + 1) 9 W hW (by omega) (by omega) (by omega)
      have xd : Blk w6.drew X _ := x6.drew 1
      clear c0 c1 ht
      go_upto_region 5 with (fail)
      go_region_held3 (fun W => W.cell? ⟨g, (ts.length - 1) * 2, none⟩ = some (.int .i64 nu) ∧ W.cell? ⟨g, (ts.length - 1) * 2 + 1, none⟩ = some (.int .i64 fi)) (first | with_reducible exact S1 | with_reducible exact HS.out _ G1 | with_reducible exact hS8 | with_reducible exact HSX.out _ _ _ hS8 | go_keep)
        (first
          | (go_at_call 35; ((with_reducible refine P1.out.mono ?_); rintro e w7 ⟨k1, rfl, hk1, hR7, g7⟩; have G1 := grown_trans gd g7; obtain ⟨kb1, s4⟩ := W1.out k1 hk1; have x7 := xd.by hXB g7))
          | (go_at_call 35; ((with_reducible refine (P2.out _ hR7).mono ?_); rintro e w8 ⟨k2, rfl, hk2, hR8, g8⟩; have G2 := grown_trans G1 g8; obtain ⟨kb2, s5⟩ := W2.out k2 hk2; have x8 := x7.by hXB g8; have hS8 := HS.out _ G2; have m0 := x8.cell 0; have m1 := x8.cell 1; have mf := x8.free; have ml := x8.lt)))
      have x9 := (x8.set 0 (.int .i64 (nu + 1 + (k1 : Int)))).set 1 (.int .i64 (fi + 1 + (k2 : Int)))
      have z8 := z6.by hZB G2
      have own8 := own6.by hB1 G2
      have B8 := below_of_grown B6 hwB G2
      have gX : w8.grownBy ((w8.setCell ⟨X, 0, none⟩ (.int .i64 (nu + 1 + (k1 : Int)))).setCell ⟨X, 1, none⟩ (.int .i64 (fi + 1 + (k2 : Int)))) (some X) := grown_trans (cell_grown _ _ _ _) (cell_grown _ _ _ _)
      have zZ9 := z8.by (show Z ≠ X by omega) gX
      have own9 := own8.grown gX (.inr (fun e => hgX (by simpa [Value.ownBlock] using e)))
      have B9 := below_of_grown B8 hwX gX
      have xX9 : Blk ((w8.setCell ⟨X, 0, none⟩ (.int .i64 (nu + 1 + (k1 : Int)))).setCell ⟨X, 1, none⟩ (.int .i64 (fi + 1 + (k2 : Int)))) X #[.int .i64 (nu + 1 + (k1 : Int)), .int .i64 (fi + 1 + (k2 : Int))] := x9
      generalize hW9 : (w8.setCell ⟨X, 0, none⟩ (.int .i64 (nu + 1 + (k1 : Int)))).setCell ⟨X, 1, none⟩ (.int .i64 (fi + 1 + (k2 : Int))) = W9 at xX9 zZ9 own9 B9 ⊢
      have bx9 : 0 ≤ nu + 1 + (k1 : Int) ∧ nu + 1 + (k1 : Int) ≤ 1010 := ⟨by omega, by omega⟩
      have by9 : 0 ≤ fi + 1 + (k2 : Int) ∧ fi + 1 + (k2 : Int) ≤ 1010 := ⟨by omega, by omega⟩
      clear x9 hW9 z8 own8 B8 gX m0 m1 mf ml hS8 S1 HS HSX x8 x7 xd G1 G2 g7 g8 hR7 hR8 P1 P2 W1 W2 s4 s5 z6 own6 B6 x6 hR6
      go_upto_region 6 with (fail)
      have q0 : W9.cell? ⟨X, 0, none⟩ = some (.int .i64 (nu + 1 + (k1 : Int))) := xX9.cell 0
      have q1 : W9.cell? ⟨X, 1, none⟩ = some (.int .i64 (fi + 1 + (k2 : Int))) := xX9.cell 1
      have r0 : W9.cell? ⟨Z, 0, none⟩ = some (.int .i64 0) := zZ9.cell 0
      have r1 : W9.cell? ⟨Z, 1, none⟩ = some (.int .i64 0) := zZ9.cell 1
      have fz := zZ9.free
      have lz := zZ9.lt
      have zF : Blk ((W9.setCell ⟨Z, 0, none⟩ (.int .i64 (nu + 1 + (k1 : Int)))).setCell ⟨Z, 1, none⟩ (.int .i64 (fi + 1 + (k2 : Int)))) Z #[.int .i64 (nu + 1 + (k1 : Int)), .int .i64 (fi + 1 + (k2 : Int))] := (zZ9.set 0 (.int .i64 (nu + 1 + (k1 : Int)))).set 1 (.int .i64 (fi + 1 + (k2 : Int)))
      have ownF := (own9.by hZ1 (cell_grown W9 Z 0 (.int .i64 (nu + 1 + (k1 : Int))))).by hZ1 (cell_grown _ Z 1 (.int .i64 (fi + 1 + (k2 : Int))))
      have BF : Below w.heap.size w ((W9.setCell ⟨Z, 0, none⟩ (.int .i64 (nu + 1 + (k1 : Int)))).setCell ⟨Z, 1, none⟩ (.int .i64 (fi + 1 + (k2 : Int)))) := (B9.setCell hwZ _).setCell hwZ _
      clear xX9 zZ9 own9 B9
      go_region
      all_goals
        have f0 : ((W9.setCell ⟨Z, 0, none⟩ (.int .i64 (nu + 1 + (k1 : Int)))).setCell ⟨Z, 1, none⟩ (.int .i64 (fi + 1 + (k2 : Int)))).drew.cell? ⟨Z, 0, none⟩ = some (.int .i64 (nu + 1 + (k1 : Int))) := (zF.drew 1).cell 0
        have f1 : ((W9.setCell ⟨Z, 0, none⟩ (.int .i64 (nu + 1 + (k1 : Int)))).setCell ⟨Z, 1, none⟩ (.int .i64 (fi + 1 + (k2 : Int)))).drew.cell? ⟨Z, 1, none⟩ = some (.int .i64 (fi + 1 + (k2 : Int))) := (zF.drew 1).cell 1
        have bd : Below ((W9.setCell ⟨Z, 0, none⟩ (.int .i64 (nu + 1 + (k1 : Int)))).setCell ⟨Z, 1, none⟩ (.int .i64 (fi + 1 + (k2 : Int)))).heap.size ((W9.setCell ⟨Z, 0, none⟩ (.int .i64 (nu + 1 + (k1 : Int)))).setCell ⟨Z, 1, none⟩ (.int .i64 (fi + 1 + (k2 : Int)))) ((W9.setCell ⟨Z, 0, none⟩ (.int .i64 (nu + 1 + (k1 : Int)))).setCell ⟨Z, 1, none⟩ (.int .i64 (fi + 1 + (k2 : Int)))).drew := below_drewN (Below.refl _ _) 1
        have ownG := ownF.below bd
        have BG := Bstep BF bd
        clear zF ownF BF q0 q1 r0 r1 fz lz bd
        go_wp2_with fail
        refine bodyPost_ret (v := .tuple #[.slice (some ⟨g, 0, none⟩) ts.length cap, .agg #[.int .i64 (nu + 1 + (k1 : Int)), .int .i64 (fi + 1 + (k2 : Int))]]) (by simp [results, Try.results14, go_sem, f0, f1]) rfl ?_
        exact ⟨_, ts, _, _, rfl, ownG.base (by omega), hT, bx9, by9, BG⟩
    · have d1 : decide ((0 : Int) < (k : Int)) = false := decide_eq_false (by omega)
      have d1n : decide (0 < k) = false := decide_eq_false k0
      have bx9 : 0 ≤ (x : Int) ∧ (x : Int) ≤ 1010 := ⟨by omega, by omega⟩
      have by9 : 0 ≤ (y : Int) ∧ (y : Int) ≤ 1010 := ⟨by omega, by omega⟩
      have zZ9 := z6
      have own9 := own6
      have B9 := B6
      have xX9 := x6
      go_upto_region 6 with (fail)
      have q0 : w6.cell? ⟨X, 0, none⟩ = some (.int .i64 (x : Int)) := xX9.cell 0
      have q1 : w6.cell? ⟨X, 1, none⟩ = some (.int .i64 (y : Int)) := xX9.cell 1
      have r0 : w6.cell? ⟨Z, 0, none⟩ = some (.int .i64 0) := zZ9.cell 0
      have r1 : w6.cell? ⟨Z, 1, none⟩ = some (.int .i64 0) := zZ9.cell 1
      have fz := zZ9.free
      have lz := zZ9.lt
      have zF : Blk ((w6.setCell ⟨Z, 0, none⟩ (.int .i64 (x : Int))).setCell ⟨Z, 1, none⟩ (.int .i64 (y : Int))) Z #[.int .i64 (x : Int), .int .i64 (y : Int)] := (zZ9.set 0 (.int .i64 (x : Int))).set 1 (.int .i64 (y : Int))
      have ownF := (own9.by hZ1 (cell_grown w6 Z 0 (.int .i64 (x : Int)))).by hZ1 (cell_grown _ Z 1 (.int .i64 (y : Int)))
      have BF : Below w.heap.size w ((w6.setCell ⟨Z, 0, none⟩ (.int .i64 (x : Int))).setCell ⟨Z, 1, none⟩ (.int .i64 (y : Int))) := (B9.setCell hwZ _).setCell hwZ _
      clear xX9 zZ9 own9 B9
      go_region
      all_goals
        have f0 : ((w6.setCell ⟨Z, 0, none⟩ (.int .i64 (x : Int))).setCell ⟨Z, 1, none⟩ (.int .i64 (y : Int))).drew.cell? ⟨Z, 0, none⟩ = some (.int .i64 (x : Int)) := (zF.drew 1).cell 0
        have f1 : ((w6.setCell ⟨Z, 0, none⟩ (.int .i64 (x : Int))).setCell ⟨Z, 1, none⟩ (.int .i64 (y : Int))).drew.cell? ⟨Z, 1, none⟩ = some (.int .i64 (y : Int)) := (zF.drew 1).cell 1
        have bd : Below ((w6.setCell ⟨Z, 0, none⟩ (.int .i64 (x : Int))).setCell ⟨Z, 1, none⟩ (.int .i64 (y : Int))).heap.size ((w6.setCell ⟨Z, 0, none⟩ (.int .i64 (x : Int))).setCell ⟨Z, 1, none⟩ (.int .i64 (y : Int))) ((w6.setCell ⟨Z, 0, none⟩ (.int .i64 (x : Int))).setCell ⟨Z, 1, none⟩ (.int .i64 (y : Int))).drew := below_drewN (Below.refl _ _) 1
        have ownG := ownF.below bd
        have BG := Bstep BF bd
        clear zF ownF BF q0 q1 r0 r1 fz lz bd
        go_wp2_with fail
        refine bodyPost_ret (v := .tuple #[.slice a ts.length cap, .agg #[.int .i64 (x : Int), .int .i64 (y : Int)]]) (by simp [results, Try.results14, go_sem, f0, f1]) rfl ?_
        exact ⟨_, ts, _, _, rfl, ownG.base (by omega), hT, bx9, by9, BG⟩
  · have d0 : decide ((0 : Int) < (ts.length : Int)) = false := decide_eq_false (by omega)
    have d0n : decide (0 < ts.length) = false := decide_eq_false h0
    have zZ9 := z4.belowS bX
    have own9 := own4.below bX
    have B9 := Bstep B4 bX
    have hXZ : w4.heap.size ≠ Z := by have := z4.lt; omega
    have xX9 := xX
    clear xX z4 own4 B4 bX hR4
    obtain ⟨X, hX⟩ : ∃ X, w4.heap.size = X := ⟨_, rfl⟩
    have bx9 : 0 ≤ (x : Int) ∧ (x : Int) ≤ 1010 := ⟨by omega, by omega⟩
    have by9 : 0 ≤ (y : Int) ∧ (y : Int) ≤ 1010 := ⟨by omega, by omega⟩
    go_upto_region 6 with (fail)
    generalize hW9 : w4.alloc (.cells #[.int .i64 (x : Int), .int .i64 (y : Int)] 25) = W9 at xX9 zZ9 own9 B9 ⊢
    clear hW9
    rw [hX] at xX9 hXZ
    clear hX
    have q0 : W9.cell? ⟨X, 0, none⟩ = some (.int .i64 (x : Int)) := xX9.cell 0
    have q1 : W9.cell? ⟨X, 1, none⟩ = some (.int .i64 (y : Int)) := xX9.cell 1
    have r0 : W9.cell? ⟨Z, 0, none⟩ = some (.int .i64 0) := zZ9.cell 0
    have r1 : W9.cell? ⟨Z, 1, none⟩ = some (.int .i64 0) := zZ9.cell 1
    have fz := zZ9.free
    have lz := zZ9.lt
    have zF : Blk ((W9.setCell ⟨Z, 0, none⟩ (.int .i64 (x : Int))).setCell ⟨Z, 1, none⟩ (.int .i64 (y : Int))) Z #[.int .i64 (x : Int), .int .i64 (y : Int)] := (zZ9.set 0 (.int .i64 (x : Int))).set 1 (.int .i64 (y : Int))
    have ownF := (own9.by hZ1 (cell_grown W9 Z 0 (.int .i64 (x : Int)))).by hZ1 (cell_grown _ Z 1 (.int .i64 (y : Int)))
    have BF : Below w.heap.size w ((W9.setCell ⟨Z, 0, none⟩ (.int .i64 (x : Int))).setCell ⟨Z, 1, none⟩ (.int .i64 (y : Int))) := (B9.setCell hwZ _).setCell hwZ _
    clear xX9 zZ9 own9 B9
    go_region
    all_goals
      have f0 : ((W9.setCell ⟨Z, 0, none⟩ (.int .i64 (x : Int))).setCell ⟨Z, 1, none⟩ (.int .i64 (y : Int))).drew.cell? ⟨Z, 0, none⟩ = some (.int .i64 (x : Int)) := (zF.drew 1).cell 0
      have f1 : ((W9.setCell ⟨Z, 0, none⟩ (.int .i64 (x : Int))).setCell ⟨Z, 1, none⟩ (.int .i64 (y : Int))).drew.cell? ⟨Z, 1, none⟩ = some (.int .i64 (y : Int)) := (zF.drew 1).cell 1
      have bd : Below ((W9.setCell ⟨Z, 0, none⟩ (.int .i64 (x : Int))).setCell ⟨Z, 1, none⟩ (.int .i64 (y : Int))).heap.size ((W9.setCell ⟨Z, 0, none⟩ (.int .i64 (x : Int))).setCell ⟨Z, 1, none⟩ (.int .i64 (y : Int))) ((W9.setCell ⟨Z, 0, none⟩ (.int .i64 (x : Int))).setCell ⟨Z, 1, none⟩ (.int .i64 (y : Int))).drew := below_drewN (Below.refl _ _) 1
      have ownG := ownF.below bd
      have BG := Bstep BF bd
      clear zF ownF BF q0 q1 r0 r1 fz lz bd
      go_wp2_with fail
      refine bodyPost_ret (v := .tuple #[.slice a ts.length cap, .agg #[.int .i64 (x : Int), .int .i64 (y : Int)]]) (by simp [results, Try.results14, go_sem, f0, f1]) rfl ?_
      exact ⟨_, ts, _, _, rfl, ownG.base (by omega), hT, bx9, by9, BG⟩
end Go.Proofs.Ytfejolnfaechiaa
