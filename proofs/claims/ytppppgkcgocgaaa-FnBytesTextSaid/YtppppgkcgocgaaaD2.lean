/- Chapter 2: numbers, bytes and places are drawn. -/
import Derived.Test.YtppppgkcgocgaaaD0
import Derived.Test.YtppppgkcgocgaaaW2
namespace Go.Proofs.Ytppppgkcgocgaaa
open Go.ChangeShapes Go.WideShapes Go.ChangeAt Go.RowKit
set_option linter.unusedVariables false

theorem Own.by {w w' : World} {base B : Nat} {v : Value} {xs : List Int} (hown : Own w base v xs) (hB : B < base) (hg : w.grownBy w' (some B)) : Own w' base v xs :=
  hown.grown hg (by
    cases e : v.ownBlock with
    | none => exact .inl rfl
    | some k => refine .inr fun e2 => ?_; have := hown.lt k e; simp only [Option.some.injEq] at e2; omega)
theorem Rd.by {w w' : World} {B c base : Nat} {v : Value} {xs : List Int} (h : Rd w B c) (hown : Own w base v xs) (hB : B < base) (hg : w.grownBy w' v.ownBlock) : Rd w' B c :=
  h.keep fun b hb => hg.block b (Nat.lt_of_le_of_lt hb h.lt) fun e => by have := hown.lt b e.symm; omega
theorem grown_row {a b c : World} {B base : Nat} {v : Value} {xs : List Int} (h : a.grownBy b (some B)) (hown : Own b base v xs) (hb : a.heap.size ≤ base) (k : b.grownBy c v.ownBlock) : a.grownBy c (some B) :=
  ⟨k.os.trans h.os, k.tape.trans h.tape, k.output.trans h.output, Nat.le_trans h.size k.size, fun i hi hne => (k.block i (Nat.lt_of_lt_of_le hi h.size) fun e => by have := hown.lt i e.symm; omega).trans (h.block i hi hne)⟩

def SomeRes (w : World) (B c most : Nat) (e : Ending) (w' : World) : Prop :=
  ∃ (v : Value) (xs : List Int), e = .returned v ∧ (∃ g cap, v = .slice (some ⟨g, 0, none⟩) xs.length cap) ∧ Own w' w.heap.size v xs ∧ xs.length ≤ most ∧ Rd w' B (c + most + 4) ∧ w.grownBy w' (some B)

theorem spec_l91Some (B c most : Nat) (w : World) (h : Rd w B c) (hc : c ≤ 900000000) (hm : most ≤ 1000) :
    Calls Try.prog 40 #[.pointer (some ⟨B, 0, none⟩), .int .i64 (most : Int)] w (SomeRes w B c most) := by
  have hB := h.lt
  have own0 : Own (w.alloc (.cells #[] 3)) w.heap.size (.slice (some ⟨w.heap.size, 0, none⟩) 0 0) [] := own_empty w _ (Nat.le_refl _)
  go_enter Try.func40, Try.ntmps40
  go_wp2_with fail
  refine (spec_pick B c _ _ (h.below (alloc_below _ _)) (by omega) (by omega) (by omega)).mono ?_
  rintro e w1 ⟨n, rfl, hn, hR1, g1⟩
  have hn1 : n ≤ most := by omega
  have own1 := own0.by hB g1
  have G1 := grown_trans (grown_of_below (alloc_below w (.cells #[] 3))) g1
  go_wp2_with fail
  go_loopw [5, 7] (fun u i wr => ∃ (j : Nat) (pre : List Int), i = .int .i64 j ∧ j ≤ n ∧ pre.length = j ∧ (∃ g cap, u = .slice (some ⟨g, 0, none⟩) j cap) ∧ Own wr w.heap.size u pre ∧ Rd wr B (c + 1 + j) ∧ w.grownBy wr (some B)) (fun _ i _ => n - (intOf i).toNat)
  case atStart => exact ⟨0, [], rfl, Nat.zero_le _, rfl, ⟨_, _, rfl⟩, own1, hR1, G1⟩
  case round =>
    obtain ⟨j, pre, rfl, hj, hpl, hform, hown, hRr, gr⟩ := hrel
    have Hform := Lib.hid hform
    clear hform
    have Hpl := Lib.hid hpl
    have hp2 : pre.length ≤ most := by omega
    clear hpl
    by_cases hlt : j < n
    · go_wp2_with fail
      refine (spec_pick B (c + 1 + j) 256 wr hRr (by omega) (by omega) (by omega)).mono ?_
      rintro e w3 ⟨k, rfl, hk, hR3, g3⟩
      have own3 := hown.by hB g3
      have G3 := grown_trans gr g3
      have hsz : w.heap.size ≤ w3.heap.size := G3.size
      go_wp2_with (at_builtin; refine wp_app1 rfl _ _ rfl w.heap.size u5 pre _ rfl rfl own3 (by omega) hsz ?_; intro v' w4 own4 g4 hv4)
      go_roundw
      case rel => exact ⟨j + 1, pre ++ [(k : Int)], by go_num, by omega, by simp [Hpl.out], by have := Hpl.out; obtain ⟨g, c, e⟩ := hv4; exact ⟨g, c, by rw [e, this]⟩, own4, (hR3.by own3 hB g4).more (by omega), grown_row G3 own3 (Nat.le_refl _) g4⟩
      case measure => simp [intOf]; omega
    · obtain rfl : j = n := by omega
      rcases Nat.eq_zero_or_pos j with rfl | hpos
      · go_wp2_with fail
        go_ret
        exact ⟨_, pre, rfl, by rw [Hpl.out]; exact Hform.out, hown, hp2, hRr.more (by omega), gr⟩
      · have d0 : decide ((0 : Int) < (j : Int)) = true := decide_eq_true (by omega)
        go_wp2_with fail
        refine (spec_pick B _ 30 wr hRr (by omega) (by omega) (by omega)).mono ?_
        rintro e w3 ⟨k, rfl, hk, hR3, g3⟩
        have own3 := hown.by hB g3
        have G3 := grown_trans gr g3
        by_cases k0 : k = 0
        · have e0 : ((k : Int) == 0) = true := by rw [beq_iff_eq]; omega
          obtain ⟨_, cap3, rfl⟩ | ⟨g, cap3, rfl⟩ : (u5 = .slice none 0 0 ∧ ∃ cap : Nat, cap = 0) ∨ ∃ g cap, u5 = .slice (some ⟨g, 0, none⟩) pre.length cap := by
            rcases own3.2 with ⟨rfl, h0⟩ | ⟨g, cap, cur, rfl, _⟩
            · exact .inl ⟨rfl, 0, rfl⟩
            · exact .inr ⟨g, cap, rfl⟩
          · exfalso
            rcases own3.2 with ⟨_, h0⟩ | ⟨g, cap, cur, e, _⟩
            · have := Hpl.out; omega
            · simp_all
          go_wp2_with fail
          refine (spec_pick B _ _ w3 hR3 (by omega) (by omega) (by omega)).mono ?_
          rintro e w4 ⟨i, rfl, hi, hR4, g4⟩
          have own4 := own3.by hB g4
          have G4 := grown_trans G3 g4
          have hi2 : i < pre.length := by have := Hpl.out; omega
          go_wp2_with fail
          refine (spec_pick B _ 2 _ (hR4.below (alloc_below _ _)) (by omega) (by omega) (by omega)).mono ?_
          rintro e w5 ⟨y, rfl, hy, hR5, g5⟩
          have own5 := (own4.below (alloc_below w4 (.cells #[.int .i64 (-1), .int .i64 256] 3))).by hB g5
          have G5 := grown_trans (grown_trans G4 (grown_of_below (alloc_below w4 (.cells #[.int .i64 (-1), .int .i64 256] 3)))) g5
          have hy2 : y < 2 := by omega
          have hblk := (g5.block w4.heap.size (by simp) (by have := hR4.lt; simp; omega)).trans (heap_alloc_new w4 _)
          have hcell := lit_cell [-1, 256] hblk y hy2
          obtain ⟨x, ex⟩ : ∃ x, [-1, 256].getD y (0 : Int) = x := ⟨_, rfl⟩
          rw [ex] at hcell
          obtain ⟨⟨old, hold⟩, hf, hnew, hgr⟩ := own5.store rfl i hi2 x
          have G6 := grown_row G5 own5 (Nat.le_refl _) hgr
          have hR6 := hR5.by own5 hB hgr
          clear ex hblk
          go_wp2_with fail
          go_ret
          have hl : (pre.set i x).length = pre.length := List.length_set
          exact ⟨.slice (some ⟨g, 0, none⟩) pre.length cap3, pre.set i x, rfl, ⟨g, cap3, by rw [hl]⟩, hnew, by omega, hR6.more (by omega), G6⟩
        · have e0 : ((k : Int) == 0) = false := by rw [beq_eq_false_iff_ne]; omega
          go_wp2_with fail
          go_ret
          exact ⟨_, pre, rfl, by rw [Hpl.out]; exact Hform.out, own3, hp2, hR3.more (by omega), G3⟩

def DrawnRow (w : World) (most : Nat) (e : Ending) (w' : World) : Prop := ∃ (v : Value) (xs : List Int), e = .returned v ∧ (∃ g off cap, v = .slice (some ⟨g, off, none⟩) xs.length cap) ∧ Ints w' v xs ∧ xs.length ≤ most ∧ Below w.heap.size w w'

theorem spec_DrawSumOf (v : Value) (zs : List Int) (w : World) (h : U8s w v zs) (hs : zs.length ≤ 1048576) :
    Calls Try.prog 23 #[v] w (DrawnRow w 12) := by
  have C1 := Lib.hid (spec_l6Open v zs w h hs)
  go_enter Try.func23, Try.ntmps23
  go_wp2_with fail
  refine C1.out.mono ?_
  rintro e w1 ⟨B, rfl, hB, hR, bel⟩
  go_wp2_with fail
  refine (spec_l91Some B 0 12 w1 hR (by omega) (by omega)).mono ?_
  rintro e w2 ⟨u, xs, rfl, ⟨g0, cap0, rfl⟩, own, hl, hR2, g⟩
  go_wp2_with fail
  go_ret
  exact ⟨_, xs, rfl, ⟨g0, 0, cap0, rfl⟩, own.ints, hl, below_of_grown bel hB g⟩
theorem spec_DrawBytesText (v : Value) (zs : List Int) (w : World) (h : U8s w v zs) (hs : zs.length ≤ 1048576) :
    Calls Try.prog 26 #[v] w (DrawnRow w 8) := by
  have C1 := Lib.hid (spec_l6Open v zs w h hs)
  go_enter Try.func26, Try.ntmps26
  go_wp2_with fail
  refine C1.out.mono ?_
  rintro e w1 ⟨B, rfl, hB, hR, bel⟩
  go_wp2_with fail
  refine (spec_l91Some B 0 8 w1 hR (by omega) (by omega)).mono ?_
  rintro e w2 ⟨u, xs, rfl, ⟨g0, cap0, rfl⟩, own, hl, hR2, g⟩
  go_wp2_with fail
  go_ret
  exact ⟨_, xs, rfl, ⟨g0, 0, cap0, rfl⟩, own.ints, hl, below_of_grown bel hB g⟩

def DrawnPlace (w : World) (e : Ending) (w' : World) : Prop := ∃ (v : Value) (xs : List Int) (k many : Int), e = .returned (.tuple #[v, .int .i64 k, .int .i64 many]) ∧ Ints w' v xs ∧ xs.length ≤ 8 ∧ -2 ≤ k ∧ k ≤ 20 ∧ 0 ≤ many ∧ many ≤ 4 ∧ Below w.heap.size w w'

theorem spec_DrawIntFrom (v : Value) (zs : List Int) (w : World) (h : U8s w v zs) (hs : zs.length ≤ 1048576) :
    Calls Try.prog 21 #[v] w (DrawnPlace w) := by
  have C1 := Lib.hid (spec_l6Open v zs w h hs)
  go_enter Try.func21, Try.ntmps21
  go_wp2_with fail
  refine C1.out.mono ?_
  rintro e w1 ⟨B, rfl, hB, hR, bel⟩
  go_wp2_with fail
  refine (spec_l91Some B 0 8 w1 hR (by omega) (by omega)).mono ?_
  rintro e w2 ⟨u, xs, rfl, hform, own2, hl, hR2, g2⟩
  clear hform
  have B1 : B < w1.heap.size := hR.lt
  obtain ⟨a, cap, rfl, hl2, hm2, hc2⟩ := own2.ints
  unfold maxLen at hm2
  clear hc2
  have bel2 := below_of_grown bel hB g2
  go_wp2_with fail
  refine (spec_pick B _ 3 w2 hR2 (by omega) (by omega) (by omega)).mono ?_
  rintro e w3 ⟨m, rfl, hm, hR3, g3⟩
  have own3 := own2.by B1 g3
  have bel3 := below_of_grown bel2 hB g3
  have hm3 : m ≤ 2 := by omega
  go_wp2_with fail
  refine (spec_pick B _ 12 w3 hR3 (by omega) (by omega) (by omega)).mono ?_
  rintro e w4 ⟨q, rfl, hq, hR4, g4⟩
  have own4 := own3.by B1 g4
  have bel4 := below_of_grown bel3 hB g4
  by_cases q0 : q = 0
  · have e0 : ((q : Int) == 0) = true := by rw [beq_iff_eq]; omega
    go_wp2_with fail
    refine (spec_pick B _ 2 _ (hR4.below (alloc_below _ _)) (by omega) (by omega) (by omega)).mono ?_
    rintro e w5 ⟨y, rfl, hy, hR5, g5⟩
    have own5 := (own4.below (alloc_below w4 (.cells #[.int .i64 0, .int .i64 4] 3))).by B1 g5
    have bel5 := below_of_grown (Bstep bel4 (alloc_below w4 (.cells #[.int .i64 0, .int .i64 4] 3))) hB g5
    have hy2 : y < 2 := by omega
    have hblk := (g5.block w4.heap.size (by simp) (by have := hR4.lt; simp; omega)).trans (heap_alloc_new w4 _)
    have hcell := lit_cell [0, 4] hblk y hy2
    have hn : ∃ n, [0, 4].getD y (0 : Int) = n ∧ 0 ≤ n ∧ n ≤ 4 := by
      match y, hy2 with
      | 0, _ => exact ⟨_, rfl, by decide, by decide⟩
      | 1, _ => exact ⟨_, rfl, by decide, by decide⟩
    obtain ⟨many, en, n0, n1⟩ := hn
    rw [en] at hcell
    clear en hblk
    go_wp2_with fail
    all_goals
      refine (spec_pick B _ _ w5 hR5 (by omega) (by omega) (by omega)).mono ?_
      rintro e w6 ⟨k1, rfl, hk1, hR6, g6⟩
      have k19 : (k1 : Int) ≤ 9 := by omega
      clear hk1
      have own6 := own5.by B1 g6
      have bel6 := below_of_grown bel5 hB g6
      go_wp2_with fail
      refine (spec_pick B _ 8 w6 hR6 (by omega) (by omega) (by omega)).mono ?_
      rintro e w7 ⟨k2, rfl, hk2, hR7, g7⟩
      have k28 : (k2 : Int) ≤ 7 := by omega
      have own7 := own6.by B1 g7
      have bel7 := below_of_grown bel6 hB g7
      go_wp2_with fail
      refine (spec_pick B _ 12 w7 hR7 (by omega) (by omega) (by omega)).mono ?_
      rintro e w8 ⟨k3, rfl, hk3, hR8, g8⟩
      have k312 : (k3 : Int) ≤ 11 := by omega
      have own8 := own7.by B1 g8
      have bel8 := below_of_grown bel7 hB g8
      clear hk2 hk3
      go_wp2_with fail
      go_ret3
      exact ⟨_, xs, _, _, rfl, own8.ints, hl, by omega, by omega, n0, n1, bel8⟩
  · have e0 : ((q : Int) == 0) = false := by rw [beq_eq_false_iff_ne]; omega
    have n0 : 0 ≤ 1 + (m : Int) := by omega
    have n1 : 1 + (m : Int) ≤ 4 := by omega
    go_wp2_with fail
    all_goals
      refine (spec_pick B _ _ w4 hR4 (by omega) (by omega) (by omega)).mono ?_
      rintro e w6 ⟨k1, rfl, hk1, hR6, g6⟩
      have k19 : (k1 : Int) ≤ 9 := by omega
      clear hk1
      have own6 := own4.by B1 g6
      have bel6 := below_of_grown bel4 hB g6
      go_wp2_with fail
      refine (spec_pick B _ 8 w6 hR6 (by omega) (by omega) (by omega)).mono ?_
      rintro e w7 ⟨k2, rfl, hk2, hR7, g7⟩
      have k28 : (k2 : Int) ≤ 7 := by omega
      have own7 := own6.by B1 g7
      have bel7 := below_of_grown bel6 hB g7
      go_wp2_with fail
      refine (spec_pick B _ 12 w7 hR7 (by omega) (by omega) (by omega)).mono ?_
      rintro e w8 ⟨k3, rfl, hk3, hR8, g8⟩
      have k312 : (k3 : Int) ≤ 11 := by omega
      have own8 := own7.by B1 g8
      have bel8 := below_of_grown bel7 hB g8
      clear hk2 hk3
      go_wp2_with fail
      go_ret3
      exact ⟨_, xs, _, _, rfl, own8.ints, hl, by omega, by omega, n0, n1, bel8⟩

def DrawnTwo (w : World) (e : Ending) (w' : World) : Prop := ∃ n many : Int, e = .returned (.tuple #[.int .i64 n, .int .i64 many]) ∧ -1 ≤ n ∧ n ≤ 4294967296 ∧ -1 ≤ many ∧ many ≤ 4 ∧ Below w.heap.size w w'

theorem pow256_step (i : Nat) (n k : Int) (h : n < 256 ^ i) (hk : k ≤ 255) : 256 * n + k < 256 ^ (i + 1) := by
  rw [Int.pow_succ]; omega

theorem spec_DrawIntBytes (v : Value) (zs : List Int) (w : World) (h : U8s w v zs) (hs : zs.length ≤ 1048576) :
    Calls Try.prog 16 #[v] w (DrawnTwo w) := by
  have C1 := Lib.hid (spec_l6Open v zs w h hs)
  go_enter Try.func16, Try.ntmps16
  go_wp2_with fail
  refine C1.out.mono ?_
  rintro e w1 ⟨B, rfl, hB, hR, bel⟩
  go_wp2_with fail
  refine (spec_pick B 0 5 w1 hR (by omega) (by omega) (by omega)).mono ?_
  rintro e w2 ⟨m1, rfl, hm1, hR2, g2⟩
  have m15 : (m1 : Int) ≤ 4 := by omega
  have bel2 := below_of_grown bel hB g2
  clear hm1
  go_wp2_with fail
  refine (spec_pick B _ 8 w2 hR2 (by omega) (by omega) (by omega)).mono ?_
  rintro e w3 ⟨m2, rfl, hm2, hR3, g3⟩
  have m28 : (m2 : Int) ≤ 7 := by omega
  have bel3 := below_of_grown bel2 hB g3
  clear hm2
  have y0 : -1 ≤ (m1 : Int) - (m2 : Int) / 7 := by omega
  have y1 : (m1 : Int) - (m2 : Int) / 7 ≤ 4 := by omega
  go_wp2_with fail
  obtain ⟨many, hmany⟩ : ∃ many, (m1 : Int) - (m2 : Int) / 7 = many := ⟨_, rfl⟩
  rw [hmany] at y0 y1
  try rw [hmany]
  refine (spec_pick B _ 6 w3 hR3 (by omega) (by omega) (by omega)).mono ?_
  rintro e w4 ⟨q, rfl, hq, hR4, g4⟩
  have bel4 := below_of_grown bel3 hB g4
  try rw [hmany]
  clear hmany
  by_cases q0 : q = 0
  · have e0 : ((q : Int) == 0) = true := by rw [beq_iff_eq]; omega
    go_wp2_with fail
    refine (spec_pick B _ 8 _ (hR4.below (alloc_below _ _)) (by omega) (by omega) (by omega)).mono ?_
    rintro e w5 ⟨y, rfl, hy, hR5, g5⟩
    have bel5 := below_of_grown (Bstep bel4 (alloc_below w4 _)) hB g5
    have hy2 : y < 8 := by omega
    have hblk := (g5.block w4.heap.size (by simp) (by have := hR4.lt; simp; omega)).trans (heap_alloc_new w4 _)
    have hcell := lit_cell [-1, 0, 255, 256, 65535, 65536, 16777215, 16777216] hblk y hy2
    have hn : ∃ n, [-1, 0, 255, 256, 65535, 65536, 16777215, 16777216].getD y (0 : Int) = n ∧ -1 ≤ n ∧ n ≤ 4294967296 := by
      match y, hy2 with
      | 0, _ => exact ⟨_, rfl, by decide, by decide⟩
      | 1, _ => exact ⟨_, rfl, by decide, by decide⟩
      | 2, _ => exact ⟨_, rfl, by decide, by decide⟩
      | 3, _ => exact ⟨_, rfl, by decide, by decide⟩
      | 4, _ => exact ⟨_, rfl, by decide, by decide⟩
      | 5, _ => exact ⟨_, rfl, by decide, by decide⟩
      | 6, _ => exact ⟨_, rfl, by decide, by decide⟩
      | 7, _ => exact ⟨_, rfl, by decide, by decide⟩
    obtain ⟨n, en, n0, n1⟩ := hn
    rw [en] at hcell
    clear en hblk
    go_wp2_with fail
    go_ret2
    exact ⟨n, many, rfl, n0, n1, y0, y1, bel5⟩
  · have e0 : ((q : Int) == 0) = false := by rw [beq_eq_false_iff_ne]; omega
    go_wp2_with fail
    refine (spec_pick B _ 256 w4 hR4 (by omega) (by omega) (by omega)).mono ?_
    rintro e w5 ⟨k, rfl, hk, hR5, g5⟩
    have k255 : (k : Int) ≤ 255 := by omega
    have bel5 := below_of_grown bel4 hB g5
    clear hk hq
    go_wp2_with fail
    go_loopw [6, 7] (fun n' i wr => ∃ (j : Nat) (n : Int), i = .int .i64 ((j : Int) + 1) ∧ (j = 0 ∨ (j : Int) + 1 ≤ many) ∧ n' = .int .i64 n ∧ 0 ≤ n ∧ n < 256 ^ (j + 1) ∧ Rd wr B (4 + 2 * j) ∧ Below w.heap.size w wr) (fun _ i _ => (4 - intOf i).toNat)
    case atStart => exact ⟨0, (k : Int), rfl, .inl rfl, rfl, by omega, by omega, hR5.more (by omega), bel5⟩
    case round =>
      obtain ⟨j, n, rfl, hj, rfl, n0, n1, hRr, belr⟩ := hrel
      have hj3 : j ≤ 3 := by omega
      have hb : (256 : Int) ^ (j + 1) ≤ 4294967296 := by
        have := pow256_le j hj3
        rw [Int.pow_succ]; omega
      have n2 : n ≤ 4294967295 := by omega
      by_cases hlt : (j : Int) + 1 < many
      · have d0 : decide ((j : Int) + 1 < many) = true := decide_eq_true hlt
        have hb2 : n ≤ 16777215 := by
          have := pow256_le (j + 1) (by omega)
          omega
        go_wp2_with fail
        refine (spec_pick B _ 4 wr hRr (by omega) (by omega) (by omega)).mono ?_
        rintro e w6 ⟨k1, rfl, hk1, hR6, g6⟩
        have bel6 := below_of_grown belr hB g6
        by_cases k0 : k1 = 0
        · have d1 : decide ((0 : Int) < (k1 : Int)) = false := decide_eq_false (by omega)
          have d2 : decide (0 < k1) = false := decide_eq_false (by omega)
          go_wp2_with fail
          go_ret2
          exact ⟨n, many, rfl, by omega, by omega, y0, y1, bel6⟩
        · have d1 : decide ((0 : Int) < (k1 : Int)) = true := decide_eq_true (by omega)
          have d2 : decide (0 < k1) = true := decide_eq_true (by omega)
          go_wp2_with fail
          refine (spec_pick B _ 256 w6 hR6 (by omega) (by omega) (by omega)).mono ?_
          rintro e w7 ⟨k2, rfl, hk2, hR7, g7⟩
          have k255 : (k2 : Int) ≤ 255 := by omega
          have bel7 := below_of_grown bel6 hB g7
          have Hp := Lib.hid (pow256_step (j + 1) n (k2 : Int) n1 k255)
          clear hk2 hk1
          go_wp2_with fail
          go_roundw
          case rel => exact ⟨j + 1, 256 * n + (k2 : Int), by go_num, .inr (by omega), rfl, by omega, Hp.out, hR7.more (by omega), bel7⟩
          case measure => simp [intOf]; omega
      · have d0 : decide ((j : Int) + 1 < many) = false := decide_eq_false hlt
        go_wp2_with fail
        go_ret2
        exact ⟨n, many, rfl, by omega, by omega, y0, y1, belr⟩
end Go.Proofs.Ytppppgkcgocgaaa
