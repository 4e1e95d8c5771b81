/- Chapter 13: entries are drawn. -/
import Derived.Test.YtlifglljneaknaaDA
import Derived.Test.YtlifglljneaknaaW8d
namespace Go.Proofs.Ytlifglljneaknaa
open Go.ChangeShapes Go.WideShapes Go.ChangeAt Go.RowKit
set_option linter.unusedVariables false

def ShortB (ts : List Trm) : Prop := ts.length ≤ 9 ∧ True
def TermsRes (w : World) (B c : Nat) (e : Ending) (w' : World) : Prop := ∃ v ts, e = .returned v ∧ OwnT w' w.heap.size v ts ∧ ShortB ts ∧ Rd w' B (c + 40) ∧ w.grownBy w' (some B)
theorem Rd.byT {w w' : World} {B c base : Nat} {v : Value} {ts : List Trm} (h : Rd w B c) (hown : OwnT w base v ts) (hB : B < base) (hg : w.grownBy w' v.ownBlock) : Rd w' B c :=
  h.keep fun b hb => hg.block b (Nat.lt_of_le_of_lt hb h.lt) fun e => by have := (hown.lt b e.symm).1; omega
theorem grown_rowT {a b c : World} {B base : Nat} {v : Value} {ts : List Trm} (h : a.grownBy b (some B)) (hown : OwnT b base v ts) (hb : a.heap.size ≤ base) (k : b.grownBy c v.ownBlock) : a.grownBy c (some B) :=
  ⟨k.os.trans h.os, k.tape.trans h.tape, k.output.trans h.output, Nat.le_trans h.size k.size, fun i hi hne => (k.block i (Nat.lt_of_lt_of_le hi h.size) fun e => by have := (hown.lt i e.symm).1; omega).trans (h.block i hi hne)⟩

/-- the first offset of a term of a row is stored -/
theorem OwnT.store1 {w : World} {base g n cap : Nat} {ts ss : List Trm} (h : OwnT w base (.slice (some ⟨g, 0, none⟩) n cap) ts) (i : Nat) (hi : i < ts.length) (y : Int) (hl : ss.length = ts.length)
    (hat : tAt ss i = ⟨(tAt ts i).num, y⟩) (hne : ∀ j, j < ts.length → j ≠ i → tAt ss j = tAt ts j) :
    OwnT (w.setCell ⟨g, i * 2 + 1, none⟩ (.int .i64 y)) base (.slice (some ⟨g, 0, none⟩) n cap) ss ∧ w.grownBy (w.setCell ⟨g, i * 2 + 1, none⟩ (.int .i64 y)) (some g) := by
  have hn : n = ts.length := h.ts.sizes.1
  subst hn
  have h' : Row2 w base (.slice (some ⟨g, 0, none⟩) ts.length cap) ts.length (rowT ts) := h
  refine ⟨?_, cell_grown _ _ _ _⟩
  unfold OwnT
  rw [hl]
  refine (h'.set (i * 2 + 1) (by omega) (.int .i64 y)).congr fun j hj => ?_
  by_cases e1 : j = i * 2 + 1
  · subst e1
    rw [if_pos rfl, rowT_1, hat]
  · rw [if_neg e1]
    by_cases e0 : j = i * 2
    · subst e0
      rw [rowT_0, rowT_0, hat]
    · exact (rowT_eq (hne (j / 2) (by omega) (by omega))).symm
set_option maxHeartbeats 2000000 in
theorem spec_l92Entries (B c : Nat) (w : World) (h : Rd w B c) (hc : c ≤ 900000000) :
    Calls Try.prog 15 #[.pointer (some ⟨B, 0, none⟩)] w (TermsRes w B c) := by
  have hB := h.lt
  have own0 := own_emptyT w w.heap.size (Nat.le_refl _)
  have g0 := grown_of_below (row := some B) (alloc_below w (.cells #[] 27))
  have hR0 := h.below (alloc_below w (.cells #[] 27))
  go_enter Try.func15, Try.ntmps15
  go_wp2_with fail
  refine (spec_pick B c 6 _ hR0 (by omega) (by omega) (by omega)).mono ?_
  rintro e w1 ⟨n, rfl, hn, hR1, g1⟩
  have own1 := own0.by hB g1
  have G1 := grown_trans g0 g1
  go_wp2_with fail
  refine (spec_pick B (c + 1) 10 _ hR1 (by omega) (by omega) (by omega)).mono ?_
  rintro e w2 ⟨k, rfl, hk, hR2, g2⟩
  have own4 := own1.by hB g2
  have G4 := grown_trans G1 g2
  have hR4 := hR2.more (show c + 1 + 1 ≤ c + 3 by omega)
  have hk3 : (n : Int) ≤ 9 := by omega
  have hn5 : (n : Int) ≤ 5 := by omega
  have hk4 : 0 ≤ (n : Int) := by omega
  have hk5 : (k : Int) ≤ 9 := by omega
  clear own0 own1 g0 g1 g2 G1 hR0 hR1 hR2 hn hk
  go_wp2_with fail
  obtain ⟨N, hN⟩ : ∃ N : Int, (n : Int) = N := ⟨_, rfl⟩
  rw [hN] at hk3 hk4 hn5
  simp only [hN]
  clear hN
  go_loopw [3, 5, 6, 7] (fun u q f i wr => ∃ (j : Nat) (pre : List Trm) (nu fi : Int), i = .int .i64 j ∧ (j : Int) ≤ N ∧ pre.length = j ∧ q = .int .i64 nu ∧ f = .int .i64 fi ∧ 0 ≤ nu ∧ nu ≤ 9 + 6 * (j : Int) ∧ 0 ≤ fi ∧ fi ≤ 70 * (j : Int) ∧ OwnT wr w.heap.size u pre ∧ Rd wr B (c + 3 + 2 * j) ∧ w.grownBy wr (some B)) (fun _ _ _ i _ => N.toNat - (intOf i).toNat)
  case atStart => exact ⟨0, [], (k : Int), 0, rfl, by omega, rfl, rfl, rfl, by omega, by omega, by omega, by omega, own4, hR4.more (by omega), G4⟩
  case round =>
    clear own4 hR4 G4
    obtain ⟨j, pre, nu, fi, rfl, hj, hpl, rfl, rfl, n0, n1, f0, f1, hown, hRr, gr⟩ := hrel
    have Hpl := Lib.hid hpl
    have hp9 : pre.length ≤ 9 := by omega
    clear hpl
    have hsz : w.heap.size ≤ wr.heap.size := gr.size
    by_cases hlt : (j : Int) < N
    · go_wp2_with (at_builtin; refine wp_appT rfl _ _ rfl w.heap.size u3 pre nu fi wr.heap.size rfl rfl rfl hown (by omega) hsz ?_; intro g cp w5 own5 g5)
      have hR5 := hRr.byT hown hB g5
      have G5 := grown_rowT gr hown (Nat.le_refl _) g5
      clear hRr gr hown g5
      refine (spec_pick B _ 6 w5 hR5 (by omega) (by omega) (by omega)).mono ?_
      rintro e w6 ⟨k6, rfl, hk6, hR6, g6⟩
      have own6 := own5.by hB g6
      have G6 := grown_trans G5 g6
      have k6b : (k6 : Int) ≤ 5 := by omega
      clear hR5 G5 own5 g6 hk6
      go_wp2_with fail
      refine (spec_pick B _ 50 w6 hR6 (by omega) (by omega) (by omega)).mono ?_
      rintro e w7 ⟨k7, rfl, hk7, hR7, g7⟩
      have own7 := own6.by hB g7
      have G7 := grown_trans G6 g7
      have k7b : (k7 : Int) ≤ 49 := by omega
      clear hR6 G6 own6 g7 hk7
      go_wp2_with fail
      go_roundw
      case rel => exact ⟨j + 1, pre ++ [⟨nu, fi⟩], nu + 1 + (k6 : Int), fi + 20 + (k7 : Int), by go_num, by omega, by simp [Hpl.out], by go_num, by go_num, by omega, by omega, by omega, by omega, own7, hR7.more (by omega), G7⟩
      case measure => simp [intOf]; omega
    · have hjN : (j : Int) = N := by omega
      subst hjN
      by_cases h1 : 1 < (j : Int)
      · have d1 : decide (1 < (j : Int)) = true := decide_eq_true h1
        have d1n : decide (1 < j) = true := decide_eq_true (by omega)
        go_wp2_with fail
        refine (spec_pick B _ 16 wr hRr (by omega) (by omega) (by omega)).mono ?_
        rintro e w5 ⟨k5, rfl, hk5', hR5, g5⟩
        have own5 := hown.by hB g5
        have G5 := grown_trans gr g5
        clear hown gr g5 hRr
        by_cases q0 : k5 = 0
        · have e5 : ((k5 : Int) == 0) = true := by rw [beq_iff_eq]; omega
          go_wp2_with fail
          refine (spec_pick B _ 2 w5 hR5 (by omega) (by omega) (by omega)).mono ?_
          rintro e w6 ⟨k6, rfl, hk6, hR6, g6⟩
          have own6 := own5.by hB g6
          have G6 := grown_trans G5 g6
          clear own5 G5 g6 hR5
          have hz : (k6 : Int) * fi = 0 ∨ (k6 : Int) * fi = fi := by
            have : k6 = 0 ∨ k6 = 1 := by omega
            rcases this with rfl | rfl <;> simp
          obtain ⟨z, hz'⟩ : ∃ z, (k6 : Int) * fi = z := ⟨_, rfl⟩
          rw [hz'] at hz
          have s1 : IntKind.i64.wrap ((k6 : Int) * fi) = z := by rw [hz']; exact IntWalk.i64_in _ ⟨by omega, by omega⟩
          have Hz := Lib.hid hz'
          clear hz' hk6
          obtain ⟨g, cp, rfl⟩ := own6.form (by have := Hpl.out; omega)
          have hp2 : 1 < pre.length := by have := Hpl.out; omega
          have st := own6.store1 (ss := pre.set 1 ⟨(tAt pre 1).num, z⟩) 1 hp2 z (by simp) (by simp [tAt, hp2]) (fun i hi hne => by
            unfold tAt List.getD
            rw [List.getElem?_set_ne (fun e => hne e.symm)])
          obtain ⟨c0, c1, c2, c3⟩ := own6.cellsAt 1 hp2
          have BR : Rd (w6.setCell ⟨g, 1 * 2 + 1, none⟩ (.int .i64 z)) B (c + 40) := ((hR6.more (show c + 3 + 2 * j + 1 + 1 ≤ c + 40 by omega)).byT own6 hB st.2)
          have BG := grown_rowT G6 own6 (Nat.le_refl _) st.2
          have BO := st.1
          have HBL : Hid ((pre.set 1 ⟨(tAt pre 1).num, z⟩).length ≤ 9) := Lib.hid (by rw [List.length_set]; exact hp9)
          simp only [Nat.one_mul, Nat.reduceAdd] at c1 c3 BR BG BO
          clear st own6 hR6 G6 c0 c2
          go_wp2_with fail
          go_ret
          exact ⟨_, _, rfl, BO, ⟨HBL.out, trivial⟩, BR, BG⟩
        · have e5 : ((k5 : Int) == 0) = false := by rw [beq_eq_false_iff_ne]; omega
          go_wp2_with fail
          go_ret
          exact ⟨_, pre, rfl, own5, ⟨hp9, trivial⟩, hR5.more (by omega), G5⟩
      · have d1 : decide (1 < (j : Int)) = false := decide_eq_false h1
        have d1n : decide (1 < j) = false := decide_eq_false (by omega)
        go_wp2_with fail
        go_ret
        exact ⟨_, pre, rfl, hown, ⟨hp9, trivial⟩, hRr.more (by omega), gr⟩
end Go.Proofs.Ytlifglljneaknaa
