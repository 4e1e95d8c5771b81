/- Chapter 23: terms are drawn. -/
import Derived.Test.YtddemgdclilgpaaDA
import Derived.Test.YtddemgdclilgpaaW14d
namespace Go.Proofs.Ytddemgdclilgpaa
open Go.ChangeShapes Go.WideShapes Go.ChangeAt Go.RowKit
set_option linter.unusedVariables false

/-- a row of terms that a law draws: not long, its numbers small -/
def TsB (ts : List Trm) : Prop := ts.length ≤ 9 ∧ ∀ i, i < ts.length → (0 ≤ (tAt ts i).num ∧ (tAt ts i).num ≤ 1000) ∧ 0 ≤ (tAt ts i).first ∧ (tAt ts i).first ≤ 1000
def FirstB (ts : List Trm) : Prop := ∀ i, i < ts.length → (0 ≤ (tAt ts i).num ∧ (tAt ts i).num ≤ 1000) ∧ 0 ≤ (tAt ts i).first ∧ (tAt ts i).first ≤ 1000
theorem FirstB.snoc {ts : List Trm} {x y : Int} (h : FirstB ts) (h0 : 0 ≤ x) (h1 : x ≤ 1000) (h2 : 0 ≤ y) (h3 : y ≤ 1000) : FirstB (ts ++ [⟨x, y⟩]) := fun i hi => by
  rw [List.length_append] at hi
  simp only [List.length_cons, List.length_nil] at hi
  by_cases e : i = ts.length
  · subst e
    rw [tAt_app2]
    exact ⟨⟨h0, h1⟩, h2, h3⟩
  · rw [tAt_app1 (by omega)]
    exact h i (by omega)
def TermsRes (w : World) (B c : Nat) (e : Ending) (w' : World) : Prop := ∃ v ts, e = .returned v ∧ OwnT w' w.heap.size v ts ∧ TsB ts ∧ Rd w' B (c + 40) ∧ w.grownBy w' (some B)
theorem Rd.byT {w w' : World} {B c base : Nat} {v : Value} {ts : List Trm} (h : Rd w B c) (hown : OwnT w base v ts) (hB : B < base) (hg : w.grownBy w' v.ownBlock) : Rd w' B c :=
  h.keep fun b hb => hg.block b (Nat.lt_of_le_of_lt hb h.lt) fun e => by have := (hown.lt b e.symm).1; omega
theorem grown_rowT {a b c : World} {B base : Nat} {v : Value} {ts : List Trm} (h : a.grownBy b (some B)) (hown : OwnT b base v ts) (hb : a.heap.size ≤ base) (k : b.grownBy c v.ownBlock) : a.grownBy c (some B) :=
  ⟨k.os.trans h.os, k.tape.trans h.tape, k.output.trans h.output, Nat.le_trans h.size k.size, fun i hi hne => (k.block i (Nat.lt_of_lt_of_le hi h.size) fun e => by have := (hown.lt i e.symm).1; omega).trans (h.block i hi hne)⟩

/-- the first offset of a term of a row is stored -/
theorem OwnT.store1 {w : World} {base g n cap : Nat} {ts ss : List Trm} (h : OwnT w base (.slice (some ⟨g, 0, none⟩) n cap) ts) (i : Nat) (hi : i < ts.length) (y : Int) (hl : ss.length = ts.length)
    (hat : tAt ss i = ⟨(tAt ts i).num, y⟩) (hne : ∀ j, j < ts.length → j ≠ i → tAt ss j = tAt ts j) :
    OwnT (w.setCell ⟨g, i * 2 + 1, none⟩ (.int .i64 y)) base (.slice (some ⟨g, 0, none⟩) n cap) ss ∧ w.grownBy (w.setCell ⟨g, i * 2 + 1, none⟩ (.int .i64 y)) (some g) := by
  have hn : n = ts.length := h.ts.sizes.1
  subst hn
  have h' : Row2 w base (.slice (some ⟨g, 0, none⟩) ts.length cap) ts.length (rowT ts) := h
  refine ⟨?_, cell_grown _ _ _ _⟩
  unfold OwnT
  rw [hl]
  refine (h'.set (i * 2 + 1) (by omega) (.int .i64 y)).congr fun j hj => ?_
  by_cases e1 : j = i * 2 + 1
  · subst e1
    rw [if_pos rfl, rowT_1, hat]
  · rw [if_neg e1]
    by_cases e0 : j = i * 2
    · subst e0
      rw [rowT_0, rowT_0, hat]
    · exact (rowT_eq (hne (j / 2) (by omega) (by omega))).symm
set_option maxHeartbeats 1000000 in
theorem spec_l92Terms (B c : Nat) (w : World) (h : Rd w B c) (hc : c ≤ 900000000) :
    Calls Try.prog 16 #[.pointer (some ⟨B, 0, none⟩)] w (TermsRes w B c) := by
  have hB := h.lt
  have own0 := own_emptyT w w.heap.size (Nat.le_refl _)
  have g0 := grown_of_below (row := some B) (alloc_below w (.cells #[] 29))
  have hR0 := h.below (alloc_below w (.cells #[] 29))
  go_enter Try.func16, Try.ntmps16
  go_wp2_with fail
  refine (spec_pick B c 6 _ hR0 (by omega) (by omega) (by omega)).mono ?_
  rintro e w1 ⟨n, rfl, hn, hR1, g1⟩
  have own1 := own0.by hB g1
  have G1 := grown_trans g0 g1
  go_wp2_with fail
  refine (spec_pick B (c + 1) 20 _ hR1 (by omega) (by omega) (by omega)).mono ?_
  rintro e w2 ⟨k, rfl, hk, hR2, g2⟩
  have own2 := own1.by hB g2
  have G2 := grown_trans G1 g2
  have hn5 : (n : Int) ≤ 5 := by omega
  clear own0 own1 g0 g1 g2 G1 hR0 hR1
  by_cases k0 : k = 0
  · have e0 : ((k : Int) == 0) = true := by rw [beq_iff_eq]; omega
    go_wp2_with fail
    refine (spec_pick B (c + 1 + 1) 2 _ hR2 (by omega) (by omega) (by omega)).mono ?_
    rintro e w3 ⟨k2, rfl, hk2, hR3, g3⟩
    have own3 := own2.by hB g3
    have G3 := grown_trans G2 g3
    have hR3' := hR3.more (show c + 1 + 1 + 1 ≤ c + 3 by omega)
    have hk3 : 8 + (k2 : Int) ≤ 9 := by omega
    have hk4 : 0 ≤ 8 + (k2 : Int) := by omega
    go_wp2_with fail
    obtain ⟨N, hN⟩ : ∃ N : Int, 8 + (k2 : Int) = N := ⟨_, rfl⟩
    rw [hN] at hk3 hk4
    simp only [hN]
    clear own2 G2 hR2 hR3 g3 hN hk2 e0 k0
    refine (spec_pick B (c + 3) 3 _ hR3' (by omega) (by omega) (by omega)).mono ?_
    rintro e w4 ⟨k4, rfl, hk4', hR4, g4⟩
    have own4 := own3.by hB g4
    have G4 := grown_trans G3 g4
    have hk5 : (k4 : Int) ≤ 2 := by omega
    clear own3 G3 hR3' g4 hk4'
    go_wp2_with fail
    go_loopw [3, 5, 6, 7] (fun u q f i wr => ∃ (j : Nat) (pre : List Trm) (nu fi : Int), i = .int .i64 j ∧ (j : Int) ≤ N ∧ pre.length = j ∧ q = .int .i64 nu ∧ f = .int .i64 fi ∧ 0 ≤ nu ∧ nu ≤ 2 + 2 * (j : Int) ∧ 0 ≤ fi ∧ fi ≤ 8 * (j : Int) ∧ FirstB pre ∧ OwnT wr w.heap.size u pre ∧ Rd wr B (c + 4 + 2 * j) ∧ w.grownBy wr (some B)) (fun _ _ _ i _ => N.toNat - (intOf i).toNat)
    case atStart => exact ⟨0, [], (k4 : Int), 0, rfl, by omega, rfl, rfl, rfl, by omega, by omega, by omega, by omega, fun i hi => by simp at hi, own4, hR4.more (by omega), G4⟩
    case round =>
      clear own4 hR4 G4
      obtain ⟨j, pre, nu, fi, rfl, hj, hpl, rfl, rfl, n0, n1, f0, f1, hF, hown, hRr, gr⟩ := hrel
      have Hpl := Lib.hid hpl
      have hp9 : pre.length ≤ 9 := by omega
      clear hpl
      have hsz : w.heap.size ≤ wr.heap.size := gr.size
      by_cases hlt : (j : Int) < N
      · have HF := Lib.hid (hF.snoc (x := nu) (y := fi) n0 (by omega) f0 (by omega))
        clear hF
        go_wp2_with (at_builtin; refine wp_appT rfl _ _ rfl w.heap.size u3 pre nu fi wr.heap.size rfl rfl rfl hown (by omega) hsz ?_; intro g cp w5 own5 g5)
        have hR5 := hRr.byT hown hB g5
        have G5 := grown_rowT gr hown (Nat.le_refl _) g5
        clear hRr gr hown g5
        refine (spec_pick B _ 3 w5 hR5 (by omega) (by omega) (by omega)).mono ?_
        rintro e w6 ⟨k6, rfl, hk6, hR6, g6⟩
        have own6 := own5.by hB g6
        have G6 := grown_trans G5 g6
        have k6b : (k6 : Int) ≤ 2 := by omega
        clear hR5 G5 own5 g6 hk6
        go_wp2_with fail
        refine (spec_pick B _ 8 w6 hR6 (by omega) (by omega) (by omega)).mono ?_
        rintro e w7 ⟨k7, rfl, hk7, hR7, g7⟩
        have own7 := own6.by hB g7
        have G7 := grown_trans G6 g7
        have k7b : (k7 : Int) ≤ 7 := by omega
        clear hR6 G6 own6 g7 hk7
        go_wp2_with fail
        go_roundw
        case rel => exact ⟨j + 1, pre ++ [⟨nu, fi⟩], nu + 1 + (k6 : Int) / 2, fi + 1 + (k7 : Int), by go_num, by omega, by simp [Hpl.out], by go_num, by go_num, by omega, by omega, by omega, by omega, HF.out, own7, hR7.more (by omega), G7⟩
        case measure => simp [intOf]; omega
      · have hjN : (j : Int) = N := by omega
        subst hjN
        by_cases h1 : 1 < (j : Int)
        · have d1 : decide (1 < (j : Int)) = true := decide_eq_true h1
          have d1n : decide (1 < j) = true := decide_eq_true (by omega)
          go_wp2_with fail
          refine (spec_pick B _ 24 wr hRr (by omega) (by omega) (by omega)).mono ?_
          rintro e w5 ⟨k5, rfl, hk5', hR5, g5⟩
          have own5 := hown.by hB g5
          have G5 := grown_trans gr g5
          clear hown gr g5 hRr
          by_cases q0 : k5 = 0
          · have e5 : ((k5 : Int) == 0) = true := by rw [beq_iff_eq]; omega
            obtain ⟨g, cp, rfl⟩ := own5.form (by have := Hpl.out; omega)
            have hp2 : 1 < pre.length := by have := Hpl.out; omega
            have st := own5.store1 (ss := pre.set 1 ⟨(tAt pre 1).num, 0⟩) 1 hp2 0 (by simp) (by simp [tAt, hp2]) (fun i hi hne => by
              unfold tAt List.getD
              rw [List.getElem?_set_ne (fun e => hne e.symm)])
            obtain ⟨c0, c1, c2, c3⟩ := own5.cellsAt 1 hp2
            have lt5 := (own5.lt g rfl).1
            have BR : Rd (w5.setCell ⟨g, 1 * 2 + 1, none⟩ (.int .i64 0)) B (c + 40) := ((hR5.more (show c + 4 + 2 * j + 1 ≤ c + 40 by omega)).byT own5 hB st.2)
            have BG := grown_rowT G5 own5 (Nat.le_refl _) st.2
            have BO := st.1
            have BF : FirstB (pre.set 1 ⟨(tAt pre 1).num, 0⟩) := fun i hi => by
              rw [List.length_set] at hi
              by_cases e : i = 1
              · subst e
                have : tAt (pre.set 1 ⟨(tAt pre 1).num, 0⟩) 1 = ⟨(tAt pre 1).num, 0⟩ := by simp [tAt, hp2]
                rw [this]
                exact ⟨(hF 1 hp2).1, by simp, by simp⟩
              · have : tAt (pre.set 1 ⟨(tAt pre 1).num, 0⟩) i = tAt pre i := by
                  unfold tAt List.getD
                  rw [List.getElem?_set_ne (fun x => e x.symm)]
                rw [this]
                exact hF i hi
            have HBF := Lib.hid BF
            have HBL : Hid ((pre.set 1 ⟨(tAt pre 1).num, 0⟩).length ≤ 9) := Lib.hid (by rw [List.length_set]; exact hp9)
            simp only [Nat.one_mul, Nat.reduceAdd] at c1 c3 BR BG BO
            clear st hF own5 hR5 G5 BF c0 c2
            go_wp2_with fail
            go_ret
            exact ⟨_, _, rfl, BO, ⟨HBL.out, HBF.out⟩, BR, BG⟩
          · have e5 : ((k5 : Int) == 0) = false := by rw [beq_eq_false_iff_ne]; omega
            go_wp2_with fail
            go_ret
            exact ⟨_, pre, rfl, own5, ⟨hp9, hF⟩, hR5.more (by omega), G5⟩
        · have d1 : decide (1 < (j : Int)) = false := decide_eq_false h1
          have d1n : decide (1 < j) = false := decide_eq_false (by omega)
          go_wp2_with fail
          go_ret
          exact ⟨_, pre, rfl, hown, ⟨hp9, hF⟩, hRr.more (by omega), gr⟩
  · have e0 : ((k : Int) == 0) = false := by rw [beq_eq_false_iff_ne]; omega
    have own3 := own2
    have G3 := G2
    have hR3' := hR2.more (show c + 1 + 1 ≤ c + 3 by omega)
    go_wp2_with fail
    have hk3 : (n : Int) ≤ 9 := by omega
    have hk4 : 0 ≤ (n : Int) := by omega
    obtain ⟨N, hN⟩ : ∃ N : Int, (n : Int) = N := ⟨_, rfl⟩
    rw [hN] at hk3 hk4
    simp only [hN]
    clear own2 G2 hR2 hN hn5 e0 k0
    refine (spec_pick B (c + 3) 3 _ hR3' (by omega) (by omega) (by omega)).mono ?_
    rintro e w4 ⟨k4, rfl, hk4', hR4, g4⟩
    have own4 := own3.by hB g4
    have G4 := grown_trans G3 g4
    have hk5 : (k4 : Int) ≤ 2 := by omega
    clear own3 G3 hR3' g4 hk4'
    go_wp2_with fail
    go_loopw [3, 5, 6, 7] (fun u q f i wr => ∃ (j : Nat) (pre : List Trm) (nu fi : Int), i = .int .i64 j ∧ (j : Int) ≤ N ∧ pre.length = j ∧ q = .int .i64 nu ∧ f = .int .i64 fi ∧ 0 ≤ nu ∧ nu ≤ 2 + 2 * (j : Int) ∧ 0 ≤ fi ∧ fi ≤ 8 * (j : Int) ∧ FirstB pre ∧ OwnT wr w.heap.size u pre ∧ Rd wr B (c + 4 + 2 * j) ∧ w.grownBy wr (some B)) (fun _ _ _ i _ => N.toNat - (intOf i).toNat)
    case atStart => exact ⟨0, [], (k4 : Int), 0, rfl, by omega, rfl, rfl, rfl, by omega, by omega, by omega, by omega, fun i hi => by simp at hi, own4, hR4.more (by omega), G4⟩
    case round =>
      clear own4 hR4 G4
      obtain ⟨j, pre, nu, fi, rfl, hj, hpl, rfl, rfl, n0, n1, f0, f1, hF, hown, hRr, gr⟩ := hrel
      have Hpl := Lib.hid hpl
      have hp9 : pre.length ≤ 9 := by omega
      clear hpl
      have hsz : w.heap.size ≤ wr.heap.size := gr.size
      by_cases hlt : (j : Int) < N
      · have HF := Lib.hid (hF.snoc (x := nu) (y := fi) n0 (by omega) f0 (by omega))
        clear hF
        go_wp2_with (at_builtin; refine wp_appT rfl _ _ rfl w.heap.size u3 pre nu fi wr.heap.size rfl rfl rfl hown (by omega) hsz ?_; intro g cp w5 own5 g5)
        have hR5 := hRr.byT hown hB g5
        have G5 := grown_rowT gr hown (Nat.le_refl _) g5
        clear hRr gr hown g5
        refine (spec_pick B _ 3 w5 hR5 (by omega) (by omega) (by omega)).mono ?_
        rintro e w6 ⟨k6, rfl, hk6, hR6, g6⟩
        have own6 := own5.by hB g6
        have G6 := grown_trans G5 g6
        have k6b : (k6 : Int) ≤ 2 := by omega
        clear hR5 G5 own5 g6 hk6
        go_wp2_with fail
        refine (spec_pick B _ 8 w6 hR6 (by omega) (by omega) (by omega)).mono ?_
        rintro e w7 ⟨k7, rfl, hk7, hR7, g7⟩
        have own7 := own6.by hB g7
        have G7 := grown_trans G6 g7
        have k7b : (k7 : Int) ≤ 7 := by omega
        clear hR6 G6 own6 g7 hk7
        go_wp2_with fail
        go_roundw
        case rel => exact ⟨j + 1, pre ++ [⟨nu, fi⟩], nu + 1 + (k6 : Int) / 2, fi + 1 + (k7 : Int), by go_num, by omega, by simp [Hpl.out], by go_num, by go_num, by omega, by omega, by omega, by omega, HF.out, own7, hR7.more (by omega), G7⟩
        case measure => simp [intOf]; omega
      · have hjN : (j : Int) = N := by omega
        subst hjN
        by_cases h1 : 1 < (j : Int)
        · have d1 : decide (1 < (j : Int)) = true := decide_eq_true h1
          have d1n : decide (1 < j) = true := decide_eq_true (by omega)
          go_wp2_with fail
          refine (spec_pick B _ 24 wr hRr (by omega) (by omega) (by omega)).mono ?_
          rintro e w5 ⟨k5, rfl, hk5', hR5, g5⟩
          have own5 := hown.by hB g5
          have G5 := grown_trans gr g5
          clear hown gr g5 hRr
          by_cases q0 : k5 = 0
          · have e5 : ((k5 : Int) == 0) = true := by rw [beq_iff_eq]; omega
            obtain ⟨g, cp, rfl⟩ := own5.form (by have := Hpl.out; omega)
            have hp2 : 1 < pre.length := by have := Hpl.out; omega
            have st := own5.store1 (ss := pre.set 1 ⟨(tAt pre 1).num, 0⟩) 1 hp2 0 (by simp) (by simp [tAt, hp2]) (fun i hi hne => by
              unfold tAt List.getD
              rw [List.getElem?_set_ne (fun e => hne e.symm)])
            obtain ⟨c0, c1, c2, c3⟩ := own5.cellsAt 1 hp2
            have lt5 := (own5.lt g rfl).1
            have BR : Rd (w5.setCell ⟨g, 1 * 2 + 1, none⟩ (.int .i64 0)) B (c + 40) := ((hR5.more (show c + 4 + 2 * j + 1 ≤ c + 40 by omega)).byT own5 hB st.2)
            have BG := grown_rowT G5 own5 (Nat.le_refl _) st.2
            have BO := st.1
            have BF : FirstB (pre.set 1 ⟨(tAt pre 1).num, 0⟩) := fun i hi => by
              rw [List.length_set] at hi
              by_cases e : i = 1
              · subst e
                have : tAt (pre.set 1 ⟨(tAt pre 1).num, 0⟩) 1 = ⟨(tAt pre 1).num, 0⟩ := by simp [tAt, hp2]
                rw [this]
                exact ⟨(hF 1 hp2).1, by simp, by simp⟩
              · have : tAt (pre.set 1 ⟨(tAt pre 1).num, 0⟩) i = tAt pre i := by
                  unfold tAt List.getD
                  rw [List.getElem?_set_ne (fun x => e x.symm)]
                rw [this]
                exact hF i hi
            have HBF := Lib.hid BF
            have HBL : Hid ((pre.set 1 ⟨(tAt pre 1).num, 0⟩).length ≤ 9) := Lib.hid (by rw [List.length_set]; exact hp9)
            simp only [Nat.one_mul, Nat.reduceAdd] at c1 c3 BR BG BO
            clear st hF own5 hR5 G5 BF c0 c2
            go_wp2_with fail
            go_ret
            exact ⟨_, _, rfl, BO, ⟨HBL.out, HBF.out⟩, BR, BG⟩
          · have e5 : ((k5 : Int) == 0) = false := by rw [beq_eq_false_iff_ne]; omega
            go_wp2_with fail
            go_ret
            exact ⟨_, pre, rfl, own5, ⟨hp9, hF⟩, hR5.more (by omega), G5⟩
        · have d1 : decide (1 < (j : Int)) = false := decide_eq_false h1
          have d1n : decide (1 < j) = false := decide_eq_false (by omega)
          go_wp2_with fail
          go_ret
          exact ⟨_, pre, rfl, hown, ⟨hp9, hF⟩, hRr.more (by omega), gr⟩
def EndRes (w : World) (B c : Nat) (e : Ending) (w' : World) : Prop := ∃ n : Int, e = .returned (.int .i64 n) ∧ -20 ≤ n ∧ n ≤ 1020 ∧ Rd w' B (c + 2) ∧ w.grownBy w' (some B)
theorem spec_l92End (B c : Nat) (u : Value) (ts : List Trm) (w : World) (h : Rd w B c) (hc : c ≤ 900000000) (hT : Ts w u ts) (hb : TsB ts) (hne : ∀ k, u.ownBlock = some k → k ≠ B) :
    Calls Try.prog 19 #[.pointer (some ⟨B, 0, none⟩), u] w (EndRes w B c) := by
  have hv := hT
  obtain ⟨a, cap, rfl, hl, hm, hcl⟩ := hT
  unfold maxLen at hm
  clear hcl
  by_cases h0 : ts.length = 0
  · have d0 : ((ts.length : Int) == 0) = true := by simp [h0]
    have d0n : (ts.length == 0) = true := by simp [h0]
    clear h0 hne
    go_enter Try.func19, Try.ntmps19
    go_wp2_with fail
    refine (spec_pick B c 20 w h (by omega) (by omega) (by omega)).mono ?_
    rintro e w1 ⟨k, rfl, hk, hR1, g1⟩
    go_wp2_with fail
    go_ret
    exact ⟨(k : Int), rfl, by omega, by omega, hR1.more (by omega), g1⟩
  · have d0 : ((ts.length : Int) == 0) = false := by rw [beq_eq_false_iff_ne]; omega
    have d0n : (ts.length == 0) = false := by simp [h0]
    obtain ⟨b, off, cp, e, _, _, hcell⟩ := hv.form (by omega)
    simp only [Value.slice.injEq, true_and] at e
    obtain ⟨rfl, rfl⟩ := e
    have c0 := (hcell (ts.length - 1) (by omega)).2
    have bnd := (hb.2 (ts.length - 1) (by omega)).2
    obtain ⟨f, hf⟩ : ∃ f, (tAt ts (ts.length - 1)).first = f := ⟨_, rfl⟩
    rw [hf] at c0 bnd
    obtain ⟨f0, f1⟩ := bnd
    have s1 : IntKind.i64.wrap ((ts.length : Int) - 1) = (ts.length : Int) - 1 := IntWalk.i64_in _ ⟨by omega, by omega⟩
    have n1 : ((ts.length : Int) - 1).toNat = ts.length - 1 := by omega
    have n2 : (1 : Int) ≤ (ts.length : Int) := by omega
    have n3 : (ts.length : Int) - 1 < (ts.length : Int) := by omega
    have s2 : IntKind.i64.wrap (f + 1) = f + 1 := IntWalk.i64_in _ ⟨by omega, by omega⟩
    have hbB : b ≠ B := hne b rfl
    have bdr : Below w.heap.size w w.drew := below_drewN (Below.refl _ _) 1
    have lb := World.block_lt_of_cell? _ _ c0
    have HS : Hid (∀ W, w.grownBy W (some B) → W.cell? ⟨b, off + (ts.length - 1) * 2 + 1, none⟩ = some (.int .i64 f)) := Lib.hid fun W hW => (World.cell?_of_block (hW.block b lb (fun e => hbB (by simpa using e)))).trans c0
    have S1 : w.drew.cell? ⟨b, off + (ts.length - 1) * 2 + 1, none⟩ = some (.int .i64 f) := HS.out _ (grown_of_below bdr)
    have gd : w.grownBy w.drew (some B) := grown_of_below bdr
    have P1 := Lib.hid (spec_pick B c 10 w.drew (h.below bdr) (by omega) (by omega) (by omega))
    have P2 : Hid (∀ W, Rd W B (c + 1) → Calls Try.prog 17 #[.pointer (some ⟨B, 0, none⟩), .int .i64 20] W (PickRes W B (c + 1) 20)) := Lib.hid fun W hW => spec_pick B (c + 1) 20 W hW (by omega) (by omega) (by omega)
    clear hcell hf hb hne hv h c0
    go_enter Try.func19, Try.ntmps19
    go_upto_region 3 with (fail)
    have W1 : Hid (∀ k1 : Nat, ((k1 : Int) < 10 ∨ k1 = 0) → (k1 : Int) ≤ 9 ∧ IntKind.i64.wrap (f + 1 + (k1 : Int)) = f + 1 + (k1 : Int)) := Lib.hid fun k1 h => ⟨by omega, IntWalk.i64_in _ ⟨by omega, by omega⟩⟩
    have W2 : Hid (∀ k1 k2 : Nat, (k1 : Int) ≤ 9 → ((k2 : Int) < 20 ∨ k2 = 0) → (k2 : Int) ≤ 19 ∧ IntKind.i64.wrap ((k2 : Int) / 19) = (k2 : Int) / 19 ∧ IntKind.i64.wrap ((k2 : Int) / 19 * 9) = (k2 : Int) / 19 * 9 ∧ IntKind.i64.wrap (f + 1 + (k1 : Int) - (k2 : Int) / 19 * 9) = f + 1 + (k1 : Int) - (k2 : Int) / 19 * 9) := Lib.hid fun k1 k2 h g => ⟨by omega, IntWalk.i64_in _ ⟨by omega, by omega⟩, IntWalk.i64_in _ ⟨by omega, by omega⟩, IntWalk.i64_in _ ⟨by omega, by omega⟩⟩
    go_region_held3 (fun W => W.cell? ⟨b, off + (ts.length - 1) * 2 + 1, none⟩ = some (.int .i64 f)) (first | with_reducible exact S1 | with_reducible exact HS.out _ G1 | with_reducible exact HS.out _ G2 | go_keep)
      (first
        | (go_at_call 17; ((with_reducible refine P1.out.mono ?_); rintro e w1 ⟨k1, rfl, hk1, hR1, g1⟩; have G1 := grown_trans gd g1; obtain ⟨kb1, s3⟩ := W1.out k1 hk1))
        | (go_at_call 17; ((with_reducible refine (P2.out _ hR1).mono ?_); rintro e w2 ⟨k2, rfl, hk2, hR2, g2⟩; have G2 := grown_trans G1 g2; obtain ⟨kb2, s4, s5, s6⟩ := W2.out k1 k2 kb1 hk2)))
    go_wp2_with fail
    go_ret
    exact ⟨_, rfl, by omega, by omega, hR2.more (by omega), G2⟩
end Go.Proofs.Ytddemgdclilgpaa
