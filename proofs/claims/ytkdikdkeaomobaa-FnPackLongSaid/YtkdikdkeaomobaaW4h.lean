/- Chapter 4: the program's longest match. -/
import Derived.Test.YtkdikdkeaomobaaW4g
import Derived.Test.YtkdikdkeaomobaaP4d
namespace Go.Proofs.Ytkdikdkeaomobaa
open Go.ChangeShapes Go.WideShapes Go.ChangeAt Go.RowKit
set_option linter.unusedVariables false

def LngRes (g : Nat × Nat) (w : World) (e : Ending) (w' : World) : Prop := e = .returned (.tuple #[.int .i64 (g.2 : Nat), .int .i64 (g.1 : Nat)]) ∧ Below w.heap.size w w'
set_option maxHeartbeats 1000000 in
theorem impl_longestMatch (b j : Nat) (v r : Value) (xs : List Int) (w : World) (hv : Ints w v xs) (hP : Plc w b xs j r) (hf : Fits xs) (hl : xs.length ≤ 1000) (hj : j ≤ xs.length) :
    Calls Try.prog 31 #[.map (some b), v, .int .i64 (j : Int)] w (LngRes (lngI xs j) w) := by
  by_cases h3 : j + 3 ≤ xs.length
  · have d1 : decide ((xs.length : Int) < (j : Int) + 3) = false := decide_eq_false (by omega)
    have C1 := Lib.hid (impl_tripleAt v xs j w hv h3 hl)
    have C2 : Hid (∀ wn (p : Nat), p < j → Below w.heap.size w wn → Calls Try.prog 41 #[v, .int .i64 (p : Int), .int .i64 (j : Int)] wn (SaysN (mlen xs 66 p j : Nat) wn)) := fun wn p hp hb => impl_matchSize v xs p j wn (hv.below hb) hp hj hl
    obtain ⟨a, cap, rfl, _, _, _⟩ := hv
    obtain ⟨ps, hps⟩ : ∃ ps, plcOf xs j j = ps := ⟨_, rfl⟩
    have hL : lngI xs j = ps.foldl (stepP xs j) (0, 0) := by unfold lngI; rw [if_pos h3, hps]
    obtain ⟨G, hG⟩ : ∃ G, lngI xs j = G := ⟨_, rfl⟩
    rw [hG] at hL ⊢
    have HL := Lib.hid hL
    have hmem : Hid (∀ k (h : k < ps.length), ps[k] < j) := Lib.hid fun k h => by
      have h1 : ps[k] ∈ plcOf xs j j := by rw [hps]; exact List.getElem_mem h
      exact (plcOf_mem.1 h1).1
    have hpl : ps.length ≤ 1000 := by rw [← hps]; have := plcOf_len xs j j; omega
    clear hL hG
    go_enter Try.func31, Try.ntmps31
    go_wp2_with fail
    refine C1.out.mono ?_
    rintro e w1 ⟨rfl, b1⟩
    obtain ⟨u, hrun, own⟩ := (hP.below b1).look hf (by omega) j
    rw [hps] at own
    have hnl : (nums ps).length = ps.length := by simp [nums]
    have hi := own.ints
    obtain ⟨a2, cap2, rfl, l2, m2, hcell⟩ := hi
    rw [hnl] at hrun l2 hcell
    unfold maxLen at m2
    have HC := Lib.hid hcell
    clear own hcell hps hP C1
    go_wp2_with fail
    go_loopw [8, 9, 24] (fun bk lg i wr => ∃ k : Nat, i = .int .i64 k ∧ k ≤ ps.length ∧ lg = .int .i64 (((ps.take k).foldl (stepP xs j) (0, 0)).1 : Nat) ∧ bk = .int .i64 (((ps.take k).foldl (stepP xs j) (0, 0)).2 : Nat) ∧ Below w1.heap.size w1 wr) (fun _ _ i _ => ps.length - (intOf i).toNat)
    case atStart => exact ⟨0, rfl, Nat.zero_le _, rfl, rfl, Below.refl _ _⟩
    case round =>
      obtain ⟨k, rfl, hk, rfl, rfl, hbel⟩ := hrel
      obtain ⟨⟨g1, g2⟩, hg⟩ : ∃ g, (ps.take k).foldl (stepP xs j) (0, 0) = g := ⟨_, rfl⟩
      rw [hg]
      by_cases hlt : k < ps.length
      · have d2 : decide ((k : Int) < (ps.length : Int)) = true := decide_eq_true (by omega)
        have hp := hmem.out k hlt
        have hst : (ps.take (k + 1)).foldl (stepP xs j) (0, 0) = stepP xs j (g1, g2) ps[k] := by
          rw [List.take_succ_eq_append_getElem hlt, List.foldl_append, hg]
          rfl
        obtain ⟨b2, off, rfl, hc⟩ := HC.out (by omega)
        have hx := (hbel.cell (World.block_lt_of_cell? w1 _ (hc k hlt))).trans (hc k hlt)
        have hv : (nums ps).getD k 0 = ((ps[k] : Nat) : Int) := by simp [nums, List.getD, hlt]
        rw [hv] at hx
        obtain ⟨p, ep⟩ : ∃ p, ps[k] = p := ⟨_, rfl⟩
        rw [ep] at hx hp hst
        have D := Lib.hid (C2.out wr p hp (Bstep b1 hbel))
        obtain ⟨m, hm⟩ : ∃ m, mlen xs 66 p j = m := ⟨_, rfl⟩
        rw [show stepP xs j (g1, g2) p = if g1 ≤ mlen xs 66 p j then (mlen xs 66 p j, j - p) else (g1, g2) from rfl] at hst
        rw [hm] at D hst
        clear hg hc hv ep hm
        by_cases hle : g1 ≤ m
        · rw [if_pos hle] at hst
          have d3 : decide ((g1 : Int) ≤ (m : Int)) = true := decide_eq_true (by omega)
          have HS := Lib.hid hst
          clear hst
          go_wp2_with fail
          refine D.out.mono ?_
          rintro e w2 ⟨rfl, b3⟩
          go_wp2_with fail
          go_roundw
          case rel => exact ⟨k + 1, by go_num, by omega, by rw [HS.out], by rw [HS.out]; go_num, Bstep hbel b3⟩
          case measure => simp [intOf]; omega
        · rw [if_neg hle] at hst
          have d3 : decide ((g1 : Int) ≤ (m : Int)) = false := decide_eq_false (by omega)
          have HS := Lib.hid hst
          clear hst
          go_wp2_with fail
          refine D.out.mono ?_
          rintro e w2 ⟨rfl, b3⟩
          go_wp2_with fail
          go_roundw
          case rel => exact ⟨k + 1, by go_num, by omega, by rw [HS.out], by rw [HS.out], Bstep hbel b3⟩
          case measure => simp [intOf]; omega
      · have d2 : decide ((k : Int) < (ps.length : Int)) = false := decide_eq_false (by omega)
        have e : G = (g1, g2) := by rw [HL.out, ← hg, List.take_of_length_le (by omega)]
        have E := Lib.hid e
        clear e hg
        go_wp2_with fail
        go_returns
        rw [E.out]
        exact ⟨rfl, Bstep b1 hbel⟩
  · have d1 : decide ((xs.length : Int) < (j : Int) + 3) = true := decide_eq_true (by omega)
    have e : lngI xs j = (0, 0) := by unfold lngI; rw [if_neg h3]
    rw [e]
    obtain ⟨a, cap, rfl, _, _, _⟩ := hv
    clear e
    go_enter Try.func31, Try.ntmps31
    go_wp2_with fail
    go_returns
    exact ⟨rfl, Below.refl _ _⟩
end Go.Proofs.Ytkdikdkeaomobaa
