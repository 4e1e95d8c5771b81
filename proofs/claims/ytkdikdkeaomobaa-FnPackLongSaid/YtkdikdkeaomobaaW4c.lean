/- Chapter 4: how the model packs. -/
import Derived.Test.YtkdikdkeaomobaaP4c
import Derived.Test.YtkdikdkeaomobaaS0
import Derived.Test.YtkdikdkeaomobaaW4
import Derived.Deep.RegionLaw
namespace Go.Proofs.Ytkdikdkeaomobaa
open Go.ChangeShapes Go.WideShapes Go.ChangeAt Go.RowKit
set_option linter.unusedVariables false

/-- a function that reads numbers and answers one -/
def SaysN (n : Int) (w : World) (e : Ending) (w' : World) : Prop := e = .returned (.int .i64 n) ∧ Below w.heap.size w w'

theorem spec_l4Long (v : Value) (xs : List Int) (j back : Nat) (w : World) (h : Ints w v xs) (hb1 : 1 ≤ back) (hb2 : back ≤ j) (hj : j ≤ 1000) (hl : xs.length ≤ 1000) :
    Calls Try.prog 46 #[v, .int .i64 (j : Int), .int .i64 (back : Int)] w (SaysN (mlen xs 66 (j - back) j : Nat) w) := by
  obtain ⟨a, cap, rfl, l1, m1, c0⟩ := h
  unfold maxLen at m1
  have HC := Lib.hid c0
  clear c0
  go_enter Try.func46, Try.ntmps46
  go_wp2
  go_loopw [7] (fun i wr => ∃ n : Nat, i = .int .i64 n ∧ n ≤ 66 ∧ Hid (∀ k, k < n → j + k < xs.length ∧ xs.getD (j - back + k) 0 = xs.getD (j + k) 0) ∧ Below w.heap.size w wr) (fun i _ => 66 - (intOf i).toNat)
  case atStart => exact ⟨0, rfl, by omega, Lib.hid fun k hk => by omega, Below.refl _ _⟩
  case round =>
    obtain ⟨n, rfl, hn, hrun, hbel⟩ := hrel
    have s1 : IntKind.i64.wrap ((j : Int) + (n : Int)) = (j : Int) + (n : Int) := IntWalk.i64_in _ ⟨by omega, by omega⟩
    by_cases h1 : j + n < xs.length
    · have d1 : decide ((j : Int) + (n : Int) < (xs.length : Int)) = true := decide_eq_true (by omega)
      by_cases h2 : n < 66
      · have d2 : decide ((n : Int) < 66) = true := decide_eq_true (by omega)
        obtain ⟨b, off, rfl, hcell⟩ := HC.out (by omega)
        have hx := (hbel.cell (World.block_lt_of_cell? w _ (hcell (j + n) h1))).trans (hcell (j + n) h1)
        have hy := (hbel.cell (World.block_lt_of_cell? w _ (hcell (j - back + n) (by omega)))).trans (hcell (j - back + n) (by omega))
        obtain ⟨q, hq⟩ : ∃ q, j - back + n = q := ⟨_, rfl⟩
        obtain ⟨x, ex⟩ : ∃ x, xs.getD (j + n) 0 = x := ⟨_, rfl⟩
        obtain ⟨y, ey⟩ : ∃ y, xs.getD (j - back + n) 0 = y := ⟨_, rfl⟩
        rw [ex] at hx
        rw [ey] at hy
        rw [hq] at hy ey
        have s2 : IntKind.i64.wrap ((j : Int) + (n : Int) - (back : Int)) = (q : Int) := by rw [IntWalk.i64_in _ ⟨by omega, by omega⟩]; omega
        have n1 : ((j : Int) + (n : Int)).toNat = j + n := by omega
        have i0 : (0 : Int) ≤ (j : Int) + (n : Int) := by omega
        have i1 : (0 : Int) ≤ (q : Int) := by omega
        have i2 : (q : Int) < (xs.length : Int) := by omega
        have i3 : (j : Int) + (n : Int) < (xs.length : Int) := by omega
        have Ex := Lib.hid ex
        have Ey := Lib.hid ey
        have Hq := Lib.hid hq
        clear hcell ex ey hq
        by_cases hxy : x = y
        · have d3 : (x == y) = true := by rw [beq_iff_eq]; exact hxy
          have H1 : Hid (∀ k, k < n + 1 → j + k < xs.length ∧ xs.getD (j - back + k) 0 = xs.getD (j + k) 0) := Lib.hid fun k hk => by
            by_cases e : k = n
            · subst e; rw [Hq.out]; exact ⟨h1, by rw [Ex.out, Ey.out, hxy]⟩
            · exact hrun.out k (by omega)
          clear hxy
          go_wp2
          go_quiet (fail)
          go_wp2
          go_roundw
          case rel => exact ⟨n + 1, by go_num, by omega, H1, below_drewN hbel _⟩
          case measure => simp [intOf]; omega
        · have d3 : (x == y) = false := by rw [beq_eq_false_iff_ne]; exact hxy
          have e : mlen xs 66 (j - back) j = n := mlen_eq hn hrun.out (.inr (fun hh => hxy (by have h2 := hh.2; rw [Hq.out, Ey.out, Ex.out] at h2; exact h2.symm)))
          have E := Lib.hid e
          clear hxy e
          go_wp2
          go_quiet (fail)
          go_wp2
          go_ret
          rw [E.out]
          exact ⟨rfl, below_drewN hbel _⟩
      · have d2 : decide ((n : Int) < 66) = false := decide_eq_false (by omega)
        have e : mlen xs 66 (j - back) j = n := mlen_eq hn hrun.out (.inl (by omega))
        have E := Lib.hid e
        clear e
        go_wp2
        go_quiet (fail)
        go_wp2
        go_ret
        rw [E.out]
        exact ⟨rfl, below_drewN hbel _⟩
    · have d1 : decide ((j : Int) + (n : Int) < (xs.length : Int)) = false := decide_eq_false (by omega)
      have e : mlen xs 66 (j - back) j = n := mlen_eq hn hrun.out (.inr (fun hh => h1 hh.1))
      have E := Lib.hid e
      clear e
      go_wp2
      go_quiet (fail)
      go_wp2
      go_ret
      rw [E.out]
      exact ⟨rfl, below_drewN hbel _⟩

def BestRes (g : Nat × Nat) (w : World) (e : Ending) (w' : World) : Prop := e = .returned (.tuple #[.int .i64 (g.1 : Nat), .int .i64 (g.2 : Nat)]) ∧ Below w.heap.size w w'
theorem spec_l4Best (v : Value) (xs : List Int) (j : Nat) (w : World) (h : Ints w v xs) (hj : j ≤ 200) (hl : xs.length ≤ 1000) :
    Calls Try.prog 43 #[v, .int .i64 (j : Int)] w (BestRes (bestB xs j (min j 200)) w) := by
  have C1 : Hid (∀ wn (b : Nat), 1 ≤ b → b ≤ j → Below w.heap.size w wn → Calls Try.prog 46 #[v, .int .i64 (j : Int), .int .i64 (b : Int)] wn (SaysN (mlen xs 66 (j - b) j : Nat) wn)) := fun wn b h1 h2 hw => spec_l4Long v xs j b wn (h.below hw) h1 h2 (by omega) hl
  rw [show min j 200 = j by omega]
  have hM2 : min (j : Int) 200 = (j : Int) := by omega
  clear h
  go_enter Try.func43, Try.ntmps43
  go_wp2
  go_loopw [6, 7, 8] (fun bs lg i wr => ∃ b : Nat, i = .int .i64 ((b : Int) + 1) ∧ b ≤ j ∧ lg = .int .i64 ((bestB xs j b).1 : Nat) ∧ bs = .int .i64 ((bestB xs j b).2 : Nat) ∧ Below w.heap.size w wr) (fun _ _ i _ => j + 1 - (intOf i).toNat)
  case atStart => exact ⟨0, by go_num, by omega, rfl, rfl, Below.refl _ _⟩
  case round =>
    obtain ⟨b, rfl, hb, rfl, rfl, hbel⟩ := hrel
    by_cases hlt : b < j
    · have d1 : decide ((b : Int) + 1 ≤ (j : Int)) = true := decide_eq_true (by omega)
      have C2' := C1.out wr (b + 1) (by omega) (by omega) hbel
      rw [show ((b + 1 : Nat) : Int) = (b : Int) + 1 by omega] at C2'
      have C2 := Lib.hid C2'
      have hm66 := mlen_le xs 66 (j - (b + 1)) j
      obtain ⟨n, hn⟩ : ∃ n, mlen xs 66 (j - (b + 1)) j = n := ⟨_, rfl⟩
      have hbb := (bestB_le xs j b)
      have hstep : bestB xs j (b + 1) = if (bestB xs j b).1 < mlen xs 66 (j - (b + 1)) j then (mlen xs 66 (j - (b + 1)) j, b + 1) else bestB xs j b := rfl
      rw [hn] at C2 hm66 hstep
      obtain ⟨⟨p1, p2⟩, hp⟩ : ∃ p, bestB xs j b = p := ⟨_, rfl⟩
      rw [hp] at hbb hstep ⊢
      simp only at hbb hstep ⊢
      obtain ⟨hb1, hb2, _⟩ := hbb
      clear C2' hn hp
      by_cases hgt : p1 < n
      · rw [if_pos hgt] at hstep
        have d2 : decide ((p1 : Int) < (n : Int)) = true := decide_eq_true (by omega)
        have d3 : decide (p1 < n) = true := decide_eq_true hgt
        have HS := Lib.hid hstep
        clear hstep
        go_wp2_with fail
        refine C2.out.mono ?_
        rintro e w2 ⟨rfl, b2⟩
        go_wp2_with fail
        go_roundw
        case rel => exact ⟨b + 1, by go_num, by omega, by rw [HS.out], by rw [HS.out]; go_num, Bstep hbel b2⟩
        case measure => simp [intOf]; omega
      · rw [if_neg hgt] at hstep
        have d2 : decide ((p1 : Int) < (n : Int)) = false := decide_eq_false (by omega)
        have d3 : decide (p1 < n) = false := decide_eq_false hgt
        have HS := Lib.hid hstep
        clear hstep
        go_wp2_with fail
        refine C2.out.mono ?_
        rintro e w2 ⟨rfl, b2⟩
        go_wp2_with fail
        go_roundw
        case rel => exact ⟨b + 1, by go_num, by omega, by rw [HS.out], by rw [HS.out], Bstep hbel b2⟩
        case measure => simp [intOf]; omega
    · obtain rfl : b = j := by omega
      have d1 : decide ((b : Int) + 1 ≤ (b : Int)) = false := decide_eq_false (by omega)
      go_wp2_with fail
      go_ret2
      exact ⟨rfl, hbel⟩
end Go.Proofs.Ytkdikdkeaomobaa
