/- All numbers are bytes: the check of the program and that of the model. -/
import Derived.Test.YtfapeppocfodpaaL0
namespace Go.Proofs.Ytfapeppocfodpaa
open Go.ChangeShapes Go.WideShapes Go.ChangeAt Go.RowKit
set_option linter.unusedVariables false

/-- what a law's walk comes to -/
def Yes (w : World) (e : Ending) (w' : World) : Prop := e = .returned (.bool true) ∧ Below w.heap.size w w'
theorem beq_self (xs : List Int) : (xs == xs) = true := by simp
/-- a number is in a range -/
def inR (n lo hi : Int) : Bool := decide (lo ≤ n) && decide (n ≤ hi)
theorem inR_yes {n lo hi : Int} (h : lo ≤ n) (h2 : n ≤ hi) : inR n lo hi = true := by unfold inR; rw [decide_eq_true h, decide_eq_true h2]; rfl
theorem inR_lo {n lo hi : Int} (h : n < lo) : inR n lo hi = false := by unfold inR; rw [decide_eq_false (show ¬ lo ≤ n by omega)]; rfl
theorem inR_hi {n lo hi : Int} (h : hi < n) : inR n lo hi = false := by unfold inR; rw [decide_eq_false (show ¬ n ≤ hi by omega)]; simp
theorem spec_l6In (n lo hi : Int) (w : World) :
    Calls Try.prog 43 #[.int .i64 n, .int .i64 lo, .int .i64 hi] w fun e w' => e = .returned (.bool (inR n lo hi)) ∧ w = w' := by
  by_cases h1 : lo ≤ n
  · have d1 : decide (lo ≤ n) = true := decide_eq_true h1
    by_cases h2 : n ≤ hi
    · have d2 : decide (n ≤ hi) = true := decide_eq_true h2
      rw [inR_yes h1 h2]
      go_enter Try.func43, Try.ntmps43
      go_wp2
      go_ret
      exact ⟨rfl, rfl⟩
    · have d2 : decide (n ≤ hi) = false := decide_eq_false h2
      rw [inR_hi (by omega)]
      go_enter Try.func43, Try.ntmps43
      go_wp2
      go_ret
      exact ⟨rfl, rfl⟩
  · have d1 : decide (lo ≤ n) = false := decide_eq_false h1
    rw [inR_lo (by omega)]
    go_enter Try.func43, Try.ntmps43
    go_wp2
    go_ret
    exact ⟨rfl, rfl⟩

def FirstOk (xs : List Int) (k : Nat) : Prop := ∀ i, i < k → 0 ≤ xs.getD i 0 ∧ xs.getD i 0 ≤ 255
theorem FirstOk.snoc {xs : List Int} {k : Nat} {x : Int} (h : FirstOk xs k) (hx : xs.getD k 0 = x) (h0 : ¬ x < 0) (h1 : ¬ 255 < x) : FirstOk xs (k + 1) := fun i hi => by
  by_cases e : i = k
  · subst e; omega
  · exact h i (by omega)

theorem impl_areBytes (v : Value) (xs : List Int) (w : World) (h : Ints w v xs) :
    Calls Try.prog 103 #[v] w fun e w' => e = .returned (.bool (okBs xs)) ∧ w = w' := by
  obtain ⟨a, cap, rfl, hl, hm, hc⟩ := h
  unfold maxLen at hm
  go_enter Try.func103, Try.ntmps103
  go_wp2
  go_loop [7] (fun i => ∃ k : Nat, k ≤ xs.length ∧ i = .int .i64 k ∧ FirstOk xs k) (fun i => xs.length - (intOf i).toNat)
  case atStart => exact ⟨0, Nat.zero_le _, rfl, fun i hi => by omega⟩
  case round =>
    obtain ⟨k, hk, rfl, hrel⟩ := hrel
    by_cases hlt : k < xs.length
    · obtain ⟨b, off, rfl, hcell⟩ := hc (by omega)
      have hx := hcell k hlt
      clear hcell
      obtain ⟨x, ex⟩ : ∃ x, xs.getD k 0 = x := ⟨_, rfl⟩
      rw [ex] at hx
      have Hx := Lib.hid ex
      clear ex
      by_cases h0 : x < 0
      · go_wp2
        go_ret
        exact ⟨ret_bool (okBs_false hlt Hx.out (by omega)).symm, rfl⟩
      · by_cases h1 : 255 < x
        · go_wp2
          go_ret
          exact ⟨ret_bool (okBs_false hlt Hx.out (by omega)).symm, rfl⟩
        · have H1 := hrel.snoc Hx.out h0 h1
          go_wp2
          go_round
          case rel => exact ⟨k + 1, by omega, by go_num, H1⟩
          case measure => simp [intOf]; omega
    · go_wp2
      go_ret
      exact ⟨ret_bool (okBs_true fun i hi => hrel i (by omega)).symm, rfl⟩

theorem spec_l1Ok (v : Value) (xs : List Int) (w : World) (h : Ints w v xs) :
    Calls Try.prog 101 #[v] w fun e w' => e = .returned (.bool (okBs xs)) ∧ w = w' := by
  obtain ⟨a, cap, rfl, hl, hm, hc⟩ := h
  unfold maxLen at hm
  go_enter Try.func101, Try.ntmps101
  go_wp2
  go_loop [3] (fun i => ∃ k : Nat, k ≤ xs.length ∧ i = .int .i64 k ∧ FirstOk xs k) (fun i => xs.length - (intOf i).toNat)
  case atStart => exact ⟨0, Nat.zero_le _, rfl, fun i hi => by omega⟩
  case round =>
    obtain ⟨k, hk, rfl, hrel⟩ := hrel
    by_cases hlt : k < xs.length
    · obtain ⟨b, off, rfl, hcell⟩ := hc (by omega)
      have hx := hcell k hlt
      clear hcell
      obtain ⟨x, ex⟩ : ∃ x, xs.getD k 0 = x := ⟨_, rfl⟩
      rw [ex] at hx
      have Hx := Lib.hid ex
      clear ex
      by_cases h0 : x < 0
      · have d0 : decide (0 ≤ x) = false := decide_eq_false (by omega)
        go_wp2
        go_ret
        exact ⟨ret_bool (okBs_false hlt Hx.out (by omega)).symm, rfl⟩
      · have d0 : decide (0 ≤ x) = true := decide_eq_true (by omega)
        by_cases h1 : 255 < x
        · have d1 : decide (x ≤ 255) = false := decide_eq_false (by omega)
          go_wp2
          go_ret
          exact ⟨ret_bool (okBs_false hlt Hx.out (by omega)).symm, rfl⟩
        · have d1 : decide (x ≤ 255) = true := decide_eq_true (by omega)
          have H1 := hrel.snoc Hx.out h0 h1
          go_wp2
          go_round
          case rel => exact ⟨k + 1, by omega, by go_num, H1⟩
          case measure => simp [intOf]; omega
    · go_wp2
      go_ret
      exact ⟨ret_bool (okBs_true fun i hi => hrel i (by omega)).symm, rfl⟩
end Go.Proofs.Ytfapeppocfodpaa
