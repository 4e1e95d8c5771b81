/- All numbers are bytes: the check of the program and that of the model. -/
import Derived.Test.YtppppgkcgocgaaaL0
namespace Go.Proofs.Ytppppgkcgocgaaa
open Go.ChangeShapes Go.WideShapes Go.ChangeAt Go.RowKit
set_option linter.unusedVariables false

/-- what a law's walk comes to -/
def Yes (w : World) (e : Ending) (w' : World) : Prop := e = .returned (.bool true) ∧ Below w.heap.size w w'
theorem beq_self (xs : List Int) : (xs == xs) = true := by simp
def FirstOk (xs : List Int) (k : Nat) : Prop := ∀ i, i < k → 0 ≤ xs.getD i 0 ∧ xs.getD i 0 ≤ 255
theorem FirstOk.snoc {xs : List Int} {k : Nat} {x : Int} (h : FirstOk xs k) (hx : xs.getD k 0 = x) (h0 : ¬ x < 0) (h1 : ¬ 255 < x) : FirstOk xs (k + 1) := fun i hi => by
  by_cases e : i = k
  · subst e; omega
  · exact h i (by omega)

theorem impl_areBytes (v : Value) (xs : List Int) (w : World) (h : Ints w v xs) :
    Calls Try.prog 39 #[v] w fun e w' => e = .returned (.bool (okBs xs)) ∧ w = w' := by
  obtain ⟨a, cap, rfl, hl, hm, hc⟩ := h
  unfold maxLen at hm
  go_enter Try.func39, Try.ntmps39
  go_wp2
  go_loop [7] (fun i => ∃ k : Nat, k ≤ xs.length ∧ i = .int .i64 k ∧ FirstOk xs k) (fun i => xs.length - (intOf i).toNat)
  case atStart => exact ⟨0, Nat.zero_le _, rfl, fun i hi => by omega⟩
  case round =>
    obtain ⟨k, hk, rfl, hrel⟩ := hrel
    by_cases hlt : k < xs.length
    · obtain ⟨b, off, rfl, hcell⟩ := hc (by omega)
      have hx := hcell k hlt
      clear hcell
      obtain ⟨x, ex⟩ : ∃ x, xs.getD k 0 = x := ⟨_, rfl⟩
      rw [ex] at hx
      have Hx := Lib.hid ex
      clear ex
      by_cases h0 : x < 0
      · go_wp2
        go_ret
        exact ⟨ret_bool (okBs_false hlt Hx.out (by omega)).symm, rfl⟩
      · by_cases h1 : 255 < x
        · go_wp2
          go_ret
          exact ⟨ret_bool (okBs_false hlt Hx.out (by omega)).symm, rfl⟩
        · have H1 := hrel.snoc Hx.out h0 h1
          go_wp2
          go_round
          case rel => exact ⟨k + 1, by omega, by go_num, H1⟩
          case measure => simp [intOf]; omega
    · go_wp2
      go_ret
      exact ⟨ret_bool (okBs_true fun i hi => hrel i (by omega)).symm, rfl⟩

theorem spec_l1Ok (v : Value) (xs : List Int) (w : World) (h : Ints w v xs) :
    Calls Try.prog 41 #[v] w fun e w' => e = .returned (.bool (okBs xs)) ∧ w = w' := by
  obtain ⟨a, cap, rfl, hl, hm, hc⟩ := h
  unfold maxLen at hm
  go_enter Try.func41, Try.ntmps41
  go_wp2
  go_loop [3] (fun i => ∃ k : Nat, k ≤ xs.length ∧ i = .int .i64 k ∧ FirstOk xs k) (fun i => xs.length - (intOf i).toNat)
  case atStart => exact ⟨0, Nat.zero_le _, rfl, fun i hi => by omega⟩
  case round =>
    obtain ⟨k, hk, rfl, hrel⟩ := hrel
    by_cases hlt : k < xs.length
    · obtain ⟨b, off, rfl, hcell⟩ := hc (by omega)
      have hx := hcell k hlt
      clear hcell
      obtain ⟨x, ex⟩ : ∃ x, xs.getD k 0 = x := ⟨_, rfl⟩
      rw [ex] at hx
      have Hx := Lib.hid ex
      clear ex
      by_cases h0 : x < 0
      · have d0 : decide (0 ≤ x) = false := decide_eq_false (by omega)
        go_wp2
        go_ret
        exact ⟨ret_bool (okBs_false hlt Hx.out (by omega)).symm, rfl⟩
      · have d0 : decide (0 ≤ x) = true := decide_eq_true (by omega)
        by_cases h1 : 255 < x
        · have d1 : decide (x ≤ 255) = false := decide_eq_false (by omega)
          go_wp2
          go_ret
          exact ⟨ret_bool (okBs_false hlt Hx.out (by omega)).symm, rfl⟩
        · have d1 : decide (x ≤ 255) = true := decide_eq_true (by omega)
          have H1 := hrel.snoc Hx.out h0 h1
          go_wp2
          go_round
          case rel => exact ⟨k + 1, by omega, by go_num, H1⟩
          case measure => simp [intOf]; omega
    · go_wp2
      go_ret
      exact ⟨ret_bool (okBs_true fun i hi => hrel i (by omega)).symm, rfl⟩
end Go.Proofs.Ytppppgkcgocgaaa
