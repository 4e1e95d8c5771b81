/- Chapter 1: what each function of the program and of the model answers. -/
import Derived.Test.YtkkfnpcldogglaaProg
import Derived.Test.YtkkfnpcldogglaaBase
import Derived.Test.YtkkfnpcldogglaaP1
namespace Go.Proofs.Ytkkfnpcldogglaa
open Go.ChangeShapes Go.WideShapes Go.ChangeAt Go.RowKit
set_option linter.unusedVariables false

theorem neg_half (n : Int) (h0 : 0 ≤ n) (h1 : n ≤ 9000000000000000000) : wrap64 (-(n + 1).tdiv 2) = -((n + 1) / 2) := by
  rw [Int.tdiv_eq_ediv_of_nonneg (by omega)]
  exact IntWalk.wrap64_in _ ⟨by omega, by omega⟩

theorem impl_FoldNumber (n : Int) (w : World) (hn : I64 n) :
    Calls Try.prog 67 #[.int .i64 n] w fun e w' => e = .returned (.int .i64 (foldN n)) ∧ w = w' := by
  obtain ⟨ha, hb⟩ := hn
  by_cases h1 : n < -1000000
  · have H := Lib.hid (foldN_lo h1)
    go_enter Try.func67, Try.ntmps67
    go_wp2
    go_ret
    exact ⟨ret_int (by have := H.out; omega), rfl⟩
  · by_cases h2 : 1000000 < n
    · have H := Lib.hid (foldN_hi h1 h2)
      have h3 : decide (n ≤ 1000000) = false := decide_eq_false (by omega)
      go_enter Try.func67, Try.ntmps67
      go_wp2
      go_ret
      exact ⟨ret_int (by have := H.out; omega), rfl⟩
    · have H := Lib.hid (foldN_in h1 h2)
      have h3 : decide (n ≤ 1000000) = true := decide_eq_true (by omega)
      by_cases h4 : n < 0
      · have H2 := Lib.hid (foldP_neg h4)
        go_enter Try.func67, Try.ntmps67
        go_wp2
        go_ret
        exact ⟨ret_int (by have := H.out; have := H2.out; omega), rfl⟩
      · have H2 := Lib.hid (foldP_pos h4)
        go_enter Try.func67, Try.ntmps67
        go_wp2
        go_ret
        exact ⟨ret_int (by have := H.out; have := H2.out; omega), rfl⟩

theorem spec_l1Fold (n : Int) (w : World) (h1 : -1000000 ≤ n) (h2 : n ≤ 1000000) :
    Calls Try.prog 68 #[.int .i64 n] w fun e w' => e = .returned (.int .i64 (foldP n)) ∧ w = w' := by
  by_cases h4 : n < 0
  · have H2 := Lib.hid (foldP_neg h4)
    go_enter Try.func68, Try.ntmps68
    go_wp2
    go_ret
    exact ⟨ret_int (by have := H2.out; omega), rfl⟩
  · have H2 := Lib.hid (foldP_pos h4)
    go_enter Try.func68, Try.ntmps68
    go_wp2
    go_ret
    exact ⟨ret_int (by have := H2.out; omega), rfl⟩

theorem spec_l1Unfold (n : Int) (w : World) (h1 : 0 ≤ n) (h2 : n ≤ 100000000) :
    Calls Try.prog 69 #[.int .i64 n] w fun e w' => e = .returned (.int .i64 (unfoldP n)) ∧ w = w' := by
  by_cases h4 : n % 2 = 1
  · have H2 := Lib.hid (unfoldP_odd h4)
    have h5 : (n % 2 == 1) = true := by simp [h4]
    have H4 := Lib.hid h4
    clear h4
    go_enter Try.func69, Try.ntmps69
    go_wp2
    go_ret
    exact ⟨ret_int (by rw [H2.out]; exact neg_half n h1 (by omega)), rfl⟩
  · have H2 := Lib.hid (unfoldP_even h4)
    have h5 : (n % 2 == 1) = false := by simp [h4]
    go_enter Try.func69, Try.ntmps69
    go_wp2
    go_ret
    exact ⟨ret_int (by have := H2.out; omega), rfl⟩

theorem impl_UnfoldNumber (n : Int) (w : World) (hn : I64 n) :
    Calls Try.prog 52 #[.int .i64 n] w fun e w' => e = .returned (.int .i64 (unfoldN n)) ∧ w = w' := by
  obtain ⟨ha, hb⟩ := hn
  by_cases h1 : n < 0
  · have H := Lib.hid (unfoldN_lo h1)
    go_enter Try.func52, Try.ntmps52
    go_wp2
    go_ret
    exact ⟨ret_int (by have := H.out; omega), rfl⟩
  · by_cases h2 : 2000000 < n
    · have H := Lib.hid (unfoldN_hi h1 h2)
      have h3 : decide (n ≤ 2000000) = false := decide_eq_false (by omega)
      go_enter Try.func52, Try.ntmps52
      go_wp2
      go_ret
      exact ⟨ret_int (by have := H.out; omega), rfl⟩
    · have H := Lib.hid (unfoldN_in h1 h2)
      have h3 : decide (n ≤ 2000000) = true := decide_eq_true (by omega)
      have ha1 := and1 n (by omega) (by omega)
      by_cases h4 : n % 2 = 1
      · have H2 := Lib.hid (unfoldP_odd h4)
        have h5 : (bits .and .i64 n 1 == 1) = true := by rw [ha1]; simp [h4]
        have H4 := Lib.hid h4
        clear h4 ha1
        go_enter Try.func52, Try.ntmps52
        go_wp2
        go_ret
        exact ⟨ret_int (by have := H.out; have := H2.out; have := H4.out; omega), rfl⟩
      · have H2 := Lib.hid (unfoldP_even h4)
        have h5 : (bits .and .i64 n 1 == 1) = false := by rw [ha1]; simp [h4]
        have H4 := Lib.hid h4
        clear h4 ha1
        go_enter Try.func52, Try.ntmps52
        go_wp2
        go_ret
        exact ⟨ret_int (by have := H.out; have := H2.out; omega), rfl⟩

end Go.Proofs.Ytkkfnpcldogglaa
