/- Chapter 1: what each function of the program and of the model answers. -/
import Derived.Test.YtomlejfilfdnbaaProg
import Derived.Test.YtomlejfilfdnbaaBase
import Derived.Test.YtomlejfilfdnbaaP1
namespace Go.Proofs.Ytomlejfilfdnbaa
open Go.ChangeShapes Go.WideShapes Go.ChangeAt Go.RowKit
set_option linter.unusedVariables false

theorem neg_half (n : Int) (h0 : 0 ≤ n) (h1 : n ≤ 9000000000000000000) : wrap64 (-(n + 1).tdiv 2) = -((n + 1) / 2) := by
  rw [Int.tdiv_eq_ediv_of_nonneg (by omega)]
  exact IntWalk.wrap64_in _ ⟨by omega, by omega⟩

theorem impl_FoldNumber (n : Int) (w : World) (hn : I64 n) :
    Calls Try.prog 78 #[.int .i64 n] w fun e w' => e = .returned (.int .i64 (foldN n)) ∧ w = w' := by
  obtain ⟨ha, hb⟩ := hn
  by_cases h1 : n < -1000000
  · have H := Lib.hid (foldN_lo h1)
    go_enter Try.func78, Try.ntmps78
    go_wp2
    go_ret
    exact ⟨ret_int (by have := H.out; omega), rfl⟩
  · by_cases h2 : 1000000 < n
    · have H := Lib.hid (foldN_hi h1 h2)
      have h3 : decide (n ≤ 1000000) = false := decide_eq_false (by omega)
      go_enter Try.func78, Try.ntmps78
      go_wp2
      go_ret
      exact ⟨ret_int (by have := H.out; omega), rfl⟩
    · have H := Lib.hid (foldN_in h1 h2)
      have h3 : decide (n ≤ 1000000) = true := decide_eq_true (by omega)
      by_cases h4 : n < 0
      · have H2 := Lib.hid (foldP_neg h4)
        go_enter Try.func78, Try.ntmps78
        go_wp2
        go_ret
        exact ⟨ret_int (by have := H.out; have := H2.out; omega), rfl⟩
      · have H2 := Lib.hid (foldP_pos h4)
        go_enter Try.func78, Try.ntmps78
        go_wp2
        go_ret
        exact ⟨ret_int (by have := H.out; have := H2.out; omega), rfl⟩

theorem spec_l1Fold (n : Int) (w : World) (h1 : -1000000 ≤ n) (h2 : n ≤ 1000000) :
    Calls Try.prog 65 #[.int .i64 n] w fun e w' => e = .returned (.int .i64 (foldP n)) ∧ w = w' := by
  by_cases h4 : n < 0
  · have H2 := Lib.hid (foldP_neg h4)
    go_enter Try.func65, Try.ntmps65
    go_wp2
    go_ret
    exact ⟨ret_int (by have := H2.out; omega), rfl⟩
  · have H2 := Lib.hid (foldP_pos h4)
    go_enter Try.func65, Try.ntmps65
    go_wp2
    go_ret
    exact ⟨ret_int (by have := H2.out; omega), rfl⟩

end Go.Proofs.Ytomlejfilfdnbaa
