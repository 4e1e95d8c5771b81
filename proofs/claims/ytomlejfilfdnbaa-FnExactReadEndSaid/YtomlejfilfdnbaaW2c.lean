/- Chapter 2: sums of bytes. -/
import Derived.Test.YtomlejfilfdnbaaW2
namespace Go.Proofs.Ytomlejfilfdnbaa
open Go.ChangeShapes Go.WideShapes Go.ChangeAt Go.RowKit
set_option linter.unusedVariables false

def sumV (xs : List Int) : Int := if okBs xs = true then sumB xs else -1
theorem sumV_no {xs : List Int} (h : okBs xs = false) : sumV xs = -1 := by unfold sumV; rw [h]; rfl
theorem sumV_yes {xs : List Int} (h : okBs xs = true) : sumV xs = sumB xs := if_pos h

theorem impl_sum_with (s b : Int) (w : World) (h0 : 0 ≤ s) (h1 : s < 65521) (h2 : 0 ≤ b) (h3 : b ≤ 255) :
    Calls Try.prog 77 #[.int .i64 s, .int .i64 b] w fun e w' => e = .returned (.int .i64 ((257 * s + b) % 65521)) ∧ w = w' := by
  go_enter Try.func77, Try.ntmps77
  go_wp2
  go_ret
  exact ⟨ret_int (by rw [Int.mul_comm 257]), rfl⟩

theorem impl_sum_withAll (v : Value) (xs : List Int) (w : World) (h : Ints w v xs) (hb : okBs xs = true) :
    Calls Try.prog 72 #[.int .i64 1, v] w fun e w' => e = .returned (.int .i64 (sumB xs)) ∧ w = w' := by
  obtain ⟨a, cap, rfl, hl, hm, hc⟩ := h
  unfold maxLen at hm
  have Hc := Lib.hid hc
  have Hb := Lib.hid hb
  clear hc hb
  go_enter Try.func72, Try.ntmps72
  go_wp2
  go_loop [0, 9] (fun s i => ∃ k : Nat, k ≤ xs.length ∧ i = .int .i64 k ∧ s = .int .i64 (sumB (xs.take k))) (fun _ i => xs.length - (intOf i).toNat)
  case atStart => exact ⟨0, Nat.zero_le _, rfl, by simp [sumB, sumF]⟩
  case round =>
    obtain ⟨k, hk, rfl, rfl⟩ := hrel
    by_cases hlt : k < xs.length
    · obtain ⟨b, off, rfl, hcell⟩ := Hc.out (by omega)
      have hx := hcell k hlt
      have hxb := okBs_at Hb.out k hlt
      have hs := sumB_bound (xs.take k)
      clear hcell
      obtain ⟨x, ex⟩ : ∃ x, xs.getD k 0 = x := ⟨_, rfl⟩
      rw [ex] at hx hxb
      have hsn := sumB_snoc (xs.take k) x
      rw [← take_snoc0 xs k hlt x ex] at hsn
      obtain ⟨s, es⟩ : ∃ s, sumB (xs.take k) = s := ⟨_, rfl⟩
      rw [es] at hsn hs ⊢
      have C := Lib.hid (impl_sum_with s x w hs.1 hs.2 hxb.1 hxb.2)
      have Hsn := Lib.hid hsn
      clear hsn ex es hs
      go_wp2_with fail
      refine C.out.mono ?_
      rintro e w1 ⟨rfl, rfl⟩
      go_wp2_with fail
      go_round
      case rel => exact ⟨k + 1, by omega, by go_num, by rw [Hsn.out]⟩
      case measure => simp [intOf]; omega
    · obtain rfl : k = xs.length := by omega
      rw [List.take_length]
      go_wp2
      go_ret
      exact ⟨rfl, rfl⟩

theorem impl_SumOf (v : Value) (xs : List Int) (w : World) (h : Ints w v xs) :
    Calls Try.prog 62 #[v] w fun e w' => e = .returned (.int .i64 (sumV xs)) ∧ w = w' := by
  have C1 := Lib.hid (impl_areBytes v xs w h)
  cases hok : okBs xs with
  | false =>
    rw [sumV_no hok]
    rw [hok] at C1
    clear hok
    go_enter Try.func62, Try.ntmps62
    go_wp2_with fail
    refine C1.out.mono ?_
    rintro e w1 ⟨rfl, rfl⟩
    go_wp2_with fail
    go_ret
    exact ⟨rfl, rfl⟩
  | true =>
    have C2 := Lib.hid (impl_sum_withAll v xs w h hok)
    rw [sumV_yes hok]
    rw [hok] at C1
    clear hok
    go_enter Try.func62, Try.ntmps62
    go_wp2_with fail
    refine C1.out.mono ?_
    rintro e w1 ⟨rfl, rfl⟩
    go_wp2_with fail
    refine C2.out.mono ?_
    rintro e w1 ⟨rfl, rfl⟩
    go_wp2_with fail
    go_ret
    exact ⟨rfl, rfl⟩

theorem spec_l2Sum (v : Value) (xs : List Int) (w : World) (h : Ints w v xs) (hb : okBs xs = true) :
    Calls Try.prog 40 #[v] w fun e w' => e = .returned (.int .i64 (sumB xs)) ∧ w = w' := by
  obtain ⟨a, cap, rfl, hl, hm, hc⟩ := h
  unfold maxLen at hm
  have Hc := Lib.hid hc
  have Hb := Lib.hid hb
  clear hc hb
  go_enter Try.func40, Try.ntmps40
  go_wp2
  go_loop [3, 4] (fun s i => ∃ k : Nat, k ≤ xs.length ∧ i = .int .i64 k ∧ s = .int .i64 (sumB (xs.take k))) (fun _ i => xs.length - (intOf i).toNat)
  case atStart => exact ⟨0, Nat.zero_le _, rfl, by simp [sumB, sumF]⟩
  case round =>
    obtain ⟨k, hk, rfl, rfl⟩ := hrel
    by_cases hlt : k < xs.length
    · obtain ⟨b, off, rfl, hcell⟩ := Hc.out (by omega)
      have hx := hcell k hlt
      have hxb := okBs_at Hb.out k hlt
      have hs := sumB_bound (xs.take k)
      clear hcell
      obtain ⟨x, ex⟩ : ∃ x, xs.getD k 0 = x := ⟨_, rfl⟩
      rw [ex] at hx hxb
      have hsn := sumB_snoc (xs.take k) x
      rw [← take_snoc0 xs k hlt x ex] at hsn
      obtain ⟨s, es⟩ : ∃ s, sumB (xs.take k) = s := ⟨_, rfl⟩
      rw [es] at hsn hs ⊢
      have Hsn := Lib.hid hsn
      obtain ⟨s0, s1⟩ := hs
      obtain ⟨x0, x1⟩ := hxb
      clear hsn ex es
      go_wp2
      go_round
      case rel => exact ⟨k + 1, by omega, by go_num, by rw [Hsn.out]⟩
      case measure => simp [intOf]; omega
    · obtain rfl : k = xs.length := by omega
      rw [List.take_length]
      go_wp2
      go_ret
      exact ⟨rfl, rfl⟩

end Go.Proofs.Ytomlejfilfdnbaa
