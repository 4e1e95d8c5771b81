/- Chapter 2, plain functions on numbers and bytes. -/
import Derived.Test.YtomlejfilfdnbaaBase
import Derived.Laws.BytesArg
namespace Go.Proofs.Ytomlejfilfdnbaa
set_option linter.unusedVariables false

/-- the last j bytes of a number, the greatest part first -/
def sfx : Nat → Int → List Int
  | 0, _ => []
  | j + 1, n => (n / 256 ^ j % 256) :: sfx j n
theorem sfx_len (j : Nat) (n : Int) : (sfx j n).length = j := by
  induction j with
  | zero => rfl
  | succ j ih => simp [sfx, ih]
theorem pow_step (n : Int) (j : Nat) : n / 256 ^ j / 256 = n / 256 ^ (j + 1) := by
  rw [Int.ediv_ediv_of_nonneg (Int.pow_nonneg (by omega)), Int.pow_succ]
theorem sfx_set (m j : Nat) (n x : Int) (h : j < m) (hx : x = n / 256 ^ j % 256) :
    (List.replicate (m - j) 0 ++ sfx j n).set (m - 1 - j) x = List.replicate (m - (j + 1)) 0 ++ sfx (j + 1) n := by
  subst hx
  have e : m - j = (m - (j + 1)) + 1 := by omega
  have e2 : m - 1 - j = m - (j + 1) := by omega
  rw [e, e2, List.replicate_succ', List.append_assoc, List.set_append_right _ _ (by simp)]
  simp [sfx]
theorem sfx_ok (j : Nat) (n : Int) : okBs (sfx j n) = true := by
  induction j with
  | zero => rfl
  | succ j ih =>
    unfold okBs at ih ⊢
    simp only [sfx, List.all_cons, ih, Bool.and_true, Bool.and_eq_true, decide_eq_true_eq]
    omega

/-- the number of bytes, the greatest part first -/
def fromB (xs : List Int) : Int := xs.foldl (fun n b => 256 * n + b) 0
theorem fromB_snoc (xs : List Int) (x : Int) : fromB (xs ++ [x]) = 256 * fromB xs + x := by simp [fromB]
theorem fromB_sfx (m : Nat) (n : Int) (h0 : 0 ≤ n) (hm : m ≤ 3) (h1 : n < 256 ^ m) : fromB (sfx m n) = n := by
  match m, hm, h1 with
  | 0, _, h1 => simp [fromB, sfx]; omega
  | 1, _, h1 => simp [fromB, sfx]; omega
  | 2, _, h1 => simp [fromB, sfx]; omega
  | 3, _, h1 => simp [fromB, sfx]; omega
theorem fromB_bound (xs : List Int) (h : okBs xs = true) (hl : xs.length ≤ 3) : 0 ≤ fromB xs ∧ fromB xs < 256 ^ xs.length ∧ fromB xs ≤ 16777215 := by
  match xs, h, hl with
  | [], _, _ => simp [fromB]
  | [a], h, _ => simp [okBs] at h; simp [fromB]; omega
  | [a, b], h, _ => simp [okBs] at h; simp [fromB]; omega
  | [a, b, c], h, _ => simp [okBs] at h; simp [fromB]; omega
  | a :: b :: c :: d :: t, _, hl => simp at hl
theorem sfx_fromB (xs : List Int) (h : okBs xs = true) (hl : xs.length ≤ 3) : sfx xs.length (fromB xs) = xs := by
  match xs, h, hl with
  | [], _, _ => rfl
  | [a], h, _ => simp [okBs] at h; simp [fromB, sfx]; omega
  | [a, b], h, _ => simp [okBs] at h; simp [fromB, sfx]; omega
  | [a, b, c], h, _ => simp [okBs] at h; simp [fromB, sfx]; omega
  | a :: b :: c :: d :: t, _, hl => simp at hl

/-- the sum, from a state on -/
def sumF : Int → List Int → Int
  | s, [] => s
  | s, x :: xs => sumF ((257 * s + x) % 65521) xs
def sumB (xs : List Int) : Int := sumF 1 xs
theorem sumF_append (s : Int) (xs ys : List Int) : sumF s (xs ++ ys) = sumF (sumF s xs) ys := by
  induction xs generalizing s with
  | nil => rfl
  | cons x xs ih => exact ih _
theorem sumF_snoc (s : Int) (xs : List Int) (x : Int) : sumF s (xs ++ [x]) = (257 * sumF s xs + x) % 65521 := by rw [sumF_append]; rfl
theorem sumF_cons (s : Int) (xs : List Int) (x : Int) : sumF s (x :: xs) = sumF ((257 * s + x) % 65521) xs := rfl
theorem sumF_bound (s : Int) (xs : List Int) (h0 : 0 ≤ s) (h1 : s < 65521) : 0 ≤ sumF s xs ∧ sumF s xs < 65521 := by
  induction xs generalizing s with
  | nil => exact ⟨h0, h1⟩
  | cons x xs ih => rw [sumF_cons]; exact ih ((257 * s + x) % 65521) (by omega) (by omega)
theorem sumB_bound (xs : List Int) : 0 ≤ sumB xs ∧ sumB xs < 65521 := sumF_bound _ _ (by decide) (by decide)
theorem sumB_snoc (xs : List Int) (x : Int) : sumB (xs ++ [x]) = (257 * sumB xs + x) % 65521 := sumF_snoc _ _ _
theorem sumF_inj (xs : List Int) (s t : Int) (h0 : 0 ≤ s) (h1 : s < 65521) (h2 : 0 ≤ t) (h3 : t < 65521) (h : s ≠ t) : sumF s xs ≠ sumF t xs := by
  induction xs generalizing s t with
  | nil => exact h
  | cons x xs ih => rw [sumF_cons, sumF_cons]; exact ih ((257 * s + x) % 65521) ((257 * t + x) % 65521) (by omega) (by omega) (by omega) (by omega) (by omega)
theorem set_split (xs : List Int) (k : Nat) (h : k < xs.length) (y : Int) : xs.set k y = xs.take k ++ y :: xs.drop (k + 1) := by
  rw [List.set_eq_take_append_cons_drop, if_pos h]
theorem self_split (xs : List Int) (k : Nat) (h : k < xs.length) : xs = xs.take k ++ xs.getD k 0 :: xs.drop (k + 1) := by
  have e : xs.getD k 0 = xs[k] := by simp [List.getD, h]
  rw [e, ← List.drop_eq_getElem_cons h, List.take_append_drop]
theorem sumB_byte (xs : List Int) (k : Nat) (h : k < xs.length) (y : Int) (h0 : 0 ≤ y) (h1 : y ≤ 255) (g0 : 0 ≤ xs.getD k 0) (g1 : xs.getD k 0 ≤ 255) (hne : y ≠ xs.getD k 0) : sumB (xs.set k y) ≠ sumB xs := by
  have b := sumB_bound (xs.take k)
  rw [set_split xs k h]
  conv => rhs; rw [self_split xs k h]
  generalize xs.getD k 0 = x at *
  unfold sumB at b ⊢
  rw [sumF_append, sumF_append]
  generalize sumF 1 (xs.take k) = s at *
  rw [sumF_cons, sumF_cons]
  exact sumF_inj _ ((257 * s + y) % 65521) ((257 * s + x) % 65521) (by omega) (by omega) (by omega) (by omega) (by omega)
theorem sumB_swap (xs : List Int) (k : Nat) (h : k + 1 < xs.length) (x y : Int) (hx : xs.getD k 0 = x) (hy : xs.getD (k + 1) 0 = y) (x0 : 0 ≤ x) (x1 : x ≤ 255) (y0 : 0 ≤ y) (y1 : y ≤ 255) (hne : x ≠ y) :
    sumB ((xs.set k y).set (k + 1) x) ≠ sumB xs := by
  have b := sumB_bound (xs.take k)
  have e1 : (xs.set k y).set (k + 1) x = xs.take k ++ y :: x :: xs.drop (k + 1 + 1) := by
    rw [set_split xs k (by omega), List.set_append_right _ _ (by simp; omega)]
    have e : (xs.take k).length = k := by simp; omega
    rw [e, Nat.add_sub_cancel_left, List.set_cons_succ, List.drop_eq_getElem_cons h, List.set_cons_zero]
  have e2 : xs = xs.take k ++ x :: y :: xs.drop (k + 1 + 1) := by
    have g := self_split xs k (by omega)
    rw [hx] at g
    have g2 : xs.drop (k + 1) = y :: xs.drop (k + 1 + 1) := by
      rw [List.drop_eq_getElem_cons h]
      congr 1
      rw [← hy]; simp [List.getD, h]
    rw [← g2]; exact g
  rw [e1]
  conv => rhs; rw [e2]
  unfold sumB at b ⊢
  rw [sumF_append, sumF_append]
  generalize sumF 1 (xs.take k) = s at *
  exact sumF_inj (xs.drop (k + 1 + 1)) ((257 * ((257 * s + y) % 65521) + x) % 65521) ((257 * ((257 * s + x) % 65521) + y) % 65521) (by omega) (by omega) (by omega) (by omega) (by omega)

/-- a digit of base 16, as a byte -/
def hexD (n : Int) : Int := if n < 10 then 48 + n else 87 + n
def hex2 (b : Int) : List Int := [hexD (b / 16), hexD (b % 16)]
def hexB (xs : List Int) : List Int := xs.flatMap hex2
theorem hexB_snoc (xs : List Int) (x : Int) : hexB (xs ++ [x]) = hexB xs ++ hex2 x := by simp [hexB]
theorem hexB_len (xs : List Int) : (hexB xs).length = 2 * xs.length := by
  induction xs with
  | nil => rfl
  | cons x xs ih => simp only [hexB, List.flatMap_cons, List.length_append, List.length_cons] at ih ⊢; simp [hex2] at ih ⊢; omega
theorem hexB_append (xs ys : List Int) : hexB (xs ++ ys) = hexB xs ++ hexB ys := by simp [hexB]
def textB (xs : List Int) : List Int := if okBs xs = true then hexB xs else []
theorem textB_ok {xs : List Int} (h : okBs xs = true) : textB xs = hexB xs := if_pos h
theorem textB_no {xs : List Int} (h : okBs xs = false) : textB xs = [] := by unfold textB; rw [h]; rfl
end Go.Proofs.Ytomlejfilfdnbaa
