/- Chapter 1, plain functions on numbers. -/
namespace Go.Proofs.Ytomlejfilfdnbaa
def foldP (n : Int) : Int := if n < 0 then -2 * n - 1 else 2 * n
def foldN (n : Int) : Int := if n < -1000000 then -1 else if 1000000 < n then -1 else foldP n
def unfoldP (m : Int) : Int := if m % 2 = 1 then -((m + 1) / 2) else m / 2
def unfoldN (m : Int) : Int := if m < 0 then 0 else if 2000000 < m then 0 else unfoldP m

theorem foldP_unfoldP (m : Int) (h : 0 ≤ m) : foldP (unfoldP m) = m := by
  unfold foldP unfoldP; split <;> split <;> omega
theorem unfoldP_foldP (n : Int) : unfoldP (foldP n) = n := by
  unfold foldP unfoldP; split <;> split <;> omega
theorem foldP_nonneg (n : Int) : 0 ≤ foldP n := by unfold foldP; split <;> omega
theorem foldP_neg {n : Int} (h : n < 0) : foldP n = -2 * n - 1 := if_pos h
theorem foldP_pos {n : Int} (h : ¬ n < 0) : foldP n = 2 * n := if_neg h
theorem foldN_lo {n : Int} (h : n < -1000000) : foldN n = -1 := if_pos h
theorem foldN_hi {n : Int} (h : ¬ n < -1000000) (h2 : 1000000 < n) : foldN n = -1 := by unfold foldN; rw [if_neg h, if_pos h2]
theorem foldN_in {n : Int} (h : ¬ n < -1000000) (h2 : ¬ 1000000 < n) : foldN n = foldP n := by unfold foldN; rw [if_neg h, if_neg h2]
theorem unfoldP_odd {m : Int} (h : m % 2 = 1) : unfoldP m = -((m + 1) / 2) := if_pos h
theorem unfoldP_even {m : Int} (h : ¬ m % 2 = 1) : unfoldP m = m / 2 := if_neg h
theorem unfoldN_lo {n : Int} (h : n < 0) : unfoldN n = 0 := if_pos h
theorem unfoldN_hi {n : Int} (h : ¬ n < 0) (h2 : 2000000 < n) : unfoldN n = 0 := by unfold unfoldN; rw [if_neg h, if_pos h2]
theorem unfoldN_in {n : Int} (h : ¬ n < 0) (h2 : ¬ 2000000 < n) : unfoldN n = unfoldP n := by unfold unfoldN; rw [if_neg h, if_neg h2]
theorem unfoldP_range {m : Int} (h : 0 ≤ m) (h2 : m ≤ 2000000) : -1000000 ≤ unfoldP m ∧ unfoldP m ≤ 1000000 := by
  unfold unfoldP; split <;> omega
theorem foldP_range {n : Int} (h : -1000000 ≤ n) (h2 : n ≤ 1000000) : 0 ≤ foldP n ∧ foldP n ≤ 2000000 := by
  unfold foldP; split <;> omega

/-- a folded number as bytes, at most k further ones -/
def varF : Nat → Int → List Int
  | 0, x => [x]
  | k + 1, x => if x < 128 then [x] else (128 + x % 128) :: varF k (x / 128)
def VR (x0 : Int) (pre : List Int) (y : Int) : Prop := ∃ k : Nat, pre.length + k = 2 ∧ 0 ≤ y ∧ y < 128 ^ (k + 1) ∧ pre ++ varF k y = varF 2 x0
theorem VR.start {x : Int} (h0 : 0 ≤ x) (h1 : x ≤ 2000000) : VR x [] x := ⟨2, rfl, h0, by omega, rfl⟩
theorem VR.bound {x0 y : Int} {pre : List Int} (h : VR x0 pre y) : 0 ≤ y ∧ y ≤ 2097151 ∧ pre.length ≤ 2 := by
  obtain ⟨k, hk, h0, h1, _⟩ := h
  refine ⟨h0, ?_, by omega⟩
  match k, hk, h1 with
  | 0, _, h1 => omega
  | 1, _, h1 => omega
  | 2, _, h1 => omega
  | k + 3, hk, _ => omega
theorem VR.step {x0 y : Int} {pre : List Int} (h : VR x0 pre y) (hy : 128 ≤ y) : VR x0 (pre ++ [128 + y % 128]) (y / 128) := by
  obtain ⟨k, hk, h0, h1, h2⟩ := h
  match k, hk, h1, h2 with
  | 0, _, h1, _ => omega
  | k + 1, hk, h1, h2 =>
    refine ⟨k, by simp; omega, by omega, ?_, ?_⟩
    · rw [Int.pow_succ] at h1
      omega
    · rw [← h2, varF, if_neg (by omega)]
      simp
theorem VR.stop {x0 y : Int} {pre : List Int} (h : VR x0 pre y) (hy : y < 128) : pre ++ [y] = varF 2 x0 := by
  obtain ⟨k, hk, h0, h1, h2⟩ := h
  rw [← h2]
  cases k with
  | zero => rfl
  | succ k => rw [varF, if_pos hy]
/-- the bytes of a number -/
def varB (n : Int) : List Int := if n < -1000000 then [] else if 1000000 < n then [] else varF 2 (foldP n)
def inV (n : Int) : Bool := decide (-1000000 ≤ n) && decide (n ≤ 1000000)
theorem varB_lo {n : Int} (h : n < -1000000) : varB n = [] := if_pos h
theorem varB_hi {n : Int} (h : ¬ n < -1000000) (h2 : 1000000 < n) : varB n = [] := by unfold varB; rw [if_neg h, if_pos h2]
theorem varB_in {n : Int} (h : ¬ n < -1000000) (h2 : ¬ 1000000 < n) : varB n = varF 2 (foldP n) := by unfold varB; rw [if_neg h, if_neg h2]
theorem varF_len (k : Nat) (x : Int) : (varF k x).length ≤ k + 1 ∧ 1 ≤ (varF k x).length := by
  induction k generalizing x with
  | zero => simp [varF]
  | succ k ih =>
    unfold varF
    split
    · simp
    · have := ih (x / 128)
      simp; omega
theorem varB_len (n : Int) : (varB n).length ≤ 3 := by
  unfold varB
  split
  · simp
  · split
    · simp
    · exact (varF_len 2 _).1

/-- the folded number at the beginning of bytes, and how many of them it has; (0, 0) if there is none -/
def joinV : List Int → Int × Int
  | [] => (0, 0)
  | a :: t => if a < 128 then (a, 1) else joinV1 a t
where
  joinV1 (a : Int) : List Int → Int × Int
  | [] => (0, 0)
  | b :: t => if b < 128 then (if b = 0 then (0, 0) else (a % 128 + b * 128, 2)) else joinV2 a b t
  joinV2 (a b : Int) : List Int → Int × Int
  | [] => (0, 0)
  | c :: _ => if c < 128 then (if c = 0 then (0, 0) else (a % 128 + b % 128 * 128 + c * 16384, 3)) else (0, 0)

theorem joinV_bound (ys : List Int) (h : ∀ i, i < ys.length → 0 ≤ ys.getD i 0 ∧ ys.getD i 0 ≤ 255) : 0 ≤ (joinV ys).1 ∧ (joinV ys).1 ≤ 2097151 ∧ 0 ≤ (joinV ys).2 ∧ (joinV ys).2 ≤ 3 ∧ (joinV ys).2 ≤ ys.length := by
  match ys, h with
  | [], _ => simp [joinV]
  | a :: t, h =>
    have h0 := h 0 (by simp)
    simp only [List.getD_cons_zero] at h0
    by_cases ha : a < 128
    · rw [show joinV (a :: t) = (a, 1) from by simp [joinV, ha]]
      simp only [List.length_cons]; omega
    · rw [show joinV (a :: t) = joinV.joinV1 a t from by simp [joinV, ha]]
      match t, h with
      | [], _ => simp [joinV.joinV1]
      | b :: t, h =>
        have h1 := h 1 (by simp)
        simp only [List.getD_cons_zero, List.getD_cons_succ] at h1
        by_cases hb : b < 128
        · by_cases hb0 : b = 0
          · rw [show joinV.joinV1 a (b :: t) = (0, 0) from by simp [joinV.joinV1, hb0]]
            simp; omega
          · rw [show joinV.joinV1 a (b :: t) = (a % 128 + b * 128, 2) from by simp [joinV.joinV1, hb, hb0]]
            simp only [List.length_cons]; omega
        · rw [show joinV.joinV1 a (b :: t) = joinV.joinV2 a b t from by simp [joinV.joinV1, hb]]
          match t, h with
          | [], _ => simp [joinV.joinV2]
          | c :: t, h =>
            have h2 := h 2 (by simp)
            simp only [List.getD_cons_zero, List.getD_cons_succ] at h2
            by_cases hc : c < 128
            · by_cases hc0 : c = 0
              · rw [show joinV.joinV2 a b (c :: t) = (0, 0) from by simp [joinV.joinV2, hc0]]
                simp; omega
              · rw [show joinV.joinV2 a b (c :: t) = (a % 128 + b % 128 * 128 + c * 16384, 3) from by simp [joinV.joinV2, hc, hc0]]
                simp only [List.length_cons]; omega
            · rw [show joinV.joinV2 a b (c :: t) = (0, 0) from by simp [joinV.joinV2, hc]]
              simp; omega

/-- what VarFrom answers, of a pair that joinV gives -/
def rdR (k : Int) (r : Int × Int) : Int × Int × Bool := if r.2 = 0 then (0, 0, false) else if 2000000 < r.1 then (0, 0, false) else (unfoldP r.1, k + r.2, true)
theorem rdR_no {k : Int} {r : Int × Int} (h : r.2 = 0) : rdR k r = (0, 0, false) := if_pos h
theorem rdR_big {k : Int} {r : Int × Int} (h : r.2 ≠ 0) (h1 : 2000000 < r.1) : rdR k r = (0, 0, false) := by unfold rdR; rw [if_neg h, if_pos h1]
theorem rdR_yes {k : Int} {r : Int × Int} (h : r.2 ≠ 0) (h1 : ¬ 2000000 < r.1) : rdR k r = (unfoldP r.1, k + r.2, true) := by unfold rdR; rw [if_neg h, if_neg h1]
end Go.Proofs.Ytomlejfilfdnbaa
