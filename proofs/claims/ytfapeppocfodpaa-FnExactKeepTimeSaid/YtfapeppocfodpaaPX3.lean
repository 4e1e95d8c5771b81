/- Merged: P1 P1b P2 P3 P3b P4 P4b P4c P5. -/
import Derived.Test.YtfapeppocfodpaaBase
import Derived.Laws.BytesArg
import Derived.Test.YtfapeppocfodpaaA0
import Derived.Test.YtfapeppocfodpaaA1
namespace Go.Proofs.Ytfapeppocfodpaa
set_option linter.unusedVariables false
set_option maxRecDepth 100000

-- P1
def foldP (n : Int) : Int := if n < 0 then -2 * n - 1 else 2 * n
def foldN (n : Int) : Int := if n < -1000000 then -1 else if 1000000 < n then -1 else foldP n
def unfoldP (m : Int) : Int := if m % 2 = 1 then -((m + 1) / 2) else m / 2
def unfoldN (m : Int) : Int := if m < 0 then 0 else if 2000000 < m then 0 else unfoldP m

theorem foldP_unfoldP (m : Int) (h : 0 ≤ m) : foldP (unfoldP m) = m := by
  unfold foldP unfoldP; split <;> split <;> omega
theorem unfoldP_foldP (n : Int) : unfoldP (foldP n) = n := by
  unfold foldP unfoldP; split <;> split <;> omega
theorem foldP_nonneg (n : Int) : 0 ≤ foldP n := by unfold foldP; split <;> omega
theorem foldP_neg {n : Int} (h : n < 0) : foldP n = -2 * n - 1 := if_pos h
theorem foldP_pos {n : Int} (h : ¬ n < 0) : foldP n = 2 * n := if_neg h
theorem foldN_lo {n : Int} (h : n < -1000000) : foldN n = -1 := if_pos h
theorem foldN_hi {n : Int} (h : ¬ n < -1000000) (h2 : 1000000 < n) : foldN n = -1 := by unfold foldN; rw [if_neg h, if_pos h2]
theorem foldN_in {n : Int} (h : ¬ n < -1000000) (h2 : ¬ 1000000 < n) : foldN n = foldP n := by unfold foldN; rw [if_neg h, if_neg h2]
theorem unfoldP_odd {m : Int} (h : m % 2 = 1) : unfoldP m = -((m + 1) / 2) := if_pos h
theorem unfoldP_even {m : Int} (h : ¬ m % 2 = 1) : unfoldP m = m / 2 := if_neg h
theorem unfoldN_lo {n : Int} (h : n < 0) : unfoldN n = 0 := if_pos h
theorem unfoldN_hi {n : Int} (h : ¬ n < 0) (h2 : 2000000 < n) : unfoldN n = 0 := by unfold unfoldN; rw [if_neg h, if_pos h2]
theorem unfoldN_in {n : Int} (h : ¬ n < 0) (h2 : ¬ 2000000 < n) : unfoldN n = unfoldP n := by unfold unfoldN; rw [if_neg h, if_neg h2]
theorem unfoldP_range {m : Int} (h : 0 ≤ m) (h2 : m ≤ 2000000) : -1000000 ≤ unfoldP m ∧ unfoldP m ≤ 1000000 := by
  unfold unfoldP; split <;> omega
theorem foldP_range {n : Int} (h : -1000000 ≤ n) (h2 : n ≤ 1000000) : 0 ≤ foldP n ∧ foldP n ≤ 2000000 := by
  unfold foldP; split <;> omega

/-- a folded number as bytes, at most k further ones -/
def varF : Nat → Int → List Int
  | 0, x => [x]
  | k + 1, x => if x < 128 then [x] else (128 + x % 128) :: varF k (x / 128)
def VR (x0 : Int) (pre : List Int) (y : Int) : Prop := ∃ k : Nat, pre.length + k = 2 ∧ 0 ≤ y ∧ y < 128 ^ (k + 1) ∧ pre ++ varF k y = varF 2 x0
theorem VR.start {x : Int} (h0 : 0 ≤ x) (h1 : x ≤ 2000000) : VR x [] x := ⟨2, rfl, h0, by omega, rfl⟩
theorem VR.bound {x0 y : Int} {pre : List Int} (h : VR x0 pre y) : 0 ≤ y ∧ y ≤ 2097151 ∧ pre.length ≤ 2 := by
  obtain ⟨k, hk, h0, h1, _⟩ := h
  refine ⟨h0, ?_, by omega⟩
  match k, hk, h1 with
  | 0, _, h1 => omega
  | 1, _, h1 => omega
  | 2, _, h1 => omega
  | k + 3, hk, _ => omega
theorem VR.step {x0 y : Int} {pre : List Int} (h : VR x0 pre y) (hy : 128 ≤ y) : VR x0 (pre ++ [128 + y % 128]) (y / 128) := by
  obtain ⟨k, hk, h0, h1, h2⟩ := h
  match k, hk, h1, h2 with
  | 0, _, h1, _ => omega
  | k + 1, hk, h1, h2 =>
    refine ⟨k, by simp; omega, by omega, ?_, ?_⟩
    · rw [Int.pow_succ] at h1
      omega
    · rw [← h2, varF, if_neg (by omega)]
      simp
theorem VR.stop {x0 y : Int} {pre : List Int} (h : VR x0 pre y) (hy : y < 128) : pre ++ [y] = varF 2 x0 := by
  obtain ⟨k, hk, h0, h1, h2⟩ := h
  rw [← h2]
  cases k with
  | zero => rfl
  | succ k => rw [varF, if_pos hy]
/-- the bytes of a number -/
def varB (n : Int) : List Int := if n < -1000000 then [] else if 1000000 < n then [] else varF 2 (foldP n)
def inV (n : Int) : Bool := decide (-1000000 ≤ n) && decide (n ≤ 1000000)
theorem varB_lo {n : Int} (h : n < -1000000) : varB n = [] := if_pos h
theorem varB_hi {n : Int} (h : ¬ n < -1000000) (h2 : 1000000 < n) : varB n = [] := by unfold varB; rw [if_neg h, if_pos h2]
theorem varB_in {n : Int} (h : ¬ n < -1000000) (h2 : ¬ 1000000 < n) : varB n = varF 2 (foldP n) := by unfold varB; rw [if_neg h, if_neg h2]
theorem varF_len (k : Nat) (x : Int) : (varF k x).length ≤ k + 1 ∧ 1 ≤ (varF k x).length := by
  induction k generalizing x with
  | zero => simp [varF]
  | succ k ih =>
    unfold varF
    split
    · simp
    · have := ih (x / 128)
      simp; omega
theorem varB_len (n : Int) : (varB n).length ≤ 3 := by
  unfold varB
  split
  · simp
  · split
    · simp
    · exact (varF_len 2 _).1

/-- the folded number at the beginning of bytes, and how many of them it has; (0, 0) if there is none -/
def joinV : List Int → Int × Int
  | [] => (0, 0)
  | a :: t => if a < 128 then (a, 1) else joinV1 a t
where
  joinV1 (a : Int) : List Int → Int × Int
  | [] => (0, 0)
  | b :: t => if b < 128 then (if b = 0 then (0, 0) else (a % 128 + b * 128, 2)) else joinV2 a b t
  joinV2 (a b : Int) : List Int → Int × Int
  | [] => (0, 0)
  | c :: _ => if c < 128 then (if c = 0 then (0, 0) else (a % 128 + b % 128 * 128 + c * 16384, 3)) else (0, 0)

theorem joinV_bound (ys : List Int) (h : ∀ i, i < ys.length → 0 ≤ ys.getD i 0 ∧ ys.getD i 0 ≤ 255) : 0 ≤ (joinV ys).1 ∧ (joinV ys).1 ≤ 2097151 ∧ 0 ≤ (joinV ys).2 ∧ (joinV ys).2 ≤ 3 ∧ (joinV ys).2 ≤ ys.length := by
  match ys, h with
  | [], _ => simp [joinV]
  | a :: t, h =>
    have h0 := h 0 (by simp)
    simp only [List.getD_cons_zero] at h0
    by_cases ha : a < 128
    · rw [show joinV (a :: t) = (a, 1) from by simp [joinV, ha]]
      simp only [List.length_cons]; omega
    · rw [show joinV (a :: t) = joinV.joinV1 a t from by simp [joinV, ha]]
      match t, h with
      | [], _ => simp [joinV.joinV1]
      | b :: t, h =>
        have h1 := h 1 (by simp)
        simp only [List.getD_cons_zero, List.getD_cons_succ] at h1
        by_cases hb : b < 128
        · by_cases hb0 : b = 0
          · rw [show joinV.joinV1 a (b :: t) = (0, 0) from by simp [joinV.joinV1, hb0]]
            simp; omega
          · rw [show joinV.joinV1 a (b :: t) = (a % 128 + b * 128, 2) from by simp [joinV.joinV1, hb, hb0]]
            simp only [List.length_cons]; omega
        · rw [show joinV.joinV1 a (b :: t) = joinV.joinV2 a b t from by simp [joinV.joinV1, hb]]
          match t, h with
          | [], _ => simp [joinV.joinV2]
          | c :: t, h =>
            have h2 := h 2 (by simp)
            simp only [List.getD_cons_zero, List.getD_cons_succ] at h2
            by_cases hc : c < 128
            · by_cases hc0 : c = 0
              · rw [show joinV.joinV2 a b (c :: t) = (0, 0) from by simp [joinV.joinV2, hc0]]
                simp; omega
              · rw [show joinV.joinV2 a b (c :: t) = (a % 128 + b % 128 * 128 + c * 16384, 3) from by simp [joinV.joinV2, hc, hc0]]
                simp only [List.length_cons]; omega
            · rw [show joinV.joinV2 a b (c :: t) = (0, 0) from by simp [joinV.joinV2, hc]]
              simp; omega

/-- what VarFrom answers, of a pair that joinV gives -/
def rdR (k : Int) (r : Int × Int) : Int × Int × Bool := if r.2 = 0 then (0, 0, false) else if 2000000 < r.1 then (0, 0, false) else (unfoldP r.1, k + r.2, true)
theorem rdR_no {k : Int} {r : Int × Int} (h : r.2 = 0) : rdR k r = (0, 0, false) := if_pos h
theorem rdR_big {k : Int} {r : Int × Int} (h : r.2 ≠ 0) (h1 : 2000000 < r.1) : rdR k r = (0, 0, false) := by unfold rdR; rw [if_neg h, if_pos h1]
theorem rdR_yes {k : Int} {r : Int × Int} (h : r.2 ≠ 0) (h1 : ¬ 2000000 < r.1) : rdR k r = (unfoldP r.1, k + r.2, true) := by unfold rdR; rw [if_neg h, if_neg h1]
-- P1b

theorem varF_cases (x : Int) (h0 : 0 ≤ x) (h1 : x ≤ 2000000) :
    (x < 128 ∧ varF 2 x = [x]) ∨ (128 ≤ x ∧ x < 16384 ∧ varF 2 x = [128 + x % 128, x / 128]) ∨ (16384 ≤ x ∧ varF 2 x = [128 + x % 128, 128 + x / 128 % 128, x / 128 / 128]) := by
  by_cases a : x < 128
  · exact .inl ⟨a, by simp [varF, a]⟩
  · by_cases b : x / 128 < 128
    · exact .inr (.inl ⟨by omega, by omega, by simp [varF, a, b]⟩)
    · exact .inr (.inr ⟨by omega, by simp [varF, a, b]⟩)
theorem joinV_varF (x : Int) (h0 : 0 ≤ x) (h1 : x ≤ 2000000) : joinV (varF 2 x) = (x, ((varF 2 x).length : Int)) := by
  rcases varF_cases x h0 h1 with ⟨a, e⟩ | ⟨a, b, e⟩ | ⟨a, e⟩
  · rw [e]; simp [joinV, a]
  · rw [e]
    have n1 : ¬ (128 + x % 128 < 128) := by omega
    have n2 : x / 128 < 128 := by omega
    have n3 : ¬ x / 128 = 0 := by omega
    simp [joinV, joinV.joinV1, n1, n2, n3]; omega
  · rw [e]
    have n1 : ¬ (128 + x % 128 < 128) := by omega
    have n2 : ¬ (128 + x / 128 % 128 < 128) := by omega
    have n3 : x / 128 / 128 < 128 := by omega
    have n4 : ¬ x / 128 / 128 = 0 := by omega
    simp [joinV, joinV.joinV1, joinV.joinV2, n1, n2, n3, n4]; omega
theorem varF_ok (x : Int) (h0 : 0 ≤ x) (h1 : x ≤ 2000000) : okBs (varF 2 x) = true := by
  rcases varF_cases x h0 h1 with ⟨a, e⟩ | ⟨a, b, e⟩ | ⟨a, e⟩
  · rw [e]; simp [okBs]; omega
  · rw [e]; simp [okBs]; omega
  · rw [e]; simp [okBs]; omega
theorem varF_shape (x : Int) (h0 : 0 ≤ x) (h1 : x ≤ 2000000) (i : Nat) (hi : i < (varF 2 x).length) : decide (128 ≤ (varF 2 x).getD i 0) = decide (i + 1 < (varF 2 x).length) := by
  rcases varF_cases x h0 h1 with ⟨a, e⟩ | ⟨a, b, e⟩ | ⟨a, e⟩
  · rw [e] at hi ⊢
    match i, hi with
    | 0, _ => simp; omega
  · rw [e] at hi ⊢
    match i, hi with
    | 0, _ => simp; omega
    | 1, _ => simp; omega
  · rw [e] at hi ⊢
    match i, hi with
    | 0, _ => simp; omega
    | 1, _ => simp; omega
    | 2, _ => simp; omega
theorem joinV_inv (ys : List Int) (h : ∀ i, i < ys.length → 0 ≤ ys.getD i 0 ∧ ys.getD i 0 ≤ 255) (h2 : (joinV ys).2 ≠ 0) (h1 : (joinV ys).1 ≤ 2000000) :
    ∃ m : Nat, (joinV ys).2 = (m : Int) ∧ 1 ≤ m ∧ m ≤ ys.length ∧ varF 2 (joinV ys).1 = ys.take m ∧ (joinV (ys.take (m - 1))).2 = 0 := by
  match ys, h, h2, h1 with
  | [], _, h2, _ => exact absurd rfl h2
  | a :: t, h, h2, h1 =>
    have r0 := h 0 (by simp)
    simp only [List.getD_cons_zero] at r0
    by_cases ha : a < 128
    · rw [show joinV (a :: t) = (a, 1) from by simp [joinV, ha]]
      refine ⟨1, rfl, Nat.le_refl _, by simp, ?_, rfl⟩
      show varF 2 a = _
      rw [varF, if_pos ha]; rfl
    · have e0 : joinV (a :: t) = joinV.joinV1 a t := by simp [joinV, ha]
      rw [e0] at h2 h1 ⊢
      match t, h, h2, h1 with
      | [], _, h2, _ => exact absurd rfl h2
      | b :: t, h, h2, h1 =>
        have r1 := h 1 (by simp)
        simp only [List.getD_cons_zero, List.getD_cons_succ] at r1
        by_cases hb : b < 128
        · by_cases hb0 : b = 0
          · rw [show joinV.joinV1 a (b :: t) = (0, 0) from by simp [joinV.joinV1, hb0]] at h2
            exact absurd rfl h2
          · rw [show joinV.joinV1 a (b :: t) = (a % 128 + b * 128, 2) from by simp [joinV.joinV1, hb, hb0]]
            refine ⟨2, rfl, by omega, by simp, ?_, by simp [joinV, ha, joinV.joinV1]⟩
            show varF 2 (a % 128 + b * 128) = [a, b]
            have x1 : (a % 128 + b * 128) / 128 = b := by omega
            rw [varF, if_neg (by omega), x1, varF, if_pos hb]
            congr 1
            omega
        · have e1 : joinV.joinV1 a (b :: t) = joinV.joinV2 a b t := by simp [joinV.joinV1, hb]
          rw [e1] at h2 h1 ⊢
          match t, h, h2, h1 with
          | [], _, h2, _ => exact absurd rfl h2
          | c :: t, h, h2, h1 =>
            have r2 := h 2 (by simp)
            simp only [List.getD_cons_zero, List.getD_cons_succ] at r2
            by_cases hc : c < 128
            · by_cases hc0 : c = 0
              · rw [show joinV.joinV2 a b (c :: t) = (0, 0) from by simp [joinV.joinV2, hc0]] at h2
                exact absurd rfl h2
              · rw [show joinV.joinV2 a b (c :: t) = (a % 128 + b % 128 * 128 + c * 16384, 3) from by simp [joinV.joinV2, hc, hc0]]
                refine ⟨3, rfl, by omega, by simp, ?_, by simp [joinV, ha, joinV.joinV1, hb, joinV.joinV2]⟩
                show varF 2 (a % 128 + b % 128 * 128 + c * 16384) = [a, b, c]
                have x1 : (a % 128 + b % 128 * 128 + c * 16384) / 128 = b % 128 + c * 128 := by omega
                have x2 : (b % 128 + c * 128) / 128 = c := by omega
                rw [varF, if_neg (by omega), x1, varF, if_neg (by omega), x2, varF]
                congr 1
                · omega
                · congr 1
                  omega
            · rw [show joinV.joinV2 a b (c :: t) = (0, 0) from by simp [joinV.joinV2, hc]] at h2
              exact absurd rfl h2

theorem joinV_app (x : Int) (h0 : 0 ≤ x) (h1 : x ≤ 2000000) (rest : List Int) : joinV (varF 2 x ++ rest) = (x, ((varF 2 x).length : Int)) := by
  rcases varF_cases x h0 h1 with ⟨a, e⟩ | ⟨a, b, e⟩ | ⟨a, e⟩
  · rw [e]; simp [joinV, a]
  · rw [e]
    have n1 : ¬ (128 + x % 128 < 128) := by omega
    have n2 : x / 128 < 128 := by omega
    have n3 : ¬ x / 128 = 0 := by omega
    simp [joinV, joinV.joinV1, n1, n2, n3]; omega
  · rw [e]
    have n1 : ¬ (128 + x % 128 < 128) := by omega
    have n2 : ¬ (128 + x / 128 % 128 < 128) := by omega
    have n3 : x / 128 / 128 < 128 := by omega
    have n4 : ¬ x / 128 / 128 = 0 := by omega
    simp [joinV, joinV.joinV1, joinV.joinV2, n1, n2, n3, n4]; omega
theorem varB_pos {n : Int} (h0 : -1000000 ≤ n) (h1 : n ≤ 1000000) : 1 ≤ (varB n).length := by
  rw [varB_in (by omega) (by omega)]; exact (varF_len 2 _).2
theorem varB_ok {n : Int} (h0 : -1000000 ≤ n) (h1 : n ≤ 1000000) : okBs (varB n) = true := by
  rw [varB_in (by omega) (by omega)]
  have hf := foldP_range h0 h1
  exact varF_ok _ hf.1 hf.2

/-- the number at a place, the place behind it, and whether there is one -/
def rdVar (xs : List Int) (k : Nat) : Int × Int × Bool := rdR k (joinV (xs.drop k))
theorem rdVar_app {xs rest : List Int} {k : Nat} {n : Int} (h0 : -1000000 ≤ n) (h1 : n ≤ 1000000) (h : xs.drop k = varB n ++ rest) : rdVar xs k = (n, ((k + (varB n).length : Nat) : Int), true) := by
  have hf := foldP_range h0 h1
  have hl := varB_pos h0 h1
  unfold rdVar
  rw [varB_in (by omega) (by omega)] at h hl ⊢
  rw [h, joinV_app _ hf.1 hf.2]
  rw [rdR_yes (by show ¬ ((varF 2 (foldP n)).length : Int) = 0; omega) (by show ¬ 2000000 < foldP n; omega)]
  simp [unfoldP_foldP]
theorem rdVar_yes {xs : List Int} (hok : okBs xs = true) {k : Nat} {n nx : Int} (h : rdVar xs k = (n, nx, true)) :
    -1000000 ≤ n ∧ n ≤ 1000000 ∧ nx = ((k + (varB n).length : Nat) : Int) ∧ xs.drop k = varB n ++ xs.drop (k + (varB n).length) ∧ k + (varB n).length ≤ xs.length := by
  unfold rdVar at h
  have hB : ∀ i, i < (xs.drop k).length → 0 ≤ (xs.drop k).getD i 0 ∧ (xs.drop k).getD i 0 ≤ 255 := by
    refine okBs_at ?_
    unfold okBs at hok ⊢
    rw [List.all_eq_true] at hok ⊢
    exact fun x hx => hok x (List.mem_of_mem_drop hx)
  have hb := joinV_bound _ hB
  by_cases hz : (joinV (xs.drop k)).2 = 0
  · rw [rdR_no hz] at h; simp at h
  · by_cases hbig : 2000000 < (joinV (xs.drop k)).1
    · rw [rdR_big hz hbig] at h; simp at h
    · rw [rdR_yes hz hbig] at h
      simp only [Prod.mk.injEq, and_true] at h
      obtain ⟨h1, h2⟩ := h
      obtain ⟨m, hm, m1, m2, m3, m4⟩ := joinV_inv _ hB hz (by omega)
      have hr := unfoldP_range (m := (joinV (xs.drop k)).1) (by omega) (by omega)
      have hf := foldP_unfoldP (joinV (xs.drop k)).1 (by omega)
      rw [h1] at hr hf
      have hv : varB n = (xs.drop k).take m := by rw [varB_in (by omega) (by omega), hf, m3]
      have hl : (varB n).length = m := by rw [hv, List.length_take]; omega
      rw [List.length_drop] at m2
      refine ⟨hr.1, hr.2, by rw [← h2, hm, hl]; simp, ?_, by omega⟩
      rw [hl, hv, ← List.drop_drop, List.take_append_drop]
theorem rdVar_no {xs : List Int} {k : Nat} (h : (rdVar xs k).2.2 = false) : rdVar xs k = (0, 0, false) := by
  unfold rdVar at h ⊢
  by_cases hz : (joinV (xs.drop k)).2 = 0
  · exact rdR_no hz
  · by_cases hbig : 2000000 < (joinV (xs.drop k)).1
    · exact rdR_big hz hbig
    · rw [rdR_yes hz hbig] at h; simp at h
-- P2

/-- the last j bytes of a number, the greatest part first -/
def sfx : Nat → Int → List Int
  | 0, _ => []
  | j + 1, n => (n / 256 ^ j % 256) :: sfx j n
theorem sfx_len (j : Nat) (n : Int) : (sfx j n).length = j := by
  induction j with
  | zero => rfl
  | succ j ih => simp [sfx, ih]
theorem pow_step (n : Int) (j : Nat) : n / 256 ^ j / 256 = n / 256 ^ (j + 1) := by
  rw [Int.ediv_ediv_of_nonneg (Int.pow_nonneg (by omega)), Int.pow_succ]
theorem sfx_set (m j : Nat) (n x : Int) (h : j < m) (hx : x = n / 256 ^ j % 256) :
    (List.replicate (m - j) 0 ++ sfx j n).set (m - 1 - j) x = List.replicate (m - (j + 1)) 0 ++ sfx (j + 1) n := by
  subst hx
  have e : m - j = (m - (j + 1)) + 1 := by omega
  have e2 : m - 1 - j = m - (j + 1) := by omega
  rw [e, e2, List.replicate_succ', List.append_assoc, List.set_append_right _ _ (by simp)]
  simp [sfx]
theorem sfx_ok (j : Nat) (n : Int) : okBs (sfx j n) = true := by
  induction j with
  | zero => rfl
  | succ j ih =>
    unfold okBs at ih ⊢
    simp only [sfx, List.all_cons, ih, Bool.and_true, Bool.and_eq_true, decide_eq_true_eq]
    omega

/-- the number of bytes, the greatest part first -/
def fromB (xs : List Int) : Int := xs.foldl (fun n b => 256 * n + b) 0
theorem fromB_snoc (xs : List Int) (x : Int) : fromB (xs ++ [x]) = 256 * fromB xs + x := by simp [fromB]
theorem fromB_sfx (m : Nat) (n : Int) (h0 : 0 ≤ n) (hm : m ≤ 3) (h1 : n < 256 ^ m) : fromB (sfx m n) = n := by
  match m, hm, h1 with
  | 0, _, h1 => simp [fromB, sfx]; omega
  | 1, _, h1 => simp [fromB, sfx]; omega
  | 2, _, h1 => simp [fromB, sfx]; omega
  | 3, _, h1 => simp [fromB, sfx]; omega
theorem fromB_bound (xs : List Int) (h : okBs xs = true) (hl : xs.length ≤ 3) : 0 ≤ fromB xs ∧ fromB xs < 256 ^ xs.length ∧ fromB xs ≤ 16777215 := by
  match xs, h, hl with
  | [], _, _ => simp [fromB]
  | [a], h, _ => simp [okBs] at h; simp [fromB]; omega
  | [a, b], h, _ => simp [okBs] at h; simp [fromB]; omega
  | [a, b, c], h, _ => simp [okBs] at h; simp [fromB]; omega
  | a :: b :: c :: d :: t, _, hl => simp at hl
theorem sfx_fromB (xs : List Int) (h : okBs xs = true) (hl : xs.length ≤ 3) : sfx xs.length (fromB xs) = xs := by
  match xs, h, hl with
  | [], _, _ => rfl
  | [a], h, _ => simp [okBs] at h; simp [fromB, sfx]; omega
  | [a, b], h, _ => simp [okBs] at h; simp [fromB, sfx]; omega
  | [a, b, c], h, _ => simp [okBs] at h; simp [fromB, sfx]; omega
  | a :: b :: c :: d :: t, _, hl => simp at hl

/-- the sum, from a state on -/
def sumF : Int → List Int → Int
  | s, [] => s
  | s, x :: xs => sumF ((257 * s + x) % 65521) xs
def sumB (xs : List Int) : Int := sumF 1 xs
theorem sumF_append (s : Int) (xs ys : List Int) : sumF s (xs ++ ys) = sumF (sumF s xs) ys := by
  induction xs generalizing s with
  | nil => rfl
  | cons x xs ih => exact ih _
theorem sumF_snoc (s : Int) (xs : List Int) (x : Int) : sumF s (xs ++ [x]) = (257 * sumF s xs + x) % 65521 := by rw [sumF_append]; rfl
theorem sumF_cons (s : Int) (xs : List Int) (x : Int) : sumF s (x :: xs) = sumF ((257 * s + x) % 65521) xs := rfl
theorem sumF_bound (s : Int) (xs : List Int) (h0 : 0 ≤ s) (h1 : s < 65521) : 0 ≤ sumF s xs ∧ sumF s xs < 65521 := by
  induction xs generalizing s with
  | nil => exact ⟨h0, h1⟩
  | cons x xs ih => rw [sumF_cons]; exact ih ((257 * s + x) % 65521) (by omega) (by omega)
theorem sumB_bound (xs : List Int) : 0 ≤ sumB xs ∧ sumB xs < 65521 := sumF_bound _ _ (by decide) (by decide)
theorem sumB_snoc (xs : List Int) (x : Int) : sumB (xs ++ [x]) = (257 * sumB xs + x) % 65521 := sumF_snoc _ _ _
theorem sumF_inj (xs : List Int) (s t : Int) (h0 : 0 ≤ s) (h1 : s < 65521) (h2 : 0 ≤ t) (h3 : t < 65521) (h : s ≠ t) : sumF s xs ≠ sumF t xs := by
  induction xs generalizing s t with
  | nil => exact h
  | cons x xs ih => rw [sumF_cons, sumF_cons]; exact ih ((257 * s + x) % 65521) ((257 * t + x) % 65521) (by omega) (by omega) (by omega) (by omega) (by omega)
theorem set_split (xs : List Int) (k : Nat) (h : k < xs.length) (y : Int) : xs.set k y = xs.take k ++ y :: xs.drop (k + 1) := by
  rw [List.set_eq_take_append_cons_drop, if_pos h]
theorem self_split (xs : List Int) (k : Nat) (h : k < xs.length) : xs = xs.take k ++ xs.getD k 0 :: xs.drop (k + 1) := by
  have e : xs.getD k 0 = xs[k] := by simp [List.getD, h]
  rw [e, ← List.drop_eq_getElem_cons h, List.take_append_drop]
theorem sumB_byte (xs : List Int) (k : Nat) (h : k < xs.length) (y : Int) (h0 : 0 ≤ y) (h1 : y ≤ 255) (g0 : 0 ≤ xs.getD k 0) (g1 : xs.getD k 0 ≤ 255) (hne : y ≠ xs.getD k 0) : sumB (xs.set k y) ≠ sumB xs := by
  have b := sumB_bound (xs.take k)
  rw [set_split xs k h]
  conv => rhs; rw [self_split xs k h]
  generalize xs.getD k 0 = x at *
  unfold sumB at b ⊢
  rw [sumF_append, sumF_append]
  generalize sumF 1 (xs.take k) = s at *
  rw [sumF_cons, sumF_cons]
  exact sumF_inj _ ((257 * s + y) % 65521) ((257 * s + x) % 65521) (by omega) (by omega) (by omega) (by omega) (by omega)
theorem sumB_swap (xs : List Int) (k : Nat) (h : k + 1 < xs.length) (x y : Int) (hx : xs.getD k 0 = x) (hy : xs.getD (k + 1) 0 = y) (x0 : 0 ≤ x) (x1 : x ≤ 255) (y0 : 0 ≤ y) (y1 : y ≤ 255) (hne : x ≠ y) :
    sumB ((xs.set k y).set (k + 1) x) ≠ sumB xs := by
  have b := sumB_bound (xs.take k)
  have e1 : (xs.set k y).set (k + 1) x = xs.take k ++ y :: x :: xs.drop (k + 1 + 1) := by
    rw [set_split xs k (by omega), List.set_append_right _ _ (by simp; omega)]
    have e : (xs.take k).length = k := by simp; omega
    rw [e, Nat.add_sub_cancel_left, List.set_cons_succ, List.drop_eq_getElem_cons h, List.set_cons_zero]
  have e2 : xs = xs.take k ++ x :: y :: xs.drop (k + 1 + 1) := by
    have g := self_split xs k (by omega)
    rw [hx] at g
    have g2 : xs.drop (k + 1) = y :: xs.drop (k + 1 + 1) := by
      rw [List.drop_eq_getElem_cons h]
      congr 1
      rw [← hy]; simp [List.getD, h]
    rw [← g2]; exact g
  rw [e1]
  conv => rhs; rw [e2]
  unfold sumB at b ⊢
  rw [sumF_append, sumF_append]
  generalize sumF 1 (xs.take k) = s at *
  exact sumF_inj (xs.drop (k + 1 + 1)) ((257 * ((257 * s + y) % 65521) + x) % 65521) ((257 * ((257 * s + x) % 65521) + y) % 65521) (by omega) (by omega) (by omega) (by omega) (by omega)

/-- a digit of base 16, as a byte -/
def hexD (n : Int) : Int := if n < 10 then 48 + n else 87 + n
def hex2 (b : Int) : List Int := [hexD (b / 16), hexD (b % 16)]
def hexB (xs : List Int) : List Int := xs.flatMap hex2
theorem hexB_snoc (xs : List Int) (x : Int) : hexB (xs ++ [x]) = hexB xs ++ hex2 x := by simp [hexB]
theorem hexB_len (xs : List Int) : (hexB xs).length = 2 * xs.length := by
  induction xs with
  | nil => rfl
  | cons x xs ih => simp only [hexB, List.flatMap_cons, List.length_append, List.length_cons] at ih ⊢; simp [hex2] at ih ⊢; omega
theorem hexB_append (xs ys : List Int) : hexB (xs ++ ys) = hexB xs ++ hexB ys := by simp [hexB]
def textB (xs : List Int) : List Int := if okBs xs = true then hexB xs else []
theorem textB_ok {xs : List Int} (h : okBs xs = true) : textB xs = hexB xs := if_pos h
theorem textB_no {xs : List Int} (h : okBs xs = false) : textB xs = [] := by unfold textB; rw [h]; rfl
-- P3

/-- a record -/
structure Rec where
  off : Int
  time : Int
  hk : Bool
  key : List Int
  hv : Bool
  val : List Int

def partOk (has : Bool) (xs : List Int) : Bool := (has || decide (xs.length = 0)) && okBs xs && decide (xs.length ≤ 12)
def recOk (r : Rec) : Bool := inR r.off 0 99999 && inR r.time 0 99999 && partOk r.hk r.key && partOk r.hv r.val
def baseOk (o t : Int) : Bool := inR o 0 99999 && inR t 0 99999
/-- the bytes of a part -/
def putP (has : Bool) (xs : List Int) : List Int := if has = true then varB xs.length ++ xs else varB (-1)
def recBody (r : Rec) (o t : Int) : List Int := varB (r.time - t) ++ varB (r.off - o) ++ putP r.hk r.key ++ putP r.hv r.val
def recBytes (r : Rec) (o t : Int) : List Int := varB (recBody r o t).length ++ recBody r o t

theorem inR_iff {n lo hi : Int} : inR n lo hi = true ↔ lo ≤ n ∧ n ≤ hi := by unfold inR; simp
theorem partOk_iff {has : Bool} {xs : List Int} : partOk has xs = true ↔ (has = false → xs = []) ∧ okBs xs = true ∧ xs.length ≤ 12 := by
  unfold partOk
  cases has <;> simp [and_assoc]
theorem recOk_iff {r : Rec} : recOk r = true ↔ (0 ≤ r.off ∧ r.off ≤ 99999) ∧ (0 ≤ r.time ∧ r.time ≤ 99999) ∧ partOk r.hk r.key = true ∧ partOk r.hv r.val = true := by
  unfold recOk
  simp only [Bool.and_eq_true, inR_iff, and_assoc]
theorem baseOk_iff {o t : Int} : baseOk o t = true ↔ (0 ≤ o ∧ o ≤ 99999) ∧ (0 ≤ t ∧ t ≤ 99999) := by
  unfold baseOk
  simp only [Bool.and_eq_true, inR_iff]
theorem putP_len {has : Bool} {xs : List Int} (h : xs.length ≤ 12) : 1 ≤ (putP has xs).length ∧ (putP has xs).length ≤ 15 := by
  unfold putP
  split
  · have := varB_len (xs.length : Int)
    have h1 : 1 ≤ (varB (xs.length : Int)).length := by rw [varB_in (by omega) (by omega)]; exact (varF_len 2 _).2
    rw [List.length_append]
    omega
  · have := varB_len (-1)
    have h1 : 1 ≤ (varB (-1)).length := by rw [varB_in (by omega) (by omega)]; exact (varF_len 2 _).2
    omega
theorem recBody_len {r : Rec} {o t : Int} (h : recOk r = true) : (recBody r o t).length ≤ 36 := by
  obtain ⟨_, _, hk, hv⟩ := recOk_iff.1 h
  have h1 := varB_len (r.time - t)
  have h2 := varB_len (r.off - o)
  have h3 := putP_len (has := r.hk) (partOk_iff.1 hk).2.2
  have h4 := putP_len (has := r.hv) (partOk_iff.1 hv).2.2
  unfold recBody
  simp only [List.length_append]
  omega
-- P3b

/-- the part at a place, the place behind it, and whether there is one -/
def getP (xs : List Int) (c : Nat) : Bool × List Int × Int × Bool :=
  let g := rdVar xs c
  if g.2.2 = false then (false, [], 0, false)
  else if g.1 < -1 then (false, [], 0, false)
  else if 12 < g.1 then (false, [], 0, false)
  else if (xs.length : Int) < g.2.1 + max g.1 0 then (false, [], 0, false)
  else if g.1 < 0 then (false, [], g.2.1, true)
  else (true, (xs.drop g.2.1.toNat).take g.1.toNat, g.2.1 + g.1, true)

theorem getP_app {xs rest ys : List Int} {c : Nat} {has : Bool} (hp : partOk has ys = true) (h : xs.drop c = putP has ys ++ rest) : getP xs c = (has, ys, ((c + (putP has ys).length : Nat) : Int), true) := by
  obtain ⟨h1, h2, h3⟩ := partOk_iff.1 hp
  have hlen : (xs.drop c).length = (putP has ys).length + rest.length := by rw [h, List.length_append]
  rw [List.length_drop] at hlen
  have hl1 := putP_len (has := has) h3
  cases has with
  | false =>
    have hy := h1 rfl
    subst hy
    have hg := rdVar_app (n := -1) (by omega) (by omega) (show xs.drop c = varB (-1) ++ rest from h)
    have e : (putP false []) = varB (-1) := rfl
    unfold getP
    rw [hg]
    simp only [e]
    rw [e] at hlen hl1
    rw [if_neg (by simp), if_neg (by omega), if_neg (by omega), if_neg (by omega), if_pos (by omega)]
  | true =>
    have h' : xs.drop c = varB (ys.length : Int) ++ (ys ++ rest) := by rw [h]; simp [putP]
    have hg := rdVar_app (n := (ys.length : Int)) (by omega) (by omega) h'
    have e : (putP true ys).length = (varB (ys.length : Int)).length + ys.length := by simp [putP]
    unfold getP
    rw [hg]
    simp only [e]
    rw [e] at hlen hl1
    rw [if_neg (by simp), if_neg (by omega), if_neg (by omega), if_neg (by omega), if_neg (by omega)]
    have hd : (xs.drop (c + (varB (ys.length : Int)).length)) = ys ++ rest := by
      rw [← List.drop_drop, h', List.drop_left]
    rw [Int.toNat_natCast, Int.toNat_natCast, hd, List.take_left]
    simp; omega

theorem getP_yes {xs : List Int} (hok : okBs xs = true) {c : Nat} {has : Bool} {ys : List Int} {d : Int} (h : getP xs c = (has, ys, d, true)) :
    partOk has ys = true ∧ xs.drop c = putP has ys ++ xs.drop (c + (putP has ys).length) ∧ d = ((c + (putP has ys).length : Nat) : Int) ∧ c + (putP has ys).length ≤ xs.length := by
  unfold getP at h
  obtain ⟨⟨n, nx, b⟩, hg⟩ : ∃ g, rdVar xs c = g := ⟨_, rfl⟩
  rw [hg] at h
  simp only at h
  cases b with
  | false => simp at h
  | true =>
    obtain ⟨a1, a2, a3, a4, a5⟩ := rdVar_yes hok hg
    rw [if_neg (by simp)] at h
    split at h
    · simp at h
    split at h
    · simp at h
    split at h
    · simp at h
    split at h
    · simp only [Prod.mk.injEq, and_true] at h
      obtain ⟨rfl, rfl, rfl⟩ := h
      obtain rfl : n = -1 := by omega
      exact ⟨by decide, a4, a3, a5⟩
    · simp only [Prod.mk.injEq, and_true] at h
      obtain ⟨rfl, rfl, rfl⟩ := h
      subst a3
      obtain ⟨m, rfl⟩ := Int.eq_ofNat_of_zero_le (show 0 ≤ n by omega)
      rw [Int.toNat_natCast, Int.toNat_natCast]
      have hl : ((xs.drop (c + (varB (m : Int)).length)).take m).length = m := by rw [List.length_take, List.length_drop]; omega
      have e : putP true ((xs.drop (c + (varB (m : Int)).length)).take m) = varB (m : Int) ++ (xs.drop (c + (varB (m : Int)).length)).take m := by unfold putP; rw [if_pos rfl, hl]
      have el : (putP true ((xs.drop (c + (varB (m : Int)).length)).take m)).length = (varB (m : Int)).length + m := by rw [e, List.length_append, hl]
      refine ⟨partOk_iff.2 ⟨by simp, ?_, by omega⟩, ?_, by rw [el]; simp; omega, by omega⟩
      · unfold okBs at hok ⊢
        rw [List.all_eq_true] at hok ⊢
        exact fun x hx => hok x (List.mem_of_mem_drop (List.mem_of_mem_take hx))
      · rw [el, e, List.append_assoc, ← Nat.add_assoc, ← List.drop_drop (i := m), List.take_append_drop]
        exact a4

def Rec.zero : Rec := ⟨0, 0, false, [], false, []⟩
/-- bytes begin with others at a place -/
def sameAt (xs : List Int) (k : Nat) (ys : List Int) : Bool := decide (k + ys.length ≤ xs.length) && ((xs.drop k).take ys.length == ys)
theorem sameAt_iff {xs ys : List Int} {k : Nat} (hk : k ≤ xs.length) : sameAt xs k ys = true ↔ ∃ rest, xs.drop k = ys ++ rest := by
  unfold sameAt
  simp only [Bool.and_eq_true, decide_eq_true_eq, beq_iff_eq]
  constructor
  · rintro ⟨h1, h2⟩
    exact ⟨(xs.drop k).drop ys.length, by conv => lhs; rw [← List.take_append_drop ys.length (xs.drop k), h2]⟩
  · rintro ⟨rest, h⟩
    have hl : (xs.drop k).length = ys.length + rest.length := by rw [h, List.length_append]
    rw [List.length_drop] at hl
    exact ⟨by omega, by rw [h, List.take_left]⟩

/-- the record at a place, as the model reads it -/
def rdRec (xs : List Int) (k : Nat) (o t : Int) : Rec × Int × Bool :=
  let g1 := rdVar xs k
  let g2 := rdVar xs g1.2.1.toNat
  let g3 := rdVar xs g2.2.1.toNat
  if g1.2.2 = false then (Rec.zero, 0, false)
  else if g2.2.2 = false then (Rec.zero, 0, false)
  else if g3.2.2 = false then (Rec.zero, 0, false)
  else
    let p := getP xs g3.2.1.toNat
    if p.2.2.2 = false then (Rec.zero, 0, false)
    else
      let q := getP xs p.2.2.1.toNat
      let r : Rec := ⟨o + g3.1, t + g2.1, p.1, p.2.1, q.1, q.2.1⟩
      if q.2.2.2 = false then (Rec.zero, 0, false)
      else if recOk r = false then (Rec.zero, 0, false)
      else if sameAt xs k (recBytes r o t) = false then (Rec.zero, 0, false)
      else (r, q.2.2.1, true)

/-- a record stands at a place -/
def RecAt (xs : List Int) (k : Nat) (o t : Int) (r : Rec) : Prop := recOk r = true ∧ ∃ rest, xs.drop k = recBytes r o t ++ rest

theorem rdRec_at {xs : List Int} {k : Nat} {o t : Int} {r : Rec} (hb : baseOk o t = true) (hk : k ≤ xs.length) (h : RecAt xs k o t r) : rdRec xs k o t = (r, ((k + (recBytes r o t).length : Nat) : Int), true) := by
  obtain ⟨hr, rest, hd⟩ := h
  have hsame := (sameAt_iff hk).2 ⟨rest, hd⟩
  obtain ⟨⟨o0, o1⟩, t0, t1⟩ := baseOk_iff.1 hb
  obtain ⟨⟨r0, r1⟩, ⟨q0, q1⟩, pk, pv⟩ := recOk_iff.1 hr
  have hl := recBody_len (o := o) (t := t) hr
  have e0 : xs.drop k = varB ((recBody r o t).length : Int) ++ (recBody r o t ++ rest) := by rw [hd]; simp [recBytes]
  have g1 := rdVar_app (by omega) (by omega) e0
  obtain ⟨a, ha⟩ : ∃ a, k + (varB ((recBody r o t).length : Int)).length = a := ⟨_, rfl⟩
  rw [ha] at g1
  have d1 : xs.drop a = varB (r.time - t) ++ (varB (r.off - o) ++ (putP r.hk r.key ++ (putP r.hv r.val ++ rest))) := by
    rw [← ha, ← List.drop_drop, e0, List.drop_left]; simp [recBody]
  have g2 := rdVar_app (by omega) (by omega) d1
  obtain ⟨b, hbb⟩ : ∃ b, a + (varB (r.time - t)).length = b := ⟨_, rfl⟩
  rw [hbb] at g2
  have d2 : xs.drop b = varB (r.off - o) ++ (putP r.hk r.key ++ (putP r.hv r.val ++ rest)) := by
    rw [← hbb, ← List.drop_drop, d1, List.drop_left]
  have g3 := rdVar_app (by omega) (by omega) d2
  obtain ⟨c, hc⟩ : ∃ c, b + (varB (r.off - o)).length = c := ⟨_, rfl⟩
  rw [hc] at g3
  have d3 : xs.drop c = putP r.hk r.key ++ (putP r.hv r.val ++ rest) := by
    rw [← hc, ← List.drop_drop, d2, List.drop_left]
  have g4 := getP_app pk d3
  obtain ⟨d, hdd⟩ : ∃ d, c + (putP r.hk r.key).length = d := ⟨_, rfl⟩
  rw [hdd] at g4
  have d4 : xs.drop d = putP r.hv r.val ++ rest := by
    rw [← hdd, ← List.drop_drop, d3, List.drop_left]
  have g5 := getP_app pv d4
  have er : (⟨o + (r.off - o), t + (r.time - t), r.hk, r.key, r.hv, r.val⟩ : Rec) = r := by
    rw [show o + (r.off - o) = r.off by omega, show t + (r.time - t) = r.time by omega]
  unfold rdRec
  simp only [g1, g2, g3, g4, g5, Int.toNat_natCast, er]
  rw [if_neg (by simp), if_neg (by simp), if_neg (by simp), if_neg (by simp), if_neg (by simp), if_neg (by simp [hr]), if_neg (by simp [hsame])]
  have : (recBytes r o t).length = (varB ((recBody r o t).length : Int)).length + ((varB (r.time - t)).length + (varB (r.off - o)).length + (putP r.hk r.key).length + (putP r.hv r.val).length) := by
    simp [recBytes, recBody]; omega
  rw [show d + (putP r.hv r.val).length = k + (recBytes r o t).length by omega]

theorem rdRec_cases (xs : List Int) (k : Nat) (o t : Int) : rdRec xs k o t = (Rec.zero, 0, false) ∨ (∃ r nx, rdRec xs k o t = (r, nx, true) ∧ recOk r = true ∧ sameAt xs k (recBytes r o t) = true) := by
  unfold rdRec
  simp only
  split
  · exact .inl rfl
  split
  · exact .inl rfl
  split
  · exact .inl rfl
  split
  · exact .inl rfl
  split
  · exact .inl rfl
  split
  · exact .inl rfl
  split
  · exact .inl rfl
  · rename_i h1 h2
    exact .inr ⟨_, _, rfl, by simpa using h1, by simpa using h2⟩

theorem rdRec_yes {xs : List Int} {k : Nat} {o t nx : Int} {r : Rec} (hb : baseOk o t = true) (hk : k ≤ xs.length) (h : rdRec xs k o t = (r, nx, true)) : RecAt xs k o t r ∧ nx = ((k + (recBytes r o t).length : Nat) : Int) ∧ k + (recBytes r o t).length ≤ xs.length := by
  rcases rdRec_cases xs k o t with h0 | ⟨r', nx', h', hr, hs⟩
  · rw [h0] at h; simp at h
  · rw [h'] at h
    simp only [Prod.mk.injEq, and_true] at h
    obtain ⟨rfl, rfl⟩ := h
    have hat : RecAt xs k o t r' := ⟨hr, (sameAt_iff hk).1 hs⟩
    have := rdRec_at hb hk hat
    rw [h'] at this
    simp only [Prod.mk.injEq, and_true, true_and] at this
    refine ⟨hat, this, ?_⟩
    unfold sameAt at hs
    simp only [Bool.and_eq_true, decide_eq_true_eq] at hs
    exact hs.1
theorem rdRec_no {xs : List Int} {k : Nat} {o t : Int} (hb : baseOk o t = true) (hk : k ≤ xs.length) (h : ∀ r, ¬ RecAt xs k o t r) : rdRec xs k o t = (Rec.zero, 0, false) := by
  rcases rdRec_cases xs k o t with h0 | ⟨r, nx, h', _, _⟩
  · exact h0
  · exact absurd (rdRec_yes hb hk h').1 (h r)
/-- behind the end there is no record -/
theorem rdRec_end {xs : List Int} {k : Nat} {o t : Int} (h : xs.length ≤ k) : rdRec xs k o t = (Rec.zero, 0, false) := by
  have e : rdVar xs k = (0, 0, false) := by
    unfold rdVar
    rw [List.drop_eq_nil_of_le h]
    exact rdR_no rfl
  unfold rdRec
  simp only [e]
  rw [if_pos trivial]
theorem recAt_inj {xs : List Int} {k : Nat} {o t : Int} {r s : Rec} (hb : baseOk o t = true) (hk : k ≤ xs.length) (h : RecAt xs k o t r) (g : RecAt xs k o t s) : r = s := by
  have h1 := rdRec_at hb hk h
  have h2 := rdRec_at hb hk g
  rw [h1] at h2
  simp only [Prod.mk.injEq] at h2
  exact h2.1
-- P4

/-- how many numbers from i on are those from j on, at most n -/
def mlen (xs : List Int) : Nat → Nat → Nat → Nat
  | 0, _, _ => 0
  | n + 1, i, j => if j < xs.length ∧ xs.getD i 0 = xs.getD j 0 then mlen xs n (i + 1) (j + 1) + 1 else 0
theorem mlen_le (xs : List Int) : ∀ (n i j : Nat), mlen xs n i j ≤ n
  | 0, _, _ => Nat.le_refl _
  | n + 1, i, j => by
    unfold mlen
    split
    · have := mlen_le xs n (i + 1) (j + 1); omega
    · omega
theorem mlen_in (xs : List Int) : ∀ (n i j : Nat), j + mlen xs n i j ≤ max j xs.length
  | 0, _, j => by unfold mlen; omega
  | n + 1, i, j => by
    unfold mlen
    split
    · rename_i h
      have := mlen_in xs n (i + 1) (j + 1)
      omega
    · omega
theorem mlen_at (xs : List Int) : ∀ (n i j k : Nat), k < mlen xs n i j → j + k < xs.length ∧ xs.getD (i + k) 0 = xs.getD (j + k) 0
  | 0, _, _, k => by unfold mlen; omega
  | n + 1, i, j, k => by
    unfold mlen
    split
    · rename_i h
      intro hk
      cases k with
      | zero => exact h
      | succ k =>
        have := mlen_at xs n (i + 1) (j + 1) k (by omega)
        rw [show i + (k + 1) = i + 1 + k by omega, show j + (k + 1) = j + 1 + k by omega]
        exact this
    · omega
theorem mlen_stop (xs : List Int) : ∀ (n i j : Nat), mlen xs n i j < n → ¬ (j + mlen xs n i j < xs.length ∧ xs.getD (i + mlen xs n i j) 0 = xs.getD (j + mlen xs n i j) 0)
  | 0, _, _ => by omega
  | n + 1, i, j => by
    unfold mlen
    split
    · rename_i h
      intro hk
      have := mlen_stop xs n (i + 1) (j + 1) (by omega)
      rw [show i + (mlen xs n (i + 1) (j + 1) + 1) = i + 1 + mlen xs n (i + 1) (j + 1) by omega, show j + (mlen xs n (i + 1) (j + 1) + 1) = j + 1 + mlen xs n (i + 1) (j + 1) by omega]
      exact this
    · rename_i h
      intro _
      exact h
/-- the run that agrees, and then ends, is that long -/
theorem mlen_eq {xs : List Int} {n i j m : Nat} (h1 : m ≤ n) (h2 : ∀ k, k < m → j + k < xs.length ∧ xs.getD (i + k) 0 = xs.getD (j + k) 0) (h3 : m = n ∨ ¬ (j + m < xs.length ∧ xs.getD (i + m) 0 = xs.getD (j + m) 0)) : mlen xs n i j = m := by
  rcases Nat.lt_trichotomy (mlen xs n i j) m with h | h | h
  · exact absurd (h2 _ h) (mlen_stop xs n i j (by omega))
  · exact h
  · rcases h3 with h3 | h3
    · have := mlen_le xs n i j; omega
    · exact absurd (mlen_at xs n i j m h) h3

/-- the longest match at a place, at most b back: how long, and how far back; of several ones the nearest -/
def bestB (xs : List Int) (j : Nat) : Nat → Nat × Nat
  | 0 => (0, 0)
  | b + 1 => if (bestB xs j b).1 < mlen xs 66 (j - (b + 1)) j then (mlen xs 66 (j - (b + 1)) j, b + 1) else bestB xs j b
theorem bestB_le (xs : List Int) (j : Nat) : ∀ b, (bestB xs j b).1 ≤ 66 ∧ (bestB xs j b).2 ≤ b ∧ j + (bestB xs j b).1 ≤ max j xs.length
  | 0 => by unfold bestB; exact ⟨by simp, by simp, by simp; omega⟩
  | b + 1 => by
    obtain ⟨h1, h2, h3⟩ := bestB_le xs j b
    unfold bestB
    split
    · exact ⟨mlen_le _ _ _ _, Nat.le_refl _, mlen_in _ _ _ _⟩
    · exact ⟨h1, by omega, h3⟩
/-- it is a match, or there is none -/
theorem bestB_is (xs : List Int) (j : Nat) : ∀ b, ((bestB xs j b).1 = 0 ∧ (bestB xs j b).2 = 0) ∨ (1 ≤ (bestB xs j b).2 ∧ 1 ≤ (bestB xs j b).1 ∧ (bestB xs j b).1 = mlen xs 66 (j - (bestB xs j b).2) j)
  | 0 => by unfold bestB; exact .inl ⟨rfl, rfl⟩
  | b + 1 => by
    have h := bestB_is xs j b
    unfold bestB
    split
    · exact .inr ⟨by simp, by simp only; omega, rfl⟩
    · exact h
/-- none is longer -/
theorem bestB_max (xs : List Int) (j : Nat) : ∀ b k, 1 ≤ k → k ≤ b → mlen xs 66 (j - k) j ≤ (bestB xs j b).1
  | 0, k, h1, h2 => by omega
  | b + 1, k, h1, h2 => by
    unfold bestB
    by_cases e : k = b + 1
    · subst e
      split
      · exact Nat.le_refl _
      · omega
    · have := bestB_max xs j b k h1 (by omega)
      split
      · omega
      · exact this
/-- none as long is nearer -/
theorem bestB_near (xs : List Int) (j : Nat) : ∀ b k, 1 ≤ k → k < (bestB xs j b).2 → mlen xs 66 (j - k) j < (bestB xs j b).1
  | 0, k, h1, h2 => by simp [bestB] at h2
  | b + 1, k, h1, h2 => by
    unfold bestB at h2 ⊢
    split
    · rename_i h
      rw [if_pos h] at h2
      simp only at h2
      have := bestB_max xs j b k h1 (by omega)
      omega
    · rename_i h
      rw [if_neg h] at h2
      exact bestB_near xs j b k h1 h2
/-- a match that none exceeds and that none as long is nearer than, is the one -/
theorem bestB_eq {xs : List Int} {j b k : Nat} (h1 : 1 ≤ k) (h2 : k ≤ b) (hp : 1 ≤ mlen xs 66 (j - k) j) (hm : ∀ q, 1 ≤ q → q ≤ b → mlen xs 66 (j - q) j ≤ mlen xs 66 (j - k) j) (hn : ∀ q, 1 ≤ q → q < k → mlen xs 66 (j - q) j < mlen xs 66 (j - k) j) :
    bestB xs j b = (mlen xs 66 (j - k) j, k) := by
  have ha := bestB_max xs j b k h1 h2
  obtain ⟨_, hb2, _⟩ := bestB_le xs j b
  rcases bestB_is xs j b with ⟨h0, _⟩ | ⟨c1, c2, c3⟩
  · omega
  · have hle := hm _ c1 hb2
    have hl : (bestB xs j b).1 = mlen xs 66 (j - k) j := by omega
    have hk : (bestB xs j b).2 = k := by
      rcases Nat.lt_trichotomy (bestB xs j b).2 k with h | h | h
      · have := hn _ c1 h; omega
      · exact h
      · have := bestB_near xs j b k h1 h; omega
    exact Prod.ext hl hk
/-- without a match of a number there is none -/
theorem bestB_none {xs : List Int} {j b : Nat} {n : Nat} (h : ∀ q, 1 ≤ q → q ≤ b → mlen xs 66 (j - q) j < n) (hn : 0 < n) : (bestB xs j b).1 < n := by
  obtain ⟨_, hb2, _⟩ := bestB_le xs j b
  rcases bestB_is xs j b with ⟨h0, _⟩ | ⟨c1, c2, c3⟩
  · omega
  · have := h _ c1 hb2; omega

/-- numbers as they are, in pieces of 64 -/
def plainF : Nat → List Int → List Int
  | 0, _ => []
  | n + 1, xs => if xs = [] then [] else (min 64 xs.length - 1 : Nat) :: (xs.take 64 ++ plainF n (xs.drop 64))
def plainP (xs : List Int) : List Int := plainF xs.length xs
theorem plainF_more : ∀ (n : Nat) (xs : List Int), xs.length ≤ n → plainF n xs = plainP xs := by
  have key : ∀ (m n : Nat) (xs : List Int), xs.length ≤ m → xs.length ≤ n → plainF m xs = plainF n xs := by
    intro m
    induction m with
    | zero =>
      intro n xs h1 h2
      have : xs = [] := List.eq_nil_of_length_eq_zero (by omega)
      subst this
      cases n <;> simp [plainF]
    | succ m ih =>
      intro n xs h1 h2
      cases n with
      | zero =>
        have : xs = [] := List.eq_nil_of_length_eq_zero (by omega)
        subst this
        simp [plainF]
      | succ n =>
        unfold plainF
        split
        · rfl
        · rename_i hx
          have hl : 0 < xs.length := List.length_pos_iff.2 hx
          rw [ih n (xs.drop 64) (by rw [List.length_drop]; omega) (by rw [List.length_drop]; omega)]
  intro n xs h
  exact key _ _ xs h (Nat.le_refl _)
theorem plainP_nil : plainP [] = [] := rfl
theorem plainP_cons {xs : List Int} (h : xs ≠ []) : plainP xs = ((min 64 xs.length - 1 : Nat) : Int) :: (xs.take 64 ++ plainP (xs.drop 64)) := by
  have hl : 0 < xs.length := List.length_pos_iff.2 h
  obtain ⟨n, hn⟩ : ∃ n, xs.length = n + 1 := ⟨xs.length - 1, by omega⟩
  conv => lhs; unfold plainP; rw [hn]; unfold plainF
  rw [if_neg h, plainF_more n (xs.drop 64) (by rw [List.length_drop]; omega)]

/-- the packed form of what follows a place, behind numbers that are still to be told as they are -/
def packF (xs : List Int) : Nat → Nat → List Int → List Int
  | 0, _, plain => plainP plain
  | n + 1, j, plain => if j < xs.length then
      (if (bestB xs j (min j 200)).1 < 3 then packF xs n (j + 1) (plain ++ [xs.getD j 0])
       else plainP plain ++ [((61 + (bestB xs j (min j 200)).1 : Nat) : Int), (((bestB xs j (min j 200)).2 : Nat) : Int)] ++ packF xs n (j + (bestB xs j (min j 200)).1) [])
    else plainP plain
def packP (xs : List Int) : List Int := packF xs xs.length 0 []
theorem packF_more (xs : List Int) : ∀ (m n j : Nat) (plain : List Int), xs.length ≤ j + m → xs.length ≤ j + n → packF xs m j plain = packF xs n j plain
  | 0, n, j, plain, h1, h2 => by
    cases n with
    | zero => rfl
    | succ n => unfold packF; rw [if_neg (by omega)]
  | m + 1, n, j, plain, h1, h2 => by
    cases n with
    | zero => unfold packF; rw [if_neg (by omega)]
    | succ n =>
      unfold packF
      split
      · split
        · exact packF_more xs m n _ _ (by omega) (by omega)
        · rw [packF_more xs m n _ _ (by omega) (by omega)]
      · rfl

/-- so many numbers, each one the one so far back -/
def repF : Nat → List Int → Nat → List Int
  | 0, out, _ => out
  | n + 1, out, back => repF n (out ++ [out.getD (out.length - back) 0]) back
theorem repF_len : ∀ (n : Nat) (out : List Int) (back : Nat), (repF n out back).length = out.length + n
  | 0, out, back => rfl
  | n + 1, out, back => by unfold repF; rw [repF_len]; simp; omega
/-- what a packed form has from a place on, behind what has come so far -/
def unpackF : Nat → List Int → List Int → Option (List Int)
  | 0, form, out => if form = [] then some out else none
  | n + 1, form, out =>
    match form with
    | [] => some out
    | x :: rest =>
      if x < 64 then
        (if rest.length < x.toNat + 1 then none
         else if 200 < (out ++ rest.take (x.toNat + 1)).length then none else unpackF n (rest.drop (x.toNat + 1)) (out ++ rest.take (x.toNat + 1)))
      else if x < 128 then
        (match rest with
         | [] => none
         | y :: rest2 => if y < 1 then none else if (out.length : Int) < y then none
           else if 200 < out.length + (x - 61).toNat then none else unpackF n rest2 (repF (x - 61).toNat out y.toNat))
      else none
def unpackP (form : List Int) : Option (List Int) := unpackF form.length form []
-- P4b

theorem plainP_len (xs : List Int) : (plainP xs).length = xs.length + (xs.length + 63) / 64 := by
  have key : ∀ (n : Nat) (xs : List Int), xs.length ≤ n → (plainP xs).length = xs.length + (xs.length + 63) / 64 := by
    intro n
    induction n with
    | zero =>
      intro xs h
      obtain rfl : xs = [] := List.eq_nil_of_length_eq_zero (by omega)
      rfl
    | succ n ih =>
      intro xs h
      by_cases hx : xs = []
      · subst hx; rfl
      · have hl : 0 < xs.length := List.length_pos_iff.2 hx
        rw [plainP_cons hx, List.length_cons, List.length_append, ih _ (by rw [List.length_drop]; omega), List.length_take, List.length_drop]
        omega
  exact key _ xs (Nat.le_refl _)
theorem packF_len (xs : List Int) : ∀ (n j : Nat) (plain : List Int), xs.length ≤ j + n → j ≤ xs.length → (packF xs n j plain).length ≤ (xs.length - j + plain.length) + (xs.length - j + plain.length + 63) / 64
  | 0, j, plain, h, hj => by unfold packF; rw [plainP_len]; omega
  | n + 1, j, plain, h, hj => by
    unfold packF
    split
    · rename_i hlt
      split
      · have := packF_len xs n (j + 1) (plain ++ [xs.getD j 0]) (by omega) (by omega)
        rw [List.length_append, List.length_singleton] at this
        rw [show xs.length - (j + 1) + (plain.length + 1) = xs.length - j + plain.length by omega] at this
        exact this
      · rename_i hL
        obtain ⟨_, _, h3⟩ := bestB_le xs j (min j 200)
        have := packF_len xs n (j + (bestB xs j (min j 200)).1) [] (by omega) (by omega)
        simp only [List.length_append, List.length_cons, List.length_nil, plainP_len] at this ⊢
        omega
    · rw [plainP_len]; omega
theorem packP_len (xs : List Int) : (packP xs).length ≤ xs.length + (xs.length + 63) / 64 := by
  have := packF_len xs xs.length 0 [] (by omega) (by omega)
  unfold packP
  simpa using this

theorem okB_cons {x : Int} {xs : List Int} : okBs (x :: xs) = true ↔ (0 ≤ x ∧ x ≤ 255) ∧ okBs xs = true := by
  unfold okBs
  simp
theorem okB_append {xs ys : List Int} : okBs (xs ++ ys) = true ↔ okBs xs = true ∧ okBs ys = true := by
  unfold okBs
  rw [List.all_append, Bool.and_eq_true]
theorem okB_getD {xs : List Int} (h : okBs xs = true) (i : Nat) : 0 ≤ xs.getD i 0 ∧ xs.getD i 0 ≤ 255 := by
  by_cases hi : i < xs.length
  · exact okBs_at h i hi
  · rw [getD_out _ _ (by omega)]; simp
theorem plainP_ok : ∀ (n : Nat) (xs : List Int), xs.length ≤ n → okBs xs = true → okBs (plainP xs) = true
  | 0, xs, h, hok => by
    obtain rfl : xs = [] := List.eq_nil_of_length_eq_zero (by omega)
    rfl
  | n + 1, xs, h, hok => by
    by_cases hx : xs = []
    · subst hx; rfl
    · have hl : 0 < xs.length := List.length_pos_iff.2 hx
      rw [plainP_cons hx, okB_cons, okB_append]
      exact ⟨⟨by omega, by omega⟩, okBs_take hok _, plainP_ok n _ (by rw [List.length_drop]; omega) (okBs_drop hok _)⟩
theorem packF_ok (xs : List Int) (hok : okBs xs = true) : ∀ (n j : Nat) (plain : List Int), okBs plain = true → okBs (packF xs n j plain) = true
  | 0, j, plain, hp => plainP_ok _ _ (Nat.le_refl _) hp
  | n + 1, j, plain, hp => by
    unfold packF
    split
    · split
      · exact packF_ok xs hok n _ _ (okB_append.2 ⟨hp, okB_cons.2 ⟨okB_getD hok j, rfl⟩⟩)
      · obtain ⟨h1, h2, h3⟩ := bestB_le xs j (min j 200)
        refine okB_append.2 ⟨okB_append.2 ⟨plainP_ok _ _ (Nat.le_refl _) hp, okB_cons.2 ⟨⟨by omega, by omega⟩, okB_cons.2 ⟨⟨by omega, by omega⟩, rfl⟩⟩⟩, packF_ok xs hok n _ _ rfl⟩
    · exact plainP_ok _ _ (Nat.le_refl _) hp
theorem packP_ok {xs : List Int} (hok : okBs xs = true) : okBs (packP xs) = true := packF_ok xs hok _ _ _ rfl

def unpackG (form out : List Int) : Option (List Int) := unpackF form.length form out
theorem unpackF_more : ∀ (n m : Nat) (form out : List Int), form.length ≤ n → form.length ≤ m → unpackF n form out = unpackF m form out
  | 0, m, form, out, h1, h2 => by
    obtain rfl : form = [] := List.eq_nil_of_length_eq_zero (by omega)
    cases m <;> simp [unpackF]
  | n + 1, m, form, out, h1, h2 => by
    cases form with
    | nil => cases m <;> simp [unpackF]
    | cons x rest =>
      cases m with
      | zero => simp at h2
      | succ m =>
        simp only [List.length_cons] at h1 h2
        unfold unpackF
        simp only
        split
        · split
          · rfl
          · split
            · rfl
            · exact unpackF_more n m _ _ (by rw [List.length_drop]; omega) (by rw [List.length_drop]; omega)
        · split
          · cases rest with
            | nil => rfl
            | cons y rest2 =>
              simp only [List.length_cons] at h1 h2
              simp only
              split
              · rfl
              · split
                · rfl
                · split
                  · rfl
                  · exact unpackF_more n m _ _ (by omega) (by omega)
          · rfl
theorem unpackG_nil (out : List Int) : unpackG [] out = some out := rfl
theorem unpackG_plain {ys rest out : List Int} (h0 : ys ≠ []) (h1 : ys.length ≤ 64) (h2 : out.length + ys.length ≤ 200) : unpackG (((ys.length - 1 : Nat) : Int) :: (ys ++ rest)) out = unpackG rest (out ++ ys) := by
  have hl : 0 < ys.length := List.length_pos_iff.2 h0
  conv => lhs; unfold unpackG; rw [List.length_cons]; unfold unpackF
  simp only
  rw [if_pos (by omega), show (((ys.length - 1 : Nat) : Int)).toNat + 1 = ys.length by omega, if_neg (by rw [List.length_append]; omega), List.take_left, List.drop_left, if_neg (by rw [List.length_append]; omega)]
  exact unpackF_more _ _ _ _ (by rw [List.length_append]; omega) (Nat.le_refl _)
theorem unpackG_match {L back : Nat} {rest out : List Int} (h0 : 3 ≤ L) (h1 : L ≤ 66) (h2 : 1 ≤ back) (h3 : back ≤ out.length) (h4 : out.length + L ≤ 200) : unpackG (((61 + L : Nat) : Int) :: ((back : Nat) : Int) :: rest) out = unpackG rest (repF L out back) := by
  conv => lhs; unfold unpackG; rw [List.length_cons]; unfold unpackF
  simp only
  rw [if_neg (by omega), if_pos (by omega), if_neg (by omega), if_neg (by omega), show ((((61 + L : Nat) : Int)) - 61).toNat = L by omega, if_neg (by omega), Int.toNat_natCast]
  exact unpackF_more _ _ _ _ (by simp) (Nat.le_refl _)
theorem unpackG_plainP : ∀ (n : Nat) (p rest out : List Int), p.length ≤ n → out.length + p.length ≤ 200 → unpackG (plainP p ++ rest) out = unpackG rest (out ++ p)
  | 0, p, rest, out, h, h2 => by
    obtain rfl : p = [] := List.eq_nil_of_length_eq_zero (by omega)
    rw [plainP_nil, List.nil_append, List.append_nil]
  | n + 1, p, rest, out, h, h2 => by
    by_cases hp : p = []
    · subst hp; rw [plainP_nil, List.nil_append, List.append_nil]
    · have hl : 0 < p.length := List.length_pos_iff.2 hp
      have ht : (p.take 64).length = min 64 p.length := List.length_take
      have h1 := unpackG_plain (ys := p.take 64) (rest := plainP (p.drop 64) ++ rest) (out := out) (fun e => by rw [e] at ht; simp at ht; omega) (by omega) (by omega)
      rw [ht] at h1
      rw [plainP_cons hp, List.cons_append, List.append_assoc, h1, unpackG_plainP n _ _ _ (by rw [List.length_drop]; omega) (by rw [List.length_append, List.length_drop]; omega), List.append_assoc, List.take_append_drop]
theorem take_snoc1 (xs : List Int) (j : Nat) (h : j < xs.length) : xs.take j ++ [xs.getD j 0] = xs.take (j + 1) := (take_snoc0 xs j h _ rfl).symm
theorem repF_match (xs : List Int) : ∀ (L j back : Nat), 1 ≤ back → back ≤ j → (∀ k, k < L → j + k < xs.length ∧ xs.getD (j - back + k) 0 = xs.getD (j + k) 0) → repF L (xs.take j) back = xs.take (j + L)
  | 0, j, back, _, _, _ => rfl
  | L + 1, j, back, h1, h2, hm => by
    unfold repF
    obtain ⟨h0, e0⟩ := hm 0 (by omega)
    have hl : (xs.take j).length = j := by rw [List.length_take]; omega
    have e1 : (xs.take j).getD ((xs.take j).length - back) 0 = xs.getD j 0 := by
      rw [hl]
      rw [Nat.add_zero, Nat.add_zero] at e0
      rw [← e0]
      simp only [List.getD]
      rw [List.getElem?_take_of_lt (by omega)]
    rw [e1, take_snoc1 xs j (by omega), repF_match xs L (j + 1) back h1 (by omega) (fun k hk => by
      have := hm (k + 1) (by omega)
      rw [show j + 1 - back + k = j - back + (k + 1) by omega, show j + 1 + k = j + (k + 1) by omega]
      exact this), show j + 1 + L = j + (L + 1) by omega]
theorem unpack_packF (xs : List Int) (hl : xs.length ≤ 200) : ∀ (n j : Nat) (plain out : List Int), xs.length ≤ j + n → j ≤ xs.length → out ++ plain = xs.take j → unpackG (packF xs n j plain) out = some xs
  | 0, j, plain, out, h, hj, ho => by
    have hlen : (out ++ plain).length = j := by rw [ho, List.length_take]; omega
    rw [List.length_append] at hlen
    unfold packF
    have := unpackG_plainP _ plain [] out (Nat.le_refl _) (by omega)
    rw [List.append_nil] at this
    rw [this, unpackG_nil, ho, List.take_of_length_le (by omega)]
  | n + 1, j, plain, out, h, hj, ho => by
    have hlen : (out ++ plain).length = j := by rw [ho, List.length_take]; omega
    rw [List.length_append] at hlen
    unfold packF
    split
    · rename_i hlt
      split
      · exact unpack_packF xs hl n (j + 1) _ out (by omega) (by omega) (by rw [← List.append_assoc, ho, take_snoc1 xs j hlt])
      · rename_i hL
        obtain ⟨h1, h2, h3⟩ := bestB_le xs j (min j 200)
        rcases bestB_is xs j (min j 200) with ⟨h0, _⟩ | ⟨c1, c2, c3⟩
        · omega
        · rw [List.append_assoc, unpackG_plainP _ plain _ out (Nat.le_refl _) (by omega), ho, List.cons_append, List.cons_append, List.nil_append, unpackG_match (by omega) h1 c1 (by rw [List.length_take]; omega) (by rw [List.length_take]; omega), repF_match xs _ j _ c1 (by omega) (fun k hk => mlen_at xs 66 _ j k (by omega))]
          exact unpack_packF xs hl n _ [] _ (by omega) (by omega) (by rw [List.append_nil])
    · have := unpackG_plainP _ plain [] out (Nat.le_refl _) (by omega)
      rw [List.append_nil] at this
      rw [this, unpackG_nil, ho, List.take_of_length_le (by omega)]
theorem unpack_pack {xs : List Int} (hl : xs.length ≤ 200) : unpackP (packP xs) = some xs := unpack_packF xs hl _ 0 [] [] (by omega) (by omega) (by simp)

/-- 60 equal numbers have a packed form of four -/
theorem pack_same (x : Int) : (packP (List.replicate 60 x)).length = 4 := by
  obtain ⟨xs, hxs⟩ : ∃ xs, List.replicate 60 x = xs := ⟨_, rfl⟩
  have hl : xs.length = 60 := by rw [← hxs]; simp
  have hall : ∀ y ∈ xs, y = x := fun y hy => by rw [← hxs] at hy; exact (List.mem_replicate.1 hy).2
  have hg : ∀ i, i < 60 → xs.getD i 0 = x := fun i hi => by rw [getD_in _ _ (by omega)]; exact hall _ (List.getElem_mem _)
  rw [hxs]
  have b0 : bestB xs 0 (min 0 200) = (0, 0) := rfl
  have m1 : mlen xs 66 0 1 = 59 := mlen_eq (by omega) (fun k hk => ⟨by omega, by rw [hg _ (by omega), hg _ (by omega)]⟩) (.inr (by omega))
  have b1 : bestB xs 1 (min 1 200) = (59, 1) := by
    have : min 1 200 = 1 := rfl
    rw [this]
    unfold bestB
    rw [show (1 : Nat) - (0 + 1) = 0 from rfl, m1]
    rfl
  unfold packP
  rw [hl]
  unfold packF
  rw [if_pos (by omega), b0, if_pos (by simp)]
  unfold packF
  rw [if_pos (by omega), show 0 + 1 = 1 from rfl, b1, if_neg (by simp)]
  rw [show packF xs 58 (1 + (59, 1).1) [] = [] by
    unfold packF
    rw [if_neg (by simp only; omega)]
    rfl]
  simp [plainP_len]
-- P4c

theorem repF_pre (P : List Int) : ∀ (n : Nat) (out : List Int) (back : Nat), back ≤ out.length → 1 ≤ back → repF n (P ++ out) back = P ++ repF n out back
  | 0, out, back, _, _ => rfl
  | n + 1, out, back, h, h1 => by
    unfold repF
    have e : (P ++ out).getD ((P ++ out).length - back) 0 = out.getD (out.length - back) 0 := by
      simp only [List.getD, List.length_append]
      rw [List.getElem?_append_right (by omega), show P.length + out.length - back - P.length = out.length - back by omega]
    rw [e, List.append_assoc, repF_pre P n (out ++ [out.getD (out.length - back) 0]) back (by simp; omega) h1]
/-- a form is undone to something longer -/
theorem unpackF_grows : ∀ (n : Nat) (form out r : List Int), unpackF n form out = some r → out.length ≤ r.length ∧ (out.length ≤ 200 → r.length ≤ 200)
  | 0, form, out, r, h => by
    unfold unpackF at h
    split at h
    · simp only [Option.some.injEq] at h; subst h; exact ⟨Nat.le_refl _, id⟩
    · cases h
  | n + 1, form, out, r, h => by
    cases form with
    | nil =>
      simp only [unpackF, Option.some.injEq] at h
      subst h
      exact ⟨Nat.le_refl _, id⟩
    | cons x rest =>
      unfold unpackF at h
      simp only at h
      split at h
      · split at h
        · cases h
        · split at h
          · cases h
          · rename_i h3
            obtain ⟨q1, q2⟩ := unpackF_grows n _ _ _ h
            rw [List.length_append] at q1
            exact ⟨by omega, fun _ => q2 (by omega)⟩
      · split at h
        · cases rest with
          | nil => cases h
          | cons y rest2 =>
            simp only at h
            split at h
            · cases h
            · split at h
              · cases h
              · split at h
                · cases h
                · rename_i h5
                  obtain ⟨q1, q2⟩ := unpackF_grows n _ _ _ h
                  rw [repF_len] at q1
                  exact ⟨by omega, fun _ => q2 (by rw [repF_len]; omega)⟩
        · cases h
/-- behind others a form is undone to the same -/
theorem unpackF_pre (P : List Int) : ∀ (n : Nat) (form out r : List Int), unpackF n form out = some r → P.length + r.length ≤ 200 → unpackF n form (P ++ out) = some (P ++ r)
  | 0, form, out, r, h, hl => by
    unfold unpackF at h ⊢
    split at h
    · rename_i e
      simp only [Option.some.injEq] at h
      subst h
      rw [if_pos e]
    · cases h
  | n + 1, form, out, r, h, hl => by
    cases form with
    | nil =>
      simp only [unpackF, Option.some.injEq] at h ⊢
      rw [h]
    | cons x rest =>
      unfold unpackF at h ⊢
      simp only at h ⊢
      split at h
      · rename_i hx
        rw [if_pos hx]
        split at h
        · cases h
        · rename_i h2
          rw [if_neg h2]
          split at h
          · cases h
          · rename_i h3
            have hg := (unpackF_grows n _ _ _ h).1
            rw [List.append_assoc, if_neg (by rw [List.length_append]; omega)]
            exact unpackF_pre P n _ _ _ h hl
      · rename_i hx
        rw [if_neg hx]
        split at h
        · rename_i hx2
          rw [if_pos hx2]
          cases rest with
          | nil => cases h
          | cons y rest2 =>
            simp only at h ⊢
            split at h
            · cases h
            · rename_i hy
              rw [if_neg hy]
              split at h
              · cases h
              · rename_i hy2
                rw [if_neg (by rw [List.length_append]; omega)]
                split at h
                · cases h
                · rename_i h5
                  have hg := (unpackF_grows n _ _ _ h).1
                  rw [repF_len] at hg
                  rw [if_neg (by rw [List.length_append]; omega), repF_pre P _ _ _ (by omega) (by omega)]
                  exact unpackF_pre P n _ _ _ h hl
        · cases h
/-- one form behind another -/
theorem unpackG_app : ∀ (n : Nat) (form g out r : List Int), form.length ≤ n → unpackG form out = some r → unpackG (form ++ g) out = unpackG g r
  | 0, form, g, out, r, hn, h => by
    obtain rfl : form = [] := List.eq_nil_of_length_eq_zero (by omega)
    simp only [unpackG_nil, Option.some.injEq] at h
    rw [h, List.nil_append]
  | n + 1, form, g, out, r, hn, h => by
    cases form with
    | nil =>
      simp only [unpackG_nil, Option.some.injEq] at h
      rw [h, List.nil_append]
    | cons x rest =>
      simp only [List.length_cons] at hn
      unfold unpackG at h
      rw [List.length_cons] at h
      unfold unpackF at h
      simp only at h
      rw [List.cons_append]
      conv => lhs; unfold unpackG; rw [List.length_cons]; unfold unpackF
      simp only
      split at h
      · rename_i hx
        rw [if_pos hx]
        split at h
        · cases h
        · rename_i h2
          rw [if_neg (by rw [List.length_append]; omega)]
          split at h
          · cases h
          · rename_i h3
            rw [List.take_append_of_le_length (by omega), List.drop_append_of_le_length (by omega), if_neg h3]
            have := unpackG_app n (rest.drop (x.toNat + 1)) g _ r (by rw [List.length_drop]; omega) (by
              rw [← h]
              exact unpackF_more _ _ _ _ (Nat.le_refl _) (by rw [List.length_drop]; omega))
            rw [← this]
            exact unpackF_more _ _ _ _ (by rw [List.length_append, List.length_append, List.length_drop]; omega) (Nat.le_refl _)
      · rename_i hx
        rw [if_neg hx]
        split at h
        · rename_i hx2
          rw [if_pos hx2]
          cases rest with
          | nil => cases h
          | cons y rest2 =>
            simp only [List.length_cons] at hn
            simp only [List.cons_append] at h ⊢
            split at h
            · cases h
            · rename_i hy
              rw [if_neg hy]
              split at h
              · cases h
              · rename_i hy2
                rw [if_neg hy2]
                split at h
                · cases h
                · rename_i h5
                  rw [if_neg h5]
                  have := unpackG_app n rest2 g _ r (by omega) (by
                    rw [← h]
                    exact unpackF_more _ _ _ _ (Nat.le_refl _) (by simp))
                  rw [← this]
                  exact unpackF_more _ _ _ _ (by simp) (Nat.le_refl _)
        · cases h
theorem unpack_two {f r : List Int} (h : unpackP f = some r) (hl : 2 * r.length ≤ 200) : unpackP (f ++ f) = some (r ++ r) := by
  have h1 : unpackG f [] = some r := h
  have h2 := unpackG_app _ f f [] r (Nat.le_refl _) h1
  have h3 := unpackF_pre r _ f [] r h (by omega)
  rw [List.append_nil] at h3
  show unpackG (f ++ f) [] = _
  rw [h2]
  exact h3
theorem repF_ok : ∀ (n : Nat) (out : List Int) (back : Nat), okBs out = true → okBs (repF n out back) = true
  | 0, out, back, h => h
  | n + 1, out, back, h => by
    unfold repF
    exact repF_ok n _ _ (okB_append.2 ⟨h, okB_cons.2 ⟨okB_getD h _, rfl⟩⟩)
theorem unpackF_ok : ∀ (n : Nat) (form out r : List Int), unpackF n form out = some r → okBs form = true → okBs out = true → okBs r = true
  | 0, form, out, r, h, hf, ho => by
    unfold unpackF at h
    split at h
    · simp only [Option.some.injEq] at h; subst h; exact ho
    · cases h
  | n + 1, form, out, r, h, hf, ho => by
    cases form with
    | nil =>
      simp only [unpackF, Option.some.injEq] at h
      subst h
      exact ho
    | cons x rest =>
      have hf2 := (okB_cons.1 hf).2
      unfold unpackF at h
      simp only at h
      split at h
      · split at h
        · cases h
        · split at h
          · cases h
          · exact unpackF_ok n _ _ _ h (okBs_drop hf2 _) (okB_append.2 ⟨ho, okBs_take hf2 _⟩)
      · split at h
        · cases rest with
          | nil => cases h
          | cons y rest2 =>
            have hf3 := (okB_cons.1 hf2).2
            simp only at h
            split at h
            · cases h
            · split at h
              · cases h
              · split at h
                · cases h
                · exact unpackF_ok n _ _ _ h hf3 (repF_ok _ _ _ ho)
        · cases h
theorem unpackP_ok {f r : List Int} (h : unpackP f = some r) (hf : okBs f = true) : okBs r = true ∧ r.length ≤ 200 := ⟨unpackF_ok _ _ _ _ h hf rfl, (unpackF_grows _ _ _ _ h).2 (by simp)⟩

/-- how long matches are in bytes that come twice -/
theorem mlen_twice (b : List Int) : ∀ (n i j : Nat), i ≤ j → j ≤ b.length → (j + mlen b n i j < b.length → mlen (b ++ b) n i j = mlen b n i j) ∧ mlen b n i j ≤ mlen (b ++ b) n i j
  | 0, i, j, hij, hj => by unfold mlen; exact ⟨fun _ => rfl, Nat.le_refl _⟩
  | n + 1, i, j, hij, hj => by
    have hg : ∀ k, k < b.length → (b ++ b).getD k 0 = b.getD k 0 := fun k hk => by
      simp only [List.getD]
      rw [List.getElem?_append_left hk]
    unfold mlen
    by_cases hlt : j < b.length
    · rw [hg i (by omega), hg j hlt]
      have hl2 : j < (b ++ b).length := by rw [List.length_append]; omega
      by_cases he : b.getD i 0 = b.getD j 0
      · rw [if_pos ⟨hlt, he⟩, if_pos ⟨hl2, he⟩]
        obtain ⟨h1, h2⟩ := mlen_twice b n (i + 1) (j + 1) (by omega) (by omega)
        exact ⟨fun h => by rw [h1 (by omega)], by omega⟩
      · rw [if_neg (fun h => he h.2), if_neg (fun h => he h.2)]
        exact ⟨fun _ => rfl, Nat.le_refl _⟩
    · rw [if_neg (fun h => hlt h.1)]
      exact ⟨fun h => absurd h (by omega), Nat.zero_le _⟩
/-- the second time all is one match -/
theorem mlen_second (b : List Int) (h66 : b.length ≤ 66) (p : Nat) (h1 : b.length ≤ p) (h2 : p ≤ 2 * b.length) : mlen (b ++ b) 66 (p - b.length) p = 2 * b.length - p := by
  refine mlen_eq (by omega) (fun k hk => ⟨by rw [List.length_append]; omega, ?_⟩) (.inr (fun h => by rw [List.length_append] at h; omega))
  simp only [List.getD]
  rw [List.getElem?_append_left (by omega), List.getElem?_append_right (by omega), show p + k - b.length = p - b.length + k by omega]
theorem best_second (b : List Int) (h66 : b.length ≤ 66) (p : Nat) (h1 : b.length ≤ p) (h2 : p ≤ 2 * b.length) (h0 : 1 ≤ b.length) : (bestB (b ++ b) p (min p 200)).1 = 2 * b.length - p := by
  have ha := bestB_max (b ++ b) p (min p 200) b.length h0 (by omega)
  rw [mlen_second b h66 p h1 h2] at ha
  obtain ⟨_, _, h3⟩ := bestB_le (b ++ b) p (min p 200)
  rw [List.length_append] at h3
  omega
theorem packF_second (b : List Int) (h66 : b.length ≤ 66) (h0 : 1 ≤ b.length) (n p : Nat) (h1 : b.length ≤ p) (h2 : p ≤ 2 * b.length) (hn : 2 * b.length ≤ p + n) : (packF (b ++ b) n p []).length ≤ 3 := by
  have hl : (b ++ b).length = 2 * b.length := by rw [List.length_append]; omega
  by_cases hs : 3 ≤ 2 * b.length - p
  · obtain ⟨n, rfl⟩ : ∃ m, n = m + 1 := ⟨n - 1, by omega⟩
    unfold packF
    rw [if_pos (by omega), best_second b h66 p h1 h2 h0, if_neg (by omega)]
    have := packF_len (b ++ b) n (p + (2 * b.length - p)) [] (by omega) (by omega)
    simp only [List.length_append, List.length_cons, List.length_nil, plainP_nil] at this ⊢
    omega
  · have := packF_len (b ++ b) n p [] (by omega) (by omega)
    rw [hl] at this
    simp only [List.length_nil] at this
    omega
theorem packF_twice (b : List Int) (h66 : b.length ≤ 66) (h3 : 3 ≤ b.length) : ∀ (m n j : Nat) (plain : List Int), b.length ≤ j + m → 2 * b.length ≤ j + n → j ≤ b.length → (packF (b ++ b) n j plain).length ≤ (packF b m j plain).length + 6 := by
  have hl : (b ++ b).length = 2 * b.length := by rw [List.length_append]; omega
  intro m
  induction m with
  | zero =>
    intro n j plain h1 h2 hj
    obtain rfl : j = b.length := by omega
    obtain ⟨n, rfl⟩ : ∃ m, n = m + 1 := ⟨n - 1, by omega⟩
    have e1 : (packF b 0 b.length plain).length = (plainP plain).length := rfl
    rw [e1]
    unfold packF
    rw [if_pos (by omega), best_second b h66 _ (Nat.le_refl _) (by omega) (by omega), if_neg (by omega)]
    have := packF_second b h66 (by omega) n (b.length + (2 * b.length - b.length)) (by omega) (by omega) (by omega)
    simp only [List.length_append, List.length_cons, List.length_nil] at this ⊢
    omega
  | succ m ih =>
    intro n j plain h1 h2 hj
    obtain ⟨n, rfl⟩ : ∃ m, n = m + 1 := ⟨n - 1, by omega⟩
    by_cases hlt : j < b.length
    · have hg : (b ++ b).getD j 0 = b.getD j 0 := by
        simp only [List.getD]
        rw [List.getElem?_append_left hlt]
      obtain ⟨_, _, hb3⟩ := bestB_le b j (min j 200)
      obtain ⟨_, _, hx3⟩ := bestB_le (b ++ b) j (min j 200)
      by_cases hall : ∀ k, 1 ≤ k → k ≤ min j 200 → j + mlen b 66 (j - k) j < b.length
      · have hsame : ∀ q, q ≤ min j 200 → bestB (b ++ b) j q = bestB b j q := by
          intro q
          induction q with
          | zero => intro _; rfl
          | succ q ihq =>
            intro hq
            have hm := (mlen_twice b 66 (j - (q + 1)) j (by omega) hj).1 (hall (q + 1) (by omega) hq)
            unfold bestB
            rw [ihq (by omega), hm]
        unfold packF
        rw [if_pos (by omega), if_pos hlt, hsame _ (Nat.le_refl _), hg]
        split
        · exact ih n _ _ (by omega) (by omega) (by omega)
        · rename_i hL
          have := ih n (j + (bestB b j (min j 200)).1) [] (by omega) (by omega) (by omega)
          simp only [List.length_append, List.length_cons, List.length_nil] at this ⊢
          omega
      · obtain ⟨k, hk⟩ : ∃ k, ¬ (1 ≤ k → k ≤ min j 200 → j + mlen b 66 (j - k) j < b.length) := by
          apply Classical.byContradiction
          intro hno
          exact hall fun k => Classical.byContradiction fun h => hno ⟨k, h⟩
        have hk1 : 1 ≤ k := Classical.byContradiction fun h => hk (fun h2 => absurd h2 h)
        have hk2 : k ≤ min j 200 := Classical.byContradiction fun h => hk (fun _ h2 => absurd h2 h)
        have hk3 : ¬ j + mlen b 66 (j - k) j < b.length := fun h => hk (fun _ _ => h)
        have ba := bestB_max b j (min j 200) k hk1 hk2
        have xa := bestB_max (b ++ b) j (min j 200) k hk1 hk2
        have xb := (mlen_twice b 66 (j - k) j (by omega) hj).2
        by_cases hs : 3 ≤ b.length - j
        · unfold packF
          rw [if_pos (by omega), if_pos hlt, if_neg (by omega), if_neg (by omega)]
          have := packF_second b h66 (by omega) n (j + (bestB (b ++ b) j (min j 200)).1) (by omega) (by omega) (by omega)
          simp only [List.length_append, List.length_cons, List.length_nil] at this ⊢
          omega
        · have hpl : (plainP plain).length ≤ (packF b (m + 1) j plain).length := by
            have key : ∀ (m j : Nat) (plain : List Int), (plainP plain).length ≤ (packF b m j plain).length := by
              intro m
              induction m with
              | zero => intro j plain; exact Nat.le_refl _
              | succ m ihm =>
                intro j plain
                unfold packF
                split
                · split
                  · have := ihm (j + 1) (plain ++ [b.getD j 0])
                    rw [plainP_len] at this ⊢
                    rw [List.length_append, List.length_singleton] at this
                    omega
                  · simp only [List.length_append]; omega
                · exact Nat.le_refl _
            exact key _ _ _
          by_cases hX : (bestB (b ++ b) j (min j 200)).1 < 3
          · unfold packF
            rw [if_pos (by omega), if_pos hlt, if_pos hX, if_pos (by omega), hg]
            exact ih n _ _ (by omega) (by omega) (by omega)
          · conv => lhs; unfold packF
            rw [if_pos (by omega), if_neg hX]
            have := packF_second b h66 (by omega) n (j + (bestB (b ++ b) j (min j 200)).1) (by omega) (by omega) (by omega)
            simp only [List.length_append, List.length_cons, List.length_nil] at this ⊢
            omega
    · obtain rfl : j = b.length := by omega
      have e1 : (packF b (m + 1) b.length plain).length = (plainP plain).length := by unfold packF; rw [if_neg (by omega)]
      rw [e1]
      unfold packF
      rw [if_pos (by omega), best_second b h66 _ (Nat.le_refl _) (by omega) (by omega), if_neg (by omega)]
      have := packF_second b h66 (by omega) n (b.length + (2 * b.length - b.length)) (by omega) (by omega) (by omega)
      simp only [List.length_append, List.length_cons, List.length_nil] at this ⊢
      omega
theorem packP_twice {b : List Int} (h66 : b.length ≤ 66) (h3 : 3 ≤ b.length) : (packP (b ++ b)).length ≤ (packP b).length + 6 :=
  packF_twice b h66 h3 _ _ 0 [] (by omega) (by rw [List.length_append]; omega) (by omega)
-- P5

/-- a batch -/
structure Bat where
  packed : Bool
  mark : Bool
  prod : Int
  epoch : Int
  seq : Int
  recs : List Rec

/-- the record at a place of a row -/
def recAt (rs : List Rec) (i : Nat) : Rec := rs.getD i Rec.zero
theorem recAt_in {rs : List Rec} {i : Nat} (h : i < rs.length) : recAt rs i = rs[i] := by simp [recAt, h]
theorem recAt_mem {rs : List Rec} {i : Nat} (h : i < rs.length) : recAt rs i ∈ rs := by rw [recAt_in h]; exact List.getElem_mem h
theorem recAt_app1 {rs ss : List Rec} {i : Nat} (h : i < rs.length) : recAt (rs ++ ss) i = recAt rs i := by
  rw [recAt_in (by simp; omega), recAt_in h, List.getElem_append_left h]
theorem recAt_app2 {rs : List Rec} {r : Rec} : recAt (rs ++ [r]) rs.length = r := by
  simp [recAt]
theorem recAt_ext {rs ss : List Rec} (hl : rs.length = ss.length) (h : ∀ i, i < rs.length → recAt rs i = recAt ss i) : rs = ss := by
  apply List.ext_getElem hl
  intro i h1 h2
  have := h i h1
  rwa [recAt_in h1, recAt_in h2] at this
/-- the record at a place is valid and behind the one before -/
def stepOk (rs : List Rec) (i : Nat) : Bool := recOk (recAt rs i) && (decide (i = 0) || decide ((recAt rs (i - 1)).off < (recAt rs i).off))
/-- all records are valid, with ascending offsets -/
def ordOk (rs : List Rec) : Bool := (List.range rs.length).all (stepOk rs)
theorem ordOk_iff {rs : List Rec} : ordOk rs = true ↔ ∀ i, i < rs.length → stepOk rs i = true := by
  unfold ordOk
  rw [List.all_eq_true]
  exact ⟨fun h i hi => h i (List.mem_range.2 hi), fun h i hi => h i (List.mem_range.1 hi)⟩
theorem ordOk_no {rs : List Rec} {i : Nat} (hi : i < rs.length) (h : stepOk rs i = false) : ordOk rs = false := by
  cases e : ordOk rs with
  | false => rfl
  | true => rw [ordOk_iff.1 e i hi] at h; cases h
theorem stepOk_iff {rs : List Rec} {i : Nat} : stepOk rs i = true ↔ recOk (recAt rs i) = true ∧ (i = 0 ∨ (recAt rs (i - 1)).off < (recAt rs i).off) := by
  unfold stepOk
  simp only [Bool.and_eq_true, Bool.or_eq_true, decide_eq_true_eq]
/-- the producer of a batch, its epoch and its number are valid -/
def prodOk (mark : Bool) (prod epoch seq : Int) : Bool :=
  if prod = 255 then !mark && decide (epoch = 0) && decide (seq = 0) else inR prod 0 254 && inR epoch 0 99 && inR seq 0 9999
def batOk (b : Bat) : Bool := inR b.recs.length 1 6 && (!b.mark || decide (b.recs.length = 1)) && prodOk b.mark b.prod b.epoch b.seq && ordOk b.recs
theorem batOk_iff {b : Bat} : batOk b = true ↔ (1 ≤ b.recs.length ∧ b.recs.length ≤ 6) ∧ (b.mark = true → b.recs.length = 1) ∧ prodOk b.mark b.prod b.epoch b.seq = true ∧ ordOk b.recs = true := by
  unfold batOk
  simp only [Bool.and_eq_true, Bool.or_eq_true, decide_eq_true_eq, inR_iff]
  constructor
  · rintro ⟨⟨⟨⟨h1, h2⟩, h3⟩, h4⟩, h5⟩
    refine ⟨⟨by omega, by omega⟩, fun hm => ?_, h4, h5⟩
    rw [hm] at h3
    simpa using h3
  · rintro ⟨⟨h1, h2⟩, h3, h4, h5⟩
    refine ⟨⟨⟨⟨by omega, by omega⟩, ?_⟩, h4⟩, h5⟩
    cases hm : b.mark with
    | false => exact .inl rfl
    | true => exact .inr (h3 hm)
/-- the test as the model makes it -/
theorem batOk_model (b : Bat) : batOk b = (ordOk b.recs && inR b.recs.length 1 6 && inR b.prod 0 255 && inR b.epoch 0 99 && inR b.seq 0 9999 &&
    (if b.prod = 255 then decide (b.epoch = 0) && decide (b.seq = 0) && !b.mark else !b.mark || decide (b.recs.length = 1))) := by
  obtain ⟨packed, mark, prod, epoch, seq, recs⟩ := b
  unfold batOk prodOk
  simp only
  generalize ordOk recs = o
  generalize recs.length = n
  rw [Bool.eq_iff_iff]
  by_cases h : prod = 255
  · subst h
    cases mark <;> cases o <;> simp [inR] <;> omega
  · simp only [h, if_false]
    cases mark <;> cases o <;> simp [inR] <;> omega
theorem ordOk_off {rs : List Rec} (h : ordOk rs = true) {i j : Nat} (hij : i ≤ j) (hj : j < rs.length) : (recAt rs i).off + ((j - i : Nat) : Int) ≤ (recAt rs j).off := by
  induction j with
  | zero => obtain rfl : i = 0 := by omega
            simp
  | succ j ih =>
    by_cases e : i = j + 1
    · subst e; simp
    · have h1 := ih (by omega) (by omega)
      have h2 := (stepOk_iff.1 (ordOk_iff.1 h (j + 1) hj)).2
      simp only [Nat.add_sub_cancel, Nat.succ_ne_zero, false_or] at h2
      omega
theorem ordOk_rec {rs : List Rec} (h : ordOk rs = true) {i : Nat} (hi : i < rs.length) : recOk (recAt rs i) = true := (stepOk_iff.1 (ordOk_iff.1 h i hi)).1
/-- the first and the last offset -/
def spanF (b : Bat) : Int := if batOk b = true then (recAt b.recs 0).off else 0
def spanL (b : Bat) : Int := if batOk b = true then (recAt b.recs (b.recs.length - 1)).off else 0
end Go.Proofs.Ytfapeppocfodpaa
