/- Chapter 1, more plain facts on numbers of several bytes. -/
import Derived.Test.YtomlejfilfdnbaaBase
import Derived.Test.YtomlejfilfdnbaaP1
namespace Go.Proofs.Ytomlejfilfdnbaa
set_option linter.unusedVariables false

theorem varF_cases (x : Int) (h0 : 0 ≤ x) (h1 : x ≤ 2000000) :
    (x < 128 ∧ varF 2 x = [x]) ∨ (128 ≤ x ∧ x < 16384 ∧ varF 2 x = [128 + x % 128, x / 128]) ∨ (16384 ≤ x ∧ varF 2 x = [128 + x % 128, 128 + x / 128 % 128, x / 128 / 128]) := by
  by_cases a : x < 128
  · exact .inl ⟨a, by simp [varF, a]⟩
  · by_cases b : x / 128 < 128
    · exact .inr (.inl ⟨by omega, by omega, by simp [varF, a, b]⟩)
    · exact .inr (.inr ⟨by omega, by simp [varF, a, b]⟩)
theorem joinV_varF (x : Int) (h0 : 0 ≤ x) (h1 : x ≤ 2000000) : joinV (varF 2 x) = (x, ((varF 2 x).length : Int)) := by
  rcases varF_cases x h0 h1 with ⟨a, e⟩ | ⟨a, b, e⟩ | ⟨a, e⟩
  · rw [e]; simp [joinV, a]
  · rw [e]
    have n1 : ¬ (128 + x % 128 < 128) := by omega
    have n2 : x / 128 < 128 := by omega
    have n3 : ¬ x / 128 = 0 := by omega
    simp [joinV, joinV.joinV1, n1, n2, n3]; omega
  · rw [e]
    have n1 : ¬ (128 + x % 128 < 128) := by omega
    have n2 : ¬ (128 + x / 128 % 128 < 128) := by omega
    have n3 : x / 128 / 128 < 128 := by omega
    have n4 : ¬ x / 128 / 128 = 0 := by omega
    simp [joinV, joinV.joinV1, joinV.joinV2, n1, n2, n3, n4]; omega
theorem varF_ok (x : Int) (h0 : 0 ≤ x) (h1 : x ≤ 2000000) : okBs (varF 2 x) = true := by
  rcases varF_cases x h0 h1 with ⟨a, e⟩ | ⟨a, b, e⟩ | ⟨a, e⟩
  · rw [e]; simp [okBs]; omega
  · rw [e]; simp [okBs]; omega
  · rw [e]; simp [okBs]; omega
theorem varF_shape (x : Int) (h0 : 0 ≤ x) (h1 : x ≤ 2000000) (i : Nat) (hi : i < (varF 2 x).length) : decide (128 ≤ (varF 2 x).getD i 0) = decide (i + 1 < (varF 2 x).length) := by
  rcases varF_cases x h0 h1 with ⟨a, e⟩ | ⟨a, b, e⟩ | ⟨a, e⟩
  · rw [e] at hi ⊢
    match i, hi with
    | 0, _ => simp; omega
  · rw [e] at hi ⊢
    match i, hi with
    | 0, _ => simp; omega
    | 1, _ => simp; omega
  · rw [e] at hi ⊢
    match i, hi with
    | 0, _ => simp; omega
    | 1, _ => simp; omega
    | 2, _ => simp; omega
theorem joinV_inv (ys : List Int) (h : ∀ i, i < ys.length → 0 ≤ ys.getD i 0 ∧ ys.getD i 0 ≤ 255) (h2 : (joinV ys).2 ≠ 0) (h1 : (joinV ys).1 ≤ 2000000) :
    ∃ m : Nat, (joinV ys).2 = (m : Int) ∧ 1 ≤ m ∧ m ≤ ys.length ∧ varF 2 (joinV ys).1 = ys.take m ∧ (joinV (ys.take (m - 1))).2 = 0 := by
  match ys, h, h2, h1 with
  | [], _, h2, _ => exact absurd rfl h2
  | a :: t, h, h2, h1 =>
    have r0 := h 0 (by simp)
    simp only [List.getD_cons_zero] at r0
    by_cases ha : a < 128
    · rw [show joinV (a :: t) = (a, 1) from by simp [joinV, ha]]
      refine ⟨1, rfl, Nat.le_refl _, by simp, ?_, rfl⟩
      show varF 2 a = _
      rw [varF, if_pos ha]; rfl
    · have e0 : joinV (a :: t) = joinV.joinV1 a t := by simp [joinV, ha]
      rw [e0] at h2 h1 ⊢
      match t, h, h2, h1 with
      | [], _, h2, _ => exact absurd rfl h2
      | b :: t, h, h2, h1 =>
        have r1 := h 1 (by simp)
        simp only [List.getD_cons_zero, List.getD_cons_succ] at r1
        by_cases hb : b < 128
        · by_cases hb0 : b = 0
          · rw [show joinV.joinV1 a (b :: t) = (0, 0) from by simp [joinV.joinV1, hb0]] at h2
            exact absurd rfl h2
          · rw [show joinV.joinV1 a (b :: t) = (a % 128 + b * 128, 2) from by simp [joinV.joinV1, hb, hb0]]
            refine ⟨2, rfl, by omega, by simp, ?_, by simp [joinV, ha, joinV.joinV1]⟩
            show varF 2 (a % 128 + b * 128) = [a, b]
            have x1 : (a % 128 + b * 128) / 128 = b := by omega
            rw [varF, if_neg (by omega), x1, varF, if_pos hb]
            congr 1
            omega
        · have e1 : joinV.joinV1 a (b :: t) = joinV.joinV2 a b t := by simp [joinV.joinV1, hb]
          rw [e1] at h2 h1 ⊢
          match t, h, h2, h1 with
          | [], _, h2, _ => exact absurd rfl h2
          | c :: t, h, h2, h1 =>
            have r2 := h 2 (by simp)
            simp only [List.getD_cons_zero, List.getD_cons_succ] at r2
            by_cases hc : c < 128
            · by_cases hc0 : c = 0
              · rw [show joinV.joinV2 a b (c :: t) = (0, 0) from by simp [joinV.joinV2, hc0]] at h2
                exact absurd rfl h2
              · rw [show joinV.joinV2 a b (c :: t) = (a % 128 + b % 128 * 128 + c * 16384, 3) from by simp [joinV.joinV2, hc, hc0]]
                refine ⟨3, rfl, by omega, by simp, ?_, by simp [joinV, ha, joinV.joinV1, hb, joinV.joinV2]⟩
                show varF 2 (a % 128 + b % 128 * 128 + c * 16384) = [a, b, c]
                have x1 : (a % 128 + b % 128 * 128 + c * 16384) / 128 = b % 128 + c * 128 := by omega
                have x2 : (b % 128 + c * 128) / 128 = c := by omega
                rw [varF, if_neg (by omega), x1, varF, if_neg (by omega), x2, varF]
                congr 1
                · omega
                · congr 1
                  omega
            · rw [show joinV.joinV2 a b (c :: t) = (0, 0) from by simp [joinV.joinV2, hc]] at h2
              exact absurd rfl h2

theorem joinV_app (x : Int) (h0 : 0 ≤ x) (h1 : x ≤ 2000000) (rest : List Int) : joinV (varF 2 x ++ rest) = (x, ((varF 2 x).length : Int)) := by
  rcases varF_cases x h0 h1 with ⟨a, e⟩ | ⟨a, b, e⟩ | ⟨a, e⟩
  · rw [e]; simp [joinV, a]
  · rw [e]
    have n1 : ¬ (128 + x % 128 < 128) := by omega
    have n2 : x / 128 < 128 := by omega
    have n3 : ¬ x / 128 = 0 := by omega
    simp [joinV, joinV.joinV1, n1, n2, n3]; omega
  · rw [e]
    have n1 : ¬ (128 + x % 128 < 128) := by omega
    have n2 : ¬ (128 + x / 128 % 128 < 128) := by omega
    have n3 : x / 128 / 128 < 128 := by omega
    have n4 : ¬ x / 128 / 128 = 0 := by omega
    simp [joinV, joinV.joinV1, joinV.joinV2, n1, n2, n3, n4]; omega
theorem varB_pos {n : Int} (h0 : -1000000 ≤ n) (h1 : n ≤ 1000000) : 1 ≤ (varB n).length := by
  rw [varB_in (by omega) (by omega)]; exact (varF_len 2 _).2
theorem varB_ok {n : Int} (h0 : -1000000 ≤ n) (h1 : n ≤ 1000000) : okBs (varB n) = true := by
  rw [varB_in (by omega) (by omega)]
  have hf := foldP_range h0 h1
  exact varF_ok _ hf.1 hf.2

/-- the number at a place, the place behind it, and whether there is one -/
def rdVar (xs : List Int) (k : Nat) : Int × Int × Bool := rdR k (joinV (xs.drop k))
theorem rdVar_app {xs rest : List Int} {k : Nat} {n : Int} (h0 : -1000000 ≤ n) (h1 : n ≤ 1000000) (h : xs.drop k = varB n ++ rest) : rdVar xs k = (n, ((k + (varB n).length : Nat) : Int), true) := by
  have hf := foldP_range h0 h1
  have hl := varB_pos h0 h1
  unfold rdVar
  rw [varB_in (by omega) (by omega)] at h hl ⊢
  rw [h, joinV_app _ hf.1 hf.2]
  rw [rdR_yes (by show ¬ ((varF 2 (foldP n)).length : Int) = 0; omega) (by show ¬ 2000000 < foldP n; omega)]
  simp [unfoldP_foldP]
theorem rdVar_yes {xs : List Int} (hok : okBs xs = true) {k : Nat} {n nx : Int} (h : rdVar xs k = (n, nx, true)) :
    -1000000 ≤ n ∧ n ≤ 1000000 ∧ nx = ((k + (varB n).length : Nat) : Int) ∧ xs.drop k = varB n ++ xs.drop (k + (varB n).length) ∧ k + (varB n).length ≤ xs.length := by
  unfold rdVar at h
  have hB : ∀ i, i < (xs.drop k).length → 0 ≤ (xs.drop k).getD i 0 ∧ (xs.drop k).getD i 0 ≤ 255 := by
    refine okBs_at ?_
    unfold okBs at hok ⊢
    rw [List.all_eq_true] at hok ⊢
    exact fun x hx => hok x (List.mem_of_mem_drop hx)
  have hb := joinV_bound _ hB
  by_cases hz : (joinV (xs.drop k)).2 = 0
  · rw [rdR_no hz] at h; simp at h
  · by_cases hbig : 2000000 < (joinV (xs.drop k)).1
    · rw [rdR_big hz hbig] at h; simp at h
    · rw [rdR_yes hz hbig] at h
      simp only [Prod.mk.injEq, and_true] at h
      obtain ⟨h1, h2⟩ := h
      obtain ⟨m, hm, m1, m2, m3, m4⟩ := joinV_inv _ hB hz (by omega)
      have hr := unfoldP_range (m := (joinV (xs.drop k)).1) (by omega) (by omega)
      have hf := foldP_unfoldP (joinV (xs.drop k)).1 (by omega)
      rw [h1] at hr hf
      have hv : varB n = (xs.drop k).take m := by rw [varB_in (by omega) (by omega), hf, m3]
      have hl : (varB n).length = m := by rw [hv, List.length_take]; omega
      rw [List.length_drop] at m2
      refine ⟨hr.1, hr.2, by rw [← h2, hm, hl]; simp, ?_, by omega⟩
      rw [hl, hv, ← List.drop_drop, List.take_append_drop]
theorem rdVar_no {xs : List Int} {k : Nat} (h : (rdVar xs k).2.2 = false) : rdVar xs k = (0, 0, false) := by
  unfold rdVar at h ⊢
  by_cases hz : (joinV (xs.drop k)).2 = 0
  · exact rdR_no hz
  · by_cases hbig : 2000000 < (joinV (xs.drop k)).1
    · exact rdR_big hz hbig
    · rw [rdR_yes hz hbig] at h; simp at h
end Go.Proofs.Ytomlejfilfdnbaa
