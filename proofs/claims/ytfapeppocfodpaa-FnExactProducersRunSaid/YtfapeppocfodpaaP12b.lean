/- Chapter 21, plain functions on producers: one less, one twice. -/
import Derived.Test.YtfapeppocfodpaaP12
namespace Go.Proofs.Ytfapeppocfodpaa
set_option linter.unusedVariables false

theorem stepT_iff {ts : List Trm} {i : Nat} : stepT ts i = true ↔ termOk (tAt ts i) = true ∧ (i = 0 ∨ (tAt ts (i - 1)).num < (tAt ts i).num) := by
  unfold stepT
  simp only [Bool.and_eq_true, Bool.or_eq_true, decide_eq_true_eq]
theorem tsOk_up {ts : List Trm} (h : tsOk ts = true) {i j : Nat} (hij : i < j) (hj : j < ts.length) : (tAt ts i).num < (tAt ts j).num := by
  induction j with
  | zero => omega
  | succ j ih =>
    have s := stepT_iff.1 ((tsOk_iff.1 h).2 (j + 1) hj)
    rcases s.2 with s0 | s0
    · omega
    · rw [Nat.add_sub_cancel] at s0
      by_cases e : i = j
      · subst e; exact s0
      · have := ih (by omega) (by omega); omega
/-- without any one term -/
theorem tsOk_less {ts : List Trm} (h : tsOk ts = true) (k : Nat) : tsOk (ts.take k ++ ts.drop (k + 1)) = true := by
  by_cases hk : k < ts.length
  · have hl : (ts.take k).length = k := by rw [List.length_take]; omega
    have at1 : ∀ i, i < k → tAt (ts.take k ++ ts.drop (k + 1)) i = tAt ts i := fun i hi => by rw [tAt_app1 (by omega), tAt_take hi]
    have at2 : ∀ i, k ≤ i → tAt (ts.take k ++ ts.drop (k + 1)) i = tAt ts (i + 1) := fun i hi => by
      have e : tAt (ts.take k ++ ts.drop (k + 1)) i = tAt (ts.drop (k + 1)) (i - k) := by
        unfold tAt List.getD
        rw [List.getElem?_append_right (by omega), hl]
      rw [e, tAt_drop, show k + 1 + (i - k) = i + 1 by omega]
    have hn : (ts.take k ++ ts.drop (k + 1)).length = ts.length - 1 := by rw [List.length_append, hl, List.length_drop]; omega
    have h8 := (tsOk_iff.1 h).1
    refine tsOk_iff.2 ⟨by omega, fun i hi => stepT_iff.2 ?_⟩
    rw [hn] at hi
    have mono : ∀ j, j < ts.length → termOk (tAt ts j) = true := fun j hj => (stepT_iff.1 ((tsOk_iff.1 h).2 j hj)).1
    by_cases h0 : i = 0
    · refine ⟨?_, .inl h0⟩
      by_cases hik : i < k
      · rw [at1 i hik]; exact mono i (by omega)
      · rw [at2 i (by omega)]; exact mono (i + 1) (by omega)
    · by_cases hik : i < k
      · rw [at1 i hik, at1 (i - 1) (by omega)]
        exact ⟨mono i (by omega), .inr (tsOk_up h (by omega) (by omega))⟩
      · rw [at2 i (by omega)]
        refine ⟨mono (i + 1) (by omega), .inr ?_⟩
        by_cases hik1 : i - 1 < k
        · rw [at1 (i - 1) hik1]; exact tsOk_up h (by omega) (by omega)
        · rw [at2 (i - 1) (by omega)]; exact tsOk_up h (by omega) (by omega)
  · rw [List.take_of_length_le (by omega), List.drop_eq_nil_of_le (by omega), List.append_nil]; exact h
/-- one term twice -/
theorem tsOk_twice {ts : List Trm} {k : Nat} (hk : k < ts.length) : tsOk (ts.take (k + 1) ++ ts.drop k) = false := by
  have hl : (ts.take (k + 1)).length = k + 1 := by rw [List.length_take]; omega
  have hn : (ts.take (k + 1) ++ ts.drop k).length = ts.length + 1 := by rw [List.length_append, hl, List.length_drop]; omega
  cases e : tsOk (ts.take (k + 1) ++ ts.drop k) with
  | false => rfl
  | true =>
    have u := tsOk_up e (i := k) (j := k + 1) (by omega) (by omega)
    have e1 : tAt (ts.take (k + 1) ++ ts.drop k) k = tAt ts k := by rw [tAt_app1 (by omega), tAt_take (by omega)]
    have e2 : tAt (ts.take (k + 1) ++ ts.drop k) (k + 1) = tAt ts k := by
      have e3 : tAt (ts.take (k + 1) ++ ts.drop k) (k + 1) = tAt (ts.drop k) (k + 1 - (k + 1)) := by
        unfold tAt List.getD
        rw [List.getElem?_append_right (by omega), hl]
      rw [e3, tAt_drop, show k + (k + 1 - (k + 1)) = k by omega]
    rw [e1, e2] at u
    omega
end Go.Proofs.Ytfapeppocfodpaa
