/- Chapter 4, plain: the best of the places with the same three numbers is the best of all. -/
import Derived.Test.YtkdikdkeaomobaaM0
namespace Go.Proofs.Ytkdikdkeaomobaa
set_option linter.unusedVariables false

/-- one further place -/
def stepP (xs : List Int) (j : Nat) (g : Nat × Nat) (p : Nat) : Nat × Nat := if g.1 ≤ mlen xs 66 p j then (mlen xs 66 p j, j - p) else g
def BestOf (xs : List Int) (j : Nat) (seen : List Nat) (g : Nat × Nat) : Prop :=
  (seen = [] ∧ g = (0, 0)) ∨ ∃ p ∈ seen, g = (mlen xs 66 p j, j - p) ∧ ∀ q ∈ seen, mlen xs 66 q j ≤ mlen xs 66 p j ∧ (p < q → mlen xs 66 q j < mlen xs 66 p j)
theorem bestOf_step {xs : List Int} {j : Nat} {seen : List Nat} {g : Nat × Nat} {a : Nat} (h : BestOf xs j seen g) (ha : ∀ q ∈ seen, q < a) : BestOf xs j (seen ++ [a]) (stepP xs j g a) := by
  unfold stepP
  by_cases hg : g.1 ≤ mlen xs 66 a j
  · rw [if_pos hg]
    refine .inr ⟨a, by simp, rfl, fun q hq => ?_⟩
    rcases List.mem_append.1 hq with hq | hq
    · have hqa := ha q hq
      rcases h with ⟨rfl, _⟩ | ⟨p, hp, rfl, hall⟩
      · simp at hq
      · have := (hall q hq).1
        simp only at hg
        exact ⟨by omega, fun _ => by omega⟩
    · obtain rfl : q = a := by simpa using hq
      exact ⟨Nat.le_refl _, fun _ => by omega⟩
  · rw [if_neg hg]
    rcases h with ⟨rfl, rfl⟩ | ⟨p, hp, rfl, hall⟩
    · simp at hg
    · refine .inr ⟨p, List.mem_append_left _ hp, rfl, fun q hq => ?_⟩
      rcases List.mem_append.1 hq with hq | hq
      · exact hall q hq
      · obtain rfl : q = a := by simpa using hq
        simp only at hg
        exact ⟨by omega, fun _ => by omega⟩
theorem bestOf_fold {xs : List Int} {j : Nat} : ∀ (ps seen : List Nat) (g : Nat × Nat), (seen ++ ps).Pairwise (· < ·) → BestOf xs j seen g → BestOf xs j (seen ++ ps) (ps.foldl (stepP xs j) g)
  | [], seen, g, _, h => by simpa using h
  | a :: ps, seen, g, hp, h => by
    have e : seen ++ a :: ps = (seen ++ [a]) ++ ps := by simp
    rw [e] at hp ⊢
    refine bestOf_fold ps (seen ++ [a]) _ hp (bestOf_step h fun q hq => ?_)
    have h1 := (List.pairwise_append.1 hp).1
    exact (List.pairwise_append.1 h1).2.2 q hq a (by simp)
theorem plcOf_mem {xs : List Int} {n q p : Nat} : p ∈ plcOf xs n q ↔ p < n ∧ p + 3 ≤ xs.length ∧ xs.getD p 0 = xs.getD q 0 ∧ xs.getD (p + 1) 0 = xs.getD (q + 1) 0 ∧ xs.getD (p + 2) 0 = xs.getD (q + 2) 0 := by
  unfold plcOf
  rw [List.mem_filter, List.mem_range, decide_eq_true_eq]
theorem plcOf_sorted (xs : List Int) (n q : Nat) : (plcOf xs n q).Pairwise (· < ·) := List.Pairwise.filter _ List.pairwise_lt_range
/-- the best match at a place that the program finds: how long, how far back -/
def lngI (xs : List Int) (j : Nat) : Nat × Nat := if j + 3 ≤ xs.length then (plcOf xs j j).foldl (stepP xs j) (0, 0) else (0, 0)
theorem mlen_three {xs : List Int} {p j : Nat} (hj : j + 3 ≤ xs.length) : 3 ≤ mlen xs 66 p j ↔ xs.getD p 0 = xs.getD j 0 ∧ xs.getD (p + 1) 0 = xs.getD (j + 1) 0 ∧ xs.getD (p + 2) 0 = xs.getD (j + 2) 0 := by
  constructor
  · intro h
    exact ⟨(mlen_at xs 66 p j 0 (by omega)).2, (mlen_at xs 66 p j 1 (by omega)).2, (mlen_at xs 66 p j 2 (by omega)).2⟩
  · rintro ⟨h0, h1, h2⟩
    unfold mlen
    rw [if_pos ⟨by omega, h0⟩]
    unfold mlen
    rw [if_pos ⟨by omega, h1⟩]
    unfold mlen
    rw [if_pos ⟨by omega, h2⟩]
    omega
theorem lng_best (xs : List Int) (j : Nat) : ((bestB xs j j).1 < 3 ∧ lngI xs j = (0, 0)) ∨ (3 ≤ (bestB xs j j).1 ∧ lngI xs j = bestB xs j j) := by
  unfold lngI
  by_cases hj : j + 3 ≤ xs.length
  · rw [if_pos hj]
    have hf := bestOf_fold (xs := xs) (j := j) (plcOf xs j j) [] (0, 0) (by simpa using plcOf_sorted xs j j) (.inl ⟨rfl, rfl⟩)
    rw [List.nil_append] at hf
    rcases hf with ⟨h0, h1⟩ | ⟨p, hp, he, hall⟩
    · refine .inl ⟨bestB_none (fun q hq1 hq2 => ?_) (by omega), h1⟩
      rcases Nat.lt_or_ge (mlen xs 66 (j - q) j) 3 with h | h
      · exact h
      · have : j - q ∈ plcOf xs j j := plcOf_mem.2 ⟨by omega, by omega, (mlen_three hj).1 h⟩
        rw [h0] at this
        simp at this
    · obtain ⟨q1, q2, q3⟩ := plcOf_mem.1 hp
      have h3 := (mlen_three hj).2 q3
      have e : j - (j - p) = p := by omega
      have hb : bestB xs j j = (mlen xs 66 (j - (j - p)) j, j - p) := by
        refine bestB_eq (by omega) (by omega) (by rw [e]; omega) (fun q hq1 hq2 => ?_) (fun q hq1 hq2 => ?_)
        · rw [e]
          rcases Nat.lt_or_ge (mlen xs 66 (j - q) j) 3 with h | h
          · omega
          · exact (hall (j - q) (plcOf_mem.2 ⟨by omega, by omega, (mlen_three hj).1 h⟩)).1
        · rw [e]
          rcases Nat.lt_or_ge (mlen xs 66 (j - q) j) 3 with h | h
          · omega
          · exact (hall (j - q) (plcOf_mem.2 ⟨by omega, by omega, (mlen_three hj).1 h⟩)).2 (by omega)
      rw [e] at hb
      rw [hb]
      exact .inr ⟨h3, he⟩
  · rw [if_neg hj]
    refine .inl ⟨bestB_none (fun q hq1 hq2 => ?_) (by omega), rfl⟩
    have := mlen_in xs 66 (j - q) j
    omega
end Go.Proofs.Ytkdikdkeaomobaa
