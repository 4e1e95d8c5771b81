/- Chapter 2: what the functions on numbers without a sign answer. -/
import Derived.Test.YtkdikdkeaomobaaA1
import Derived.Test.YtkdikdkeaomobaaP2
namespace Go.Proofs.Ytkdikdkeaomobaa
open Go.ChangeShapes Go.WideShapes Go.ChangeAt Go.RowKit
set_option linter.unusedVariables false

/-- a slice of the call's own: one number is stored -/
theorem Own.store {w : World} {base g n cap : Nat} {xs : List Int} (h : Own w base (.slice (some ⟨g, 0, none⟩) n cap) xs) (hn : n = xs.length) (i : Nat) (hi : i < n) (x : Int) :
    (∃ old, w.cell? ⟨g, i, none⟩ = some (.int .i64 old)) ∧ w.frozen? ⟨g, i, none⟩ = false ∧ Own (w.setCell ⟨g, i, none⟩ (.int .i64 x)) base (.slice (some ⟨g, 0, none⟩) n cap) (xs.set i x) ∧ w.grownBy (w.setCell ⟨g, i, none⟩ (.int .i64 x)) (some g) := by
  subst hn
  have hc := World.ownsRow.cellAt h i (by omega)
  have hf := World.ownsRow.frozenAt h i
  have hst := World.ownsRow.stored h i (.int .i64 x)
  refine ⟨⟨xs.getD i 0, ?_⟩, hf, ?_, hst.2⟩
  · rw [hc]; simp [List.getD, hi]
  · unfold Own
    rw [List.length_set, List.map_set]
    exact hst.1

def okI (n many : Int) : Bool := decide (1 ≤ many) && decide (many ≤ 3) && decide (0 ≤ n) && decide (n < 256 ^ many.toNat)
def intB (n many : Int) : List Int := if okI n many = true then sfx many.toNat n else []
theorem intB_no {n many : Int} (h : okI n many = false) : intB n many = [] := by unfold intB; rw [h]; rfl
theorem intB_yes {n many : Int} (h : okI n many = true) : intB n many = sfx many.toNat n := if_pos h
theorem okI_yes {n : Int} {m : Nat} (h : okI n (m : Int) = true) : 1 ≤ m ∧ m ≤ 3 ∧ 0 ≤ n ∧ n < 256 ^ m := by
  unfold okI at h
  simp only [Bool.and_eq_true, decide_eq_true_eq, Int.toNat_natCast] at h
  exact ⟨by omega, by omega, h.1.2, h.2⟩
theorem okI_mk {n : Int} {m : Nat} (h1 : 1 ≤ m) (h2 : m ≤ 3) (h3 : 0 ≤ n) (h4 : n < 256 ^ m) : okI n (m : Int) = true := by
  unfold okI
  simp only [Bool.and_eq_true, decide_eq_true_eq, Int.toNat_natCast]
  exact ⟨⟨⟨by omega, by omega⟩, h3⟩, h4⟩
theorem okI_many {n many : Int} (h : okI n many = true) : ∃ m : Nat, many = (m : Int) ∧ 1 ≤ m ∧ m ≤ 3 := by
  unfold okI at h
  simp only [Bool.and_eq_true, decide_eq_true_eq] at h
  exact ⟨many.toNat, by omega, by omega, by omega⟩
theorem okI_off {n many : Int} (h : many < 1 ∨ 3 < many) : okI n many = false := by
  unfold okI
  rcases h with h | h
  · rw [decide_eq_false (show ¬ 1 ≤ many by omega)]; rfl
  · rw [decide_eq_false (show ¬ many ≤ 3 by omega)]; simp
theorem okI_neg {n many : Int} (h : n < 0) : okI n many = false := by
  unfold okI; rw [decide_eq_false (show ¬ 0 ≤ n by omega)]; simp
theorem okI_big {n : Int} {m : Nat} (h : ¬ n < 256 ^ m) : okI n (m : Int) = false := by
  unfold okI; rw [Int.toNat_natCast, decide_eq_false h]; simp

def sizeB (n : Int) : Bool := decide (1 ≤ n) && decide (n ≤ 3)
theorem sizeB_yes {n : Int} (h : 1 ≤ n) (h2 : n ≤ 3) : sizeB n = true := by unfold sizeB; rw [decide_eq_true h, decide_eq_true h2]; rfl
theorem sizeB_no {n : Int} (h : n < 1 ∨ 3 < n) : sizeB n = false := by
  unfold sizeB
  rcases h with h | h
  · rw [decide_eq_false (show ¬ 1 ≤ n by omega)]; rfl
  · rw [decide_eq_false (show ¬ n ≤ 3 by omega)]; simp

theorem pow256_le (m : Nat) (h : m ≤ 3) : (256 : Int) ^ m ≤ 16777216 := by
  match m, h with
  | 0, _ => decide
  | 1, _ => decide
  | 2, _ => decide
  | 3, _ => decide

theorem okI_no {n : Int} {m : Nat} (h1 : 1 ≤ m) (h2 : m ≤ 3) (h : okI n (m : Int) = false) : n < 0 ∨ 256 ^ m ≤ n := by
  rcases Int.lt_or_le n 0 with h0 | h0
  · exact .inl h0
  · rcases Int.lt_or_le n (256 ^ m) with h4 | h4
    · rw [okI_mk h1 h2 h0 h4] at h; cases h
    · exact .inr h4

theorem shr_test {n : Int} {m : Nat} (h1 : 1 ≤ m) (h2 : m ≤ 3) (h0 : 0 ≤ n) : (n / 256 ^ m != 0) = !okI n (m : Int) := by
  cases hok : okI n (m : Int) with
  | true =>
    obtain ⟨_, _, n0, n1⟩ := okI_yes hok
    rw [Int.ediv_eq_zero_of_lt n0 n1]; rfl
  | false =>
    rcases okI_no h1 h2 hok with h | h
    · omega
    · have := Int.le_ediv_of_mul_le (a := 1) (b := n) (c := 256 ^ m) (Int.pow_pos (by omega)) (by omega)
      rw [Bool.not_false, bne_iff_ne]
      omega

end Go.Proofs.Ytkdikdkeaomobaa
