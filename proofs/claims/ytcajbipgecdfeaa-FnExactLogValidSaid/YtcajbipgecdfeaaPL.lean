/- Chapter 12, plain functions on segments. -/
import Derived.Test.YtcajbipgecdfeaaP5
namespace Go.Proofs.Ytcajbipgecdfeaa
set_option linter.unusedVariables false

def Bat.zero : Bat := ⟨false, false, 0, 0, 0, []⟩
/-- the batch at a place of a row -/
def batN (bs : List Bat) (i : Nat) : Bat := bs.getD i Bat.zero
theorem batN_in {bs : List Bat} {i : Nat} (h : i < bs.length) : batN bs i = bs[i] := by simp [batN, h]
theorem batN_app1 {bs cs : List Bat} {i : Nat} (h : i < bs.length) : batN (bs ++ cs) i = batN bs i := by
  rw [batN_in (by simp; omega), batN_in h, List.getElem_append_left h]
theorem batN_app2 {bs : List Bat} {b : Bat} : batN (bs ++ [b]) bs.length = b := by simp [batN]
theorem batN_take {bs : List Bat} {k i : Nat} (h : i < k) : batN (bs.take k) i = batN bs i := by
  unfold batN
  simp only [List.getD_eq_getElem?_getD, List.getElem?_take]
  rw [if_pos h]
theorem batN_ext {bs cs : List Bat} (hl : bs.length = cs.length) (h : ∀ i, i < bs.length → batN bs i = batN cs i) : bs = cs := by
  apply List.ext_getElem hl
  intro i h1 h2
  have := h i h1
  rwa [batN_in h1, batN_in h2] at this
/-- the first and the last offset, as they stand -/
def firstO (b : Bat) : Int := (recAt b.recs 0).off
def lastO (b : Bat) : Int := (recAt b.recs (b.recs.length - 1)).off
/-- the batch at a place is valid and behind the one before -/
def stepB (bs : List Bat) (i : Nat) : Bool := batOk (batN bs i) && (decide (i = 0) || decide (lastO (batN bs (i - 1)) < firstO (batN bs i)))
def rowB (bs : List Bat) : Bool := (List.range bs.length).all (stepB bs)
def logOk (bs : List Bat) : Bool := decide (bs.length ≤ 8) && rowB bs
theorem rowB_iff {bs : List Bat} : rowB bs = true ↔ ∀ i, i < bs.length → stepB bs i = true := by
  unfold rowB
  rw [List.all_eq_true]
  exact ⟨fun h i hi => h i (List.mem_range.2 hi), fun h i hi => h i (List.mem_range.1 hi)⟩
theorem rowB_no {bs : List Bat} {i : Nat} (hi : i < bs.length) (h : stepB bs i = false) : rowB bs = false := by
  cases e : rowB bs with
  | false => rfl
  | true => rw [rowB_iff.1 e i hi] at h; cases h
theorem stepB_iff {bs : List Bat} {i : Nat} : stepB bs i = true ↔ batOk (batN bs i) = true ∧ (i = 0 ∨ lastO (batN bs (i - 1)) < firstO (batN bs i)) := by
  unfold stepB
  simp only [Bool.and_eq_true, Bool.or_eq_true, decide_eq_true_eq]
theorem logOk_iff {bs : List Bat} : logOk bs = true ↔ bs.length ≤ 8 ∧ ∀ i, i < bs.length → stepB bs i = true := by
  unfold logOk
  rw [Bool.and_eq_true, decide_eq_true_eq, rowB_iff]
theorem firstO_pos {b : Bat} (h : batOk b = true) : 0 ≤ firstO b ∧ firstO b ≤ 99999 := by
  obtain ⟨⟨h1, _⟩, _, _, ho⟩ := batOk_iff.1 h
  exact (recOk_iff.1 (ordOk_rec ho (i := 0) (by omega))).1
theorem lastO_pos {b : Bat} (h : batOk b = true) : 0 ≤ lastO b ∧ lastO b ≤ 99999 := by
  obtain ⟨⟨h1, _⟩, _, _, ho⟩ := batOk_iff.1 h
  exact (recOk_iff.1 (ordOk_rec ho (i := b.recs.length - 1) (by omega))).1
theorem spanF_yes {b : Bat} (h : batOk b = true) : spanF b = firstO b := if_pos h
theorem spanL_yes {b : Bat} (h : batOk b = true) : spanL b = lastO b := if_pos h
/-- the offset behind the last one -/
def endOf (bs : List Bat) : Int := if bs.length = 0 then 0 else lastO (batN bs (bs.length - 1)) + 1
theorem stepB_end {bs : List Bat} {i : Nat} (hi : i < bs.length) : stepB bs i = (batOk (batN bs i) && decide (endOf (bs.take i) ≤ firstO (batN bs i))) := by
  unfold stepB endOf
  rw [List.length_take, Nat.min_eq_left (by omega)]
  by_cases h : i = 0
  · subst h
    cases e : batOk (batN bs 0) with
    | false => rfl
    | true =>
      have := (firstO_pos e).1
      simp [this]
  · rw [if_neg h, batN_take (by omega)]
    have : (decide (i = 0)) = false := decide_eq_false h
    rw [this, Bool.false_or]
    congr 1
end Go.Proofs.Ytcajbipgecdfeaa
