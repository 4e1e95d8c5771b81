/- Chapter 5, plain functions on batches. -/
import Derived.Test.YtomlejfilfdnbaaP3b
namespace Go.Proofs.Ytomlejfilfdnbaa
set_option linter.unusedVariables false

/-- a batch -/
structure Bat where
  packed : Bool
  mark : Bool
  prod : Int
  epoch : Int
  seq : Int
  recs : List Rec

/-- the record at a place of a row -/
def recAt (rs : List Rec) (i : Nat) : Rec := rs.getD i Rec.zero
theorem recAt_in {rs : List Rec} {i : Nat} (h : i < rs.length) : recAt rs i = rs[i] := by simp [recAt, h]
theorem recAt_mem {rs : List Rec} {i : Nat} (h : i < rs.length) : recAt rs i ∈ rs := by rw [recAt_in h]; exact List.getElem_mem h
theorem recAt_app1 {rs ss : List Rec} {i : Nat} (h : i < rs.length) : recAt (rs ++ ss) i = recAt rs i := by
  rw [recAt_in (by simp; omega), recAt_in h, List.getElem_append_left h]
theorem recAt_app2 {rs : List Rec} {r : Rec} : recAt (rs ++ [r]) rs.length = r := by
  simp [recAt]
theorem recAt_ext {rs ss : List Rec} (hl : rs.length = ss.length) (h : ∀ i, i < rs.length → recAt rs i = recAt ss i) : rs = ss := by
  apply List.ext_getElem hl
  intro i h1 h2
  have := h i h1
  rwa [recAt_in h1, recAt_in h2] at this
/-- the record at a place is valid and behind the one before -/
def stepOk (rs : List Rec) (i : Nat) : Bool := recOk (recAt rs i) && (decide (i = 0) || decide ((recAt rs (i - 1)).off < (recAt rs i).off))
/-- all records are valid, with ascending offsets -/
def ordOk (rs : List Rec) : Bool := (List.range rs.length).all (stepOk rs)
theorem ordOk_iff {rs : List Rec} : ordOk rs = true ↔ ∀ i, i < rs.length → stepOk rs i = true := by
  unfold ordOk
  rw [List.all_eq_true]
  exact ⟨fun h i hi => h i (List.mem_range.2 hi), fun h i hi => h i (List.mem_range.1 hi)⟩
theorem ordOk_no {rs : List Rec} {i : Nat} (hi : i < rs.length) (h : stepOk rs i = false) : ordOk rs = false := by
  cases e : ordOk rs with
  | false => rfl
  | true => rw [ordOk_iff.1 e i hi] at h; cases h
theorem stepOk_iff {rs : List Rec} {i : Nat} : stepOk rs i = true ↔ recOk (recAt rs i) = true ∧ (i = 0 ∨ (recAt rs (i - 1)).off < (recAt rs i).off) := by
  unfold stepOk
  simp only [Bool.and_eq_true, Bool.or_eq_true, decide_eq_true_eq]
/-- the producer of a batch, its epoch and its number are valid -/
def prodOk (mark : Bool) (prod epoch seq : Int) : Bool :=
  if prod = 255 then !mark && decide (epoch = 0) && decide (seq = 0) else inR prod 0 254 && inR epoch 0 99 && inR seq 0 9999
def batOk (b : Bat) : Bool := inR b.recs.length 1 6 && (!b.mark || decide (b.recs.length = 1)) && prodOk b.mark b.prod b.epoch b.seq && ordOk b.recs
theorem batOk_iff {b : Bat} : batOk b = true ↔ (1 ≤ b.recs.length ∧ b.recs.length ≤ 6) ∧ (b.mark = true → b.recs.length = 1) ∧ prodOk b.mark b.prod b.epoch b.seq = true ∧ ordOk b.recs = true := by
  unfold batOk
  simp only [Bool.and_eq_true, Bool.or_eq_true, decide_eq_true_eq, inR_iff]
  constructor
  · rintro ⟨⟨⟨⟨h1, h2⟩, h3⟩, h4⟩, h5⟩
    refine ⟨⟨by omega, by omega⟩, fun hm => ?_, h4, h5⟩
    rw [hm] at h3
    simpa using h3
  · rintro ⟨⟨h1, h2⟩, h3, h4, h5⟩
    refine ⟨⟨⟨⟨by omega, by omega⟩, ?_⟩, h4⟩, h5⟩
    cases hm : b.mark with
    | false => exact .inl rfl
    | true => exact .inr (h3 hm)
/-- the test as the model makes it -/
theorem batOk_model (b : Bat) : batOk b = (ordOk b.recs && inR b.recs.length 1 6 && inR b.prod 0 255 && inR b.epoch 0 99 && inR b.seq 0 9999 &&
    (if b.prod = 255 then decide (b.epoch = 0) && decide (b.seq = 0) && !b.mark else !b.mark || decide (b.recs.length = 1))) := by
  obtain ⟨packed, mark, prod, epoch, seq, recs⟩ := b
  unfold batOk prodOk
  simp only
  generalize ordOk recs = o
  generalize recs.length = n
  rw [Bool.eq_iff_iff]
  by_cases h : prod = 255
  · subst h
    cases mark <;> cases o <;> simp [inR] <;> omega
  · simp only [h, if_false]
    cases mark <;> cases o <;> simp [inR] <;> omega
theorem ordOk_off {rs : List Rec} (h : ordOk rs = true) {i j : Nat} (hij : i ≤ j) (hj : j < rs.length) : (recAt rs i).off + ((j - i : Nat) : Int) ≤ (recAt rs j).off := by
  induction j with
  | zero => obtain rfl : i = 0 := by omega
            simp
  | succ j ih =>
    by_cases e : i = j + 1
    · subst e; simp
    · have h1 := ih (by omega) (by omega)
      have h2 := (stepOk_iff.1 (ordOk_iff.1 h (j + 1) hj)).2
      simp only [Nat.add_sub_cancel, Nat.succ_ne_zero, false_or] at h2
      omega
theorem ordOk_rec {rs : List Rec} (h : ordOk rs = true) {i : Nat} (hi : i < rs.length) : recOk (recAt rs i) = true := (stepOk_iff.1 (ordOk_iff.1 h i hi)).1
/-- the first and the last offset -/
def spanF (b : Bat) : Int := if batOk b = true then (recAt b.recs 0).off else 0
def spanL (b : Bat) : Int := if batOk b = true then (recAt b.recs (b.recs.length - 1)).off else 0
end Go.Proofs.Ytomlejfilfdnbaa
