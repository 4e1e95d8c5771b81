/- Chapter 21, plain functions on producers. -/
import Derived.Test.YtfapeppocfodpaaA0
namespace Go.Proofs.Ytfapeppocfodpaa
set_option linter.unusedVariables false

/-- a term -/
structure Trm where
  num : Int
  first : Int
  third : Int
def Trm.zero : Trm := ⟨0, 0, 0⟩
/-- the term at a place of a row -/
def tAt (ts : List Trm) (i : Nat) : Trm := ts.getD i Trm.zero
theorem tAt_in {ts : List Trm} {i : Nat} (h : i < ts.length) : tAt ts i = ts[i] := by simp [tAt, h]
theorem tAt_app1 {ts ss : List Trm} {i : Nat} (h : i < ts.length) : tAt (ts ++ ss) i = tAt ts i := by
  rw [tAt_in (by simp; omega), tAt_in h, List.getElem_append_left h]
theorem tAt_app2 {ts : List Trm} {t : Trm} : tAt (ts ++ [t]) ts.length = t := by simp [tAt]
theorem tAt_take {ts : List Trm} {n i : Nat} (h : i < n) : tAt (ts.take n) i = tAt ts i := by simp [tAt, List.getD, h]
theorem tAt_drop {ts : List Trm} {n i : Nat} : tAt (ts.drop n) i = tAt ts (n + i) := by simp [tAt, List.getD]
theorem tAt_ext {ts ss : List Trm} (hl : ts.length = ss.length) (h : ∀ i, i < ts.length → tAt ts i = tAt ss i) : ts = ss := by
  apply List.ext_getElem hl
  intro i h1 h2
  have := h i h1
  rwa [tAt_in h1, tAt_in h2] at this
theorem take_snocT (ts : List Trm) (k : Nat) (h : k < ts.length) : ts.take (k + 1) = ts.take k ++ [tAt ts k] := by
  rw [List.take_succ_eq_append_getElem h, tAt_in h]

def termOk (t : Trm) : Bool := inR t.num 0 254 && inR t.first 0 99 && inR t.third 0 99999
/-- the term at a place is valid and behind the one before -/
def stepT (ts : List Trm) (i : Nat) : Bool := termOk (tAt ts i) && (decide (i = 0) || decide ((tAt ts (i - 1)).num < (tAt ts i).num))
def ordT (ts : List Trm) : Bool := (List.range ts.length).all (stepT ts)
def tsOk (ts : List Trm) : Bool := decide (ts.length ≤ 20) && ordT ts
theorem ordT_iff {ts : List Trm} : ordT ts = true ↔ ∀ i, i < ts.length → stepT ts i = true := by
  unfold ordT
  rw [List.all_eq_true]
  exact ⟨fun h i hi => h i (List.mem_range.2 hi), fun h i hi => h i (List.mem_range.1 hi)⟩
theorem ordT_no {ts : List Trm} {i : Nat} (hi : i < ts.length) (h : stepT ts i = false) : ordT ts = false := by
  cases e : ordT ts with
  | false => rfl
  | true => rw [ordT_iff.1 e i hi] at h; cases h
theorem tsOk_no {ts : List Trm} {i : Nat} (hi : i < ts.length) (h : stepT ts i = false) : tsOk ts = false := by
  unfold tsOk
  rw [ordT_no hi h, Bool.and_false]
theorem tsOk_long {ts : List Trm} (h : 20 < ts.length) : tsOk ts = false := by
  unfold tsOk
  rw [decide_eq_false (by omega), Bool.false_and]
theorem tsOk_iff {ts : List Trm} : tsOk ts = true ↔ ts.length ≤ 20 ∧ ∀ i, i < ts.length → stepT ts i = true := by
  unfold tsOk
  rw [Bool.and_eq_true, ordT_iff, decide_eq_true_eq]
end Go.Proofs.Ytfapeppocfodpaa
