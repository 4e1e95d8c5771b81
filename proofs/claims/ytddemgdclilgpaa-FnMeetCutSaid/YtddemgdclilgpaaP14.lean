/- Chapter 23, plain functions on terms. -/
import Derived.Test.YtddemgdclilgpaaA0
namespace Go.Proofs.Ytddemgdclilgpaa
set_option linter.unusedVariables false

/-- a term -/
structure Trm where
  num : Int
  first : Int
def Trm.zero : Trm := ⟨0, 0⟩
theorem Trm.same {s t : Trm} (h : s.num = t.num) (k : s.first = t.first) : s = t := by
  obtain ⟨a, b⟩ := s
  obtain ⟨c, d⟩ := t
  simp only at h k
  rw [h, k]
/-- the term at a place of a row -/
def tAt (ts : List Trm) (i : Nat) : Trm := ts.getD i Trm.zero
theorem tAt_in {ts : List Trm} {i : Nat} (h : i < ts.length) : tAt ts i = ts[i] := by simp [tAt, h]
theorem tAt_app1 {ts ss : List Trm} {i : Nat} (h : i < ts.length) : tAt (ts ++ ss) i = tAt ts i := by
  rw [tAt_in (by simp; omega), tAt_in h, List.getElem_append_left h]
theorem tAt_app2 {ts : List Trm} {t : Trm} : tAt (ts ++ [t]) ts.length = t := by simp [tAt]
theorem tAt_take {ts : List Trm} {n i : Nat} (h : i < n) : tAt (ts.take n) i = tAt ts i := by simp [tAt, List.getD, h]
theorem tAt_drop {ts : List Trm} {n i : Nat} : tAt (ts.drop n) i = tAt ts (n + i) := by simp [tAt, List.getD]
theorem tAt_ext {ts ss : List Trm} (hl : ts.length = ss.length) (h : ∀ i, i < ts.length → tAt ts i = tAt ss i) : ts = ss := by
  apply List.ext_getElem hl
  intro i h1 h2
  have := h i h1
  rwa [tAt_in h1, tAt_in h2] at this
theorem take_snocT (ts : List Trm) (k : Nat) (h : k < ts.length) : ts.take (k + 1) = ts.take k ++ [tAt ts k] := by
  rw [List.take_succ_eq_append_getElem h, tAt_in h]

def termOk (t : Trm) : Bool := inR t.num 0 999 && inR t.first 0 99999
/-- the term at a place is valid and behind the one before -/
def stepT (ts : List Trm) (i : Nat) : Bool := termOk (tAt ts i) && (decide (i = 0) || (decide ((tAt ts (i - 1)).num < (tAt ts i).num) && decide ((tAt ts (i - 1)).first < (tAt ts i).first)))
def ordT (ts : List Trm) : Bool := (List.range ts.length).all (stepT ts)
def tsOk (ts : List Trm) : Bool := decide (ts.length ≤ 8) && ordT ts
theorem inR_iffT {n lo hi : Int} : inR n lo hi = true ↔ lo ≤ n ∧ n ≤ hi := by unfold inR; simp
theorem termOk_iff {t : Trm} : termOk t = true ↔ (0 ≤ t.num ∧ t.num ≤ 999) ∧ 0 ≤ t.first ∧ t.first ≤ 99999 := by
  unfold termOk
  simp only [Bool.and_eq_true, inR_iffT]
theorem stepT_iff {ts : List Trm} {i : Nat} : stepT ts i = true ↔ termOk (tAt ts i) = true ∧ (i = 0 ∨ ((tAt ts (i - 1)).num < (tAt ts i).num ∧ (tAt ts (i - 1)).first < (tAt ts i).first)) := by
  unfold stepT
  simp only [Bool.and_eq_true, Bool.or_eq_true, decide_eq_true_eq]
theorem ordT_iff {ts : List Trm} : ordT ts = true ↔ ∀ i, i < ts.length → stepT ts i = true := by
  unfold ordT
  rw [List.all_eq_true]
  exact ⟨fun h i hi => h i (List.mem_range.2 hi), fun h i hi => h i (List.mem_range.1 hi)⟩
theorem ordT_no {ts : List Trm} {i : Nat} (hi : i < ts.length) (h : stepT ts i = false) : ordT ts = false := by
  cases e : ordT ts with
  | false => rfl
  | true => rw [ordT_iff.1 e i hi] at h; cases h
theorem tsOk_no {ts : List Trm} {i : Nat} (hi : i < ts.length) (h : stepT ts i = false) : tsOk ts = false := by
  unfold tsOk
  rw [ordT_no hi h, Bool.and_false]
theorem tsOk_long {ts : List Trm} (h : 8 < ts.length) : tsOk ts = false := by
  unfold tsOk
  rw [decide_eq_false (by omega), Bool.false_and]
theorem tsOk_iff {ts : List Trm} : tsOk ts = true ↔ ts.length ≤ 8 ∧ ∀ i, i < ts.length → stepT ts i = true := by
  unfold tsOk
  rw [Bool.and_eq_true, ordT_iff, decide_eq_true_eq]
theorem tsOk_in {ts : List Trm} (h : tsOk ts = true) {i : Nat} (hi : i < ts.length) : (0 ≤ (tAt ts i).num ∧ (tAt ts i).num ≤ 999) ∧ 0 ≤ (tAt ts i).first ∧ (tAt ts i).first ≤ 99999 :=
  termOk_iff.1 (stepT_iff.1 ((tsOk_iff.1 h).2 i hi)).1
theorem tsOk_up {ts : List Trm} (h : tsOk ts = true) {i j : Nat} (hij : i < j) (hj : j < ts.length) : (tAt ts i).num < (tAt ts j).num ∧ (tAt ts i).first < (tAt ts j).first := by
  induction j with
  | zero => omega
  | succ j ih =>
    have s := stepT_iff.1 ((tsOk_iff.1 h).2 (j + 1) hj)
    rcases s.2 with s0 | s0
    · omega
    · rw [Nat.add_sub_cancel] at s0
      by_cases e : i = j
      · subst e; exact s0
      · have := ih (by omega) (by omega); omega
theorem tsOk_inj {ts : List Trm} (h : tsOk ts = true) {i j : Nat} (hi : i < ts.length) (hj : j < ts.length) (e : (tAt ts i).num = (tAt ts j).num) : i = j := by
  rcases Nat.lt_trichotomy i j with q | q | q
  · have := (tsOk_up h q hj).1; omega
  · exact q
  · have := (tsOk_up h q hi).1; omega
theorem tsOk_take {ts : List Trm} (h : tsOk ts = true) (n : Nat) : tsOk (ts.take n) = true := by
  obtain ⟨h1, h2⟩ := tsOk_iff.1 h
  refine tsOk_iff.2 ⟨by rw [List.length_take]; omega, fun i hi => ?_⟩
  rw [List.length_take] at hi
  have s := stepT_iff.1 (h2 i (by omega))
  refine stepT_iff.2 ?_
  rw [tAt_take (by omega), tAt_take (by omega)]
  exact s
theorem tsOk_snoc {ts : List Trm} {t : Trm} : tsOk (ts ++ [t]) = true ↔ tsOk ts = true ∧ ts.length ≤ 7 ∧ termOk t = true ∧ (ts.length = 0 ∨ ((tAt ts (ts.length - 1)).num < t.num ∧ (tAt ts (ts.length - 1)).first < t.first)) := by
  have hl : (ts ++ [t]).length = ts.length + 1 := by simp
  constructor
  · intro h
    obtain ⟨h1, h2⟩ := tsOk_iff.1 h
    rw [hl] at h1 h2
    have s := stepT_iff.1 (h2 ts.length (by omega))
    rw [tAt_app2] at s
    refine ⟨?_, by omega, s.1, ?_⟩
    · have := tsOk_take h ts.length
      rwa [List.take_left] at this
    · rcases s.2 with s0 | s0
      · exact .inl s0
      · by_cases e : ts.length = 0
        · exact .inl e
        · rw [tAt_app1 (by omega)] at s0
          exact .inr s0
  · rintro ⟨h1, h2, h3, h4⟩
    refine tsOk_iff.2 ⟨by omega, fun i hi => stepT_iff.2 ?_⟩
    rw [hl] at hi
    by_cases e : i = ts.length
    · subst e
      rw [tAt_app2]
      refine ⟨h3, ?_⟩
      rcases h4 with h4 | h4
      · exact .inl h4
      · by_cases e : ts.length = 0
        · exact .inl e
        · rw [tAt_app1 (by omega)]; exact .inr h4
    · rw [tAt_app1 (by omega), tAt_app1 (by omega)]
      exact stepT_iff.1 ((tsOk_iff.1 h1).2 i (by omega))
theorem tsOk_nil : tsOk [] = true := rfl
/-- without any one term -/
theorem tsOk_less {ts : List Trm} (h : tsOk ts = true) (k : Nat) : tsOk (ts.take k ++ ts.drop (k + 1)) = true := by
  by_cases hk : k < ts.length
  · have hl : (ts.take k).length = k := by rw [List.length_take]; omega
    have at1 : ∀ i, i < k → tAt (ts.take k ++ ts.drop (k + 1)) i = tAt ts i := fun i hi => by rw [tAt_app1 (by omega), tAt_take hi]
    have at2 : ∀ i, k ≤ i → tAt (ts.take k ++ ts.drop (k + 1)) i = tAt ts (i + 1) := fun i hi => by
      have e : tAt (ts.take k ++ ts.drop (k + 1)) i = tAt (ts.drop (k + 1)) (i - k) := by
        unfold tAt List.getD
        rw [List.getElem?_append_right (by omega), hl]
      rw [e, tAt_drop, show k + 1 + (i - k) = i + 1 by omega]
    have hn : (ts.take k ++ ts.drop (k + 1)).length = ts.length - 1 := by rw [List.length_append, hl, List.length_drop]; omega
    have h8 := (tsOk_iff.1 h).1
    refine tsOk_iff.2 ⟨by omega, fun i hi => stepT_iff.2 ?_⟩
    rw [hn] at hi
    have mono : ∀ j, j < ts.length → termOk (tAt ts j) = true := fun j hj => (stepT_iff.1 ((tsOk_iff.1 h).2 j hj)).1
    by_cases h0 : i = 0
    · refine ⟨?_, .inl h0⟩
      by_cases hik : i < k
      · rw [at1 i hik]; exact mono i (by omega)
      · rw [at2 i (by omega)]; exact mono (i + 1) (by omega)
    · by_cases hik : i < k
      · rw [at1 i hik, at1 (i - 1) (by omega)]
        exact ⟨mono i (by omega), .inr (tsOk_up h (by omega) (by omega))⟩
      · rw [at2 i (by omega)]
        refine ⟨mono (i + 1) (by omega), .inr ?_⟩
        by_cases hik1 : i - 1 < k
        · rw [at1 (i - 1) hik1]; exact tsOk_up h (by omega) (by omega)
        · rw [at2 (i - 1) (by omega)]; exact tsOk_up h (by omega) (by omega)
  · rw [List.take_of_length_le (by omega), List.drop_eq_nil_of_le (by omega), List.append_nil]; exact h
/-- one term twice -/
theorem tsOk_twice {ts : List Trm} {k : Nat} (hk : k < ts.length) : tsOk (ts.take (k + 1) ++ ts.drop k) = false := by
  have hl : (ts.take (k + 1)).length = k + 1 := by rw [List.length_take]; omega
  have hn : (ts.take (k + 1) ++ ts.drop k).length = ts.length + 1 := by rw [List.length_append, hl, List.length_drop]; omega
  cases e : tsOk (ts.take (k + 1) ++ ts.drop k) with
  | false => rfl
  | true =>
    have u := (tsOk_up e (i := k) (j := k + 1) (by omega) (by omega)).1
    have e1 : tAt (ts.take (k + 1) ++ ts.drop k) k = tAt ts k := by rw [tAt_app1 (by omega), tAt_take (by omega)]
    have e2 : tAt (ts.take (k + 1) ++ ts.drop k) (k + 1) = tAt ts k := by
      have e3 : tAt (ts.take (k + 1) ++ ts.drop k) (k + 1) = tAt (ts.drop k) (k + 1 - (k + 1)) := by
        unfold tAt List.getD
        rw [List.getElem?_append_right (by omega), hl]
      rw [e3, tAt_drop, show k + (k + 1 - (k + 1)) = k by omega]
    rw [e1, e2] at u
    omega

def putL (ts : List Trm) (t : Trm) : List Trm := if tsOk (ts ++ [t]) = true then ts ++ [t] else []
/-- an end of terms is valid -/
def endOk (ts : List Trm) (e : Int) : Bool := tsOk ts && (inR e 0 100000 && (decide (ts.length = 0) || decide ((tAt ts (ts.length - 1)).first < e)))
theorem endOk_iff {ts : List Trm} {e : Int} : endOk ts e = true ↔ tsOk ts = true ∧ (0 ≤ e ∧ e ≤ 100000) ∧ (ts.length = 0 ∨ (tAt ts (ts.length - 1)).first < e) := by
  unfold endOk
  simp only [Bool.and_eq_true, Bool.or_eq_true, decide_eq_true_eq, inR_iffT]
/-- the place of the term with a number, or the length -/
def findN (ts : List Trm) (n : Int) : Nat := ts.findIdx fun t => decide (t.num = n)
theorem findN_at {ts : List Trm} {n : Int} {i : Nat} (hi : i < ts.length) (h : (tAt ts i).num = n) (hb : ∀ j, j < i → (tAt ts j).num ≠ n) : findN ts n = i := by
  unfold findN
  rw [List.findIdx_eq hi]
  rw [← tAt_in hi]
  refine ⟨by simp [h], fun j hj => ?_⟩
  rw [← tAt_in (show j < ts.length by omega)]
  simp [hb j hj]
theorem findN_none {ts : List Trm} {n : Int} (h : ∀ j, j < ts.length → (tAt ts j).num ≠ n) : findN ts n = ts.length := by
  unfold findN
  rw [List.findIdx_eq_length]
  intro t ht
  obtain ⟨j, hj, rfl⟩ := List.getElem_of_mem ht
  have := h j hj
  rw [tAt_in hj] at this
  simp [this]
theorem findN_num {ts : List Trm} {n : Int} (h : findN ts n < ts.length) : (tAt ts (findN ts n)).num = n := by
  have := List.findIdx_getElem (p := fun t : Trm => decide (t.num = n)) (xs := ts) (w := h)
  rw [tAt_in h]
  exact of_decide_eq_true this
theorem findN_uniq {ts : List Trm} (ok : tsOk ts = true) {n : Int} {i : Nat} (hi : i < ts.length) (h : (tAt ts i).num = n) : findN ts n = i :=
  findN_at hi h fun j hj e => by have := (tsOk_up ok hj hi).1; omega
theorem findN_le (ts : List Trm) (n : Int) : findN ts n ≤ ts.length := List.findIdx_le_length
/-- where the term at a place ends -/
def endAtT (ts : List Trm) (i : Nat) (e : Int) : Int := if i + 1 < ts.length then (tAt ts (i + 1)).first else e
def endT (ts : List Trm) (n e : Int) : Int := if (endOk ts e && decide (findN ts n < ts.length)) = true then endAtT ts (findN ts n) e else -1
theorem endT_yes {ts : List Trm} {n e : Int} {i : Nat} (h : endOk ts e = true) (hi : i < ts.length) (hn : (tAt ts i).num = n) (hb : ∀ j, j < i → (tAt ts j).num ≠ n) : endT ts n e = endAtT ts i e := by
  unfold endT
  rw [h, findN_at hi hn hb, decide_eq_true hi]
  rfl
theorem endT_no {ts : List Trm} {n e : Int} (hb : ∀ j, j < ts.length → (tAt ts j).num ≠ n) : endT ts n e = -1 := by
  unfold endT
  rw [findN_none hb, decide_eq_false (by omega), Bool.and_false]
  rfl
theorem endT_bad {ts : List Trm} {n e : Int} (h : endOk ts e = false) : endT ts n e = -1 := by
  unfold endT
  rw [h]
  rfl
/-- a term ends behind its first offset, and not behind the end of all -/
theorem endAt_in {ts : List Trm} {e : Int} (h : endOk ts e = true) {i : Nat} (hi : i < ts.length) : (tAt ts i).first < endAtT ts i e ∧ endAtT ts i e ≤ e := by
  obtain ⟨h1, h2, h3⟩ := endOk_iff.1 h
  have h3' : (tAt ts (ts.length - 1)).first < e := by omega
  unfold endAtT
  split
  · rename_i hlt
    have := (tsOk_up h1 (i := i) (j := i + 1) (by omega) hlt).2
    refine ⟨this, ?_⟩
    by_cases q : i + 1 = ts.length - 1
    · rw [q]; omega
    · have := (tsOk_up h1 (i := i + 1) (j := ts.length - 1) (by omega) (by omega)).2
      omega
  · rename_i hlt
    obtain rfl : i = ts.length - 1 := by omega
    exact ⟨h3', Int.le_refl _⟩
theorem endT_pos {ts : List Trm} {n e : Int} (h : 0 ≤ endT ts n e) : endOk ts e = true ∧ ∃ i, i < ts.length ∧ (tAt ts i).num = n ∧ endT ts n e = endAtT ts i e ∧ ∀ j, j < i → (tAt ts j).num ≠ n := by
  by_cases hc : (endOk ts e && decide (findN ts n < ts.length)) = true
  · obtain ⟨h1, h2⟩ := Bool.and_eq_true_iff.1 hc
    have h2' := of_decide_eq_true h2
    have hn := findN_num h2'
    refine ⟨h1, findN ts n, h2', hn, ?_, fun j hj e => ?_⟩
    · unfold endT; rw [if_pos hc]
    · have ok := (endOk_iff.1 h1).1
      have := (tsOk_up ok hj h2').1
      omega
  · unfold endT at h; rw [if_neg hc] at h; omega
/-- terms that begin ahead of an offset -/
def cutF (ts : List Trm) (o : Int) : List Trm := ts.filter fun t => decide (t.first < o)
def cutL (ts : List Trm) (o : Int) : List Trm := if tsOk ts = true then cutF ts o else []
theorem cutF_snoc (ts : List Trm) (t : Trm) (o : Int) : cutF (ts ++ [t]) o = if t.first < o then cutF ts o ++ [t] else cutF ts o := by
  unfold cutF
  rw [List.filter_append]
  split
  · rename_i h; simp [h]
  · rename_i h; simp [h]
theorem cutF_len (ts : List Trm) (o : Int) : (cutF ts o).length ≤ ts.length := List.length_filter_le _ _
theorem cutF_take {ts : List Trm} (ok : tsOk ts = true) (o : Int) (k : Nat) (hk : k ≤ ts.length) : ∃ n, n ≤ k ∧ cutF (ts.take k) o = ts.take n ∧ (∀ i, i < n → (tAt ts i).first < o) ∧ (n = k ∨ o ≤ (tAt ts n).first) := by
  induction k with
  | zero => exact ⟨0, by omega, by simp [cutF], fun i hi => by omega, .inl rfl⟩
  | succ k ih =>
    obtain ⟨n, h1, h2, h3, h4⟩ := ih (by omega)
    rw [take_snocT ts k (by omega), cutF_snoc, h2]
    by_cases q : (tAt ts k).first < o
    · rcases h4 with h4 | h4
      · subst h4
        rw [if_pos q]
        refine ⟨n + 1, by omega, (take_snocT ts n (by omega)).symm, fun i hi => ?_, .inl rfl⟩
        by_cases e : i = n
        · subst e; exact q
        · exact h3 i (by omega)
      · by_cases e : n = k
        · subst e; omega
        · have := (tsOk_up ok (i := n) (j := k) (by omega) (by omega)).2; omega
    · rw [if_neg q]
      refine ⟨n, by omega, rfl, h3, .inr ?_⟩
      rcases h4 with h4 | h4
      · subst h4; omega
      · exact h4
theorem cut_take {ts : List Trm} (ok : tsOk ts = true) (o : Int) : ∃ n, n ≤ ts.length ∧ cutF ts o = ts.take n ∧ (∀ i, i < n → (tAt ts i).first < o) ∧ (n = ts.length ∨ o ≤ (tAt ts n).first) := by
  have := cutF_take ok o ts.length (Nat.le_refl _)
  rwa [List.take_length] at this
theorem cutF_twice (ts : List Trm) (o : Int) : cutF (cutF ts o) o = cutF ts o := by
  unfold cutF
  rw [List.filter_filter]
  simp
theorem cutF_less {ts : List Trm} {o p : Int} (h : p ≤ o) : (cutF ts p).length ≤ (cutF ts o).length := by
  induction ts with
  | nil => simp [cutF]
  | cons t ts ih =>
    unfold cutF at ih ⊢
    rw [List.filter_cons, List.filter_cons]
    by_cases h1 : t.first < p
    · have h2 : t.first < o := by omega
      simp [h1, h2]
      exact ih
    · by_cases h2 : t.first < o
      · simp [h1, h2]
        exact Nat.le_succ_of_le ih
      · simp [h1, h2]
        exact ih

/-- the term at place i of a is one of b -/
def comT (a b : List Trm) (i : Nat) : Bool := decide (findN b (tAt a i).num < b.length) && decide ((tAt b (findN b (tAt a i).num)).first = (tAt a i).first)
def meetV (a : List Trm) (ea : Int) (b : List Trm) (eb : Int) (i : Nat) : Int := min (endAtT a i ea) (endAtT b (findN b (tAt a i).num) eb)
def meetF (a : List Trm) (ea : Int) (b : List Trm) (eb : Int) : Nat → Int
  | 0 => 0
  | k + 1 => if comT a b k = true then meetV a ea b eb k else meetF a ea b eb k
def meetI (a : List Trm) (ea : Int) (b : List Trm) (eb : Int) : Int := if (endOk a ea && endOk b eb) = true then meetF a ea b eb a.length else -1
theorem comT_iff {a b : List Trm} (ok : tsOk b = true) {i : Nat} : comT a b i = true ↔ ∃ k, k < b.length ∧ tAt b k = tAt a i := by
  unfold comT
  simp only [Bool.and_eq_true, decide_eq_true_eq]
  constructor
  · rintro ⟨h1, h2⟩
    exact ⟨_, h1, Trm.same (findN_num h1) h2⟩
  · rintro ⟨k, hk, e⟩
    have := findN_uniq ok hk (n := (tAt a i).num) (by rw [e])
    rw [this]
    exact ⟨hk, by rw [e]⟩
theorem comT_at {a b : List Trm} (ok : tsOk b = true) {i k : Nat} (hk : k < b.length) (e : tAt b k = tAt a i) : comT a b i = true ∧ findN b (tAt a i).num = k :=
  ⟨(comT_iff ok).2 ⟨k, hk, e⟩, findN_uniq ok hk (by rw [e])⟩
theorem comT_no {a b : List Trm} (ok : tsOk b = true) {i : Nat} (h : ∀ k, k < b.length → tAt b k ≠ tAt a i) : comT a b i = false := by
  cases e : comT a b i with
  | false => rfl
  | true => obtain ⟨k, hk, q⟩ := (comT_iff ok).1 e; exact absurd q (h k hk)
theorem meetF_char (a : List Trm) (ea : Int) (b : List Trm) (eb : Int) (n : Nat) : (meetF a ea b eb n = 0 ∧ ∀ i, i < n → comT a b i = false) ∨ ∃ i, i < n ∧ comT a b i = true ∧ (∀ j, i < j → j < n → comT a b j = false) ∧ meetF a ea b eb n = meetV a ea b eb i := by
  induction n with
  | zero => exact .inl ⟨rfl, fun i hi => by omega⟩
  | succ n ih =>
    unfold meetF
    cases e : comT a b n with
    | true => exact .inr ⟨n, by omega, e, fun j h1 h2 => by omega, by simp⟩
    | false =>
      simp only [Bool.false_eq_true, if_false]
      rcases ih with ⟨h1, h2⟩ | ⟨i, h1, h2, h3, h4⟩
      · refine .inl ⟨h1, fun i hi => ?_⟩
        by_cases q : i = n
        · subst q; exact e
        · exact h2 i (by omega)
      · refine .inr ⟨i, by omega, h2, fun j hj hn => ?_, h4⟩
        by_cases q : j = n
        · subst q; exact e
        · exact h3 j hj (by omega)
theorem meetI_yes {a : List Trm} {ea : Int} {b : List Trm} {eb : Int} (h : endOk a ea = true) (k : endOk b eb = true) : meetI a ea b eb = meetF a ea b eb a.length := by
  unfold meetI
  rw [h, k]
  rfl
theorem meetI_bad {a : List Trm} {ea : Int} {b : List Trm} {eb : Int} (h : (endOk a ea && endOk b eb) = false) : meetI a ea b eb = -1 := by
  unfold meetI
  rw [h]
  rfl
theorem meetI_pos {a : List Trm} {ea : Int} {b : List Trm} {eb : Int} (h : 0 ≤ meetI a ea b eb) : endOk a ea = true ∧ endOk b eb = true := by
  by_cases hc : (endOk a ea && endOk b eb) = true
  · exact Bool.and_eq_true_iff.1 hc
  · unfold meetI at h; rw [if_neg hc] at h; omega
/-- what two rows of terms have in common -/
theorem meet_char {a : List Trm} {ea : Int} {b : List Trm} {eb : Int} (h : endOk a ea = true) (k : endOk b eb = true) :
    (meetI a ea b eb = 0 ∧ ∀ i j, i < a.length → j < b.length → tAt b j ≠ tAt a i) ∨
    ∃ i j, i < a.length ∧ j < b.length ∧ tAt b j = tAt a i ∧ (∀ i' j', i' < a.length → j' < b.length → tAt b j' = tAt a i' → i' ≤ i) ∧ meetI a ea b eb = min (endAtT a i ea) (endAtT b j eb) := by
  have okb := (endOk_iff.1 k).1
  rw [meetI_yes h k]
  rcases meetF_char a ea b eb a.length with ⟨h1, h2⟩ | ⟨i, h1, h2, h3, h4⟩
  · refine .inl ⟨h1, fun i j hi hj e => ?_⟩
    have := h2 i hi
    rw [(comT_at okb hj e).1] at this
    cases this
  · obtain ⟨j, hj, e⟩ := (comT_iff okb).1 h2
    refine .inr ⟨i, j, h1, hj, e, fun i' j' hi' hj' e' => ?_, ?_⟩
    · rcases Nat.lt_or_ge i i' with q | q
      · have := h3 i' q hi'
        rw [(comT_at okb hj' e').1] at this
        cases this
      · exact q
    · rw [h4]
      unfold meetV
      rw [(comT_at okb hj e).2]
theorem meet_le {a : List Trm} {ea : Int} {b : List Trm} {eb : Int} (h : endOk a ea = true) (k : endOk b eb = true) : 0 ≤ meetI a ea b eb ∧ meetI a ea b eb ≤ ea ∧ meetI a ea b eb ≤ eb := by
  have ra := (endOk_iff.1 h).2.1
  have rb := (endOk_iff.1 k).2.1
  rcases meet_char h k with ⟨h1, h2⟩ | ⟨i, j, hi, hj, e, hm, hv⟩
  · omega
  · have q1 := endAt_in h hi
    have q2 := endAt_in k hj
    have q3 := (tsOk_in (endOk_iff.1 h).1 hi).2.1
    have q4 := (tsOk_in (endOk_iff.1 k).1 hj).2.1
    omega
theorem meet_comm {a : List Trm} {ea : Int} {b : List Trm} {eb : Int} (h : endOk a ea = true) (k : endOk b eb = true) : meetI b eb a ea = meetI a ea b eb := by
  have oka := (endOk_iff.1 h).1
  have okb := (endOk_iff.1 k).1
  rcases meet_char h k with ⟨h1, h2⟩ | ⟨i, j, hi, hj, e, hm, hv⟩ <;> rcases meet_char k h with ⟨g1, g2⟩ | ⟨j', i', hj', hi', e', hm', hv'⟩
  · omega
  · exact absurd e'.symm (h2 i' j' hi' hj')
  · exact absurd e.symm (g2 j i hj hi)
  · have m1 := hm i' j' hi' hj' e'.symm
    have m2 := hm' j i hj hi e.symm
    have e3 : i' = i := by
      rcases Nat.lt_or_ge i' i with q | q
      · exfalso
        have u1 := (tsOk_up oka q hi).1
        rw [← e, e'] at u1
        rcases Nat.lt_or_ge j j' with r | r
        · have := (tsOk_up okb r hj').1; omega
        · have : j = j' := by omega
          subst this; omega
      · omega
    subst e3
    have e4 : j' = j := tsOk_inj okb hj' hj (by rw [e, e'])
    subst e4
    rw [hv, hv']
    omega
theorem meet_self {a : List Trm} {ea : Int} (h : endOk a ea = true) : meetI a ea a ea = if a.length = 0 then 0 else ea := by
  rcases meet_char h h with ⟨h1, h2⟩ | ⟨i, j, hi, hj, e, hm, hv⟩
  · rw [h1]
    split
    · rfl
    · rename_i h0; exact absurd rfl (h2 0 0 (by omega) (by omega))
  · rw [if_neg (by omega)]
    have m := hm (a.length - 1) (a.length - 1) (by omega) (by omega) rfl
    have oka := (endOk_iff.1 h).1
    have e3 : j = i := tsOk_inj oka hj hi (by rw [e])
    subst e3
    rw [hv]
    unfold endAtT
    rw [if_neg (by omega)]
    omega
/-- cut to what is common -/
theorem meet_cut {a : List Trm} {ea : Int} {b : List Trm} {eb : Int} (h : endOk a ea = true) (k : endOk b eb = true) (hp : 1 ≤ meetI a ea b eb) :
    0 < (cutF a (meetI a ea b eb)).length ∧ ((∀ i, i < (cutF a (meetI a ea b eb)).length → i < (cutF b (meetI a ea b eb)).length → tAt (cutF a (meetI a ea b eb)) i = tAt (cutF b (meetI a ea b eb)) i) → (cutF a (meetI a ea b eb)).length = (cutF b (meetI a ea b eb)).length) := by
  have oka := (endOk_iff.1 h).1
  have okb := (endOk_iff.1 k).1
  rcases meet_char h k with ⟨h1, h2⟩ | ⟨i, j, hi, hj, e, hm, hv⟩
  · omega
  · obtain ⟨o, ho⟩ : ∃ o, meetI a ea b eb = o := ⟨_, rfl⟩
    rw [ho] at hv ⊢
    have q1 := endAt_in h hi
    have q2 := endAt_in k hj
    rw [e] at q2
    have qi : (tAt a i).first < o := by omega
    have key : ∀ {c : List Trm} {ec : Int} {m : Nat}, tsOk c = true → m < c.length → (tAt c m).first < o → o ≤ endAtT c m ec → cutF c o = c.take (m + 1) := fun {c ec m} okc hmc hlo hle => by
      obtain ⟨n, n1, n2, n3, n4⟩ := cut_take okc o
      rw [n2]
      have l1 : m < n := by
        rcases Nat.lt_or_ge m n with q | q
        · exact q
        · exfalso
          rcases n4 with n4 | n4
          · omega
          · by_cases r : n = m
            · subst r; omega
            · have := (tsOk_up okc (i := n) (j := m) (by omega) hmc).2; omega
      have l2 : n ≤ m + 1 := by
        rcases Nat.lt_or_ge (m + 1) n with q | q
        · exfalso
          have := n3 (m + 1) q
          unfold endAtT at hle
          rw [if_pos (by omega)] at hle
          omega
        · exact q
      rw [show n = m + 1 by omega]
    have ca := key (ec := ea) oka hi qi (by omega)
    have cb := key (ec := eb) okb hj (by rw [e]; exact qi) (by omega)
    rw [ca, cb]
    have la : (a.take (i + 1)).length = i + 1 := by rw [List.length_take]; omega
    have lb : (b.take (j + 1)).length = j + 1 := by rw [List.length_take]; omega
    rw [la, lb]
    refine ⟨by omega, fun same => ?_⟩
    rcases Nat.lt_trichotomy i j with q | q | q
    · have s := same i (by omega) (by omega)
      rw [tAt_take (by omega), tAt_take (by omega), ← e] at s
      have := tsOk_inj okb (i := j) (j := i) hj (by omega) (by rw [s])
      omega
    · omega
    · have s := same j (by omega) (by omega)
      rw [tAt_take (by omega), tAt_take (by omega), e] at s
      have := tsOk_inj oka (i := j) (j := i) (by omega) hi (by rw [s])
      omega
end Go.Proofs.Ytddemgdclilgpaa
