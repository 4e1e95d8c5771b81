/- Chapter 32, plain functions on groups. -/
import Derived.Test.YtmhgddlkhbkbaaaA0
namespace Go.Proofs.Ytmhgddlkhbkbaaa
set_option linter.unusedVariables false

/-- a group -/
structure Trm where
  name : ByteArray
  next : Int
  fits : name.size ≤ maxLen
def Trm.zero : Trm := ⟨⟨#[]⟩, 0, by decide⟩
theorem name_ext {a b : ByteArray} (h : a.toList = b.toList) : a = b := by
  rw [ByteArray.toList_eq, ByteArray.toList_eq] at h
  obtain ⟨a⟩ := a
  obtain ⟨b⟩ := b
  simp only at h
  rw [Array.toList_inj.1 h]
theorem Trm.same {s t : Trm} (h : s.name = t.name) (k : s.next = t.next) : s = t := by
  obtain ⟨a, b, _⟩ := s
  obtain ⟨c, d, _⟩ := t
  simp only at h k
  subst h k
  rfl
/-- the order of names -/
def bl (a b : ByteArray) : Bool := Op.bytesLess a.toList b.toList
theorem bytesLess_irr (x : List UInt8) : Op.bytesLess x x = false := by
  induction x with
  | nil => rfl
  | cons a x ih => simp [Op.bytesLess, ih]
theorem bytesLess_tr : ∀ {x y z : List UInt8}, Op.bytesLess x y = true → Op.bytesLess y z = true → Op.bytesLess x z = true
  | [], [], _, h, _ => by simp [Op.bytesLess] at h
  | _ :: _, [], _, h, _ => by simp [Op.bytesLess] at h
  | _, _ :: _, [], _, k => by simp [Op.bytesLess] at k
  | [], _ :: _, _ :: _, _, _ => by simp [Op.bytesLess]
  | a :: x, b :: y, c :: z, h, k => by
    simp only [Op.bytesLess, Bool.or_eq_true, Bool.and_eq_true, decide_eq_true_eq, beq_iff_eq] at h k ⊢
    rcases h with h | ⟨rfl, h⟩
    · rcases k with k | ⟨rfl, k⟩
      · exact .inl (UInt8.lt_trans h k)
      · exact .inl h
    · rcases k with k | ⟨rfl, k⟩
      · exact .inl k
      · exact .inr ⟨rfl, bytesLess_tr h k⟩
theorem bytesLess_tot : ∀ {x y : List UInt8}, Op.bytesLess x y = false → Op.bytesLess y x = false → x = y
  | [], [], _, _ => rfl
  | _ :: _, [], _, k => by simp [Op.bytesLess] at k
  | [], _ :: _, h, _ => by simp [Op.bytesLess] at h
  | a :: x, b :: y, h, k => by
    simp only [Op.bytesLess, Bool.or_eq_false_iff, Bool.and_eq_false_iff, decide_eq_false_iff_not, beq_eq_false_iff_ne] at h k
    have e : a = b := UInt8.le_antisymm (UInt8.not_lt.1 k.1) (UInt8.not_lt.1 h.1)
    subst e
    have h2 := h.2.resolve_left (by simp)
    have k2 := k.2.resolve_left (by simp)
    rw [bytesLess_tot h2 k2]
theorem bl_irr (a : ByteArray) : bl a a = false := bytesLess_irr _
theorem bl_tr {a b c : ByteArray} (h : bl a b = true) (k : bl b c = true) : bl a c = true := bytesLess_tr h k
theorem bl_tot {a b : ByteArray} (h : bl a b = false) (k : bl b a = false) : a = b := name_ext (bytesLess_tot h k)
theorem bl_as {a b : ByteArray} (h : bl a b = true) : bl b a = false := by
  cases e : bl b a with
  | false => rfl
  | true => have := bl_tr h e; rw [bl_irr] at this; cases this
theorem bl_ne {a b : ByteArray} (h : bl a b = true) : a ≠ b := fun e => by rw [e, bl_irr] at h; cases h
/-- at most, as the program tells it -/
theorem bl_or (a b : ByteArray) : (Op.bytesLess a.toList b.toList || a.toList == b.toList) = !bl b a := by
  cases h : bl b a with
  | true =>
    have h1 := bl_as h
    have h2 := bl_ne h
    unfold bl at h1
    rw [h1]
    have : (a.toList == b.toList) = false := by
      rw [beq_eq_false_iff_ne]
      exact fun e => h2 (name_ext e).symm
    rw [this]
    rfl
  | false =>
    cases k : bl a b with
    | true => unfold bl at k; rw [k]; rfl
    | false =>
      have := bl_tot h k
      subst this
      simp
/-- the term at a place of a row -/
def tAt (ts : List Trm) (i : Nat) : Trm := ts.getD i Trm.zero
theorem tAt_in {ts : List Trm} {i : Nat} (h : i < ts.length) : tAt ts i = ts[i] := by simp [tAt, h]
theorem tAt_app1 {ts ss : List Trm} {i : Nat} (h : i < ts.length) : tAt (ts ++ ss) i = tAt ts i := by
  rw [tAt_in (by simp; omega), tAt_in h, List.getElem_append_left h]
theorem tAt_app2 {ts : List Trm} {t : Trm} : tAt (ts ++ [t]) ts.length = t := by simp [tAt]
theorem tAt_take {ts : List Trm} {n i : Nat} (h : i < n) : tAt (ts.take n) i = tAt ts i := by simp [tAt, List.getD, h]
theorem tAt_drop {ts : List Trm} {n i : Nat} : tAt (ts.drop n) i = tAt ts (n + i) := by simp [tAt, List.getD]
theorem tAt_ext {ts ss : List Trm} (hl : ts.length = ss.length) (h : ∀ i, i < ts.length → tAt ts i = tAt ss i) : ts = ss := by
  apply List.ext_getElem hl
  intro i h1 h2
  have := h i h1
  rwa [tAt_in h1, tAt_in h2] at this
theorem take_snocT (ts : List Trm) (k : Nat) (h : k < ts.length) : ts.take (k + 1) = ts.take k ++ [tAt ts k] := by
  rw [List.take_succ_eq_append_getElem h, tAt_in h]

/-- the bytes from a place on that are letters -/
def letters (s : ByteArray) : Bool := s.toList.all fun b => decide ((97 : Int) ≤ (b.toNat : Int)) && decide ((b.toNat : Int) ≤ 122)
theorem byte_at (s : ByteArray) (i : Nat) (h : i < s.size) : s[i] = s.toList[i]'(by rw [ByteArray.toList_eq]; exact h) := by
  obtain ⟨s⟩ := s
  simp only [ByteArray.toList_eq]
  rfl
theorem letters_iff {s : ByteArray} : letters s = true ↔ ∀ i (h : i < s.size), (97 : Int) ≤ (s[i].toNat : Int) ∧ (s[i].toNat : Int) ≤ 122 := by
  have hl : s.toList.length = s.size := by rw [ByteArray.toList_eq]; rfl
  unfold letters
  rw [List.all_eq_true]
  constructor
  · intro h i hi
    have := h (s.toList[i]'(by omega)) (List.getElem_mem _)
    rw [← byte_at s i hi] at this
    simp only [Bool.and_eq_true, decide_eq_true_eq] at this
    exact this
  · intro h b hb
    obtain ⟨i, hi, rfl⟩ := List.getElem_of_mem hb
    have := h i (by omega)
    rw [byte_at] at this
    simp only [Bool.and_eq_true, decide_eq_true_eq]
    exact this
theorem letters_no {s : ByteArray} {i : Nat} (h : i < s.size) (k : ¬ ((97 : Int) ≤ (s[i].toNat : Int) ∧ (s[i].toNat : Int) ≤ 122)) : letters s = false := by
  cases e : letters s with
  | false => rfl
  | true => exact absurd (letters_iff.1 e i h) k
theorem inR_iffT {n lo hi : Int} : inR n lo hi = true ↔ lo ≤ n ∧ n ≤ hi := by unfold inR; simp
def nameOk (s : ByteArray) : Bool := letters s && inR (s.size : Int) 1 6
def termOk (t : Trm) : Bool := nameOk t.name && inR t.next 0 100000
/-- the term at a place is valid and behind the one before -/
def stepT (ts : List Trm) (i : Nat) : Bool := termOk (tAt ts i) && (decide (i = 0) || bl (tAt ts (i - 1)).name (tAt ts i).name)
def ordT (ts : List Trm) : Bool := (List.range ts.length).all (stepT ts)
def tsOk (ts : List Trm) : Bool := decide (ts.length ≤ 8) && ordT ts
theorem termOk_iff {t : Trm} : termOk t = true ↔ nameOk t.name = true ∧ 0 ≤ t.next ∧ t.next ≤ 100000 := by
  unfold termOk
  simp only [Bool.and_eq_true, inR_iffT]
theorem stepT_iff {ts : List Trm} {i : Nat} : stepT ts i = true ↔ termOk (tAt ts i) = true ∧ (i = 0 ∨ bl (tAt ts (i - 1)).name (tAt ts i).name = true) := by
  unfold stepT
  simp only [Bool.and_eq_true, Bool.or_eq_true, decide_eq_true_eq]
theorem ordT_iff {ts : List Trm} : ordT ts = true ↔ ∀ i, i < ts.length → stepT ts i = true := by
  unfold ordT
  rw [List.all_eq_true]
  exact ⟨fun h i hi => h i (List.mem_range.2 hi), fun h i hi => h i (List.mem_range.1 hi)⟩
theorem ordT_no {ts : List Trm} {i : Nat} (hi : i < ts.length) (h : stepT ts i = false) : ordT ts = false := by
  cases e : ordT ts with
  | false => rfl
  | true => rw [ordT_iff.1 e i hi] at h; cases h
theorem tsOk_no {ts : List Trm} {i : Nat} (hi : i < ts.length) (h : stepT ts i = false) : tsOk ts = false := by
  unfold tsOk
  rw [ordT_no hi h, Bool.and_false]
theorem tsOk_long {ts : List Trm} (h : 8 < ts.length) : tsOk ts = false := by
  unfold tsOk
  rw [decide_eq_false (by omega), Bool.false_and]
theorem tsOk_iff {ts : List Trm} : tsOk ts = true ↔ ts.length ≤ 8 ∧ ∀ i, i < ts.length → stepT ts i = true := by
  unfold tsOk
  rw [Bool.and_eq_true, ordT_iff, decide_eq_true_eq]
theorem tsOk_in {ts : List Trm} (h : tsOk ts = true) {i : Nat} (hi : i < ts.length) : termOk (tAt ts i) = true := (stepT_iff.1 ((tsOk_iff.1 h).2 i hi)).1
theorem tsOk_up {ts : List Trm} (h : tsOk ts = true) {i j : Nat} (hij : i < j) (hj : j < ts.length) : bl (tAt ts i).name (tAt ts j).name = true := by
  induction j with
  | zero => omega
  | succ j ih =>
    have s := stepT_iff.1 ((tsOk_iff.1 h).2 (j + 1) hj)
    rcases s.2 with s0 | s0
    · omega
    · rw [Nat.add_sub_cancel] at s0
      by_cases e : i = j
      · subst e; exact s0
      · exact bl_tr (ih (by omega) (by omega)) s0
theorem tsOk_nil : tsOk [] = true := rfl
/-- valid by its parts -/
theorem tsOk_of {ts : List Trm} (h : ts.length ≤ 8) (h1 : ∀ i, i < ts.length → termOk (tAt ts i) = true) (h2 : ∀ i j, i < j → j < ts.length → bl (tAt ts i).name (tAt ts j).name = true) : tsOk ts = true :=
  tsOk_iff.2 ⟨h, fun i hi => stepT_iff.2 ⟨h1 i hi, by
    by_cases e : i = 0
    · exact .inl e
    · exact .inr (h2 (i - 1) i (by omega) hi)⟩⟩
/-- without any one term -/
theorem tsOk_less {ts : List Trm} (h : tsOk ts = true) (k : Nat) : tsOk (ts.take k ++ ts.drop (k + 1)) = true := by
  by_cases hk : k < ts.length
  · have hl : (ts.take k).length = k := by rw [List.length_take]; omega
    have at1 : ∀ i, i < k → tAt (ts.take k ++ ts.drop (k + 1)) i = tAt ts i := fun i hi => by rw [tAt_app1 (by omega), tAt_take hi]
    have at2 : ∀ i, k ≤ i → tAt (ts.take k ++ ts.drop (k + 1)) i = tAt ts (i + 1) := fun i hi => by
      have e : tAt (ts.take k ++ ts.drop (k + 1)) i = tAt (ts.drop (k + 1)) (i - k) := by
        unfold tAt List.getD
        rw [List.getElem?_append_right (by omega), hl]
      rw [e, tAt_drop, show k + 1 + (i - k) = i + 1 by omega]
    have hn : (ts.take k ++ ts.drop (k + 1)).length = ts.length - 1 := by rw [List.length_append, hl, List.length_drop]; omega
    have h8 := (tsOk_iff.1 h).1
    refine tsOk_of (by omega) (fun i hi => ?_) (fun i j hij hj => ?_)
    · rw [hn] at hi
      by_cases hik : i < k
      · rw [at1 i hik]; exact tsOk_in h (by omega)
      · rw [at2 i (by omega)]; exact tsOk_in h (by omega)
    · rw [hn] at hj
      by_cases hik : i < k
      · rw [at1 i hik]
        by_cases hjk : j < k
        · rw [at1 j hjk]; exact tsOk_up h hij (by omega)
        · rw [at2 j (by omega)]; exact tsOk_up h (by omega) (by omega)
      · rw [at2 i (by omega), at2 j (by omega)]; exact tsOk_up h (by omega) (by omega)
  · rw [List.take_of_length_le (by omega), List.drop_eq_nil_of_le (by omega), List.append_nil]; exact h
/-- one term twice -/
theorem tsOk_twice {ts : List Trm} {k : Nat} (hk : k < ts.length) : tsOk (ts.take (k + 1) ++ ts.drop k) = false := by
  have hl : (ts.take (k + 1)).length = k + 1 := by rw [List.length_take]; omega
  have hn : (ts.take (k + 1) ++ ts.drop k).length = ts.length + 1 := by rw [List.length_append, hl, List.length_drop]; omega
  cases e : tsOk (ts.take (k + 1) ++ ts.drop k) with
  | false => rfl
  | true =>
    have u := tsOk_up e (i := k) (j := k + 1) (by omega) (by omega)
    have e1 : tAt (ts.take (k + 1) ++ ts.drop k) k = tAt ts k := by rw [tAt_app1 (by omega), tAt_take (by omega)]
    have e2 : tAt (ts.take (k + 1) ++ ts.drop k) (k + 1) = tAt ts k := by
      have e3 : tAt (ts.take (k + 1) ++ ts.drop k) (k + 1) = tAt (ts.drop k) (k + 1 - (k + 1)) := by
        unfold tAt List.getD
        rw [List.getElem?_append_right (by omega), hl]
      rw [e3, tAt_drop, show k + (k + 1 - (k + 1)) = k by omega]
    rw [e1, e2, bl_irr] at u
    cases u

/-- what the loop has done behind k groups -/
def putK (ts : List Trm) (g : Trm) : Nat → List Trm × Bool
  | 0 => ([], false)
  | k + 1 =>
    let q := putK ts g k
    let now := !q.2 && !bl (tAt ts k).name g.name
    let a := if now = true then q.1 ++ [g] else q.1
    (if (tAt ts k).name = g.name then a else a ++ [tAt ts k], q.2 || now)
def putR (ts : List Trm) (g : Trm) : List Trm :=
  let q := putK ts g ts.length
  if q.2 = true then q.1 else q.1 ++ [g]
def putOk (ts : List Trm) (g : Trm) : Bool := tsOk ts && termOk g && decide ((putR ts g).length ≤ 8)
def putL (ts : List Trm) (g : Trm) : List Trm := if putOk ts g = true then putR ts g else []
/-- the least next offset of the first k groups -/
def leastK (ts : List Trm) : Nat → Int
  | 0 => -1
  | k + 1 => if leastK ts k < 0 ∨ (tAt ts k).next < leastK ts k then (tAt ts k).next else leastK ts k
def leastI (ts : List Trm) : Int := if tsOk ts = true then leastK ts ts.length else -1
end Go.Proofs.Ytmhgddlkhbkbaaa
