/- Chapter 21, plain functions on producers and a batch. -/
import Derived.Test.YtfapeppocfodpaaP12b
import Derived.Test.YtfapeppocfodpaaPX3
namespace Go.Proofs.Ytfapeppocfodpaa
set_option linter.unusedVariables false

/-- what is known of the producer with a number -/
structure Seat where
  known : Bool
  epoch : Int
  next : Int
def Seat.zero : Seat := ⟨false, 0, 0⟩
/-- the seats when the first k producers are laid -/
def seatsUp (ts : List Trm) : Nat → Nat → Seat
  | 0, _ => Seat.zero
  | k + 1, i => if (i : Int) = (tAt ts k).num then ⟨true, (tAt ts k).first, (tAt ts k).third⟩ else seatsUp ts k i
def seatsOf (ts : List Trm) : Nat → Seat := seatsUp ts ts.length
theorem seatsUp_none {ts : List Trm} {i k : Nat} (h : ∀ j, j < k → (tAt ts j).num ≠ (i : Int)) : seatsUp ts k i = Seat.zero := by
  induction k with
  | zero => rfl
  | succ k ih =>
    unfold seatsUp
    rw [if_neg (fun e => h k (by omega) e.symm)]
    exact ih fun j hj => h j (by omega)
theorem seatsUp_at {ts : List Trm} {i k j : Nat} (hj : j < k) (h : (tAt ts j).num = (i : Int)) (hu : ∀ l, j < l → l < k → (tAt ts l).num ≠ (i : Int)) : seatsUp ts k i = ⟨true, (tAt ts j).first, (tAt ts j).third⟩ := by
  induction k with
  | zero => omega
  | succ k ih =>
    unfold seatsUp
    by_cases e : j = k
    · subst e
      rw [if_pos h.symm]
    · rw [if_neg (fun e' => hu k (by omega) (by omega) e'.symm)]
      exact ih (by omega) fun l h1 h2 => hu l h1 (by omega)
theorem seatsOf_at {ts : List Trm} (ok : tsOk ts = true) {i j : Nat} (hj : j < ts.length) (h : (tAt ts j).num = (i : Int)) : seatsOf ts i = ⟨true, (tAt ts j).first, (tAt ts j).third⟩ :=
  seatsUp_at hj h fun l h1 h2 e => by have := tsOk_up ok h1 h2; omega
theorem seatsOf_none {ts : List Trm} {i : Nat} (h : ∀ j, j < ts.length → (tAt ts j).num ≠ (i : Int)) : seatsOf ts i = Seat.zero := seatsUp_none h
/-- numbers of seats are small -/
def seatFits (s : Seat) : Prop := 0 ≤ s.epoch ∧ s.epoch ≤ 99 ∧ 0 ≤ s.next ∧ s.next ≤ 99999
theorem termOk_fits {t : Trm} (h : termOk t = true) : (0 ≤ t.num ∧ t.num ≤ 254) ∧ (0 ≤ t.first ∧ t.first ≤ 99) ∧ 0 ≤ t.third ∧ t.third ≤ 99999 := by
  unfold termOk inR at h
  simp only [Bool.and_eq_true, decide_eq_true_eq] at h
  omega
theorem tsOk_term {ts : List Trm} (ok : tsOk ts = true) {i : Nat} (hi : i < ts.length) : termOk (tAt ts i) = true := by
  have := (tsOk_iff.1 ok).2 i hi
  unfold stepT at this
  rw [Bool.and_eq_true] at this
  exact this.1
theorem seatsUp_fits {ts : List Trm} (ok : tsOk ts = true) (i k : Nat) (hk : k ≤ ts.length) : seatFits (seatsUp ts k i) := by
  induction k with
  | zero => exact (⟨by decide, by decide, by decide, by decide⟩ : seatFits Seat.zero)
  | succ k ih =>
    unfold seatsUp
    split
    · have := termOk_fits (tsOk_term ok (i := k) (by omega))
      exact ⟨this.2.1.1, this.2.1.2, this.2.2.1, this.2.2.2⟩
    · exact ih (by omega)
/-- whether a batch follows, by the seat of its producer -/
def nextIn (s : Seat) (epoch : Int) : Int := if s.epoch < epoch then 0 else s.next
def cmpN (seq next : Int) : Int := if seq < next then 1 else if next < seq then 2 else 0
def seatCode (s : Seat) (b : Bat) : Int := if b.epoch < s.epoch then 3 else cmpN b.seq (nextIn s b.epoch)
def checkF (f : Nat → Seat) (b : Bat) : Int := if batOk b = true then (if b.prod = 255 then 4 else seatCode (f b.prod.toNat) b) else 5
/-- the same as the model says it -/
def checkP (ts : List Trm) (b : Bat) : Int := if tsOk ts = true then checkF (seatsOf ts) b else 5
theorem batOk_prod {b : Bat} (h : batOk b = true) : 0 ≤ b.prod ∧ b.prod ≤ 255 ∧ 0 ≤ b.epoch ∧ b.epoch ≤ 99 ∧ 0 ≤ b.seq ∧ b.seq ≤ 9999 := by
  have := (batOk_iff.1 h).2.2.1
  unfold prodOk at this
  split at this
  · simp only [Bool.and_eq_true, decide_eq_true_eq] at this
    omega
  · unfold inR at this
    simp only [Bool.and_eq_true, decide_eq_true_eq] at this
    omega
/-- the model's own way: a known producer with its epoch, or none -/
theorem code_at {ts : List Trm} {b : Bat} (ok : tsOk ts = true) (hb : batOk b = true) (hp : b.prod ≠ 255) {i : Nat} (hi : i < ts.length) (h : (tAt ts i).num = b.prod) :
    checkP ts b = if b.epoch < (tAt ts i).first then 3 else cmpN b.seq (if b.epoch = (tAt ts i).first then (tAt ts i).third else 0) := by
  unfold checkP checkF
  rw [if_pos ok, if_pos hb, if_neg hp]
  have hq := batOk_prod hb
  rw [seatsOf_at ok hi (by rw [h]; omega)]
  unfold seatCode nextIn
  simp only
  by_cases h1 : b.epoch < (tAt ts i).first
  · rw [if_pos h1, if_pos h1]
  · rw [if_neg h1, if_neg h1]
    by_cases h2 : b.epoch = (tAt ts i).first
    · rw [if_neg (by omega), if_pos h2]
    · rw [if_pos (by omega), if_neg h2]
theorem code_none {ts : List Trm} {b : Bat} (ok : tsOk ts = true) (hb : batOk b = true) (hp : b.prod ≠ 255) (h : ∀ j, j < ts.length → (tAt ts j).num ≠ b.prod) : checkP ts b = cmpN b.seq 0 := by
  unfold checkP checkF
  rw [if_pos ok, if_pos hb, if_neg hp]
  have hq := batOk_prod hb
  rw [seatsOf_none (fun j hj e => h j hj (by omega))]
  unfold seatCode nextIn Seat.zero
  simp only
  rw [if_neg (by omega)]
  split <;> rfl
theorem code_free {ts : List Trm} {b : Bat} (ok : tsOk ts = true) (hb : batOk b = true) (hp : b.prod = 255) : checkP ts b = 4 := by
  unfold checkP checkF
  rw [if_pos ok, if_pos hb, if_pos hp]
theorem code_bad {ts : List Trm} {b : Bat} (h : tsOk ts = false ∨ batOk b = false) : checkP ts b = 5 := by
  unfold checkP checkF
  rcases h with h | h
  · rw [if_neg (by rw [h]; decide)]
  · split
    · rw [if_neg (by rw [h]; decide)]
    · rfl
theorem code_range (ts : List Trm) (b : Bat) : 0 ≤ checkP ts b ∧ checkP ts b ≤ 5 := by
  unfold checkP checkF seatCode cmpN
  repeat' split
  all_goals omega

/-- the producers of seats, those below k -/
def listUp (f : Nat → Seat) : Nat → List Trm
  | 0 => []
  | k + 1 => listUp f k ++ (if (f k).known = true then [⟨(k : Int), (f k).epoch, (f k).next⟩] else [])
def listOf (f : Nat → Seat) : List Trm := listUp f 255
theorem listUp_len (f : Nat → Seat) (k : Nat) : (listUp f k).length ≤ k := by
  induction k with
  | zero => simp [listUp]
  | succ k ih =>
    unfold listUp
    rw [List.length_append]
    split <;> simp <;> omega
theorem listUp_congr {f g : Nat → Seat} {k : Nat} (h : ∀ i, i < k → f i = g i) : listUp f k = listUp g k := by
  induction k with
  | zero => rfl
  | succ k ih =>
    unfold listUp
    rw [ih fun i hi => h i (by omega), h k (by omega)]
/-- a row whose numbers ascend -/
def ascT (ts : List Trm) : Prop := ts.Pairwise fun a b => a.num < b.num
theorem asc_of_ok {ts : List Trm} (ok : tsOk ts = true) : ascT ts := by
  unfold ascT
  rw [List.pairwise_iff_getElem]
  intro i j hi hj hij
  have := tsOk_up ok hij hj
  rwa [tAt_in hi, tAt_in hj] at this
/-- the seat of a number: the first one of a row that has it -/
def seatIn (ts : List Trm) (i : Nat) : Seat := match ts.find? (fun t => decide (t.num = (i : Int))) with
  | some t => ⟨true, t.first, t.third⟩
  | none => Seat.zero
theorem seatIn_nil (i : Nat) : seatIn [] i = Seat.zero := rfl
theorem seatIn_cons (t : Trm) (r : List Trm) (i : Nat) : seatIn (t :: r) i = if t.num = (i : Int) then ⟨true, t.first, t.third⟩ else seatIn r i := by
  unfold seatIn
  rw [List.find?_cons]
  by_cases h : t.num = (i : Int)
  · rw [if_pos h, decide_eq_true h]
  · rw [if_neg h, decide_eq_false h]
theorem seatIn_far {ts : List Trm} {i : Nat} (h : ∀ t ∈ ts, t.num ≠ (i : Int)) : seatIn ts i = Seat.zero := by
  induction ts with
  | nil => rfl
  | cons t r ih =>
    rw [seatIn_cons, if_neg (h t (by simp))]
    exact ih fun s hs => h s (by simp [hs])
theorem filter_step {ts : List Trm} (ha : ascT ts) (k : Nat) :
    ts.filter (fun t => decide (t.num < ((k + 1 : Nat) : Int))) = ts.filter (fun t => decide (t.num < (k : Int))) ++ (if (seatIn ts k).known = true then [⟨(k : Int), (seatIn ts k).epoch, (seatIn ts k).next⟩] else []) := by
  induction ts with
  | nil => simp [seatIn_nil, Seat.zero]
  | cons t r ih =>
    obtain ⟨h1, h2⟩ := List.pairwise_cons.1 ha
    have ih := ih h2
    rw [seatIn_cons]
    rcases Int.lt_trichotomy t.num (k : Int) with h | h | h
    · rw [List.filter_cons, List.filter_cons, decide_eq_true (show t.num < ((k + 1 : Nat) : Int) by omega), decide_eq_true h, if_pos rfl, if_pos rfl, if_neg (show ¬ t.num = (k : Int) by omega), ih]
      rfl
    · rw [List.filter_cons, List.filter_cons, decide_eq_true (show t.num < ((k + 1 : Nat) : Int) by omega), decide_eq_false (by omega), if_pos rfl, if_neg (by decide), if_pos h]
      have e1 : r.filter (fun t => decide (t.num < ((k + 1 : Nat) : Int))) = [] := List.filter_eq_nil_iff.2 fun s hs => by have := h1 s hs; simp; omega
      have e2 : r.filter (fun t => decide (t.num < (k : Int))) = [] := List.filter_eq_nil_iff.2 fun s hs => by have := h1 s hs; simp; omega
      rw [e1, e2]
      obtain ⟨a, b, c⟩ := t
      simp only at h
      subst h
      rfl
    · rw [List.filter_cons, List.filter_cons, decide_eq_false (show ¬ t.num < ((k + 1 : Nat) : Int) by omega), decide_eq_false (show ¬ t.num < (k : Int) by omega), if_neg (by decide), if_neg (by decide), if_neg (show ¬ t.num = (k : Int) by omega), ih]
theorem listUp_filter {ts : List Trm} (ha : ascT ts) (h0 : ∀ t ∈ ts, 0 ≤ t.num) (k : Nat) : listUp (seatIn ts) k = ts.filter (fun t => decide (t.num < (k : Int))) := by
  induction k with
  | zero =>
    unfold listUp
    exact (List.filter_eq_nil_iff.2 fun s hs => by have := h0 s hs; simp; omega).symm
  | succ k ih =>
    unfold listUp
    rw [ih, ← filter_step ha k]
theorem listUp_all {ts : List Trm} (ha : ascT ts) (h0 : ∀ t ∈ ts, 0 ≤ t.num ∧ t.num ≤ 254) : listOf (seatIn ts) = ts := by
  unfold listOf
  rw [listUp_filter ha (fun t ht => (h0 t ht).1)]
  exact List.filter_eq_self.2 fun s hs => by have := h0 s hs; simp; omega
theorem seatsOf_in {ts : List Trm} (ok : tsOk ts = true) (i : Nat) : seatsOf ts i = seatIn ts i := by
  by_cases h : ∃ j, j < ts.length ∧ (tAt ts j).num = (i : Int)
  · obtain ⟨j, hj, e⟩ := h
    rw [seatsOf_at ok hj e]
    unfold seatIn
    have ha := asc_of_ok ok
    cases hf : ts.find? (fun t => decide (t.num = (i : Int))) with
    | none =>
      have := List.find?_eq_none.1 hf (tAt ts j) (by rw [tAt_in hj]; exact List.getElem_mem hj)
      simp [e] at this
    | some t =>
      have h1 := List.find?_some hf
      have h2 := List.mem_of_find?_eq_some hf
      simp only [decide_eq_true_eq] at h1
      obtain ⟨l, hl, e2⟩ := List.mem_iff_getElem.1 h2
      have e3 : tAt ts l = t := by rw [tAt_in hl, e2]
      have : l = j := by
        rcases Nat.lt_trichotomy l j with q | q | q
        · have := tsOk_up ok q hj; rw [e3] at this; omega
        · exact q
        · have := tsOk_up ok q hl; rw [e3] at this; omega
      subst this
      rw [e3]
  · rw [seatsOf_none (fun j hj e => h ⟨j, hj, e⟩), seatIn_far]
    intro t ht e
    obtain ⟨l, hl, e2⟩ := List.mem_iff_getElem.1 ht
    exact h ⟨l, hl, by rw [tAt_in hl, e2, e]⟩
theorem mem_ok {ts : List Trm} (ok : tsOk ts = true) : ∀ t ∈ ts, 0 ≤ t.num ∧ t.num ≤ 254 := by
  intro t ht
  obtain ⟨l, hl, e2⟩ := List.mem_iff_getElem.1 ht
  have := termOk_fits (tsOk_term ok hl)
  rw [tAt_in hl, e2] at this
  exact this.1
theorem listOf_seats {ts : List Trm} (ok : tsOk ts = true) : listOf (seatsOf ts) = ts := by
  have : listOf (seatsOf ts) = listOf (seatIn ts) := listUp_congr fun i _ => seatsOf_in ok i
  rw [this]
  exact listUp_all (asc_of_ok ok) (mem_ok ok)

/-- a producer put into a row -/
def putR (p : Trm) : List Trm → Bool → List Trm
  | [], d => if d = true then [] else [p]
  | t :: r, d => (if d = false ∧ p.num ≤ t.num then [p] else []) ++ (if t.num = p.num then [] else [t]) ++ putR p r (d || decide (p.num ≤ t.num))
/-- behind the place where it was put -/
theorem putR_done (p : Trm) (r : List Trm) : putR p r true = r.filter fun t => decide (t.num ≠ p.num) := by
  induction r with
  | nil => rfl
  | cons t r ih =>
    unfold putR
    rw [if_neg (by simp), Bool.true_or, ih, List.filter_cons]
    by_cases h : t.num = p.num
    · rw [if_pos h, decide_eq_false (by simp [h])]; rfl
    · rw [if_neg h, decide_eq_true h]; rfl
theorem putR_mem (p : Trm) (ts : List Trm) (d : Bool) : ∀ t ∈ putR p ts d, t ∈ ts ∨ t = p := by
  induction ts generalizing d with
  | nil =>
    intro t ht
    unfold putR at ht
    split at ht
    · simp at ht
    · exact .inr (by simpa using ht)
  | cons s r ih =>
    intro t ht
    unfold putR at ht
    simp only [List.mem_append] at ht
    rcases ht with (ht | ht) | ht
    · split at ht
      · exact .inr (by simpa using ht)
      · simp at ht
    · split at ht
      · simp at ht
      · exact .inl (by simp at ht; simp [ht])
    · rcases ih _ t ht with h | h
      · exact .inl (by simp [h])
      · exact .inr h
theorem putR_asc {ts : List Trm} (p : Trm) (ha : ascT ts) : ascT (putR p ts false) := by
  induction ts with
  | nil => unfold putR ascT; simp
  | cons t r ih =>
    obtain ⟨h1, h2⟩ := List.pairwise_cons.1 ha
    have ih := ih h2
    unfold putR
    by_cases h : p.num ≤ t.num
    · rw [if_pos ⟨rfl, h⟩, Bool.false_or, decide_eq_true h, putR_done]
      have hr : ascT (r.filter fun t => decide (t.num ≠ p.num)) := h2.filter _
      by_cases e : t.num = p.num
      · rw [if_pos e, List.append_nil]
        refine List.pairwise_cons.2 ⟨fun s hs => ?_, hr⟩
        have := h1 s (List.mem_filter.1 hs).1
        omega
      · rw [if_neg e]
        refine List.pairwise_cons.2 ⟨fun s hs => ?_, List.pairwise_cons.2 ⟨fun s hs => h1 s (List.mem_filter.1 hs).1, hr⟩⟩
        rcases List.mem_cons.1 hs with rfl | hs
        · omega
        · have := h1 s (List.mem_filter.1 hs).1
          omega
    · rw [if_neg (fun q => h q.2), if_neg (by omega), Bool.false_or, decide_eq_false h]
      refine List.pairwise_cons.2 ⟨fun s hs => ?_, ih⟩
      rcases putR_mem p r false s hs with q | q
      · exact h1 s q
      · subst q; omega
theorem seatIn_put {ts : List Trm} (p : Trm) (ha : ascT ts) (i : Nat) : seatIn (putR p ts false) i = if p.num = (i : Int) then ⟨true, p.first, p.third⟩ else seatIn ts i := by
  have done : ∀ r : List Trm, p.num ≠ (i : Int) → seatIn (r.filter fun t => decide (t.num ≠ p.num)) i = seatIn r i := by
    intro r hp
    induction r with
    | nil => rfl
    | cons t r ih =>
      rw [List.filter_cons]
      by_cases e : t.num = p.num
      · rw [decide_eq_false (by simp [e]), if_neg (by decide), seatIn_cons, if_neg (by omega), ih]
      · rw [decide_eq_true e, if_pos rfl, seatIn_cons, seatIn_cons, ih]
  induction ts with
  | nil =>
    unfold putR
    rw [if_neg (by decide), seatIn_cons]
  | cons t r ih =>
    obtain ⟨h1, h2⟩ := List.pairwise_cons.1 ha
    have ih := ih h2
    unfold putR
    by_cases h : p.num ≤ t.num
    · rw [if_pos ⟨rfl, h⟩, Bool.false_or, decide_eq_true h, putR_done]
      have q1 : ∀ l : List Trm, [p] ++ l = p :: l := fun _ => rfl
      have q2 : ∀ l : List Trm, [t] ++ l = t :: l := fun _ => rfl
      have q3 : ∀ l : List Trm, [] ++ l = l := fun _ => rfl
      rw [List.append_assoc, q1, seatIn_cons]
      by_cases hp : p.num = (i : Int)
      · rw [if_pos hp, if_pos hp]
      · rw [if_neg hp, if_neg hp]
        have d := done r hp
        by_cases e : t.num = p.num
        · rw [if_pos e, q3, d, seatIn_cons, if_neg (show ¬ t.num = (i : Int) by omega)]
        · rw [if_neg e, q2, seatIn_cons, seatIn_cons, d]
    · rw [if_neg (fun q => h q.2), if_neg (by omega), Bool.false_or, decide_eq_false h]
      simp only [List.nil_append, List.cons_append]
      rw [seatIn_cons, seatIn_cons, ih]
      by_cases hp : p.num = (i : Int)
      · rw [if_pos hp, if_pos hp, if_neg (show ¬ t.num = (i : Int) by omega)]
      · rw [if_neg hp, if_neg hp]
/-- seats with one laid anew -/
def seatSet (f : Nat → Seat) (p : Trm) (i : Nat) : Seat := if p.num = (i : Int) then ⟨true, p.first, p.third⟩ else f i
theorem listOf_set {ts : List Trm} (ok : tsOk ts = true) (p : Trm) (hp : 0 ≤ p.num ∧ p.num ≤ 254) : listOf (seatSet (seatsOf ts) p) = putR p ts false := by
  have ha := asc_of_ok ok
  have e : listOf (seatSet (seatsOf ts) p) = listOf (seatIn (putR p ts false)) := listUp_congr fun i _ => by
    rw [seatIn_put p ha i]
    unfold seatSet
    rw [seatsOf_in ok i]
  rw [e]
  refine listUp_all (putR_asc p ha) fun t ht => ?_
  rcases putR_mem p ts false t ht with q | q
  · exact mem_ok ok t q
  · rw [q]; exact hp
/-- what is answered when a batch is taken -/
def newT (b : Bat) : Trm := ⟨b.prod, b.epoch, b.seq + b.recs.length⟩
def putCode (ts : List Trm) (b : Bat) : Int := if checkP ts b = 0 then (if tsOk (putR (newT b) ts false) = true then 0 else 5) else checkP ts b
def putList (ts : List Trm) (b : Bat) : List Trm := if putCode ts b = 5 then [] else if putCode ts b = 0 then putR (newT b) ts false else ts
end Go.Proofs.Ytfapeppocfodpaa
