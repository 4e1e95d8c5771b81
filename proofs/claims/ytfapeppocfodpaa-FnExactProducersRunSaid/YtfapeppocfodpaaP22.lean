/- Chapter 21, what the laws say, plainly. -/
import Derived.Test.YtfapeppocfodpaaP21
namespace Go.Proofs.Ytfapeppocfodpaa
set_option linter.unusedVariables false

/-- the batch with another number -/
def Bat.withSeq (b : Bat) (s : Int) : Bat := ⟨b.packed, b.mark, b.prod, b.epoch, s, b.recs⟩
theorem checkP_ok {ts : List Trm} {b : Bat} (h : checkP ts b ≠ 5) : tsOk ts = true ∧ batOk b = true := by
  cases p : tsOk ts with
  | false => exact absurd (code_bad (.inl p)) h
  | true =>
    cases q : batOk b with
    | false => exact absurd (code_bad (.inr q)) h
    | true => exact ⟨rfl, rfl⟩
theorem checkP_eq {ts : List Trm} {b : Bat} (p : tsOk ts = true) (q : batOk b = true) : checkP ts b = if b.prod = 255 then 4 else seatCode (seatsOf ts b.prod.toNat) b := by
  unfold checkP checkF
  rw [if_pos p, if_pos q]
theorem cmpN_range (s n : Int) : cmpN s n = 0 ∨ cmpN s n = 1 ∨ cmpN s n = 2 := by
  unfold cmpN
  repeat' split
  all_goals omega
theorem checkP_free {ts : List Trm} {b : Bat} (h : checkP ts b ≠ 5) : (checkP ts b = 4) ↔ b.prod = 255 := by
  obtain ⟨p, q⟩ := checkP_ok h
  rw [checkP_eq p q]
  by_cases e : b.prod = 255
  · rw [if_pos e]; simp [e]
  · rw [if_neg e]
    unfold seatCode
    have := cmpN_range b.seq (nextIn (seatsOf ts b.prod.toNat) b.epoch)
    constructor
    · intro hh
      split at hh <;> omega
    · exact fun hh => absurd hh e
theorem checkP_prod {ts : List Trm} {b : Bat} (h5 : checkP ts b ≠ 5) (h4 : checkP ts b ≠ 4) : b.prod ≠ 255 := fun e => h4 ((checkP_free h5).2 e)
theorem batOk_seq {b : Bat} (h : batOk b = true) (hp : b.prod ≠ 255) (s : Int) (h0 : 0 ≤ s) (h1 : s ≤ 9999) : batOk (b.withSeq s) = true := by
  have h' := batOk_iff.1 h
  refine batOk_iff.2 ⟨h'.1, h'.2.1, ?_, h'.2.2.2⟩
  have := h'.2.2.1
  unfold prodOk at this ⊢
  rw [if_neg hp] at this
  unfold Bat.withSeq
  simp only
  rw [if_neg hp]
  unfold inR at this ⊢
  simp only [Bool.and_eq_true, decide_eq_true_eq] at this ⊢
  omega
/-- the number that would follow -/
def nxtP (ts : List Trm) (b : Bat) : Int := nextIn (seatsOf ts b.prod.toNat) b.epoch
theorem nxtP_range {ts : List Trm} (b : Bat) (p : tsOk ts = true) : 0 ≤ nxtP ts b ∧ nxtP ts b ≤ 99999 := by
  have := seatsUp_fits p b.prod.toNat ts.length (Nat.le_refl _)
  unfold nxtP nextIn
  split
  · omega
  · exact ⟨this.2.2.1, this.2.2.2⟩
theorem checkP_cmp {ts : List Trm} {b : Bat} (h : checkP ts b = 0 ∨ checkP ts b = 1 ∨ checkP ts b = 2) : ¬ b.epoch < (seatsOf ts b.prod.toNat).epoch ∧ checkP ts b = cmpN b.seq (nxtP ts b) := by
  obtain ⟨p, q⟩ := checkP_ok (ts := ts) (b := b) (by omega)
  have hp := checkP_prod (ts := ts) (b := b) (by omega) (by omega)
  have e := checkP_eq p q
  rw [if_neg hp] at e
  unfold seatCode at e
  by_cases c : b.epoch < (seatsOf ts b.prod.toNat).epoch
  · rw [if_pos c] at e; omega
  · rw [if_neg c] at e
    exact ⟨c, e⟩
/-- a batch with another number follows, or does not, by that number -/
theorem checkP_seq {ts : List Trm} {b : Bat} (h : checkP ts b = 0 ∨ checkP ts b = 1 ∨ checkP ts b = 2) (s : Int) (h0 : 0 ≤ s) (h1 : s ≤ 9999) : checkP ts (b.withSeq s) = cmpN s (nxtP ts b) := by
  obtain ⟨p, q⟩ := checkP_ok (ts := ts) (b := b) (by omega)
  have hp := checkP_prod (ts := ts) (b := b) (by omega) (by omega)
  rw [checkP_eq p (batOk_seq q hp s h0 h1), if_neg (show ¬ (b.withSeq s).prod = 255 from hp)]
  unfold seatCode
  rw [if_neg (show ¬ (b.withSeq s).epoch < (seatsOf ts (b.withSeq s).prod.toNat).epoch from (checkP_cmp h).1)]
  rfl
theorem fine_at {ts : List Trm} {b : Bat} (h : checkP ts b = 0) : b.prod ≠ 255 ∧ (∀ i, i < ts.length → (tAt ts i).num = b.prod → ¬ b.epoch < (tAt ts i).first ∧ (b.epoch = (tAt ts i).first → b.seq = (tAt ts i).third)) ∧
    ((∀ i, i < ts.length → (tAt ts i).num = b.prod → b.epoch ≠ (tAt ts i).first) → b.seq = 0) := by
  obtain ⟨p, q⟩ := checkP_ok (ts := ts) (b := b) (by omega)
  have hp := checkP_prod (ts := ts) (b := b) (by omega) (by omega)
  have z : ∀ s n : Int, cmpN s n = 0 → s = n := fun s n e => by
    unfold cmpN at e
    repeat' split at e
    all_goals omega
  refine ⟨hp, fun i hi hn => ?_, fun hall => ?_⟩
  · have e := code_at p q hp hi hn
    rw [h] at e
    by_cases c : b.epoch < (tAt ts i).first
    · rw [if_pos c] at e; omega
    · rw [if_neg c] at e
      refine ⟨c, fun e2 => ?_⟩
      rw [if_pos e2] at e
      exact z _ _ e.symm
  · by_cases ex : ∃ i, i < ts.length ∧ (tAt ts i).num = b.prod
    · obtain ⟨i, hi, hn⟩ := ex
      have e := code_at p q hp hi hn
      rw [h] at e
      by_cases c : b.epoch < (tAt ts i).first
      · rw [if_pos c] at e; omega
      · rw [if_neg c, if_neg (hall i hi hn)] at e
        exact z _ _ e.symm
    · have e := code_none p q hp (fun j hj e => ex ⟨j, hj, e⟩)
      rw [h] at e
      exact z _ _ e.symm
theorem old_at {ts : List Trm} {b : Bat} (h : checkP ts b = 3) : (∃ i, i < ts.length ∧ (tAt ts i).num = b.prod ∧ b.epoch < (tAt ts i).first) ∧ ∀ s : Int, 0 ≤ s → s ≤ 9999 → checkP ts (b.withSeq s) = 3 := by
  obtain ⟨p, q⟩ := checkP_ok (ts := ts) (b := b) (by omega)
  have hp := checkP_prod (ts := ts) (b := b) (by omega) (by omega)
  have ex : ∃ i, i < ts.length ∧ (tAt ts i).num = b.prod := by
    by_cases ex : ∃ i, i < ts.length ∧ (tAt ts i).num = b.prod
    · exact ex
    · have e := code_none p q hp (fun j hj e => ex ⟨j, hj, e⟩)
      have := cmpN_range b.seq 0
      omega
  obtain ⟨i, hi, hn⟩ := ex
  have e := code_at p q hp hi hn
  rw [h] at e
  have c : b.epoch < (tAt ts i).first := by
    by_cases c : b.epoch < (tAt ts i).first
    · exact c
    · rw [if_neg c] at e
      have := cmpN_range b.seq (if b.epoch = (tAt ts i).first then (tAt ts i).third else 0)
      omega
  refine ⟨⟨i, hi, hn, c⟩, fun s h0 h1 => ?_⟩
  have e2 := code_at (b := b.withSeq s) p (batOk_seq q hp s h0 h1) hp hi hn
  rw [e2, if_pos (show (b.withSeq s).epoch < (tAt ts i).first from c)]
theorem put_zero {ts : List Trm} {b : Bat} (h : putCode ts b = 0) : checkP ts b = 0 ∧ tsOk (putR (newT b) ts false) = true ∧ putList ts b = putR (newT b) ts false := by
  have h' := h
  unfold putCode at h'
  by_cases c : checkP ts b = 0
  · rw [if_pos c] at h'
    by_cases t : tsOk (putR (newT b) ts false) = true
    · refine ⟨c, t, ?_⟩
      unfold putList
      rw [h, if_neg (by decide), if_pos rfl]
    · rw [if_neg t] at h'; omega
  · rw [if_neg c] at h'; omega
theorem put_seat {ts : List Trm} {b : Bat} (h : putCode ts b = 0) : tsOk (putList ts b) = true ∧ seatsOf (putList ts b) b.prod.toNat = ⟨true, b.epoch, b.seq + b.recs.length⟩ := by
  obtain ⟨h1, h2, h3⟩ := put_zero h
  obtain ⟨p, q⟩ := checkP_ok (ts := ts) (b := b) (by omega)
  have hp := batOk_prod q
  rw [h3]
  refine ⟨h2, ?_⟩
  rw [seatsOf_in h2, seatIn_put (newT b) (asc_of_ok p), if_pos (show (newT b).num = ((b.prod.toNat : Nat) : Int) by unfold newT; simp only; omega)]
  rfl
theorem put_fine {ts : List Trm} {b : Bat} (h : putCode ts b = 0) : tsOk (putList ts b) = true ∧ checkP (putList ts b) b = 1 ∧ (batOk (b.withSeq (b.seq + b.recs.length)) = true → checkP (putList ts b) (b.withSeq (b.seq + b.recs.length)) = 0) := by
  obtain ⟨h1, h2, h3⟩ := put_zero h
  obtain ⟨p, q⟩ := checkP_ok (ts := ts) (b := b) (by omega)
  have hp := checkP_prod (ts := ts) (b := b) (by omega) (by omega)
  obtain ⟨t, s⟩ := put_seat h
  have hl := (batOk_iff.1 q).1.1
  refine ⟨t, ?_, fun hx => ?_⟩
  · rw [checkP_eq t q, if_neg hp, s]
    unfold seatCode nextIn
    simp only
    rw [if_neg (by omega), if_neg (by omega)]
    unfold cmpN
    rw [if_pos (by omega)]
  · rw [checkP_eq t hx, if_neg (show ¬ (b.withSeq (b.seq + b.recs.length)).prod = 255 from hp), show (b.withSeq (b.seq + b.recs.length)).prod = b.prod from rfl, s]
    unfold seatCode nextIn Bat.withSeq
    simp only
    rw [if_neg (by omega), if_neg (by omega)]
    unfold cmpN
    rw [if_neg (by omega), if_neg (by omega)]
theorem put_keep {ts : List Trm} {b : Bat} (h0 : putCode ts b ≠ 0) (h5 : putCode ts b ≠ 5) : putList ts b = ts := by
  unfold putList
  rw [if_neg h5, if_neg h0]
theorem filter_putR (p : Trm) (ts : List Trm) (d : Bool) : (putR p ts d).filter (fun t => decide (t.num ≠ p.num)) = ts.filter (fun t => decide (t.num ≠ p.num)) := by
  induction ts generalizing d with
  | nil =>
    unfold putR
    split <;> simp
  | cons t r ih =>
    unfold putR
    rw [List.filter_append, List.filter_append, ih, List.filter_cons]
    by_cases e : t.num = p.num
    · have e1 : (if d = false ∧ p.num ≤ t.num then [p] else []).filter (fun t => decide (t.num ≠ p.num)) = [] := by split <;> simp
      rw [e1, if_pos e, if_neg (by simp [e])]
      rfl
    · have e1 : (if d = false ∧ p.num ≤ t.num then [p] else []).filter (fun t => decide (t.num ≠ p.num)) = [] := by split <;> simp
      rw [e1, if_neg e, if_pos (by simp [e]), List.filter_cons, if_pos (by simp [e])]
      rfl
theorem putR_one (p : Trm) (ts : List Trm) (d : Bool) : (putR p ts d).length = (ts.filter (fun t => decide (t.num ≠ p.num))).length + if d = true then 0 else 1 := by
  induction ts generalizing d with
  | nil =>
    unfold putR
    cases d <;> simp
  | cons t r ih =>
    have L : (putR p (t :: r) d).length = (if d = false ∧ p.num ≤ t.num then [p] else []).length + (if t.num = p.num then [] else [t]).length + (putR p r (d || decide (p.num ≤ t.num))).length := by
      rw [← List.length_append, ← List.length_append]
      rfl
    rw [L, ih]
    by_cases e : t.num = p.num
    · have hle : p.num ≤ t.num := by omega
      rw [List.filter_cons_of_neg (by simp [e]), if_pos e, decide_eq_true hle]
      cases d <;> simp [hle] <;> try omega
    · rw [List.filter_cons_of_pos (by simp [e]), if_neg e]
      by_cases hle : p.num ≤ t.num
      · rw [decide_eq_true hle]
        cases d <;> simp [hle] <;> try omega
      · rw [decide_eq_false hle]
        cases d <;> simp [hle] <;> try omega
theorem put_others {ts : List Trm} {b : Bat} (h : putCode ts b = 0) : (putList ts b).filter (fun t => decide (t.num ≠ b.prod)) = ts.filter (fun t => decide (t.num ≠ b.prod)) ∧ (putList ts b).length = (ts.filter (fun t => decide (t.num ≠ b.prod))).length + 1 := by
  obtain ⟨h1, h2, h3⟩ := put_zero h
  rw [h3]
  exact ⟨filter_putR (newT b) ts false, by rw [putR_one]; rfl⟩
end Go.Proofs.Ytfapeppocfodpaa
