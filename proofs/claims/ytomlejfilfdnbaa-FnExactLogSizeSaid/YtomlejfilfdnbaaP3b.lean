/- Chapter 3, plain functions that read records. -/
import Derived.Test.YtomlejfilfdnbaaP3
import Derived.Test.YtomlejfilfdnbaaP1b
namespace Go.Proofs.Ytomlejfilfdnbaa
set_option linter.unusedVariables false

/-- the part at a place, the place behind it, and whether there is one -/
def getP (xs : List Int) (c : Nat) : Bool × List Int × Int × Bool :=
  let g := rdVar xs c
  if g.2.2 = false then (false, [], 0, false)
  else if g.1 < -1 then (false, [], 0, false)
  else if 12 < g.1 then (false, [], 0, false)
  else if (xs.length : Int) < g.2.1 + max g.1 0 then (false, [], 0, false)
  else if g.1 < 0 then (false, [], g.2.1, true)
  else (true, (xs.drop g.2.1.toNat).take g.1.toNat, g.2.1 + g.1, true)

theorem getP_app {xs rest ys : List Int} {c : Nat} {has : Bool} (hp : partOk has ys = true) (h : xs.drop c = putP has ys ++ rest) : getP xs c = (has, ys, ((c + (putP has ys).length : Nat) : Int), true) := by
  obtain ⟨h1, h2, h3⟩ := partOk_iff.1 hp
  have hlen : (xs.drop c).length = (putP has ys).length + rest.length := by rw [h, List.length_append]
  rw [List.length_drop] at hlen
  have hl1 := putP_len (has := has) h3
  cases has with
  | false =>
    have hy := h1 rfl
    subst hy
    have hg := rdVar_app (n := -1) (by omega) (by omega) (show xs.drop c = varB (-1) ++ rest from h)
    have e : (putP false []) = varB (-1) := rfl
    unfold getP
    rw [hg]
    simp only [e]
    rw [e] at hlen hl1
    rw [if_neg (by simp), if_neg (by omega), if_neg (by omega), if_neg (by omega), if_pos (by omega)]
  | true =>
    have h' : xs.drop c = varB (ys.length : Int) ++ (ys ++ rest) := by rw [h]; simp [putP]
    have hg := rdVar_app (n := (ys.length : Int)) (by omega) (by omega) h'
    have e : (putP true ys).length = (varB (ys.length : Int)).length + ys.length := by simp [putP]
    unfold getP
    rw [hg]
    simp only [e]
    rw [e] at hlen hl1
    rw [if_neg (by simp), if_neg (by omega), if_neg (by omega), if_neg (by omega), if_neg (by omega)]
    have hd : (xs.drop (c + (varB (ys.length : Int)).length)) = ys ++ rest := by
      rw [← List.drop_drop, h', List.drop_left]
    rw [Int.toNat_natCast, Int.toNat_natCast, hd, List.take_left]
    simp; omega

theorem getP_yes {xs : List Int} (hok : okBs xs = true) {c : Nat} {has : Bool} {ys : List Int} {d : Int} (h : getP xs c = (has, ys, d, true)) :
    partOk has ys = true ∧ xs.drop c = putP has ys ++ xs.drop (c + (putP has ys).length) ∧ d = ((c + (putP has ys).length : Nat) : Int) ∧ c + (putP has ys).length ≤ xs.length := by
  unfold getP at h
  obtain ⟨⟨n, nx, b⟩, hg⟩ : ∃ g, rdVar xs c = g := ⟨_, rfl⟩
  rw [hg] at h
  simp only at h
  cases b with
  | false => simp at h
  | true =>
    obtain ⟨a1, a2, a3, a4, a5⟩ := rdVar_yes hok hg
    rw [if_neg (by simp)] at h
    split at h
    · simp at h
    split at h
    · simp at h
    split at h
    · simp at h
    split at h
    · simp only [Prod.mk.injEq, and_true] at h
      obtain ⟨rfl, rfl, rfl⟩ := h
      obtain rfl : n = -1 := by omega
      exact ⟨by decide, a4, a3, a5⟩
    · simp only [Prod.mk.injEq, and_true] at h
      obtain ⟨rfl, rfl, rfl⟩ := h
      subst a3
      obtain ⟨m, rfl⟩ := Int.eq_ofNat_of_zero_le (show 0 ≤ n by omega)
      rw [Int.toNat_natCast, Int.toNat_natCast]
      have hl : ((xs.drop (c + (varB (m : Int)).length)).take m).length = m := by rw [List.length_take, List.length_drop]; omega
      have e : putP true ((xs.drop (c + (varB (m : Int)).length)).take m) = varB (m : Int) ++ (xs.drop (c + (varB (m : Int)).length)).take m := by unfold putP; rw [if_pos rfl, hl]
      have el : (putP true ((xs.drop (c + (varB (m : Int)).length)).take m)).length = (varB (m : Int)).length + m := by rw [e, List.length_append, hl]
      refine ⟨partOk_iff.2 ⟨by simp, ?_, by omega⟩, ?_, by rw [el]; simp; omega, by omega⟩
      · unfold okBs at hok ⊢
        rw [List.all_eq_true] at hok ⊢
        exact fun x hx => hok x (List.mem_of_mem_drop (List.mem_of_mem_take hx))
      · rw [el, e, List.append_assoc, ← Nat.add_assoc, ← List.drop_drop (i := m), List.take_append_drop]
        exact a4

def Rec.zero : Rec := ⟨0, 0, false, [], false, []⟩
/-- bytes begin with others at a place -/
def sameAt (xs : List Int) (k : Nat) (ys : List Int) : Bool := decide (k + ys.length ≤ xs.length) && ((xs.drop k).take ys.length == ys)
theorem sameAt_iff {xs ys : List Int} {k : Nat} (hk : k ≤ xs.length) : sameAt xs k ys = true ↔ ∃ rest, xs.drop k = ys ++ rest := by
  unfold sameAt
  simp only [Bool.and_eq_true, decide_eq_true_eq, beq_iff_eq]
  constructor
  · rintro ⟨h1, h2⟩
    exact ⟨(xs.drop k).drop ys.length, by conv => lhs; rw [← List.take_append_drop ys.length (xs.drop k), h2]⟩
  · rintro ⟨rest, h⟩
    have hl : (xs.drop k).length = ys.length + rest.length := by rw [h, List.length_append]
    rw [List.length_drop] at hl
    exact ⟨by omega, by rw [h, List.take_left]⟩

/-- the record at a place, as the model reads it -/
def rdRec (xs : List Int) (k : Nat) (o t : Int) : Rec × Int × Bool :=
  let g1 := rdVar xs k
  let g2 := rdVar xs g1.2.1.toNat
  let g3 := rdVar xs g2.2.1.toNat
  if g1.2.2 = false then (Rec.zero, 0, false)
  else if g2.2.2 = false then (Rec.zero, 0, false)
  else if g3.2.2 = false then (Rec.zero, 0, false)
  else
    let p := getP xs g3.2.1.toNat
    if p.2.2.2 = false then (Rec.zero, 0, false)
    else
      let q := getP xs p.2.2.1.toNat
      let r : Rec := ⟨o + g3.1, t + g2.1, p.1, p.2.1, q.1, q.2.1⟩
      if q.2.2.2 = false then (Rec.zero, 0, false)
      else if recOk r = false then (Rec.zero, 0, false)
      else if sameAt xs k (recBytes r o t) = false then (Rec.zero, 0, false)
      else (r, q.2.2.1, true)

/-- a record stands at a place -/
def RecAt (xs : List Int) (k : Nat) (o t : Int) (r : Rec) : Prop := recOk r = true ∧ ∃ rest, xs.drop k = recBytes r o t ++ rest

theorem rdRec_at {xs : List Int} {k : Nat} {o t : Int} {r : Rec} (hb : baseOk o t = true) (hk : k ≤ xs.length) (h : RecAt xs k o t r) : rdRec xs k o t = (r, ((k + (recBytes r o t).length : Nat) : Int), true) := by
  obtain ⟨hr, rest, hd⟩ := h
  have hsame := (sameAt_iff hk).2 ⟨rest, hd⟩
  obtain ⟨⟨o0, o1⟩, t0, t1⟩ := baseOk_iff.1 hb
  obtain ⟨⟨r0, r1⟩, ⟨q0, q1⟩, pk, pv⟩ := recOk_iff.1 hr
  have hl := recBody_len (o := o) (t := t) hr
  have e0 : xs.drop k = varB ((recBody r o t).length : Int) ++ (recBody r o t ++ rest) := by rw [hd]; simp [recBytes]
  have g1 := rdVar_app (by omega) (by omega) e0
  obtain ⟨a, ha⟩ : ∃ a, k + (varB ((recBody r o t).length : Int)).length = a := ⟨_, rfl⟩
  rw [ha] at g1
  have d1 : xs.drop a = varB (r.time - t) ++ (varB (r.off - o) ++ (putP r.hk r.key ++ (putP r.hv r.val ++ rest))) := by
    rw [← ha, ← List.drop_drop, e0, List.drop_left]; simp [recBody]
  have g2 := rdVar_app (by omega) (by omega) d1
  obtain ⟨b, hbb⟩ : ∃ b, a + (varB (r.time - t)).length = b := ⟨_, rfl⟩
  rw [hbb] at g2
  have d2 : xs.drop b = varB (r.off - o) ++ (putP r.hk r.key ++ (putP r.hv r.val ++ rest)) := by
    rw [← hbb, ← List.drop_drop, d1, List.drop_left]
  have g3 := rdVar_app (by omega) (by omega) d2
  obtain ⟨c, hc⟩ : ∃ c, b + (varB (r.off - o)).length = c := ⟨_, rfl⟩
  rw [hc] at g3
  have d3 : xs.drop c = putP r.hk r.key ++ (putP r.hv r.val ++ rest) := by
    rw [← hc, ← List.drop_drop, d2, List.drop_left]
  have g4 := getP_app pk d3
  obtain ⟨d, hdd⟩ : ∃ d, c + (putP r.hk r.key).length = d := ⟨_, rfl⟩
  rw [hdd] at g4
  have d4 : xs.drop d = putP r.hv r.val ++ rest := by
    rw [← hdd, ← List.drop_drop, d3, List.drop_left]
  have g5 := getP_app pv d4
  have er : (⟨o + (r.off - o), t + (r.time - t), r.hk, r.key, r.hv, r.val⟩ : Rec) = r := by
    rw [show o + (r.off - o) = r.off by omega, show t + (r.time - t) = r.time by omega]
  unfold rdRec
  simp only [g1, g2, g3, g4, g5, Int.toNat_natCast, er]
  rw [if_neg (by simp), if_neg (by simp), if_neg (by simp), if_neg (by simp), if_neg (by simp), if_neg (by simp [hr]), if_neg (by simp [hsame])]
  have : (recBytes r o t).length = (varB ((recBody r o t).length : Int)).length + ((varB (r.time - t)).length + (varB (r.off - o)).length + (putP r.hk r.key).length + (putP r.hv r.val).length) := by
    simp [recBytes, recBody]; omega
  rw [show d + (putP r.hv r.val).length = k + (recBytes r o t).length by omega]

theorem rdRec_cases (xs : List Int) (k : Nat) (o t : Int) : rdRec xs k o t = (Rec.zero, 0, false) ∨ (∃ r nx, rdRec xs k o t = (r, nx, true) ∧ recOk r = true ∧ sameAt xs k (recBytes r o t) = true) := by
  unfold rdRec
  simp only
  split
  · exact .inl rfl
  split
  · exact .inl rfl
  split
  · exact .inl rfl
  split
  · exact .inl rfl
  split
  · exact .inl rfl
  split
  · exact .inl rfl
  split
  · exact .inl rfl
  · rename_i h1 h2
    exact .inr ⟨_, _, rfl, by simpa using h1, by simpa using h2⟩

theorem rdRec_yes {xs : List Int} {k : Nat} {o t nx : Int} {r : Rec} (hb : baseOk o t = true) (hk : k ≤ xs.length) (h : rdRec xs k o t = (r, nx, true)) : RecAt xs k o t r ∧ nx = ((k + (recBytes r o t).length : Nat) : Int) ∧ k + (recBytes r o t).length ≤ xs.length := by
  rcases rdRec_cases xs k o t with h0 | ⟨r', nx', h', hr, hs⟩
  · rw [h0] at h; simp at h
  · rw [h'] at h
    simp only [Prod.mk.injEq, and_true] at h
    obtain ⟨rfl, rfl⟩ := h
    have hat : RecAt xs k o t r' := ⟨hr, (sameAt_iff hk).1 hs⟩
    have := rdRec_at hb hk hat
    rw [h'] at this
    simp only [Prod.mk.injEq, and_true, true_and] at this
    refine ⟨hat, this, ?_⟩
    unfold sameAt at hs
    simp only [Bool.and_eq_true, decide_eq_true_eq] at hs
    exact hs.1
theorem rdRec_no {xs : List Int} {k : Nat} {o t : Int} (hb : baseOk o t = true) (hk : k ≤ xs.length) (h : ∀ r, ¬ RecAt xs k o t r) : rdRec xs k o t = (Rec.zero, 0, false) := by
  rcases rdRec_cases xs k o t with h0 | ⟨r, nx, h', _, _⟩
  · exact h0
  · exact absurd (rdRec_yes hb hk h').1 (h r)
/-- behind the end there is no record -/
theorem rdRec_end {xs : List Int} {k : Nat} {o t : Int} (h : xs.length ≤ k) : rdRec xs k o t = (Rec.zero, 0, false) := by
  have e : rdVar xs k = (0, 0, false) := by
    unfold rdVar
    rw [List.drop_eq_nil_of_le h]
    exact rdR_no rfl
  unfold rdRec
  simp only [e]
  rw [if_pos trivial]
theorem recAt_inj {xs : List Int} {k : Nat} {o t : Int} {r s : Rec} (hb : baseOk o t = true) (hk : k ≤ xs.length) (h : RecAt xs k o t r) (g : RecAt xs k o t s) : r = s := by
  have h1 := rdRec_at hb hk h
  have h2 := rdRec_at hb hk g
  rw [h1] at h2
  simp only [Prod.mk.injEq] at h2
  exact h2.1
end Go.Proofs.Ytomlejfilfdnbaa
