/- Chapter 3: a reader's steps, as the program takes them, and that they read what the model reads. -/
import Derived.Test.YtomlejfilfdnbaaP3b
import Derived.Test.YtomlejfilfdnbaaW1d
namespace Go.Proofs.Ytomlejfilfdnbaa
set_option linter.unusedVariables false

/-- a number, by a reader at a place: the number, the reader's place behind it, and whether it has failed -/
def numR (xs : List Int) (k : Int) (f : Bool) : Int × Int × Bool :=
  if f = true then (0, k, true) else if (rdV xs k).2.2 = true then ((rdV xs k).1, (rdV xs k).2.1, false) else (0, k, true)
/-- so many bytes, by a reader at a place -/
def takeR (xs : List Int) (k : Int) (f : Bool) (m : Int) : List Int × Int × Bool :=
  if f = true then ([], k, true) else if m < 0 then ([], k, true) else if k < 0 then ([], k, true) else if (xs.length : Int) - k < m then ([], k, true) else ((xs.drop k.toNat).take m.toNat, k + m, false)
/-- a part, by a reader -/
def partR (xs : List Int) (k : Int) (f : Bool) : Bool × List Int × Int × Bool :=
  if (numR xs k f).1 = -1 then (false, [], (numR xs k f).2.1, (numR xs k f).2.2) else
    (true, (takeR xs (numR xs k f).2.1 (numR xs k f).2.2 (numR xs k f).1).1, (takeR xs (numR xs k f).2.1 (numR xs k f).2.2 (numR xs k f).1).2.1, (takeR xs (numR xs k f).2.1 (numR xs k f).2.2 (numR xs k f).1).2.2)
/-- what follows the length of a record, by a reader -/
def bodyR (xs : List Int) (k : Int) (f : Bool) (o t : Int) : Rec × Int × Bool :=
  let a := numR xs k f
  let b := numR xs a.2.1 a.2.2
  let c := partR xs b.2.1 b.2.2
  let d := partR xs c.2.2.1 c.2.2.2
  (⟨o + b.1, t + a.1, c.1, c.2.1, d.1, d.2.1⟩, d.2.2.1, d.2.2.2)
/-- a record, by two readers -/
def fromR (xs : List Int) (k o t : Int) : Rec × Int × Bool :=
  let a := numR xs k false
  let b := takeR xs a.2.1 a.2.2 a.1
  let r := bodyR b.1 0 false o t
  if b.2.2 = true then (Rec.zero, 0, false) else if r.2.2 = true then (Rec.zero, 0, false) else if r.2.1 < (b.1.length : Int) then (Rec.zero, 0, false) else if recOk r.1 = false then (Rec.zero, 0, false) else (r.1, b.2.1, true)

theorem numR_f (xs : List Int) (k : Int) : numR xs k true = (0, k, true) := rfl
theorem takeR_f (xs : List Int) (k m : Int) : takeR xs k true m = ([], k, true) := rfl
theorem rdV_nat {xs : List Int} (hok : okBs xs = true) (k : Nat) : rdV xs (k : Int) = rdVar xs k := rdV_at k hok
theorem numR_yes {xs : List Int} (hok : okBs xs = true) {k : Nat} {f : Bool} {n nx : Int} (h : numR xs (k : Int) f = (n, nx, false)) :
    f = false ∧ -1000000 ≤ n ∧ n ≤ 1000000 ∧ nx = ((k + (varB n).length : Nat) : Int) ∧ xs.drop k = varB n ++ xs.drop (k + (varB n).length) ∧ k + (varB n).length ≤ xs.length := by
  cases f with
  | true => simp [numR] at h
  | false =>
    refine ⟨rfl, ?_⟩
    unfold numR at h
    rw [if_neg (by simp), rdV_nat hok] at h
    obtain ⟨⟨n', nx', b⟩, hg⟩ : ∃ g, rdVar xs k = g := ⟨_, rfl⟩
    rw [hg] at h
    cases b with
    | false => simp at h
    | true =>
      simp only [if_true, Prod.mk.injEq, and_true] at h
      obtain ⟨rfl, rfl⟩ := h
      exact rdVar_yes hok hg
theorem numR_app {xs rest : List Int} (hok : okBs xs = true) {k : Nat} {n : Int} (h0 : -1000000 ≤ n) (h1 : n ≤ 1000000) (h : xs.drop k = varB n ++ rest) : numR xs (k : Int) false = (n, ((k + (varB n).length : Nat) : Int), false) := by
  have := rdVar_app h0 h1 h
  unfold numR
  rw [if_neg (by simp), rdV_nat hok, this]
  rfl
theorem takeR_yes {xs : List Int} {k : Nat} {f : Bool} {m nx : Int} {ys : List Int} (h : takeR xs (k : Int) f m = (ys, nx, false)) :
    f = false ∧ ∃ j : Nat, m = (j : Int) ∧ ys = (xs.drop k).take j ∧ ys.length = j ∧ nx = ((k + j : Nat) : Int) ∧ k + j ≤ xs.length := by
  cases f with
  | true => simp [takeR] at h
  | false =>
    refine ⟨rfl, ?_⟩
    unfold takeR at h
    rw [if_neg (by simp)] at h
    split at h
    · simp at h
    split at h
    · simp at h
    split at h
    · simp at h
    · simp only [Prod.mk.injEq, and_true] at h
      obtain ⟨rfl, rfl⟩ := h
      obtain ⟨j, rfl⟩ := Int.eq_ofNat_of_zero_le (show 0 ≤ m by omega)
      rw [Int.toNat_natCast, Int.toNat_natCast]
      exact ⟨j, rfl, rfl, by rw [List.length_take, List.length_drop]; omega, by simp, by omega⟩
theorem takeR_app {xs ys rest : List Int} {k : Nat} (hk : k ≤ xs.length) (h : xs.drop k = ys ++ rest) : takeR xs (k : Int) false (ys.length : Int) = (ys, ((k + ys.length : Nat) : Int), false) := by
  have hl : (xs.drop k).length = ys.length + rest.length := by rw [h, List.length_append]
  rw [List.length_drop] at hl
  unfold takeR
  rw [if_neg (by simp), if_neg (by omega), if_neg (by omega), if_neg (by omega), Int.toNat_natCast, Int.toNat_natCast, h, List.take_left]
  simp
theorem partR_yes {xs : List Int} (hok : okBs xs = true) {k : Nat} {f h : Bool} {ys : List Int} {nx : Int} (hp : partR xs (k : Int) f = (h, ys, nx, false)) :
    f = false ∧ xs.drop k = putP h ys ++ xs.drop (k + (putP h ys).length) ∧ nx = ((k + (putP h ys).length : Nat) : Int) ∧ k + (putP h ys).length ≤ xs.length := by
  unfold partR at hp
  obtain ⟨⟨n, n1, b⟩, hg⟩ : ∃ g, numR xs k f = g := ⟨_, rfl⟩
  rw [hg] at hp
  simp only at hp
  split at hp
  · simp only [Prod.mk.injEq] at hp
    obtain ⟨rfl, rfl, rfl, rfl⟩ := hp
    obtain ⟨a0, a1, a2, a3, a4, a5⟩ := numR_yes hok hg
    rename_i e
    subst e
    exact ⟨a0, a4, a3, a5⟩
  · cases b with
    | true => simp [takeR] at hp
    | false =>
      obtain ⟨a0, a1, a2, a3, a4, a5⟩ := numR_yes hok hg
      subst a3
      obtain ⟨⟨zs, z1, z2⟩, ht⟩ : ∃ g, takeR xs ((k + (varB n).length : Nat) : Int) false n = g := ⟨_, rfl⟩
      rw [ht] at hp
      simp only [Prod.mk.injEq] at hp
      obtain ⟨rfl, rfl, rfl, rfl⟩ := hp
      obtain ⟨_, j, rfl, c1, c2, c3, c4⟩ := takeR_yes ht
      have e : putP true zs = varB (j : Int) ++ zs := by unfold putP; rw [if_pos rfl, c2]
      refine ⟨a0, ?_, ?_, ?_⟩
      · rw [e, List.append_assoc, List.length_append, c2, ← Nat.add_assoc, ← List.drop_drop (i := j), c1, List.take_append_drop]
        exact a4
      · rw [e, List.length_append, c2, c3]; omega
      · rw [e, List.length_append, c2]; omega
theorem partR_app {xs rest ys : List Int} {k : Nat} {h : Bool} (hok : okBs xs = true) (hp : partOk h ys = true) (hk : k ≤ xs.length) (hd : xs.drop k = putP h ys ++ rest) :
    partR xs (k : Int) false = (h, ys, ((k + (putP h ys).length : Nat) : Int), false) := by
  obtain ⟨h1, h2, h3⟩ := partOk_iff.1 hp
  unfold partR
  cases h with
  | false =>
    have hy := h1 rfl
    subst hy
    have e : putP false [] = varB (-1) := rfl
    rw [e] at hd ⊢
    rw [numR_app hok (by omega) (by omega) hd, if_pos rfl]
  | true =>
    have e : putP true ys = varB (ys.length : Int) ++ ys := by unfold putP; rw [if_pos rfl]
    rw [e] at hd ⊢
    rw [List.append_assoc] at hd
    have hl : (xs.drop k).length = (varB (ys.length : Int)).length + (ys.length + rest.length) := by rw [hd, List.length_append, List.length_append]
    rw [List.length_drop] at hl
    rw [numR_app hok (by omega) (by omega) hd, if_neg (by simp only; omega)]
    have hd2 : xs.drop (k + (varB (ys.length : Int)).length) = ys ++ rest := by rw [← List.drop_drop, hd, List.drop_left]
    simp only
    rw [takeR_app (by omega) hd2, List.length_append, Nat.add_assoc]

theorem bodyR_app {r : Rec} {o t : Int} (hr : recOk r = true) (hb : baseOk o t = true) (hok : okBs (recBody r o t) = true) :
    bodyR (recBody r o t) 0 false o t = (r, ((recBody r o t).length : Int), false) := by
  obtain ⟨⟨o0, o1⟩, t0, t1⟩ := baseOk_iff.1 hb
  obtain ⟨⟨r0, r1⟩, ⟨q0, q1⟩, pk, pv⟩ := recOk_iff.1 hr
  obtain ⟨xs, hxs⟩ : ∃ xs, recBody r o t = xs := ⟨_, rfl⟩
  have e : xs = varB (r.time - t) ++ (varB (r.off - o) ++ (putP r.hk r.key ++ (putP r.hv r.val ++ []))) := by rw [← hxs]; simp [recBody]
  rw [hxs] at hok ⊢
  have hlen : xs.length = (varB (r.time - t)).length + ((varB (r.off - o)).length + ((putP r.hk r.key).length + (putP r.hv r.val).length)) := by rw [e]; simp
  have g1 := numR_app (k := 0) hok (by omega) (by omega) (show xs.drop 0 = varB (r.time - t) ++ _ by rw [List.drop_zero]; exact e)
  obtain ⟨a, ha⟩ : ∃ a, 0 + (varB (r.time - t)).length = a := ⟨_, rfl⟩
  rw [ha] at g1
  have d1 : xs.drop a = varB (r.off - o) ++ (putP r.hk r.key ++ (putP r.hv r.val ++ [])) := by rw [← ha, Nat.zero_add, e, List.drop_left]
  have g2 := numR_app hok (by omega) (by omega) d1
  obtain ⟨b, hb2⟩ : ∃ b, a + (varB (r.off - o)).length = b := ⟨_, rfl⟩
  rw [hb2] at g2
  have d2 : xs.drop b = putP r.hk r.key ++ (putP r.hv r.val ++ []) := by rw [← hb2, ← List.drop_drop, d1, List.drop_left]
  have g3 := partR_app hok pk (by omega) d2
  obtain ⟨c, hc⟩ : ∃ c, b + (putP r.hk r.key).length = c := ⟨_, rfl⟩
  rw [hc] at g3
  have d3 : xs.drop c = putP r.hv r.val ++ [] := by rw [← hc, ← List.drop_drop, d2, List.drop_left]
  have g4 := partR_app hok pv (by omega) d3
  have er : (⟨o + (r.off - o), t + (r.time - t), r.hk, r.key, r.hv, r.val⟩ : Rec) = r := by
    rw [show o + (r.off - o) = r.off by omega, show t + (r.time - t) = r.time by omega]
  have g1' : numR xs 0 false = (r.time - t, (a : Int), false) := g1
  unfold bodyR
  simp only [g1', g2, g3, g4, er]
  rw [show ((c + (putP r.hv r.val).length : Nat) : Int) = (xs.length : Int) by omega]
theorem bodyR_yes {xs : List Int} {o t nx : Int} {r : Rec} (hok : okBs xs = true) (h : bodyR xs 0 false o t = (r, nx, false)) (hn : ¬ nx < (xs.length : Int)) : xs = recBody r o t := by
  unfold bodyR at h
  simp only at h
  obtain ⟨⟨dt, a, f1⟩, hg1⟩ : ∃ g, numR xs 0 false = g := ⟨_, rfl⟩
  rw [hg1] at h
  simp only at h
  obtain ⟨⟨dd, b, f2⟩, hg2⟩ : ∃ g, numR xs a f1 = g := ⟨_, rfl⟩
  rw [hg2] at h
  simp only at h
  obtain ⟨⟨hk, key, c, f3⟩, hg3⟩ : ∃ g, partR xs b f2 = g := ⟨_, rfl⟩
  rw [hg3] at h
  simp only at h
  obtain ⟨⟨hv, val, d, f4⟩, hg4⟩ : ∃ g, partR xs c f3 = g := ⟨_, rfl⟩
  rw [hg4] at h
  simp only [Prod.mk.injEq] at h
  obtain ⟨rfl, rfl, rfl⟩ := h
  have hf3 : f3 = false := by
    cases f3 with
    | false => rfl
    | true => exact absurd hg4 (by simp [partR, numR, takeR])
  subst hf3
  have hf2 : f2 = false := by
    cases f2 with
    | false => rfl
    | true => exact absurd hg3 (by simp [partR, numR, takeR])
  subst hf2
  have hf1 : f1 = false := by
    cases f1 with
    | false => rfl
    | true => exact absurd hg2 (by simp [numR])
  subst hf1
  obtain ⟨_, b1, b2, rfl, e1, l1⟩ := numR_yes (k := 0) hok hg1
  obtain ⟨_, c1, c2, rfl, e2, l2⟩ := numR_yes hok hg2
  obtain ⟨_, e3, rfl, l3⟩ := partR_yes hok hg3
  obtain ⟨_, e4, rfl, l4⟩ := partR_yes hok hg4
  have e5 : xs.drop (0 + (varB dt).length + (varB dd).length + (putP hk key).length + (putP hv val).length) = [] := List.drop_eq_nil_of_le (by omega)
  rw [e5] at e4
  rw [List.drop_zero] at e1
  rw [e4] at e3
  rw [e3] at e2
  rw [e2] at e1
  rw [e1]
  unfold recBody
  rw [show t + dt - t = dt by omega, show o + dd - o = dd by omega]
  simp

theorem okBs_app {xs ys : List Int} (h : okBs (xs ++ ys) = true) : okBs xs = true ∧ okBs ys = true := by
  unfold okBs at h ⊢
  rw [List.all_append, Bool.and_eq_true] at h
  exact h
theorem fromR_eq {xs : List Int} (hok : okBs xs = true) {k : Nat} {o t : Int} (hb : baseOk o t = true) : fromR xs (k : Int) o t = rdRec xs k o t := by
  by_cases hk : k ≤ xs.length
  · by_cases hx : ∃ r, RecAt xs k o t r
    · obtain ⟨r, hr⟩ := hx
      rw [rdRec_at hb hk hr]
      obtain ⟨hrok, rest, hd⟩ := hr
      have hl := recBody_len (o := o) (t := t) hrok
      have e0 : xs.drop k = varB ((recBody r o t).length : Int) ++ (recBody r o t ++ rest) := by rw [hd]; simp [recBytes]
      have g1 := numR_app hok (by omega) (by omega) e0
      have hlen : (xs.drop k).length = (varB ((recBody r o t).length : Int)).length + ((recBody r o t).length + rest.length) := by rw [e0, List.length_append, List.length_append]
      rw [List.length_drop] at hlen
      have e1 : xs.drop (k + (varB ((recBody r o t).length : Int)).length) = recBody r o t ++ rest := by rw [← List.drop_drop, e0, List.drop_left]
      have g2 := takeR_app (by omega) e1
      have hob : okBs (recBody r o t) = true := by
        have h1 := okBs_drop hok k
        rw [e0] at h1
        exact (okBs_app (okBs_app h1).2).1
      have g3 := bodyR_app hrok hb hob
      unfold fromR
      simp only [g1, g2, g3]
      rw [if_neg (by simp), if_neg (by simp), if_neg (by omega), if_neg (by simp [hrok]), show (recBytes r o t).length = (varB ((recBody r o t).length : Int)).length + (recBody r o t).length by simp [recBytes], Nat.add_assoc]
    · rw [rdRec_no hb hk (fun r hr => hx ⟨r, hr⟩)]
      unfold fromR
      simp only
      obtain ⟨⟨n, a, f1⟩, hg1⟩ : ∃ g, numR xs k false = g := ⟨_, rfl⟩
      rw [hg1]
      simp only
      obtain ⟨⟨bs, b, f2⟩, hg2⟩ : ∃ g, takeR xs a f1 n = g := ⟨_, rfl⟩
      rw [hg2]
      simp only
      obtain ⟨⟨r, c, f3⟩, hg3⟩ : ∃ g, bodyR bs 0 false o t = g := ⟨_, rfl⟩
      rw [hg3]
      simp only
      split
      · rfl
      split
      · rfl
      split
      · rfl
      split
      · rfl
      · rename_i hf2 hf3 hc hrok
        exfalso
        obtain rfl : f2 = false := by simpa using hf2
        obtain rfl : f3 = false := by simpa using hf3
        have hf1 : f1 = false := by
          cases f1 with
          | false => rfl
          | true => exact absurd hg2 (by simp [takeR])
        subst hf1
        obtain ⟨_, b1, b2, rfl, e1, l1⟩ := numR_yes hok hg1
        obtain ⟨_, j, rfl, c1, c2, c3, c4⟩ := takeR_yes hg2
        have hbs : okBs bs = true := by rw [c1]; exact okBs_take (okBs_drop hok _) _
        have hbody := bodyR_yes hbs hg3 hc
        refine hx ⟨r, by simpa using hrok, xs.drop (k + (varB (j : Int)).length + j), ?_⟩
        unfold recBytes
        rw [← hbody, c2, List.append_assoc, ← List.drop_drop (i := j), c1, List.take_append_drop]
        exact e1
  · have e : numR xs (k : Int) false = (0, (k : Int), true) := by
      unfold numR
      rw [if_neg (by simp), rdV_nat hok]
      have : rdVar xs k = (0, 0, false) := by
        unfold rdVar
        rw [List.drop_eq_nil_of_le (by omega)]
        exact rdR_no rfl
      rw [this]
      rfl
    rw [rdRec_end (by omega)]
    unfold fromR
    simp only [e, takeR_f]
    rw [if_pos trivial]
theorem numR_range {xs : List Int} (hok : okBs xs = true) (k : Int) (f : Bool) : -1000000 ≤ (numR xs k f).1 ∧ (numR xs k f).1 ≤ 1000000 ∧ (k ≤ (numR xs k f).2.1) ∧ ((numR xs k f).2.1 = k ∨ (numR xs k f).2.1 ≤ xs.length) := by
  cases f with
  | true => rw [numR_f]; exact ⟨by simp, by simp, by simp, .inl rfl⟩
  | false =>
    by_cases hk : k < 0
    · have : numR xs k false = (0, k, true) := by unfold numR; rw [if_neg (by simp), rdV_neg hk]; rfl
      rw [this]
      exact ⟨by simp, by simp, by simp, .inl rfl⟩
    · obtain ⟨k, rfl⟩ := Int.eq_ofNat_of_zero_le (Int.not_lt.1 hk)
      obtain ⟨⟨n, nx, b⟩, hg⟩ : ∃ g, numR xs k false = g := ⟨_, rfl⟩
      rw [hg]
      cases b with
      | false =>
        obtain ⟨_, a1, a2, rfl, _, a5⟩ := numR_yes hok hg
        exact ⟨a1, a2, by simp only; omega, .inr (by simp only; omega)⟩
      | true =>
        unfold numR at hg
        rw [if_neg (by simp)] at hg
        split at hg
        · simp at hg
        · simp only [Prod.mk.injEq, and_true] at hg
          obtain ⟨rfl, rfl⟩ := hg
          exact ⟨by simp, by simp, by simp, .inl rfl⟩
theorem takeR_range (xs : List Int) (k : Int) (f : Bool) (m : Int) : k ≤ (takeR xs k f m).2.1 ∧ ((takeR xs k f m).2.1 = k ∨ (takeR xs k f m).2.1 ≤ xs.length) := by
  unfold takeR
  split
  · exact ⟨by simp, .inl rfl⟩
  split
  · exact ⟨by simp, .inl rfl⟩
  split
  · exact ⟨by simp, .inl rfl⟩
  split
  · exact ⟨by simp, .inl rfl⟩
  · exact ⟨by simp only; omega, .inr (by simp only; omega)⟩
end Go.Proofs.Ytomlejfilfdnbaa
