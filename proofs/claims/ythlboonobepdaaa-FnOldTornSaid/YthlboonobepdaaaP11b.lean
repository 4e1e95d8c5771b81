/- Chapter 11: what the program's reader reads of a message. -/
import Derived.Test.YthlboonobepdaaaP11
import Derived.Test.YthlboonobepdaaaP3c
import Derived.Test.YthlboonobepdaaaW2b
namespace Go.Proofs.Ythlboonobepdaaa
set_option linter.unusedVariables false

/-- a number of so many bytes -/
def intR (xs : List Int) (k : Int) (f : Bool) (m : Int) : Int × Int × Bool :=
  let t := takeR xs k f m
  (numF t.1 0 m, t.2.1, t.2.2 || !okF t.1 0 m)
/-- a part -/
def oPartR (xs : List Int) (k : Int) (f : Bool) : Bool × List Int × Int × Bool :=
  let g := intR xs k f 1
  if g.1 = 255 then (false, [], g.2.1, g.2.2) else
    let t := takeR xs g.2.1 g.2.2 g.1
    (true, t.1, t.2.1, t.2.2)
/-- a message, whether it is valid or not -/
def tellI (xs : List Int) : Mes :=
  let g0 := intR xs 0 false 3
  let t := takeR xs g0.2.1 g0.2.2 2
  let g1 := intR xs t.2.1 t.2.2 1
  let td : Bool := decide (g1.1 = 1)
  let g2 := if td = true then intR xs g1.2.1 g1.2.2 3 else (0, g1.2.1, g1.2.2)
  let p := oPartR xs g2.2.1 g2.2.2
  let q := oPartR xs p.2.2.1 p.2.2.2
  ⟨g0.1, td, g2.1, p.2.1, q.2.1, p.1, !q.1⟩
theorem takeR_in (xs : List Int) (k : Int) (f : Bool) (m : Int) (h0 : 0 ≤ k) (h1 : k ≤ xs.length) : 0 ≤ (takeR xs k f m).2.1 ∧ (takeR xs k f m).2.1 ≤ xs.length := by
  unfold takeR
  split
  · exact ⟨h0, h1⟩
  split
  · exact ⟨h0, h1⟩
  split
  · exact ⟨h0, h1⟩
  split
  · exact ⟨h0, h1⟩
  · simp only; omega
theorem takeR_lenO (xs : List Int) (k : Int) (f : Bool) (m : Int) : (takeR xs k f m).1.length ≤ m.toNat := by
  unfold takeR
  split
  · simp
  split
  · simp
  split
  · simp
  split
  · simp
  · simp only [List.length_take]; omega
theorem intR_in (xs : List Int) (k : Int) (f : Bool) (m : Int) (h0 : 0 ≤ k) (h1 : k ≤ xs.length) : 0 ≤ (intR xs k f m).2.1 ∧ (intR xs k f m).2.1 ≤ xs.length := takeR_in xs k f m h0 h1
theorem numF_in (ys : List Int) (m : Int) : 0 ≤ numF ys 0 m ∧ numF ys 0 m ≤ 16777215 ∧ (m = 1 → numF ys 0 m ≤ 255) := by
  cases h : okF ys 0 m with
  | false => rw [numF_no h]; omega
  | true =>
    rw [numF_yes h]
    obtain ⟨q, n, e, rfl, m1, m3, hq, hok⟩ := okF_yes h
    have ht : okBs ((ys.drop (0 : Int).toNat).take ((n : Int)).toNat) = true := by
      unfold okBs at hok ⊢
      rw [List.all_eq_true] at hok ⊢
      exact fun x hx => hok x (List.mem_of_mem_drop (List.mem_of_mem_take hx))
    have hl : ((ys.drop (0 : Int).toNat).take ((n : Int)).toNat).length ≤ n := by rw [List.length_take, Int.toNat_natCast]; omega
    have b := fromB_bound _ ht (by omega)
    refine ⟨b.1, b.2.2, fun e1 => ?_⟩
    have hn : n = 1 := by omega
    have h3 := b.2.1
    have h4 : (256 : Int) ^ ((ys.drop (0 : Int).toNat).take ((n : Int)).toNat).length ≤ 256 := by
      rcases (show ((ys.drop (0 : Int).toNat).take ((n : Int)).toNat).length = 0 ∨ ((ys.drop (0 : Int).toNat).take ((n : Int)).toNat).length = 1 by omega) with e | e <;> rw [e] <;> decide
    omega
theorem intR_num (xs : List Int) (k : Int) (f : Bool) (m : Int) : 0 ≤ (intR xs k f m).1 ∧ (intR xs k f m).1 ≤ 16777215 ∧ (m = 1 → (intR xs k f m).1 ≤ 255) := numF_in _ _
theorem oPartR_in (xs : List Int) (k : Int) (f : Bool) (h0 : 0 ≤ k) (h1 : k ≤ xs.length) : 0 ≤ (oPartR xs k f).2.2.1 ∧ (oPartR xs k f).2.2.1 ≤ xs.length := by
  unfold oPartR
  have h := intR_in xs k f 1 h0 h1
  simp only
  split
  · exact h
  · exact takeR_in xs _ _ _ h.1 h.2
theorem oPartR_len (xs : List Int) (k : Int) (f : Bool) : (oPartR xs k f).2.1.length ≤ 255 := by
  unfold oPartR
  have h := (intR_num xs k f 1).2.2 rfl
  simp only
  split
  · simp
  · refine Nat.le_trans (takeR_lenO _ _ _ _) ?_
    omega
theorem takeR_at {xs ys rest : List Int} {k : Nat} (h : xs.drop k = ys ++ rest) (hk : k ≤ xs.length) : takeR xs (k : Int) false (ys.length : Int) = (ys, ((k + ys.length : Nat) : Int), false) := by
  have hl : (xs.drop k).length = ys.length + rest.length := by rw [h, List.length_append]
  rw [List.length_drop] at hl
  unfold takeR
  rw [if_neg (by simp), if_neg (by omega), if_neg (by omega), if_neg (by omega), Int.toNat_natCast, Int.toNat_natCast, h, List.take_left]
  simp
theorem intR_at {xs rest : List Int} {k m : Nat} {n : Int} (h : xs.drop k = sfx m n ++ rest) (hk : k ≤ xs.length) (m1 : 1 ≤ m) (m3 : m ≤ 3) (n0 : 0 ≤ n) (n1 : n < 256 ^ m) : intR xs (k : Int) false (m : Int) = (n, ((k + m : Nat) : Int), false) := by
  have ht := takeR_at h hk
  rw [sfx_len] at ht
  have hok : okF (sfx m n) 0 (m : Int) = true := okF_mk (by omega) (by omega) (sfx_ok m n) (by omega) (by rw [sfx_len]; omega)
  unfold intR
  simp only [ht, hok]
  rw [numF_yes hok]
  have e : ((sfx m n).drop (0 : Int).toNat).take ((m : Int)).toNat = sfx m n := by
    rw [Int.toNat_natCast]
    show (sfx m n).take m = _
    exact List.take_of_length_le (by rw [sfx_len]; omega)
  rw [e, fromB_sfx m n n0 m3 n1]
  rfl
theorem sfx1_at {x : Int} (h0 : 0 ≤ x) (h1 : x ≤ 255) : sfx 1 x = [x] := by simp [sfx]; omega
theorem oPartR_at {xs rest ys : List Int} {k : Nat} {has : Bool} (hp : partOk has ys = true) (h : xs.drop k = partO has ys ++ rest) (hk : k ≤ xs.length) : oPartR xs (k : Int) false = (has, ys, ((k + (1 + ys.length) : Nat) : Int), false) := by
  obtain ⟨h1, h2, h3⟩ := partOk_iff.1 hp
  cases has with
  | false =>
    have hy := h1 rfl
    subst hy
    have e : xs.drop k = sfx 1 255 ++ rest := by rw [h]; rfl
    have g := intR_at e hk (by omega) (by omega) (by omega) (by decide)
    unfold oPartR
    rw [show ((1 : Nat) : Int) = 1 from rfl] at g
    simp only [g, if_true]
    rfl
  | true =>
    have e : xs.drop k = sfx 1 (ys.length : Int) ++ (ys ++ rest) := by rw [h, sfx1_at (by omega) (by omega)]; rfl
    have g := intR_at e hk (by omega) (by omega) (by omega) (by show (ys.length : Int) < 256 ^ 1; omega)
    have hl : (xs.drop k).length = 1 + ys.length + rest.length := by rw [e, List.length_append, List.length_append, sfx_len]; omega
    rw [List.length_drop] at hl
    have d1 : xs.drop (k + 1) = ys ++ rest := by rw [← List.drop_drop, e, List.drop_left' (sfx_len _ _)]
    have t := takeR_at d1 (by omega)
    unfold oPartR
    rw [show ((1 : Nat) : Int) = 1 from rfl] at g
    simp only [g]
    rw [if_neg (by omega), t]
    simp only [Prod.mk.injEq, and_true, true_and]
    omega
/-- a message is read back by the program, too -/
theorem tellI_of {m : Mes} (h : mOk m = true) : tellI (mBytes m) = m := by
  have hlen := mBytes_len h
  obtain ⟨⟨⟨o0, o1⟩, ⟨t0, t1⟩, p1, p2⟩, ht⟩ := mOk_iff.1 h
  obtain ⟨off, timed, time, key, val, hk, miss⟩ := m
  simp only at o0 o1 t0 t1 p1 p2 ht hlen
  have hs := sumB_bound (restO ⟨off, timed, time, key, val, hk, miss⟩)
  obtain ⟨S, hS⟩ : ∃ S, sumB (restO ⟨off, timed, time, key, val, hk, miss⟩) = S := ⟨_, rfl⟩
  rw [hS] at hs
  obtain ⟨xs, hx⟩ : ∃ xs, mBytes ⟨off, timed, time, key, val, hk, miss⟩ = xs := ⟨_, rfl⟩
  have e : xs = sfx 3 off ++ (sfx 2 S ++ (headO ⟨off, timed, time, key, val, hk, miss⟩ ++ (partO hk key ++ (partO (!miss) val)))) := by
    rw [← hx, ← hS]; simp [mBytes, restO]
  rw [hx] at hlen ⊢
  have hl11 : 8 ≤ xs.length := by split at hlen <;> omega
  have g0 : intR xs 0 false 3 = (off, 3, false) := intR_at (k := 0) (m := 3) (show xs.drop 0 = _ from e) (by omega) (by omega) (by omega) o0 (by show off < 256 ^ 3; omega)
  have d3 : xs.drop 3 = sfx 2 S ++ (headO ⟨off, timed, time, key, val, hk, miss⟩ ++ (partO hk key ++ (partO (!miss) val))) := by rw [e, List.drop_left' (sfx_len _ _)]
  have g1 : takeR xs 3 false 2 = (sfx 2 S, 5, false) := by
    have := takeR_at d3 (by omega)
    rw [sfx_len] at this
    exact this
  have d5 : xs.drop 5 = headO ⟨off, timed, time, key, val, hk, miss⟩ ++ (partO hk key ++ (partO (!miss) val)) := by
    rw [show (5 : Nat) = 3 + 2 from rfl, ← List.drop_drop, d3, List.drop_left' (sfx_len _ _)]
  have hmiss : (!!miss) = miss := by cases miss <;> rfl
  cases timed with
  | true =>
    rw [if_pos rfl] at hlen
    have e5 : xs.drop 5 = sfx 1 1 ++ (sfx 3 time ++ (partO hk key ++ partO (!miss) val)) := by rw [d5]; simp [headO, sfx]
    have g2 : intR xs 5 false 1 = (1, 6, false) := intR_at (k := 5) (m := 1) e5 (by omega) (by omega) (by omega) (by omega) (by decide)
    have d6 : xs.drop 6 = sfx 3 time ++ (partO hk key ++ partO (!miss) val) := by rw [show (6 : Nat) = 5 + 1 from rfl, ← List.drop_drop, e5, List.drop_left' (sfx_len _ _)]
    have g3 : intR xs 6 false 3 = (time, 9, false) := intR_at (k := 6) (m := 3) d6 (by omega) (by omega) (by omega) t0 (by show time < 256 ^ 3; omega)
    have d9 : xs.drop 9 = partO hk key ++ partO (!miss) val := by rw [show (9 : Nat) = 6 + 3 from rfl, ← List.drop_drop, d6, List.drop_left' (sfx_len _ _)]
    have g4 : oPartR xs 9 false = (hk, key, ((9 + (1 + key.length) : Nat) : Int), false) := oPartR_at (k := 9) p1 d9 (by omega)
    have d10 : xs.drop (9 + (1 + key.length)) = partO (!miss) val ++ [] := by
      rw [← List.drop_drop, d9, List.drop_left' (by rw [partO_len p1]), List.append_nil]
    have g5 := oPartR_at p2 d10 (by omega)
    unfold tellI
    simp only [g0, g1, g2, decide_true, if_true, g3, g4, g5, hmiss]
  | false =>
    rw [if_neg (by simp)] at hlen
    have e5 : xs.drop 5 = sfx 1 0 ++ (partO hk key ++ partO (!miss) val) := by rw [d5]; simp [headO, sfx]
    have g2 : intR xs 5 false 1 = (0, 6, false) := intR_at (k := 5) (m := 1) e5 (by omega) (by omega) (by omega) (by omega) (by decide)
    have d6 : xs.drop 6 = partO hk key ++ partO (!miss) val := by rw [show (6 : Nat) = 5 + 1 from rfl, ← List.drop_drop, e5, List.drop_left' (sfx_len _ _)]
    have g4 : oPartR xs 6 false = (hk, key, ((6 + (1 + key.length) : Nat) : Int), false) := oPartR_at (k := 6) p1 d6 (by omega)
    have d10 : xs.drop (6 + (1 + key.length)) = partO (!miss) val ++ [] := by
      rw [← List.drop_drop, d6, List.drop_left' (by rw [partO_len p1]), List.append_nil]
    have g5 := oPartR_at p2 d10 (by omega)
    obtain rfl : time = 0 := by rcases ht with h | h; cases h; exact h
    unfold tellI
    simp only [g0, g1, g2, show decide ((0 : Int) = 1) = false from rfl, Bool.false_eq_true, if_false, g4, g5, hmiss]
/-- what the program's reader finds is what the model finds -/
theorem rdM_tell (xs : List Int) : rdM xs = if mOk (tellI xs) = true ∧ mBytes (tellI xs) = xs then (tellI xs, true) else (Mes.zero, false) := by
  rcases rdM_cases xs with h | ⟨m, h, h1, h2⟩
  · rw [h]
    by_cases c : mOk (tellI xs) = true ∧ mBytes (tellI xs) = xs
    · have := rdM_of c.1
      rw [c.2, h] at this
      simp at this
    · rw [if_neg c]
  · have e := tellI_of h1
    rw [h2] at e
    rw [h, e, if_pos ⟨h1, h2⟩]
theorem tellI_len (xs : List Int) : (tellI xs).key.length ≤ 255 ∧ (tellI xs).val.length ≤ 255 := ⟨oPartR_len _ _ _, oPartR_len _ _ _⟩
end Go.Proofs.Ythlboonobepdaaa
