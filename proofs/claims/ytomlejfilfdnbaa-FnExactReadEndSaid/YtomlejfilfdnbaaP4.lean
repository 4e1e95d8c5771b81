/- Chapter 4, plain functions: packing and its undoing. -/
import Derived.Test.YtomlejfilfdnbaaA0
namespace Go.Proofs.Ytomlejfilfdnbaa
set_option linter.unusedVariables false

/-- how many numbers from i on are those from j on, at most n -/
def mlen (xs : List Int) : Nat → Nat → Nat → Nat
  | 0, _, _ => 0
  | n + 1, i, j => if j < xs.length ∧ xs.getD i 0 = xs.getD j 0 then mlen xs n (i + 1) (j + 1) + 1 else 0
theorem mlen_le (xs : List Int) : ∀ (n i j : Nat), mlen xs n i j ≤ n
  | 0, _, _ => Nat.le_refl _
  | n + 1, i, j => by
    unfold mlen
    split
    · have := mlen_le xs n (i + 1) (j + 1); omega
    · omega
theorem mlen_in (xs : List Int) : ∀ (n i j : Nat), j + mlen xs n i j ≤ max j xs.length
  | 0, _, j => by unfold mlen; omega
  | n + 1, i, j => by
    unfold mlen
    split
    · rename_i h
      have := mlen_in xs n (i + 1) (j + 1)
      omega
    · omega
theorem mlen_at (xs : List Int) : ∀ (n i j k : Nat), k < mlen xs n i j → j + k < xs.length ∧ xs.getD (i + k) 0 = xs.getD (j + k) 0
  | 0, _, _, k => by unfold mlen; omega
  | n + 1, i, j, k => by
    unfold mlen
    split
    · rename_i h
      intro hk
      cases k with
      | zero => exact h
      | succ k =>
        have := mlen_at xs n (i + 1) (j + 1) k (by omega)
        rw [show i + (k + 1) = i + 1 + k by omega, show j + (k + 1) = j + 1 + k by omega]
        exact this
    · omega
theorem mlen_stop (xs : List Int) : ∀ (n i j : Nat), mlen xs n i j < n → ¬ (j + mlen xs n i j < xs.length ∧ xs.getD (i + mlen xs n i j) 0 = xs.getD (j + mlen xs n i j) 0)
  | 0, _, _ => by omega
  | n + 1, i, j => by
    unfold mlen
    split
    · rename_i h
      intro hk
      have := mlen_stop xs n (i + 1) (j + 1) (by omega)
      rw [show i + (mlen xs n (i + 1) (j + 1) + 1) = i + 1 + mlen xs n (i + 1) (j + 1) by omega, show j + (mlen xs n (i + 1) (j + 1) + 1) = j + 1 + mlen xs n (i + 1) (j + 1) by omega]
      exact this
    · rename_i h
      intro _
      exact h
/-- the run that agrees, and then ends, is that long -/
theorem mlen_eq {xs : List Int} {n i j m : Nat} (h1 : m ≤ n) (h2 : ∀ k, k < m → j + k < xs.length ∧ xs.getD (i + k) 0 = xs.getD (j + k) 0) (h3 : m = n ∨ ¬ (j + m < xs.length ∧ xs.getD (i + m) 0 = xs.getD (j + m) 0)) : mlen xs n i j = m := by
  rcases Nat.lt_trichotomy (mlen xs n i j) m with h | h | h
  · exact absurd (h2 _ h) (mlen_stop xs n i j (by omega))
  · exact h
  · rcases h3 with h3 | h3
    · have := mlen_le xs n i j; omega
    · exact absurd (mlen_at xs n i j m h) h3

/-- the longest match at a place, at most b back: how long, and how far back; of several ones the nearest -/
def bestB (xs : List Int) (j : Nat) : Nat → Nat × Nat
  | 0 => (0, 0)
  | b + 1 => if (bestB xs j b).1 < mlen xs 66 (j - (b + 1)) j then (mlen xs 66 (j - (b + 1)) j, b + 1) else bestB xs j b
theorem bestB_le (xs : List Int) (j : Nat) : ∀ b, (bestB xs j b).1 ≤ 66 ∧ (bestB xs j b).2 ≤ b ∧ j + (bestB xs j b).1 ≤ max j xs.length
  | 0 => by unfold bestB; exact ⟨by simp, by simp, by simp; omega⟩
  | b + 1 => by
    obtain ⟨h1, h2, h3⟩ := bestB_le xs j b
    unfold bestB
    split
    · exact ⟨mlen_le _ _ _ _, Nat.le_refl _, mlen_in _ _ _ _⟩
    · exact ⟨h1, by omega, h3⟩
/-- it is a match, or there is none -/
theorem bestB_is (xs : List Int) (j : Nat) : ∀ b, ((bestB xs j b).1 = 0 ∧ (bestB xs j b).2 = 0) ∨ (1 ≤ (bestB xs j b).2 ∧ 1 ≤ (bestB xs j b).1 ∧ (bestB xs j b).1 = mlen xs 66 (j - (bestB xs j b).2) j)
  | 0 => by unfold bestB; exact .inl ⟨rfl, rfl⟩
  | b + 1 => by
    have h := bestB_is xs j b
    unfold bestB
    split
    · exact .inr ⟨by simp, by simp only; omega, rfl⟩
    · exact h
/-- none is longer -/
theorem bestB_max (xs : List Int) (j : Nat) : ∀ b k, 1 ≤ k → k ≤ b → mlen xs 66 (j - k) j ≤ (bestB xs j b).1
  | 0, k, h1, h2 => by omega
  | b + 1, k, h1, h2 => by
    unfold bestB
    by_cases e : k = b + 1
    · subst e
      split
      · exact Nat.le_refl _
      · omega
    · have := bestB_max xs j b k h1 (by omega)
      split
      · omega
      · exact this
/-- none as long is nearer -/
theorem bestB_near (xs : List Int) (j : Nat) : ∀ b k, 1 ≤ k → k < (bestB xs j b).2 → mlen xs 66 (j - k) j < (bestB xs j b).1
  | 0, k, h1, h2 => by simp [bestB] at h2
  | b + 1, k, h1, h2 => by
    unfold bestB at h2 ⊢
    split
    · rename_i h
      rw [if_pos h] at h2
      simp only at h2
      have := bestB_max xs j b k h1 (by omega)
      omega
    · rename_i h
      rw [if_neg h] at h2
      exact bestB_near xs j b k h1 h2
/-- a match that none exceeds and that none as long is nearer than, is the one -/
theorem bestB_eq {xs : List Int} {j b k : Nat} (h1 : 1 ≤ k) (h2 : k ≤ b) (hp : 1 ≤ mlen xs 66 (j - k) j) (hm : ∀ q, 1 ≤ q → q ≤ b → mlen xs 66 (j - q) j ≤ mlen xs 66 (j - k) j) (hn : ∀ q, 1 ≤ q → q < k → mlen xs 66 (j - q) j < mlen xs 66 (j - k) j) :
    bestB xs j b = (mlen xs 66 (j - k) j, k) := by
  have ha := bestB_max xs j b k h1 h2
  obtain ⟨_, hb2, _⟩ := bestB_le xs j b
  rcases bestB_is xs j b with ⟨h0, _⟩ | ⟨c1, c2, c3⟩
  · omega
  · have hle := hm _ c1 hb2
    have hl : (bestB xs j b).1 = mlen xs 66 (j - k) j := by omega
    have hk : (bestB xs j b).2 = k := by
      rcases Nat.lt_trichotomy (bestB xs j b).2 k with h | h | h
      · have := hn _ c1 h; omega
      · exact h
      · have := bestB_near xs j b k h1 h; omega
    exact Prod.ext hl hk
/-- without a match of a number there is none -/
theorem bestB_none {xs : List Int} {j b : Nat} {n : Nat} (h : ∀ q, 1 ≤ q → q ≤ b → mlen xs 66 (j - q) j < n) (hn : 0 < n) : (bestB xs j b).1 < n := by
  obtain ⟨_, hb2, _⟩ := bestB_le xs j b
  rcases bestB_is xs j b with ⟨h0, _⟩ | ⟨c1, c2, c3⟩
  · omega
  · have := h _ c1 hb2; omega

/-- numbers as they are, in pieces of 64 -/
def plainF : Nat → List Int → List Int
  | 0, _ => []
  | n + 1, xs => if xs = [] then [] else (min 64 xs.length - 1 : Nat) :: (xs.take 64 ++ plainF n (xs.drop 64))
def plainP (xs : List Int) : List Int := plainF xs.length xs
theorem plainF_more : ∀ (n : Nat) (xs : List Int), xs.length ≤ n → plainF n xs = plainP xs := by
  have key : ∀ (m n : Nat) (xs : List Int), xs.length ≤ m → xs.length ≤ n → plainF m xs = plainF n xs := by
    intro m
    induction m with
    | zero =>
      intro n xs h1 h2
      have : xs = [] := List.eq_nil_of_length_eq_zero (by omega)
      subst this
      cases n <;> simp [plainF]
    | succ m ih =>
      intro n xs h1 h2
      cases n with
      | zero =>
        have : xs = [] := List.eq_nil_of_length_eq_zero (by omega)
        subst this
        simp [plainF]
      | succ n =>
        unfold plainF
        split
        · rfl
        · rename_i hx
          have hl : 0 < xs.length := List.length_pos_iff.2 hx
          rw [ih n (xs.drop 64) (by rw [List.length_drop]; omega) (by rw [List.length_drop]; omega)]
  intro n xs h
  exact key _ _ xs h (Nat.le_refl _)
theorem plainP_nil : plainP [] = [] := rfl
theorem plainP_cons {xs : List Int} (h : xs ≠ []) : plainP xs = ((min 64 xs.length - 1 : Nat) : Int) :: (xs.take 64 ++ plainP (xs.drop 64)) := by
  have hl : 0 < xs.length := List.length_pos_iff.2 h
  obtain ⟨n, hn⟩ : ∃ n, xs.length = n + 1 := ⟨xs.length - 1, by omega⟩
  conv => lhs; unfold plainP; rw [hn]; unfold plainF
  rw [if_neg h, plainF_more n (xs.drop 64) (by rw [List.length_drop]; omega)]

/-- the packed form of what follows a place, behind numbers that are still to be told as they are -/
def packF (xs : List Int) : Nat → Nat → List Int → List Int
  | 0, _, plain => plainP plain
  | n + 1, j, plain => if j < xs.length then
      (if (bestB xs j (min j 200)).1 < 3 then packF xs n (j + 1) (plain ++ [xs.getD j 0])
       else plainP plain ++ [((61 + (bestB xs j (min j 200)).1 : Nat) : Int), (((bestB xs j (min j 200)).2 : Nat) : Int)] ++ packF xs n (j + (bestB xs j (min j 200)).1) [])
    else plainP plain
def packP (xs : List Int) : List Int := packF xs xs.length 0 []
theorem packF_more (xs : List Int) : ∀ (m n j : Nat) (plain : List Int), xs.length ≤ j + m → xs.length ≤ j + n → packF xs m j plain = packF xs n j plain
  | 0, n, j, plain, h1, h2 => by
    cases n with
    | zero => rfl
    | succ n => unfold packF; rw [if_neg (by omega)]
  | m + 1, n, j, plain, h1, h2 => by
    cases n with
    | zero => unfold packF; rw [if_neg (by omega)]
    | succ n =>
      unfold packF
      split
      · split
        · exact packF_more xs m n _ _ (by omega) (by omega)
        · rw [packF_more xs m n _ _ (by omega) (by omega)]
      · rfl

/-- so many numbers, each one the one so far back -/
def repF : Nat → List Int → Nat → List Int
  | 0, out, _ => out
  | n + 1, out, back => repF n (out ++ [out.getD (out.length - back) 0]) back
theorem repF_len : ∀ (n : Nat) (out : List Int) (back : Nat), (repF n out back).length = out.length + n
  | 0, out, back => rfl
  | n + 1, out, back => by unfold repF; rw [repF_len]; simp; omega
/-- what a packed form has from a place on, behind what has come so far -/
def unpackF : Nat → List Int → List Int → Option (List Int)
  | 0, form, out => if form = [] then some out else none
  | n + 1, form, out =>
    match form with
    | [] => some out
    | x :: rest =>
      if x < 64 then
        (if rest.length < x.toNat + 1 then none
         else if 200 < (out ++ rest.take (x.toNat + 1)).length then none else unpackF n (rest.drop (x.toNat + 1)) (out ++ rest.take (x.toNat + 1)))
      else if x < 128 then
        (match rest with
         | [] => none
         | y :: rest2 => if y < 1 then none else if (out.length : Int) < y then none
           else if 200 < out.length + (x - 61).toNat then none else unpackF n rest2 (repF (x - 61).toNat out y.toNat))
      else none
def unpackP (form : List Int) : Option (List Int) := unpackF form.length form []
end Go.Proofs.Ytomlejfilfdnbaa
