/- Chapter 4, plain theorems: what was packed is unpacked; how long packed forms are; forms that are put together. -/
import Derived.Test.YtomlejfilfdnbaaP4
import Derived.Test.YtomlejfilfdnbaaA1
namespace Go.Proofs.Ytomlejfilfdnbaa
set_option linter.unusedVariables false

theorem plainP_len (xs : List Int) : (plainP xs).length = xs.length + (xs.length + 63) / 64 := by
  have key : ∀ (n : Nat) (xs : List Int), xs.length ≤ n → (plainP xs).length = xs.length + (xs.length + 63) / 64 := by
    intro n
    induction n with
    | zero =>
      intro xs h
      obtain rfl : xs = [] := List.eq_nil_of_length_eq_zero (by omega)
      rfl
    | succ n ih =>
      intro xs h
      by_cases hx : xs = []
      · subst hx; rfl
      · have hl : 0 < xs.length := List.length_pos_iff.2 hx
        rw [plainP_cons hx, List.length_cons, List.length_append, ih _ (by rw [List.length_drop]; omega), List.length_take, List.length_drop]
        omega
  exact key _ xs (Nat.le_refl _)
theorem packF_len (xs : List Int) : ∀ (n j : Nat) (plain : List Int), xs.length ≤ j + n → j ≤ xs.length → (packF xs n j plain).length ≤ (xs.length - j + plain.length) + (xs.length - j + plain.length + 63) / 64
  | 0, j, plain, h, hj => by unfold packF; rw [plainP_len]; omega
  | n + 1, j, plain, h, hj => by
    unfold packF
    split
    · rename_i hlt
      split
      · have := packF_len xs n (j + 1) (plain ++ [xs.getD j 0]) (by omega) (by omega)
        rw [List.length_append, List.length_singleton] at this
        rw [show xs.length - (j + 1) + (plain.length + 1) = xs.length - j + plain.length by omega] at this
        exact this
      · rename_i hL
        obtain ⟨_, _, h3⟩ := bestB_le xs j (min j 200)
        have := packF_len xs n (j + (bestB xs j (min j 200)).1) [] (by omega) (by omega)
        simp only [List.length_append, List.length_cons, List.length_nil, plainP_len] at this ⊢
        omega
    · rw [plainP_len]; omega
theorem packP_len (xs : List Int) : (packP xs).length ≤ xs.length + (xs.length + 63) / 64 := by
  have := packF_len xs xs.length 0 [] (by omega) (by omega)
  unfold packP
  simpa using this

theorem okB_cons {x : Int} {xs : List Int} : okBs (x :: xs) = true ↔ (0 ≤ x ∧ x ≤ 255) ∧ okBs xs = true := by
  unfold okBs
  simp
theorem okB_append {xs ys : List Int} : okBs (xs ++ ys) = true ↔ okBs xs = true ∧ okBs ys = true := by
  unfold okBs
  rw [List.all_append, Bool.and_eq_true]
theorem okB_getD {xs : List Int} (h : okBs xs = true) (i : Nat) : 0 ≤ xs.getD i 0 ∧ xs.getD i 0 ≤ 255 := by
  by_cases hi : i < xs.length
  · exact okBs_at h i hi
  · rw [getD_out _ _ (by omega)]; simp
theorem plainP_ok : ∀ (n : Nat) (xs : List Int), xs.length ≤ n → okBs xs = true → okBs (plainP xs) = true
  | 0, xs, h, hok => by
    obtain rfl : xs = [] := List.eq_nil_of_length_eq_zero (by omega)
    rfl
  | n + 1, xs, h, hok => by
    by_cases hx : xs = []
    · subst hx; rfl
    · have hl : 0 < xs.length := List.length_pos_iff.2 hx
      rw [plainP_cons hx, okB_cons, okB_append]
      exact ⟨⟨by omega, by omega⟩, okBs_take hok _, plainP_ok n _ (by rw [List.length_drop]; omega) (okBs_drop hok _)⟩
theorem packF_ok (xs : List Int) (hok : okBs xs = true) : ∀ (n j : Nat) (plain : List Int), okBs plain = true → okBs (packF xs n j plain) = true
  | 0, j, plain, hp => plainP_ok _ _ (Nat.le_refl _) hp
  | n + 1, j, plain, hp => by
    unfold packF
    split
    · split
      · exact packF_ok xs hok n _ _ (okB_append.2 ⟨hp, okB_cons.2 ⟨okB_getD hok j, rfl⟩⟩)
      · obtain ⟨h1, h2, h3⟩ := bestB_le xs j (min j 200)
        refine okB_append.2 ⟨okB_append.2 ⟨plainP_ok _ _ (Nat.le_refl _) hp, okB_cons.2 ⟨⟨by omega, by omega⟩, okB_cons.2 ⟨⟨by omega, by omega⟩, rfl⟩⟩⟩, packF_ok xs hok n _ _ rfl⟩
    · exact plainP_ok _ _ (Nat.le_refl _) hp
theorem packP_ok {xs : List Int} (hok : okBs xs = true) : okBs (packP xs) = true := packF_ok xs hok _ _ _ rfl

def unpackG (form out : List Int) : Option (List Int) := unpackF form.length form out
theorem unpackF_more : ∀ (n m : Nat) (form out : List Int), form.length ≤ n → form.length ≤ m → unpackF n form out = unpackF m form out
  | 0, m, form, out, h1, h2 => by
    obtain rfl : form = [] := List.eq_nil_of_length_eq_zero (by omega)
    cases m <;> simp [unpackF]
  | n + 1, m, form, out, h1, h2 => by
    cases form with
    | nil => cases m <;> simp [unpackF]
    | cons x rest =>
      cases m with
      | zero => simp at h2
      | succ m =>
        simp only [List.length_cons] at h1 h2
        unfold unpackF
        simp only
        split
        · split
          · rfl
          · split
            · rfl
            · exact unpackF_more n m _ _ (by rw [List.length_drop]; omega) (by rw [List.length_drop]; omega)
        · split
          · cases rest with
            | nil => rfl
            | cons y rest2 =>
              simp only [List.length_cons] at h1 h2
              simp only
              split
              · rfl
              · split
                · rfl
                · split
                  · rfl
                  · exact unpackF_more n m _ _ (by omega) (by omega)
          · rfl
theorem unpackG_nil (out : List Int) : unpackG [] out = some out := rfl
theorem unpackG_plain {ys rest out : List Int} (h0 : ys ≠ []) (h1 : ys.length ≤ 64) (h2 : out.length + ys.length ≤ 200) : unpackG (((ys.length - 1 : Nat) : Int) :: (ys ++ rest)) out = unpackG rest (out ++ ys) := by
  have hl : 0 < ys.length := List.length_pos_iff.2 h0
  conv => lhs; unfold unpackG; rw [List.length_cons]; unfold unpackF
  simp only
  rw [if_pos (by omega), show (((ys.length - 1 : Nat) : Int)).toNat + 1 = ys.length by omega, if_neg (by rw [List.length_append]; omega), List.take_left, List.drop_left, if_neg (by rw [List.length_append]; omega)]
  exact unpackF_more _ _ _ _ (by rw [List.length_append]; omega) (Nat.le_refl _)
theorem unpackG_match {L back : Nat} {rest out : List Int} (h0 : 3 ≤ L) (h1 : L ≤ 66) (h2 : 1 ≤ back) (h3 : back ≤ out.length) (h4 : out.length + L ≤ 200) : unpackG (((61 + L : Nat) : Int) :: ((back : Nat) : Int) :: rest) out = unpackG rest (repF L out back) := by
  conv => lhs; unfold unpackG; rw [List.length_cons]; unfold unpackF
  simp only
  rw [if_neg (by omega), if_pos (by omega), if_neg (by omega), if_neg (by omega), show ((((61 + L : Nat) : Int)) - 61).toNat = L by omega, if_neg (by omega), Int.toNat_natCast]
  exact unpackF_more _ _ _ _ (by simp) (Nat.le_refl _)
theorem unpackG_plainP : ∀ (n : Nat) (p rest out : List Int), p.length ≤ n → out.length + p.length ≤ 200 → unpackG (plainP p ++ rest) out = unpackG rest (out ++ p)
  | 0, p, rest, out, h, h2 => by
    obtain rfl : p = [] := List.eq_nil_of_length_eq_zero (by omega)
    rw [plainP_nil, List.nil_append, List.append_nil]
  | n + 1, p, rest, out, h, h2 => by
    by_cases hp : p = []
    · subst hp; rw [plainP_nil, List.nil_append, List.append_nil]
    · have hl : 0 < p.length := List.length_pos_iff.2 hp
      have ht : (p.take 64).length = min 64 p.length := List.length_take
      have h1 := unpackG_plain (ys := p.take 64) (rest := plainP (p.drop 64) ++ rest) (out := out) (fun e => by rw [e] at ht; simp at ht; omega) (by omega) (by omega)
      rw [ht] at h1
      rw [plainP_cons hp, List.cons_append, List.append_assoc, h1, unpackG_plainP n _ _ _ (by rw [List.length_drop]; omega) (by rw [List.length_append, List.length_drop]; omega), List.append_assoc, List.take_append_drop]
theorem take_snoc1 (xs : List Int) (j : Nat) (h : j < xs.length) : xs.take j ++ [xs.getD j 0] = xs.take (j + 1) := (take_snoc0 xs j h _ rfl).symm
theorem repF_match (xs : List Int) : ∀ (L j back : Nat), 1 ≤ back → back ≤ j → (∀ k, k < L → j + k < xs.length ∧ xs.getD (j - back + k) 0 = xs.getD (j + k) 0) → repF L (xs.take j) back = xs.take (j + L)
  | 0, j, back, _, _, _ => rfl
  | L + 1, j, back, h1, h2, hm => by
    unfold repF
    obtain ⟨h0, e0⟩ := hm 0 (by omega)
    have hl : (xs.take j).length = j := by rw [List.length_take]; omega
    have e1 : (xs.take j).getD ((xs.take j).length - back) 0 = xs.getD j 0 := by
      rw [hl]
      rw [Nat.add_zero, Nat.add_zero] at e0
      rw [← e0]
      simp only [List.getD]
      rw [List.getElem?_take_of_lt (by omega)]
    rw [e1, take_snoc1 xs j (by omega), repF_match xs L (j + 1) back h1 (by omega) (fun k hk => by
      have := hm (k + 1) (by omega)
      rw [show j + 1 - back + k = j - back + (k + 1) by omega, show j + 1 + k = j + (k + 1) by omega]
      exact this), show j + 1 + L = j + (L + 1) by omega]
theorem unpack_packF (xs : List Int) (hl : xs.length ≤ 200) : ∀ (n j : Nat) (plain out : List Int), xs.length ≤ j + n → j ≤ xs.length → out ++ plain = xs.take j → unpackG (packF xs n j plain) out = some xs
  | 0, j, plain, out, h, hj, ho => by
    have hlen : (out ++ plain).length = j := by rw [ho, List.length_take]; omega
    rw [List.length_append] at hlen
    unfold packF
    have := unpackG_plainP _ plain [] out (Nat.le_refl _) (by omega)
    rw [List.append_nil] at this
    rw [this, unpackG_nil, ho, List.take_of_length_le (by omega)]
  | n + 1, j, plain, out, h, hj, ho => by
    have hlen : (out ++ plain).length = j := by rw [ho, List.length_take]; omega
    rw [List.length_append] at hlen
    unfold packF
    split
    · rename_i hlt
      split
      · exact unpack_packF xs hl n (j + 1) _ out (by omega) (by omega) (by rw [← List.append_assoc, ho, take_snoc1 xs j hlt])
      · rename_i hL
        obtain ⟨h1, h2, h3⟩ := bestB_le xs j (min j 200)
        rcases bestB_is xs j (min j 200) with ⟨h0, _⟩ | ⟨c1, c2, c3⟩
        · omega
        · rw [List.append_assoc, unpackG_plainP _ plain _ out (Nat.le_refl _) (by omega), ho, List.cons_append, List.cons_append, List.nil_append, unpackG_match (by omega) h1 c1 (by rw [List.length_take]; omega) (by rw [List.length_take]; omega), repF_match xs _ j _ c1 (by omega) (fun k hk => mlen_at xs 66 _ j k (by omega))]
          exact unpack_packF xs hl n _ [] _ (by omega) (by omega) (by rw [List.append_nil])
    · have := unpackG_plainP _ plain [] out (Nat.le_refl _) (by omega)
      rw [List.append_nil] at this
      rw [this, unpackG_nil, ho, List.take_of_length_le (by omega)]
theorem unpack_pack {xs : List Int} (hl : xs.length ≤ 200) : unpackP (packP xs) = some xs := unpack_packF xs hl _ 0 [] [] (by omega) (by omega) (by simp)

/-- 60 equal numbers have a packed form of four -/
theorem pack_same (x : Int) : (packP (List.replicate 60 x)).length = 4 := by
  obtain ⟨xs, hxs⟩ : ∃ xs, List.replicate 60 x = xs := ⟨_, rfl⟩
  have hl : xs.length = 60 := by rw [← hxs]; simp
  have hall : ∀ y ∈ xs, y = x := fun y hy => by rw [← hxs] at hy; exact (List.mem_replicate.1 hy).2
  have hg : ∀ i, i < 60 → xs.getD i 0 = x := fun i hi => by rw [getD_in _ _ (by omega)]; exact hall _ (List.getElem_mem _)
  rw [hxs]
  have b0 : bestB xs 0 (min 0 200) = (0, 0) := rfl
  have m1 : mlen xs 66 0 1 = 59 := mlen_eq (by omega) (fun k hk => ⟨by omega, by rw [hg _ (by omega), hg _ (by omega)]⟩) (.inr (by omega))
  have b1 : bestB xs 1 (min 1 200) = (59, 1) := by
    have : min 1 200 = 1 := rfl
    rw [this]
    unfold bestB
    rw [show (1 : Nat) - (0 + 1) = 0 from rfl, m1]
    rfl
  unfold packP
  rw [hl]
  unfold packF
  rw [if_pos (by omega), b0, if_pos (by simp)]
  unfold packF
  rw [if_pos (by omega), show 0 + 1 = 1 from rfl, b1, if_neg (by simp)]
  rw [show packF xs 58 (1 + (59, 1).1) [] = [] by
    unfold packF
    rw [if_neg (by simp only; omega)]
    rfl]
  simp [plainP_len]
end Go.Proofs.Ytomlejfilfdnbaa
