/- Chapter 4, further plain theorems: bytes that come twice; forms one behind the other; what unpacking gives. -/
import Derived.Test.YtomlejfilfdnbaaP4b
namespace Go.Proofs.Ytomlejfilfdnbaa
set_option linter.unusedVariables false

theorem repF_pre (P : List Int) : ∀ (n : Nat) (out : List Int) (back : Nat), back ≤ out.length → 1 ≤ back → repF n (P ++ out) back = P ++ repF n out back
  | 0, out, back, _, _ => rfl
  | n + 1, out, back, h, h1 => by
    unfold repF
    have e : (P ++ out).getD ((P ++ out).length - back) 0 = out.getD (out.length - back) 0 := by
      simp only [List.getD, List.length_append]
      rw [List.getElem?_append_right (by omega), show P.length + out.length - back - P.length = out.length - back by omega]
    rw [e, List.append_assoc, repF_pre P n (out ++ [out.getD (out.length - back) 0]) back (by simp; omega) h1]
/-- a form is undone to something longer -/
theorem unpackF_grows : ∀ (n : Nat) (form out r : List Int), unpackF n form out = some r → out.length ≤ r.length ∧ (out.length ≤ 200 → r.length ≤ 200)
  | 0, form, out, r, h => by
    unfold unpackF at h
    split at h
    · simp only [Option.some.injEq] at h; subst h; exact ⟨Nat.le_refl _, id⟩
    · cases h
  | n + 1, form, out, r, h => by
    cases form with
    | nil =>
      simp only [unpackF, Option.some.injEq] at h
      subst h
      exact ⟨Nat.le_refl _, id⟩
    | cons x rest =>
      unfold unpackF at h
      simp only at h
      split at h
      · split at h
        · cases h
        · split at h
          · cases h
          · rename_i h3
            obtain ⟨q1, q2⟩ := unpackF_grows n _ _ _ h
            rw [List.length_append] at q1
            exact ⟨by omega, fun _ => q2 (by omega)⟩
      · split at h
        · cases rest with
          | nil => cases h
          | cons y rest2 =>
            simp only at h
            split at h
            · cases h
            · split at h
              · cases h
              · split at h
                · cases h
                · rename_i h5
                  obtain ⟨q1, q2⟩ := unpackF_grows n _ _ _ h
                  rw [repF_len] at q1
                  exact ⟨by omega, fun _ => q2 (by rw [repF_len]; omega)⟩
        · cases h
/-- behind others a form is undone to the same -/
theorem unpackF_pre (P : List Int) : ∀ (n : Nat) (form out r : List Int), unpackF n form out = some r → P.length + r.length ≤ 200 → unpackF n form (P ++ out) = some (P ++ r)
  | 0, form, out, r, h, hl => by
    unfold unpackF at h ⊢
    split at h
    · rename_i e
      simp only [Option.some.injEq] at h
      subst h
      rw [if_pos e]
    · cases h
  | n + 1, form, out, r, h, hl => by
    cases form with
    | nil =>
      simp only [unpackF, Option.some.injEq] at h ⊢
      rw [h]
    | cons x rest =>
      unfold unpackF at h ⊢
      simp only at h ⊢
      split at h
      · rename_i hx
        rw [if_pos hx]
        split at h
        · cases h
        · rename_i h2
          rw [if_neg h2]
          split at h
          · cases h
          · rename_i h3
            have hg := (unpackF_grows n _ _ _ h).1
            rw [List.append_assoc, if_neg (by rw [List.length_append]; omega)]
            exact unpackF_pre P n _ _ _ h hl
      · rename_i hx
        rw [if_neg hx]
        split at h
        · rename_i hx2
          rw [if_pos hx2]
          cases rest with
          | nil => cases h
          | cons y rest2 =>
            simp only at h ⊢
            split at h
            · cases h
            · rename_i hy
              rw [if_neg hy]
              split at h
              · cases h
              · rename_i hy2
                rw [if_neg (by rw [List.length_append]; omega)]
                split at h
                · cases h
                · rename_i h5
                  have hg := (unpackF_grows n _ _ _ h).1
                  rw [repF_len] at hg
                  rw [if_neg (by rw [List.length_append]; omega), repF_pre P _ _ _ (by omega) (by omega)]
                  exact unpackF_pre P n _ _ _ h hl
        · cases h
/-- one form behind another -/
theorem unpackG_app : ∀ (n : Nat) (form g out r : List Int), form.length ≤ n → unpackG form out = some r → unpackG (form ++ g) out = unpackG g r
  | 0, form, g, out, r, hn, h => by
    obtain rfl : form = [] := List.eq_nil_of_length_eq_zero (by omega)
    simp only [unpackG_nil, Option.some.injEq] at h
    rw [h, List.nil_append]
  | n + 1, form, g, out, r, hn, h => by
    cases form with
    | nil =>
      simp only [unpackG_nil, Option.some.injEq] at h
      rw [h, List.nil_append]
    | cons x rest =>
      simp only [List.length_cons] at hn
      unfold unpackG at h
      rw [List.length_cons] at h
      unfold unpackF at h
      simp only at h
      rw [List.cons_append]
      conv => lhs; unfold unpackG; rw [List.length_cons]; unfold unpackF
      simp only
      split at h
      · rename_i hx
        rw [if_pos hx]
        split at h
        · cases h
        · rename_i h2
          rw [if_neg (by rw [List.length_append]; omega)]
          split at h
          · cases h
          · rename_i h3
            rw [List.take_append_of_le_length (by omega), List.drop_append_of_le_length (by omega), if_neg h3]
            have := unpackG_app n (rest.drop (x.toNat + 1)) g _ r (by rw [List.length_drop]; omega) (by
              rw [← h]
              exact unpackF_more _ _ _ _ (Nat.le_refl _) (by rw [List.length_drop]; omega))
            rw [← this]
            exact unpackF_more _ _ _ _ (by rw [List.length_append, List.length_append, List.length_drop]; omega) (Nat.le_refl _)
      · rename_i hx
        rw [if_neg hx]
        split at h
        · rename_i hx2
          rw [if_pos hx2]
          cases rest with
          | nil => cases h
          | cons y rest2 =>
            simp only [List.length_cons] at hn
            simp only [List.cons_append] at h ⊢
            split at h
            · cases h
            · rename_i hy
              rw [if_neg hy]
              split at h
              · cases h
              · rename_i hy2
                rw [if_neg hy2]
                split at h
                · cases h
                · rename_i h5
                  rw [if_neg h5]
                  have := unpackG_app n rest2 g _ r (by omega) (by
                    rw [← h]
                    exact unpackF_more _ _ _ _ (Nat.le_refl _) (by simp))
                  rw [← this]
                  exact unpackF_more _ _ _ _ (by simp) (Nat.le_refl _)
        · cases h
theorem unpack_two {f r : List Int} (h : unpackP f = some r) (hl : 2 * r.length ≤ 200) : unpackP (f ++ f) = some (r ++ r) := by
  have h1 : unpackG f [] = some r := h
  have h2 := unpackG_app _ f f [] r (Nat.le_refl _) h1
  have h3 := unpackF_pre r _ f [] r h (by omega)
  rw [List.append_nil] at h3
  show unpackG (f ++ f) [] = _
  rw [h2]
  exact h3
theorem repF_ok : ∀ (n : Nat) (out : List Int) (back : Nat), okBs out = true → okBs (repF n out back) = true
  | 0, out, back, h => h
  | n + 1, out, back, h => by
    unfold repF
    exact repF_ok n _ _ (okB_append.2 ⟨h, okB_cons.2 ⟨okB_getD h _, rfl⟩⟩)
theorem unpackF_ok : ∀ (n : Nat) (form out r : List Int), unpackF n form out = some r → okBs form = true → okBs out = true → okBs r = true
  | 0, form, out, r, h, hf, ho => by
    unfold unpackF at h
    split at h
    · simp only [Option.some.injEq] at h; subst h; exact ho
    · cases h
  | n + 1, form, out, r, h, hf, ho => by
    cases form with
    | nil =>
      simp only [unpackF, Option.some.injEq] at h
      subst h
      exact ho
    | cons x rest =>
      have hf2 := (okB_cons.1 hf).2
      unfold unpackF at h
      simp only at h
      split at h
      · split at h
        · cases h
        · split at h
          · cases h
          · exact unpackF_ok n _ _ _ h (okBs_drop hf2 _) (okB_append.2 ⟨ho, okBs_take hf2 _⟩)
      · split at h
        · cases rest with
          | nil => cases h
          | cons y rest2 =>
            have hf3 := (okB_cons.1 hf2).2
            simp only at h
            split at h
            · cases h
            · split at h
              · cases h
              · split at h
                · cases h
                · exact unpackF_ok n _ _ _ h hf3 (repF_ok _ _ _ ho)
        · cases h
theorem unpackP_ok {f r : List Int} (h : unpackP f = some r) (hf : okBs f = true) : okBs r = true ∧ r.length ≤ 200 := ⟨unpackF_ok _ _ _ _ h hf rfl, (unpackF_grows _ _ _ _ h).2 (by simp)⟩

/-- how long matches are in bytes that come twice -/
theorem mlen_twice (b : List Int) : ∀ (n i j : Nat), i ≤ j → j ≤ b.length → (j + mlen b n i j < b.length → mlen (b ++ b) n i j = mlen b n i j) ∧ mlen b n i j ≤ mlen (b ++ b) n i j
  | 0, i, j, hij, hj => by unfold mlen; exact ⟨fun _ => rfl, Nat.le_refl _⟩
  | n + 1, i, j, hij, hj => by
    have hg : ∀ k, k < b.length → (b ++ b).getD k 0 = b.getD k 0 := fun k hk => by
      simp only [List.getD]
      rw [List.getElem?_append_left hk]
    unfold mlen
    by_cases hlt : j < b.length
    · rw [hg i (by omega), hg j hlt]
      have hl2 : j < (b ++ b).length := by rw [List.length_append]; omega
      by_cases he : b.getD i 0 = b.getD j 0
      · rw [if_pos ⟨hlt, he⟩, if_pos ⟨hl2, he⟩]
        obtain ⟨h1, h2⟩ := mlen_twice b n (i + 1) (j + 1) (by omega) (by omega)
        exact ⟨fun h => by rw [h1 (by omega)], by omega⟩
      · rw [if_neg (fun h => he h.2), if_neg (fun h => he h.2)]
        exact ⟨fun _ => rfl, Nat.le_refl _⟩
    · rw [if_neg (fun h => hlt h.1)]
      exact ⟨fun h => absurd h (by omega), Nat.zero_le _⟩
/-- the second time all is one match -/
theorem mlen_second (b : List Int) (h66 : b.length ≤ 66) (p : Nat) (h1 : b.length ≤ p) (h2 : p ≤ 2 * b.length) : mlen (b ++ b) 66 (p - b.length) p = 2 * b.length - p := by
  refine mlen_eq (by omega) (fun k hk => ⟨by rw [List.length_append]; omega, ?_⟩) (.inr (fun h => by rw [List.length_append] at h; omega))
  simp only [List.getD]
  rw [List.getElem?_append_left (by omega), List.getElem?_append_right (by omega), show p + k - b.length = p - b.length + k by omega]
theorem best_second (b : List Int) (h66 : b.length ≤ 66) (p : Nat) (h1 : b.length ≤ p) (h2 : p ≤ 2 * b.length) (h0 : 1 ≤ b.length) : (bestB (b ++ b) p (min p 200)).1 = 2 * b.length - p := by
  have ha := bestB_max (b ++ b) p (min p 200) b.length h0 (by omega)
  rw [mlen_second b h66 p h1 h2] at ha
  obtain ⟨_, _, h3⟩ := bestB_le (b ++ b) p (min p 200)
  rw [List.length_append] at h3
  omega
theorem packF_second (b : List Int) (h66 : b.length ≤ 66) (h0 : 1 ≤ b.length) (n p : Nat) (h1 : b.length ≤ p) (h2 : p ≤ 2 * b.length) (hn : 2 * b.length ≤ p + n) : (packF (b ++ b) n p []).length ≤ 3 := by
  have hl : (b ++ b).length = 2 * b.length := by rw [List.length_append]; omega
  by_cases hs : 3 ≤ 2 * b.length - p
  · obtain ⟨n, rfl⟩ : ∃ m, n = m + 1 := ⟨n - 1, by omega⟩
    unfold packF
    rw [if_pos (by omega), best_second b h66 p h1 h2 h0, if_neg (by omega)]
    have := packF_len (b ++ b) n (p + (2 * b.length - p)) [] (by omega) (by omega)
    simp only [List.length_append, List.length_cons, List.length_nil, plainP_nil] at this ⊢
    omega
  · have := packF_len (b ++ b) n p [] (by omega) (by omega)
    rw [hl] at this
    simp only [List.length_nil] at this
    omega
theorem packF_twice (b : List Int) (h66 : b.length ≤ 66) (h3 : 3 ≤ b.length) : ∀ (m n j : Nat) (plain : List Int), b.length ≤ j + m → 2 * b.length ≤ j + n → j ≤ b.length → (packF (b ++ b) n j plain).length ≤ (packF b m j plain).length + 6 := by
  have hl : (b ++ b).length = 2 * b.length := by rw [List.length_append]; omega
  intro m
  induction m with
  | zero =>
    intro n j plain h1 h2 hj
    obtain rfl : j = b.length := by omega
    obtain ⟨n, rfl⟩ : ∃ m, n = m + 1 := ⟨n - 1, by omega⟩
    have e1 : (packF b 0 b.length plain).length = (plainP plain).length := rfl
    rw [e1]
    unfold packF
    rw [if_pos (by omega), best_second b h66 _ (Nat.le_refl _) (by omega) (by omega), if_neg (by omega)]
    have := packF_second b h66 (by omega) n (b.length + (2 * b.length - b.length)) (by omega) (by omega) (by omega)
    simp only [List.length_append, List.length_cons, List.length_nil] at this ⊢
    omega
  | succ m ih =>
    intro n j plain h1 h2 hj
    obtain ⟨n, rfl⟩ : ∃ m, n = m + 1 := ⟨n - 1, by omega⟩
    by_cases hlt : j < b.length
    · have hg : (b ++ b).getD j 0 = b.getD j 0 := by
        simp only [List.getD]
        rw [List.getElem?_append_left hlt]
      obtain ⟨_, _, hb3⟩ := bestB_le b j (min j 200)
      obtain ⟨_, _, hx3⟩ := bestB_le (b ++ b) j (min j 200)
      by_cases hall : ∀ k, 1 ≤ k → k ≤ min j 200 → j + mlen b 66 (j - k) j < b.length
      · have hsame : ∀ q, q ≤ min j 200 → bestB (b ++ b) j q = bestB b j q := by
          intro q
          induction q with
          | zero => intro _; rfl
          | succ q ihq =>
            intro hq
            have hm := (mlen_twice b 66 (j - (q + 1)) j (by omega) hj).1 (hall (q + 1) (by omega) hq)
            unfold bestB
            rw [ihq (by omega), hm]
        unfold packF
        rw [if_pos (by omega), if_pos hlt, hsame _ (Nat.le_refl _), hg]
        split
        · exact ih n _ _ (by omega) (by omega) (by omega)
        · rename_i hL
          have := ih n (j + (bestB b j (min j 200)).1) [] (by omega) (by omega) (by omega)
          simp only [List.length_append, List.length_cons, List.length_nil] at this ⊢
          omega
      · obtain ⟨k, hk⟩ : ∃ k, ¬ (1 ≤ k → k ≤ min j 200 → j + mlen b 66 (j - k) j < b.length) := by
          apply Classical.byContradiction
          intro hno
          exact hall fun k => Classical.byContradiction fun h => hno ⟨k, h⟩
        have hk1 : 1 ≤ k := Classical.byContradiction fun h => hk (fun h2 => absurd h2 h)
        have hk2 : k ≤ min j 200 := Classical.byContradiction fun h => hk (fun _ h2 => absurd h2 h)
        have hk3 : ¬ j + mlen b 66 (j - k) j < b.length := fun h => hk (fun _ _ => h)
        have ba := bestB_max b j (min j 200) k hk1 hk2
        have xa := bestB_max (b ++ b) j (min j 200) k hk1 hk2
        have xb := (mlen_twice b 66 (j - k) j (by omega) hj).2
        by_cases hs : 3 ≤ b.length - j
        · unfold packF
          rw [if_pos (by omega), if_pos hlt, if_neg (by omega), if_neg (by omega)]
          have := packF_second b h66 (by omega) n (j + (bestB (b ++ b) j (min j 200)).1) (by omega) (by omega) (by omega)
          simp only [List.length_append, List.length_cons, List.length_nil] at this ⊢
          omega
        · have hpl : (plainP plain).length ≤ (packF b (m + 1) j plain).length := by
            have key : ∀ (m j : Nat) (plain : List Int), (plainP plain).length ≤ (packF b m j plain).length := by
              intro m
              induction m with
              | zero => intro j plain; exact Nat.le_refl _
              | succ m ihm =>
                intro j plain
                unfold packF
                split
                · split
                  · have := ihm (j + 1) (plain ++ [b.getD j 0])
                    rw [plainP_len] at this ⊢
                    rw [List.length_append, List.length_singleton] at this
                    omega
                  · simp only [List.length_append]; omega
                · exact Nat.le_refl _
            exact key _ _ _
          by_cases hX : (bestB (b ++ b) j (min j 200)).1 < 3
          · unfold packF
            rw [if_pos (by omega), if_pos hlt, if_pos hX, if_pos (by omega), hg]
            exact ih n _ _ (by omega) (by omega) (by omega)
          · conv => lhs; unfold packF
            rw [if_pos (by omega), if_neg hX]
            have := packF_second b h66 (by omega) n (j + (bestB (b ++ b) j (min j 200)).1) (by omega) (by omega) (by omega)
            simp only [List.length_append, List.length_cons, List.length_nil] at this ⊢
            omega
    · obtain rfl : j = b.length := by omega
      have e1 : (packF b (m + 1) b.length plain).length = (plainP plain).length := by unfold packF; rw [if_neg (by omega)]
      rw [e1]
      unfold packF
      rw [if_pos (by omega), best_second b h66 _ (Nat.le_refl _) (by omega) (by omega), if_neg (by omega)]
      have := packF_second b h66 (by omega) n (b.length + (2 * b.length - b.length)) (by omega) (by omega) (by omega)
      simp only [List.length_append, List.length_cons, List.length_nil] at this ⊢
      omega
theorem packP_twice {b : List Int} (h66 : b.length ≤ 66) (h3 : 3 ≤ b.length) : (packP (b ++ b)).length ≤ (packP b).length + 6 :=
  packF_twice b h66 h3 _ _ 0 [] (by omega) (by rw [List.length_append]; omega) (by omega)
end Go.Proofs.Ytomlejfilfdnbaa
