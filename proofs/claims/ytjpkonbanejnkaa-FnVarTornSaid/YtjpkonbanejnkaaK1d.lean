/- Chapter 1: the laws that draw bytes and a place. -/
import Derived.Test.YtjpkonbanejnkaaK1b
import Derived.Test.YtjpkonbanejnkaaD1
namespace Go.Proofs.Ytjpkonbanejnkaa
open Go.ChangeShapes Go.WideShapes Go.ChangeAt Go.RowKit
set_option linter.unusedVariables false

theorem joinV_inv (ys : List Int) (h : ∀ i, i < ys.length → 0 ≤ ys.getD i 0 ∧ ys.getD i 0 ≤ 255) (h2 : (joinV ys).2 ≠ 0) (h1 : (joinV ys).1 ≤ 2000000) :
    ∃ m : Nat, (joinV ys).2 = (m : Int) ∧ 1 ≤ m ∧ m ≤ ys.length ∧ varF 2 (joinV ys).1 = ys.take m ∧ (joinV (ys.take (m - 1))).2 = 0 := by
  match ys, h, h2, h1 with
  | [], _, h2, _ => exact absurd rfl h2
  | a :: t, h, h2, h1 =>
    have r0 := h 0 (by simp)
    simp only [List.getD_cons_zero] at r0
    by_cases ha : a < 128
    · rw [show joinV (a :: t) = (a, 1) from by simp [joinV, ha]]
      refine ⟨1, rfl, Nat.le_refl _, by simp, ?_, rfl⟩
      show varF 2 a = _
      rw [varF, if_pos ha]; rfl
    · have e0 : joinV (a :: t) = joinV.joinV1 a t := by simp [joinV, ha]
      rw [e0] at h2 h1 ⊢
      match t, h, h2, h1 with
      | [], _, h2, _ => exact absurd rfl h2
      | b :: t, h, h2, h1 =>
        have r1 := h 1 (by simp)
        simp only [List.getD_cons_zero, List.getD_cons_succ] at r1
        by_cases hb : b < 128
        · by_cases hb0 : b = 0
          · rw [show joinV.joinV1 a (b :: t) = (0, 0) from by simp [joinV.joinV1, hb0]] at h2
            exact absurd rfl h2
          · rw [show joinV.joinV1 a (b :: t) = (a % 128 + b * 128, 2) from by simp [joinV.joinV1, hb, hb0]]
            refine ⟨2, rfl, by omega, by simp, ?_, by simp [joinV, ha, joinV.joinV1]⟩
            show varF 2 (a % 128 + b * 128) = [a, b]
            have x1 : (a % 128 + b * 128) / 128 = b := by omega
            rw [varF, if_neg (by omega), x1, varF, if_pos hb]
            congr 1
            omega
        · have e1 : joinV.joinV1 a (b :: t) = joinV.joinV2 a b t := by simp [joinV.joinV1, hb]
          rw [e1] at h2 h1 ⊢
          match t, h, h2, h1 with
          | [], _, h2, _ => exact absurd rfl h2
          | c :: t, h, h2, h1 =>
            have r2 := h 2 (by simp)
            simp only [List.getD_cons_zero, List.getD_cons_succ] at r2
            by_cases hc : c < 128
            · by_cases hc0 : c = 0
              · rw [show joinV.joinV2 a b (c :: t) = (0, 0) from by simp [joinV.joinV2, hc0]] at h2
                exact absurd rfl h2
              · rw [show joinV.joinV2 a b (c :: t) = (a % 128 + b % 128 * 128 + c * 16384, 3) from by simp [joinV.joinV2, hc, hc0]]
                refine ⟨3, rfl, by omega, by simp, ?_, by simp [joinV, ha, joinV.joinV1, hb, joinV.joinV2]⟩
                show varF 2 (a % 128 + b % 128 * 128 + c * 16384) = [a, b, c]
                have x1 : (a % 128 + b % 128 * 128 + c * 16384) / 128 = b % 128 + c * 128 := by omega
                have x2 : (b % 128 + c * 128) / 128 = c := by omega
                rw [varF, if_neg (by omega), x1, varF, if_neg (by omega), x2, varF]
                congr 1
                · omega
                · congr 1
                  omega
            · rw [show joinV.joinV2 a b (c :: t) = (0, 0) from by simp [joinV.joinV2, hc]] at h2
              exact absurd rfl h2

theorem okBs_take {xs : List Int} (h : okBs xs = true) (k : Nat) : okBs (xs.take k) = true := by
  unfold okBs at h ⊢
  rw [List.all_eq_true] at h ⊢
  exact fun x hx => h x (List.mem_of_mem_take hx)

theorem rdV_yes {xs : List Int} {k n nx : Int} (h : rdV xs k = (n, nx, true)) :
    ∃ q N : Nat, k = (q : Int) ∧ nx = (N : Int) ∧ q < N ∧ N ≤ xs.length ∧ inV n = true ∧ -1000000 ≤ n ∧ n ≤ 1000000 ∧ varB n = (xs.drop q).take (N - q) ∧ rdV (xs.take (N - 1)) q = (0, 0, false) := by
  by_cases hok : okBs xs = true
  · by_cases h0 : k < 0
    · rw [rdV_neg h0] at h
      simp at h
    · obtain ⟨q, rfl⟩ := Int.eq_ofNat_of_zero_le (Int.not_lt.1 h0)
      rw [rdV_at q hok] at h
      have hB := okBs_at (okBs_drop hok q)
      have hb := joinV_bound _ hB
      by_cases hz : (joinV (xs.drop q)).2 = 0
      · rw [rdR_no hz] at h; simp at h
      · by_cases hbig : 2000000 < (joinV (xs.drop q)).1
        · rw [rdR_big hz hbig] at h; simp at h
        · rw [rdR_yes hz hbig] at h
          simp only [Prod.mk.injEq, and_true] at h
          obtain ⟨h1, h2⟩ := h
          obtain ⟨m, hm, m1, m2, m3, m4⟩ := joinV_inv _ hB hz (by omega)
          have hr := unfoldP_range (m := (joinV (xs.drop q)).1) (by omega) (by omega)
          have hf := foldP_unfoldP (joinV (xs.drop q)).1 (by omega)
          rw [h1] at hr hf
          rw [List.length_drop] at m2
          have e1 : inV n = true := by unfold inV; simp; omega
          refine ⟨q, q + m, rfl, by rw [← h2, hm]; simp, by omega, by omega, e1, hr.1, hr.2, ?_, ?_⟩
          · rw [varB_in (by omega) (by omega), hf, m3, Nat.add_sub_cancel_left]
          · rw [rdV_at q (okBs_take hok _), List.drop_take, show q + m - 1 - q = m - 1 by omega]
            exact rdR_no m4
  · rw [rdV_bad (by simpa using hok)] at h
    simp at h

theorem law_FnVarFrom (w : World) (v : Value) (zs : List Int) (h : U8s w v zs) : Calls Try.prog 8 #[v] w (Yes w) := by
  have hv := h
  obtain ⟨a, cap, rfl, hl, hm, hc, hr⟩ := h
  clear hc hr
  unfold maxLen at hm
  by_cases hbig : 1048576 < zs.length
  · go_enter Try.func8, Try.ntmps8
    go_wp2
    go_ret
    exact ⟨rfl, Below.refl _ _⟩
  · have C1 := Lib.hid (spec_DrawVarFrom _ zs w hv (by omega))
    clear hv
    go_enter Try.func8, Try.ntmps8
    go_wp2_with fail
    refine C1.out.mono ?_
    rintro e w1 ⟨u, xs, k, rfl, iu, xl, k0, k1, bel⟩
    have C2 := Lib.hid (impl_VarFrom u xs k w1 iu ⟨by omega, by omega⟩)
    have C3 := Lib.hid (spec_VarFrom u xs k w1 iu ⟨by omega, by omega⟩ (by omega))
    obtain ⟨⟨n, nx, b⟩, hr⟩ : ∃ r, rdV xs k = r := ⟨_, rfl⟩
    rw [hr] at C2 C3
    have q1 : (n != n) = false := by simp
    have q2 : (nx != nx) = false := by simp
    have q3 : (n == n) = true := by simp
    have q4 : (nx == nx) = true := by simp
    cases b with
    | false =>
      clear hr
      go_wp2_with fail
      refine C2.out.mono ?_
      rintro e w2 ⟨rfl, rfl⟩
      go_wp2_with fail
      refine C3.out.mono ?_
      rintro e w2 ⟨rfl, rfl⟩
      go_wp2_with fail
      go_ret
      exact ⟨rfl, bel⟩
    | true =>
      obtain ⟨q, N, rfl, rfl, hqN, hN, hin, n0, n1, hvb, _⟩ := rdV_yes hr
      have C4 : Hid (∀ w, Calls Try.prog 24 #[.int .i64 n] w (NewInts w (varB n) (inV n))) := fun w => impl_VarBytes n w ⟨by omega, by omega⟩
      rw [hin, hvb] at C4
      clear hr hin hvb
      obtain ⟨a1, cap1, rfl, hl1, hm1, hc1⟩ := id iu
      obtain ⟨b1, off1, rfl, hcell⟩ := hc1 (by omega)
      have idr := (iu.drop q (by omega)).take (N - q) (by omega)
      have he := beq_self ((xs.drop q).take (N - q))
      obtain ⟨ys, hys⟩ : ∃ ys, (xs.drop q).take (N - q) = ys := ⟨_, rfl⟩
      rw [hys] at C4 idr he
      have hcap : ¬ cap1 = q := by omega
      clear hys hc1 hcell
      unfold maxLen at hm1
      go_wp2_with fail
      refine C2.out.mono ?_
      rintro e w2 ⟨rfl, rfl⟩
      go_wp2_with fail
      refine C3.out.mono ?_
      rintro e w2 ⟨rfl, rfl⟩
      go_wp2_with fail
      refine (C4.out _).mono ?_
      rintro e w3 ⟨v3, rfl, own3, bel3⟩
      go_wp2_with fail
      refine (laws_sameInts v3 _ ys ys w3 own3.ints (idr.below bel3)).mono ?_
      rintro e w4 ⟨rfl, bel4⟩
      go_wp2_with fail
      go_ret
      exact ⟨rfl, Bstep (Bstep bel bel3) bel4⟩

theorem law_FnVarTorn (w : World) (v : Value) (zs : List Int) (h : U8s w v zs) : Calls Try.prog 9 #[v] w (Yes w) := by
  have hv := h
  obtain ⟨a, cap, rfl, hl, hm, hc, hr⟩ := h
  clear hc hr
  unfold maxLen at hm
  by_cases hbig : 1048576 < zs.length
  · go_enter Try.func9, Try.ntmps9
    go_wp2
    go_ret
    exact ⟨rfl, Below.refl _ _⟩
  · have C1 := Lib.hid (spec_DrawVarFrom _ zs w hv (by omega))
    clear hv
    go_enter Try.func9, Try.ntmps9
    go_wp2_with fail
    refine C1.out.mono ?_
    rintro e w1 ⟨u, xs, k, rfl, iu, xl, k0, k1, bel⟩
    have C2 := Lib.hid (impl_VarFrom u xs k w1 iu ⟨by omega, by omega⟩)
    have C3 := Lib.hid (spec_VarFrom u xs k w1 iu ⟨by omega, by omega⟩ (by omega))
    obtain ⟨⟨n, nx, b⟩, hr⟩ : ∃ r, rdV xs k = r := ⟨_, rfl⟩
    rw [hr] at C2 C3
    have q1 : (n != n) = false := by simp
    have q2 : (nx != nx) = false := by simp
    have q3 : (n == n) = true := by simp
    have q4 : (nx == nx) = true := by simp
    cases b with
    | false =>
      clear hr
      go_wp2_with fail
      refine C2.out.mono ?_
      rintro e w2 ⟨rfl, rfl⟩
      go_wp2_with fail
      refine C3.out.mono ?_
      rintro e w2 ⟨rfl, rfl⟩
      go_wp2_with fail
      go_ret
      exact ⟨rfl, bel⟩
    | true =>
      obtain ⟨q, N, rfl, rfl, hqN, hN, hin, n0, n1, hvb, htorn⟩ := rdV_yes hr
      clear hr hin hvb
      obtain ⟨a1, cap1, rfl, hl1, hm1, hc1⟩ := id iu
      have C4 := Lib.hid (impl_VarFrom _ _ (q : Int) w1 (iu.take (N - 1) (by omega)) ⟨by omega, by omega⟩)
      rw [htorn] at C4
      clear htorn hc1
      unfold maxLen at hm1
      go_wp2_with fail
      refine C2.out.mono ?_
      rintro e w2 ⟨rfl, rfl⟩
      go_wp2_with fail
      refine C3.out.mono ?_
      rintro e w2 ⟨rfl, rfl⟩
      go_wp2_with fail
      refine C4.out.mono ?_
      rintro e w2 ⟨rfl, rfl⟩
      go_wp2_with fail
      go_ret
      exact ⟨rfl, bel⟩
end Go.Proofs.Ytjpkonbanejnkaa
