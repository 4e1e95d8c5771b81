/- Chapter 13: which entries are valid. -/
import Derived.Test.YtlifglljneaknaaL8
import Derived.Test.YtlifglljneaknaaG0
import Derived.BigQuiet
namespace Go.Proofs.Ytlifglljneaknaa
open Go.ChangeShapes Go.WideShapes Go.ChangeAt Go.RowKit
set_option linter.unusedVariables false

/-- two cells of a block from a place on, and two cells beside them -/
def FourT (W : World) (b q : Nat) (v0 v1 : Value) (p p' : Addr) (u0 u1 : Value) : Prop :=
  W.cell? ⟨b, q, none⟩ = some v0 ∧ W.cell? ⟨b, q + 1, none⟩ = some v1 ∧ W.cell? p = some u0 ∧ W.cell? p' = some u1
/-- the term at a place and the one before -/
theorem Ts.pair {w : World} {b off n cap : Nat} {ts : List Trm} (h : Ts w (.slice (some ⟨b, off, .none⟩) n cap) ts) (k : Nat) (hk : k < ts.length) :
    ∃ (x y : Int) (p p' : Addr) (u0 u1 : Int), Hid (tAt ts k = ⟨x, y⟩) ∧ w.cell? ⟨b, off + k * 2, .none⟩ = some (.int .i64 x) ∧ w.cell? ⟨b, off + k * 2 + 1, .none⟩ = some (.int .i64 y) ∧
      Hid (k ≠ 0 → (p = ⟨b, off + (k - 1) * 2, .none⟩ ∧ p' = ⟨b, off + (k - 1) * 2 + 1, .none⟩) ∧ u0 = (tAt ts (k - 1)).num ∧ u1 = (tAt ts (k - 1)).first) ∧ w.cell? p = some (.int .i64 u0) ∧ w.cell? p' = some (.int .i64 u1) := by
  obtain ⟨c0, c1⟩ := h.cells k hk
  by_cases k0 : k = 0
  · exact ⟨_, _, _, _, _, _, Lib.hid rfl, c0, c1, Lib.hid fun q => absurd k0 q, c0, c1⟩
  · obtain ⟨d0, d1⟩ := h.cells (k - 1) (by omega)
    exact ⟨_, _, _, _, _, _, Lib.hid rfl, c0, c1, Lib.hid fun _ => ⟨⟨rfl, rfl⟩, rfl, rfl⟩, d0, d1⟩
theorem stepT_at {ts : List Trm} {k : Nat} {x y : Int} (h : tAt ts k = ⟨x, y⟩) : stepT ts k = (termOk ⟨x, y⟩ && (decide (k = 0) || (decide ((tAt ts (k - 1)).num < x) && decide ((tAt ts (k - 1)).first < y)))) := by
  unfold stepT
  rw [h]

theorem termOk_four (x y : Int) : termOk ⟨x, y⟩ = (decide (0 ≤ x) && decide (x ≤ 99999) && (decide (0 ≤ y) && decide (y ≤ 99999))) := rfl
theorem stepT_bad {ts : List Trm} {k : Nat} {x y : Int} (h : tAt ts k = ⟨x, y⟩) (hb : x < 0 ∨ 99999 < x ∨ y < 0 ∨ 99999 < y) : stepT ts k = false := by
  rw [stepT_at h, termOk_four]
  rcases hb with hb | hb | hb | hb
  · rw [decide_eq_false (show ¬ 0 ≤ x by omega)]; rfl
  · rw [decide_eq_false (show ¬ x ≤ 99999 by omega)]; simp
  · rw [decide_eq_false (show ¬ 0 ≤ y by omega)]; simp
  · rw [decide_eq_false (show ¬ y ≤ 99999 by omega)]; simp
theorem stepT_good {ts : List Trm} {k : Nat} {x y : Int} (h : tAt ts k = ⟨x, y⟩) (h1 : 0 ≤ x) (h2 : x ≤ 99999) (h3 : 0 ≤ y) (h4 : y ≤ 99999) : stepT ts k = (decide (k = 0) || (decide ((tAt ts (k - 1)).num < x) && decide ((tAt ts (k - 1)).first < y))) := by
  rw [stepT_at h, termOk_four, decide_eq_true h1, decide_eq_true h2, decide_eq_true h3, decide_eq_true h4]
  simp

set_option maxHeartbeats 2000000 in
theorem impl_IndexValid (v : Value) (ts : List Trm) (w : World) (h : Ts w v ts) : Calls Try.prog 17 #[v] w (Same w (tsOk ts)) := by
  have hv := h
  obtain ⟨a, cap, rfl, hl, hm, hc⟩ := h
  unfold maxLen at hm
  clear hc
  by_cases hlong : 8 < ts.length
  · have d8 : decide ((8 : Int) < (ts.length : Int)) = true := decide_eq_true (by omega)
    have d8n : decide (8 < ts.length) = true := decide_eq_true hlong
    rw [tsOk_long hlong]
    go_enter Try.func17, Try.ntmps17
    go_wp2_with fail
    go_ret
    exact ⟨rfl, Below.refl _ _⟩
  have d8 : decide ((8 : Int) < (ts.length : Int)) = false := decide_eq_false (by omega)
  go_enter Try.func17, Try.ntmps17
  go_wp2_with fail
  go_loopw [10] (fun i wr => ∃ k : Nat, k ≤ ts.length ∧ i = .int .i64 k ∧ (∀ j, j < k → stepT ts j = true) ∧ Below w.heap.size w wr) (fun i _ => ts.length - (intOf i).toNat)
  case atStart => exact ⟨0, Nat.zero_le _, rfl, fun j hj => by omega, Below.refl _ _⟩
  case round =>
    obtain ⟨k, hk, rfl, hrel, bel⟩ := hrel
    by_cases hlt : k < ts.length
    · obtain ⟨b, off, cp, e, _, _, _⟩ := hv.form (by omega)
      simp only [Value.slice.injEq, true_and] at e
      obtain ⟨rfl, rfl⟩ := e
      obtain ⟨x, y, p, p', u0, u1, Ht, c0, c1, Hp, hp0, hp1⟩ := (hv.below bel).pair k hlt
      have HBAD := Lib.hid (stepT_bad Ht.out)
      have HGOOD := Lib.hid (stepT_good Ht.out)
      clear Ht
      go_upto_region 6 with (fail)
      have bX := alloc_below' wr (.cells #[.int .i64 x, .int .i64 y] 27)
      have xX := Blk.made wr #[.int .i64 x, .int .i64 y] 27
      generalize hW1 : wr.alloc (.cells #[.int .i64 x, .int .i64 y] 27) = w1 at bX xX ⊢
      clear hW1 c0 c1
      obtain ⟨X, hX⟩ : ∃ X, wr.heap.size = X := ⟨_, rfl⟩
      have q0 : w1.cell? p = some (.int .i64 u0) := (bX.cell (World.block_lt_of_cell? _ _ hp0)).trans hp0
      have q1 : w1.cell? p' = some (.int .i64 u1) := (bX.cell (World.block_lt_of_cell? _ _ hp1)).trans hp1
      rw [hX] at xX ⊢
      have HX := Lib.hid hX
      clear hX hp0 hp1
      have m0 : w1.cell? ⟨X, 0, none⟩ = some (.int .i64 x) := xX.cell 0
      have m1 : w1.cell? ⟨X, 1, none⟩ = some (.int .i64 y) := xX.cell 1
      have B1 := Bstep bel bX
      clear xX bX
      by_cases h1 : x < 0
      · have e1 : decide (x < 0) = true := decide_eq_true h1
        go_wp2_with fail
        go_ret
        exact ⟨ret_bool (tsOk_no hlt (HBAD.out (.inl h1))).symm, B1⟩
      have e1 : decide (x < 0) = false := decide_eq_false h1
      by_cases h2 : 99999 < x
      · have e2 : decide (99999 < x) = true := decide_eq_true h2
        go_wp2_with fail
        go_ret
        exact ⟨ret_bool (tsOk_no hlt (HBAD.out (.inr (.inl h2)))).symm, B1⟩
      have e2 : decide (99999 < x) = false := decide_eq_false h2
      by_cases h3 : y < 0
      · have e3 : decide (y < 0) = true := decide_eq_true h3
        go_wp2_with fail
        go_ret
        exact ⟨ret_bool (tsOk_no hlt (HBAD.out (.inr (.inr (.inl h3))))).symm, B1⟩
      have e3 : decide (y < 0) = false := decide_eq_false h3
      by_cases h4 : 99999 < y
      · have e4 : decide (99999 < y) = true := decide_eq_true h4
        go_wp2_with fail
        go_ret
        exact ⟨ret_bool (tsOk_no hlt (HBAD.out (.inr (.inr (.inr h4))))).symm, B1⟩
      have e4 : decide (99999 < y) = false := decide_eq_false h4
      have HSH := Lib.hid (HGOOD.out (by omega) (by omega) (by omega) (by omega))
      clear HBAD HGOOD h1 h2 h3 h4
      by_cases k0 : k = 0
      · have d0 : decide ((0 : Int) < (k : Int)) = false := decide_eq_false (by omega)
        have H1 : ∀ j, j < k + 1 → stepT ts j = true := fun j hj => by
          by_cases e : j = k
          · rw [e, HSH.out, decide_eq_true k0]; rfl
          · exact hrel j (by omega)
        have d0n : decide (0 < k) = false := decide_eq_false (by omega)
        clear k0 Hp
        go_wp2_with fail
        go_quiet (fail)
        go_wp2_with fail
        go_roundw
        case rel => exact ⟨k + 1, by omega, by go_num, H1, below_drewN B1 _⟩
        case measure => simp [intOf]; omega
      · have d0 : decide ((0 : Int) < (k : Int)) = true := decide_eq_true (by omega)
        obtain ⟨⟨rfl, rfl⟩, hu0, hu1⟩ := Hp.out k0
        have d0n : decide (0 < k) = true := decide_eq_true (by omega)
        have s1 : IntKind.i64.wrap ((k : Int) - 1) = (k : Int) - 1 := IntWalk.i64_in _ ⟨by omega, by omega⟩
        have n1 : ((k : Int) - 1).toNat = k - 1 := by omega
        have n2 : (1 : Int) ≤ (k : Int) := by omega
        have n3 : (k : Int) - 1 < (ts.length : Int) := by omega
        have HSG := HSH.out
        rw [decide_eq_false k0, ← hu0, ← hu1] at HSG
        have HSK := Lib.hid HSG
        clear HSG hu0 hu1 HSH
        by_cases hlo : x ≤ u0
        · have d1 : decide (x ≤ u0) = true := decide_eq_true hlo
          go_wp2_with fail
          go_quiet (fail)
          go_wp2_with fail
          go_ret
          exact ⟨ret_bool (tsOk_no hlt (by rw [HSK.out, decide_eq_false (show ¬ u0 < x by omega)]; rfl)).symm, below_drewN B1 _⟩
        · have d1 : decide (x ≤ u0) = false := decide_eq_false hlo
          by_cases hlo2 : y ≤ u1
          · have d2 : decide (y ≤ u1) = true := decide_eq_true hlo2
            go_wp2_with fail
            go_quiet (fail)
            go_wp2_with fail
            go_ret
            exact ⟨ret_bool (tsOk_no hlt (by rw [HSK.out, decide_eq_false (show ¬ u1 < y by omega)]; simp)).symm, below_drewN B1 _⟩
          · have d2 : decide (y ≤ u1) = false := decide_eq_false hlo2
            have H1 : ∀ j, j < k + 1 → stepT ts j = true := fun j hj => by
              by_cases e : j = k
              · rw [e, HSK.out, decide_eq_true (show u0 < x by omega), decide_eq_true (show u1 < y by omega)]; rfl
              · exact hrel j (by omega)
            go_wp2_with fail
            go_quiet (fail)
            go_wp2_with fail
            go_roundw
            case rel => exact ⟨k + 1, by omega, by go_num, H1, below_drewN B1 _⟩
            case measure => simp [intOf]; omega
    · go_wp2_with fail
      go_ret
      exact ⟨ret_bool (tsOk_iff.2 ⟨by omega, fun i hi => hrel i (by omega)⟩).symm, bel⟩
end Go.Proofs.Ytlifglljneaknaa
