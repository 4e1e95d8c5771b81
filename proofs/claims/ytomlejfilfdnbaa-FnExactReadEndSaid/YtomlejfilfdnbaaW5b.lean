/- Chapter 5: which batches are valid, and from where to where they go. -/
import Derived.Test.YtomlejfilfdnbaaW5
import Derived.BigQuiet
namespace Go.Proofs.Ytomlejfilfdnbaa
open Go.ChangeShapes Go.WideShapes Go.ChangeAt Go.RowKit
set_option linter.unusedVariables false

theorem Blk.sixC {w : World} {B : Nat} {v0 v1 v2 v3 v4 v5 : Value} (h : Blk w B #[v0, v1, v2, v3, v4, v5]) :
    w.cell? ⟨B, 0, none⟩ = some v0 ∧ w.cell? ⟨B, 1, none⟩ = some v1 ∧ w.cell? ⟨B, 2, none⟩ = some v2 ∧ w.cell? ⟨B, 3, none⟩ = some v3 ∧ w.cell? ⟨B, 4, none⟩ = some v4 ∧ w.cell? ⟨B, 5, none⟩ = some v5 :=
  ⟨h.cell 0, h.cell 1, h.cell 2, h.cell 3, h.cell 4, h.cell 5⟩
theorem BatV.parts {w : World} {v : Value} {b : Bat} (h : BatV w v b) : ∃ (a : Option Addr) (cap : Nat), v = .agg #[.bool b.packed, .bool b.mark, .int .i64 b.prod, .int .i64 b.epoch, .int .i64 b.seq, .slice a b.recs.length cap] ∧ Recs w (.slice a b.recs.length cap) b.recs ∧ b.recs.length ≤ cap ∧ cap ≤ 9223372036854775807 := by
  obtain ⟨rv, rfl, hr⟩ := h
  obtain ⟨a, cap, rfl, hl, hm, hc⟩ := id hr
  exact ⟨a, cap, rfl, hr, hl, by simpa [maxLen] using hm⟩

theorem impl_isProducerValid (v : Value) (b : Bat) (w : World) (h : BatV w v b) : Calls Try.prog 34 #[v] w (SaysB (prodOk b.mark b.prod b.epoch b.seq) w) := by
  obtain ⟨a, cap, rfl, _, _, _⟩ := h.parts
  obtain ⟨packed, mark, prod, epoch, seq, recs⟩ := b
  simp only
  clear h
  have bel : Hid (∀ o : Obj, Below w.heap.size w (w.alloc o)) := Lib.hid fun o => (Below.refl _ _).alloc (Nat.le_refl _) _
  by_cases hp : prod = 255
  · subst hp
    have q0 : ((255 : Int) == 255) = true := rfl
    cases mark with
    | true =>
      go_enter Try.func34, Try.ntmps34
      go_wp2_with fail
      go_ret
      exact ⟨ret_bool (rfl), bel.out _⟩
    | false =>
      by_cases he : epoch = 0
      · subst he
        by_cases hs : seq = 0
        · subst hs
          go_enter Try.func34, Try.ntmps34
          go_wp2_with fail
          go_ret
          exact ⟨ret_bool (rfl), bel.out _⟩
        · have q2 : (seq == 0) = false := by rw [beq_eq_false_iff_ne]; exact hs
          go_enter Try.func34, Try.ntmps34
          go_wp2_with fail
          go_ret
          exact ⟨ret_bool (by unfold prodOk; simp [hs]), bel.out _⟩
      · have q1 : (epoch == 0) = false := by rw [beq_eq_false_iff_ne]; exact he
        go_enter Try.func34, Try.ntmps34
        go_wp2_with fail
        go_ret
        exact ⟨ret_bool (by unfold prodOk; simp [he]), bel.out _⟩
  · have q0 : (prod == 255) = false := by rw [beq_eq_false_iff_ne]; exact hp
    have e0 : prodOk mark prod epoch seq = (inR prod 0 254 && inR epoch 0 99 && inR seq 0 9999) := if_neg hp
    rw [e0]
    clear hp e0
    by_cases h0 : 0 ≤ prod
    case neg =>
      have d0 : decide (0 ≤ prod) = false := decide_eq_false h0
      go_enter Try.func34, Try.ntmps34
      go_wp2_with fail
      go_ret
      exact ⟨ret_bool (by rw [inR_lo (show prod < 0 by omega)]; rfl), bel.out _⟩
    have d0 : decide (0 ≤ prod) = true := decide_eq_true h0
    by_cases h1 : prod < 255
    case neg =>
      have d1 : decide (prod < 255) = false := decide_eq_false h1
      go_enter Try.func34, Try.ntmps34
      go_wp2_with fail
      go_ret
      exact ⟨ret_bool (by rw [inR_hi (show 254 < prod by omega)]; rfl), bel.out _⟩
    have d1 : decide (prod < 255) = true := decide_eq_true h1
    by_cases h2 : 0 ≤ epoch
    case neg =>
      have d2 : decide (0 ≤ epoch) = false := decide_eq_false h2
      go_enter Try.func34, Try.ntmps34
      go_wp2_with fail
      go_ret
      exact ⟨ret_bool (by rw [inR_lo (show epoch < 0 by omega)]; simp), bel.out _⟩
    have d2 : decide (0 ≤ epoch) = true := decide_eq_true h2
    by_cases h3 : epoch ≤ 99
    case neg =>
      have d3 : decide (epoch ≤ 99) = false := decide_eq_false h3
      go_enter Try.func34, Try.ntmps34
      go_wp2_with fail
      go_ret
      exact ⟨ret_bool (by rw [inR_hi (show 99 < epoch by omega)]; simp), bel.out _⟩
    have d3 : decide (epoch ≤ 99) = true := decide_eq_true h3
    by_cases h4 : 0 ≤ seq
    case neg =>
      have d4 : decide (0 ≤ seq) = false := decide_eq_false h4
      go_enter Try.func34, Try.ntmps34
      go_wp2_with fail
      go_ret
      exact ⟨ret_bool (by rw [inR_lo (show seq < 0 by omega)]; simp), bel.out _⟩
    have d4 : decide (0 ≤ seq) = true := decide_eq_true h4
    by_cases h5 : seq ≤ 9999
    case neg =>
      have d5 : decide (seq ≤ 9999) = false := decide_eq_false h5
      go_enter Try.func34, Try.ntmps34
      go_wp2_with fail
      go_ret
      exact ⟨ret_bool (by rw [inR_hi (show 9999 < seq by omega)]; simp), bel.out _⟩
    have d5 : decide (seq ≤ 9999) = true := decide_eq_true h5
    go_enter Try.func34, Try.ntmps34
    go_wp2_with fail
    go_ret
    exact ⟨ret_bool (by rw [inR_yes h0 (show prod ≤ 254 by omega), inR_yes h2 h3, inR_yes h4 h5]; rfl), bel.out _⟩

theorem impl_BatchValid (v : Value) (b : Bat) (w : World) (h : BatV w v b) : Calls Try.prog 24 #[v] w (SaysB (batOk b) w) := by
  have C1 : Hid (∀ W, Below w.heap.size w W → Calls Try.prog 34 #[v] W (SaysB (prodOk b.mark b.prod b.epoch b.seq) W)) := Lib.hid fun W hW => impl_isProducerValid v b W (h.below hW)
  obtain ⟨a, cap, rfl, hr, hl, hm⟩ := h.parts
  have C2 : Hid (∀ W, Below w.heap.size w W → Calls Try.prog 35 #[.slice a b.recs.length cap] W (SaysB (ordOk b.recs) W)) := Lib.hid fun W hW => impl_areInOrder _ _ W (hr.below hW)
  have e0 : batOk b = (inR b.recs.length 1 6 && (!b.mark || decide (b.recs.length = 1)) && prodOk b.mark b.prod b.epoch b.seq && ordOk b.recs) := rfl
  rw [e0]
  obtain ⟨packed, mark, prod, epoch, seq, recs⟩ := b
  simp only at C1 C2 hl hm ⊢
  obtain ⟨pb, hpb⟩ : ∃ pb, prodOk mark prod epoch seq = pb := ⟨_, rfl⟩
  obtain ⟨ob, hob⟩ : ∃ ob, ordOk recs = ob := ⟨_, rfl⟩
  rw [hpb] at C1 ⊢
  rw [hob] at C2 ⊢
  clear hpb hob h hr e0
  obtain ⟨n, hn⟩ : ∃ n, recs.length = n := ⟨_, rfl⟩
  rw [hn] at C1 C2 hl ⊢
  clear hn
  have bel : Hid (∀ o : Obj, Below w.heap.size w (w.alloc o)) := Lib.hid fun o => (Below.refl _ _).alloc (Nat.le_refl _) _
  have xB := Blk.made w #[.bool packed, .bool mark, .int .i64 prod, .int .i64 epoch, .int .i64 seq, .slice a n cap] 37
  by_cases h1 : n < 1
  · have d1 : decide ((n : Int) < 1) = true := decide_eq_true (by omega)
    have d1n : decide (n < 1) = true := decide_eq_true h1
    rw [inR_lo (show (n : Int) < 1 by omega)]
    clear xB
    go_enter Try.func24, Try.ntmps24
    go_wp2_with fail
    go_ret
    exact ⟨rfl, bel.out _⟩
  have d1 : decide ((n : Int) < 1) = false := decide_eq_false (by omega)
  have d1n : decide (n < 1) = false := decide_eq_false h1
  by_cases h2 : 6 < n
  · have d2 : decide ((6 : Int) < (n : Int)) = true := decide_eq_true (by omega)
    rw [inR_hi (show (6 : Int) < (n : Int) by omega)]
    clear xB
    go_enter Try.func24, Try.ntmps24
    go_wp2_with fail
    go_ret
    exact ⟨rfl, bel.out _⟩
  have d2 : decide ((6 : Int) < (n : Int)) = false := decide_eq_false (by omega)
  rw [inR_yes (show (1 : Int) ≤ (n : Int) by omega) (show (n : Int) ≤ 6 by omega)]
  by_cases h3 : mark = true ∧ 1 < n
  · obtain ⟨rfl, h3⟩ := h3
    have d3 : decide ((1 : Int) < (n : Int)) = true := decide_eq_true (by omega)
    have d3n : decide (1 < n) = true := decide_eq_true h3
    rw [decide_eq_false (show ¬ n = 1 by omega)]
    clear xB
    go_enter Try.func24, Try.ntmps24
    go_wp2_with fail
    go_ret
    exact ⟨rfl, bel.out _⟩
  have e3 : (!mark || decide (n = 1)) = true := by
    cases mark with
    | false => rfl
    | true => simp only [Bool.not_true, Bool.false_or, decide_eq_true_eq]; simp only [true_and] at h3; omega
  have d3 : mark = true → decide ((1 : Int) < (n : Int)) = false := fun hm => decide_eq_false (by simp only [hm, true_and] at h3; omega)
  have d3n : mark = true → decide (1 < n) = false := fun hm => decide_eq_false (by simp only [hm, true_and] at h3; omega)
  rw [e3]
  clear h3 e3
  have fin : Hid (∀ W, Below w.heap.size w W → Below W.heap.size W W) := Lib.hid fun W _ => Below.refl _ _
  cases mark with
  | false =>
    clear d3 d3n
    go_enter Try.func24, Try.ntmps24
    go_wp2_with fail
    generalize hW1 : w.alloc (.cells #[.bool packed, .bool false, .int .i64 prod, .int .i64 epoch, .int .i64 seq, .slice a n cap] 37) = w1 at xB ⊢
    have b1 : Below w.heap.size w w1 := by rw [← hW1]; exact bel.out _
    obtain ⟨X, hX⟩ : ∃ X, w.heap.size = X := ⟨_, rfl⟩
    rw [hX] at xB ⊢
    have HX := Lib.hid hX
    clear hX hW1 bel
    refine (C1.out w1 b1).mono ?_
    rintro e w2 ⟨rfl, b2⟩
    have B2 := Bstep b1 b2
    have x2 := xB.belowS b2
    cases pb with
    | false =>
      obtain ⟨c0, c1, c2, c3, c4, c5⟩ := x2.sixC
      go_wp2_with fail
      go_ret
      exact ⟨rfl, by rw [HX.out] at *; exact B2⟩
    | true =>
      obtain ⟨c0, c1, c2, c3, c4, c5⟩ := x2.sixC
      go_wp2_with fail
      refine (C2.out w2 B2).mono ?_
      rintro e w3 ⟨rfl, b3⟩
      have B3 := Bstep B2 b3
      go_wp2_with fail
      go_ret
      exact ⟨ret_bool (by simp), B3⟩
  | true =>
    have d3 := d3 rfl
    have d3n := d3n rfl
    go_enter Try.func24, Try.ntmps24
    go_wp2_with fail
    generalize hW1 : w.alloc (.cells #[.bool packed, .bool true, .int .i64 prod, .int .i64 epoch, .int .i64 seq, .slice a n cap] 37) = w1 at xB ⊢
    have b1 : Below w.heap.size w w1 := by rw [← hW1]; exact bel.out _
    obtain ⟨X, hX⟩ : ∃ X, w.heap.size = X := ⟨_, rfl⟩
    rw [hX] at xB ⊢
    have HX := Lib.hid hX
    clear hX hW1 bel
    refine (C1.out w1 b1).mono ?_
    rintro e w2 ⟨rfl, b2⟩
    have B2 := Bstep b1 b2
    have x2 := xB.belowS b2
    cases pb with
    | false =>
      obtain ⟨c0, c1, c2, c3, c4, c5⟩ := x2.sixC
      go_wp2_with fail
      go_ret
      exact ⟨rfl, by rw [HX.out] at *; exact B2⟩
    | true =>
      obtain ⟨c0, c1, c2, c3, c4, c5⟩ := x2.sixC
      go_wp2_with fail
      refine (C2.out w2 B2).mono ?_
      rintro e w3 ⟨rfl, b3⟩
      have B3 := Bstep B2 b3
      go_wp2_with fail
      go_ret
      exact ⟨ret_bool (by simp), B3⟩
end Go.Proofs.Ytomlejfilfdnbaa
