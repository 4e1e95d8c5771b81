/- Chapter 3: what the program's functions on records answer. -/
import Derived.Test.YtomlejfilfdnbaaW3e
import Derived.Test.YtomlejfilfdnbaaW1b
import Derived.Test.YtomlejfilfdnbaaB0
namespace Go.Proofs.Ytomlejfilfdnbaa
open Go.ChangeShapes Go.WideShapes Go.ChangeAt Go.RowKit
set_option linter.unusedVariables false

theorem impl_isBase (o t : Int) (w : World) :
    Calls Try.prog 53 #[.int .i64 o, .int .i64 t] w fun e w' => e = .returned (.bool (baseOk o t)) ∧ w = w' := by
  unfold baseOk
  by_cases h1 : 0 ≤ o
  · have d1 : decide (0 ≤ o) = true := decide_eq_true h1
    by_cases h2 : o ≤ 99999
    · have d2 : decide (o ≤ 99999) = true := decide_eq_true h2
      rw [inR_yes h1 h2]
      by_cases h3 : 0 ≤ t
      · have d3 : decide (0 ≤ t) = true := decide_eq_true h3
        by_cases h4 : t ≤ 99999
        · have d4 : decide (t ≤ 99999) = true := decide_eq_true h4
          rw [inR_yes h3 h4]
          go_enter Try.func53, Try.ntmps53
          go_wp2
          go_ret
          exact ⟨rfl, rfl⟩
        · have d4 : decide (t ≤ 99999) = false := decide_eq_false h4
          rw [inR_hi (by omega)]
          go_enter Try.func53, Try.ntmps53
          go_wp2
          go_ret
          exact ⟨rfl, rfl⟩
      · have d3 : decide (0 ≤ t) = false := decide_eq_false h3
        rw [inR_lo (show t < 0 by omega)]
        go_enter Try.func53, Try.ntmps53
        go_wp2
        go_ret
        exact ⟨rfl, rfl⟩
    · have d2 : decide (o ≤ 99999) = false := decide_eq_false h2
      rw [inR_hi (show 99999 < o by omega), Bool.false_and]
      go_enter Try.func53, Try.ntmps53
      go_wp2
      go_ret
      exact ⟨rfl, rfl⟩
  · have d1 : decide (0 ≤ o) = false := decide_eq_false h1
    rw [inR_lo (show o < 0 by omega), Bool.false_and]
    go_enter Try.func53, Try.ntmps53
    go_wp2
    go_ret
    exact ⟨rfl, rfl⟩

theorem impl_isPart (has : Bool) (v : Value) (xs : List Int) (w : World) (h : Ints w v xs) :
    Calls Try.prog 54 #[.bool has, v] w fun e w' => e = .returned (.bool (partOk has xs)) ∧ w = w' := by
  have C1 := Lib.hid (impl_areBytes v xs w h)
  obtain ⟨a, cap, rfl, hl, hm, hc⟩ := h
  unfold maxLen at hm
  clear hc
  cases has with
  | true =>
    have e0 : partOk true xs = (okBs xs && decide (xs.length ≤ 12)) := by unfold partOk; simp
    rw [e0]
    clear e0
    by_cases h12 : xs.length ≤ 12
    · have d1 : decide ((xs.length : Int) ≤ 12) = true := decide_eq_true (by omega)
      rw [decide_eq_true h12, Bool.and_true]
      go_enter Try.func54, Try.ntmps54
      go_wp2_with fail
      refine C1.out.mono ?_
      rintro e w1 ⟨rfl, rfl⟩
      go_wp2_with fail
      go_ret
      exact ⟨rfl, rfl⟩
    · have d1 : decide ((xs.length : Int) ≤ 12) = false := decide_eq_false (by omega)
      rw [decide_eq_false h12, Bool.and_false]
      go_enter Try.func54, Try.ntmps54
      go_wp2_with fail
      go_ret
      exact ⟨rfl, rfl⟩
  | false =>
    by_cases h0 : xs.length = 0
    · obtain rfl : xs = [] := List.eq_nil_of_length_eq_zero h0
      clear h0 C1
      go_enter Try.func54, Try.ntmps54
      go_wp2_with fail
      go_ret
      exact ⟨rfl, rfl⟩
    · have e0 : partOk false xs = false := by unfold partOk; rw [decide_eq_false h0]; rfl
      rw [e0]
      have d0 : ((xs.length : Int) == 0) = false := by rw [beq_eq_false_iff_ne]; omega
      have d1 : (xs.length == 0) = false := by rw [beq_eq_false_iff_ne]; exact h0
      clear e0 C1
      go_enter Try.func54, Try.ntmps54
      go_wp2_with fail
      go_ret
      exact ⟨rfl, rfl⟩

theorem impl_RecordValid (v : Value) (r : Rec) (w : World) (h : RecV w v r) :
    Calls Try.prog 45 #[v] w (SaysB (recOk r) w) := by
  obtain ⟨kv, vv, rfl, ik, iv⟩ := h
  obtain ⟨off, time, hk, key, hv, val⟩ := r
  have C1 : Hid (∀ wn, Calls Try.prog 53 #[.int .i64 off, .int .i64 time] wn fun e w' => e = .returned (.bool (baseOk off time)) ∧ wn = w') := fun wn => impl_isBase off time wn
  have C3 : Hid (∀ wn, Ints wn kv key → Calls Try.prog 54 #[.bool hk, kv] wn fun e w' => e = .returned (.bool (partOk hk key)) ∧ wn = w') := fun wn hi => impl_isPart hk kv key wn hi
  have C4 : Hid (∀ wn, Ints wn vv val → Calls Try.prog 54 #[.bool hv, vv] wn fun e w' => e = .returned (.bool (partOk hv val)) ∧ wn = w') := fun wn hi => impl_isPart hv vv val wn hi
  have e0 : recOk ⟨off, time, hk, key, hv, val⟩ = (baseOk off time && partOk hk key && partOk hv val) := rfl
  rw [e0]
  simp only at ik iv
  have bel : Hid (∀ o : Obj, Below w.heap.size w (w.alloc o)) := fun o => (Below.refl _ _).alloc (Nat.le_refl _) _
  have iK : Hid (∀ o : Obj, Ints (w.alloc o) kv key) := fun o => ik.below (bel.out o)
  have iV : Hid (∀ o : Obj, Ints (w.alloc o) vv val) := fun o => iv.below (bel.out o)
  obtain ⟨b1, h1⟩ : ∃ b, baseOk off time = b := ⟨_, rfl⟩
  obtain ⟨b2, h2⟩ : ∃ b, partOk hk key = b := ⟨_, rfl⟩
  obtain ⟨b3, h3⟩ : ∃ b, partOk hv val = b := ⟨_, rfl⟩
  rw [h1] at C1 ⊢
  rw [h2] at C3 ⊢
  rw [h3] at C4 ⊢
  clear h1 h2 h3 e0
  go_enter Try.func45, Try.ntmps45
  go_wp2_with fail
  refine (C1.out _).mono ?_
  rintro e w1 ⟨rfl, rfl⟩
  cases b1 with
  | false =>
    go_wp2_with fail
    go_ret
    exact ⟨rfl, bel.out _⟩
  | true =>
    go_wp2_with fail
    refine (C3.out _ (iK.out _)).mono ?_
    rintro e w1 ⟨rfl, rfl⟩
    cases b2 with
    | false =>
      go_wp2_with fail
      go_ret
      exact ⟨rfl, bel.out _⟩
    | true =>
      go_wp2_with fail
      refine (C4.out _ (iV.out _)).mono ?_
      rintro e w1 ⟨rfl, rfl⟩
      go_wp2_with fail
      go_ret
      exact ⟨rfl, bel.out _⟩


theorem impl_withNumber (v : Value) (xs : List Int) (n : Int) (base : Nat) (w : World) (h : Own w base v xs) (hb : base ≤ w.heap.size) (hl : xs.length ≤ 100000000) (n0 : -1000000 ≤ n) (n1 : n ≤ 1000000) :
    Calls Try.prog 66 #[v, .int .i64 n] w (AppRes w base (xs ++ varB n)) := by
  have C1 := Lib.hid (impl_VarBytes n w ⟨by omega, by omega⟩)
  have hlen := varB_len n
  obtain ⟨ys, hys⟩ : ∃ ys, varB n = ys := ⟨_, rfl⟩
  rw [hys] at C1 hlen ⊢
  clear hys
  go_enter Try.func66, Try.ntmps66
  go_wp2_with fail
  refine C1.out.mono ?_
  rintro e w1 ⟨u, rfl, own1, b1⟩
  have own0 := h.below b1
  have bb : Below base w w1 := b1.mono hb
  have hs1 := Nat.le_trans hb b1.size
  go_wp2_with (at_builtin; refine wp_appI rfl _ _ rfl base v u xs ys rfl rfl own0 own1.ints (by omega) hs1 ?_; intro v2 w2 own2 g2)
  go_ret
  exact ⟨_, rfl, own2, bb.grown g2 hs1 own0.lt⟩

theorem impl_withPart (v u : Value) (xs ys : List Int) (has : Bool) (base : Nat) (w : World) (h : Own w base v xs) (hi : Ints w u ys) (hd : ∀ w' : World, Below base w w' → Ints w' u ys) (hb : base ≤ w.heap.size) (hl : xs.length ≤ 10000000) (hy : ys.length ≤ 1000) :
    Calls Try.prog 67 #[v, .bool has, u] w (AppRes w base (xs ++ putP has ys)) := by
  cases has with
  | false =>
    have C1 := Lib.hid (impl_withNumber v xs (-1) base w h hb (by omega) (by omega) (by omega))
    rw [show putP false ys = varB (-1) from rfl]
    obtain ⟨zs, hzs⟩ : ∃ zs, xs ++ varB (-1) = zs := ⟨_, rfl⟩
    rw [hzs] at C1 ⊢
    clear hzs
    go_enter Try.func67, Try.ntmps67
    go_wp2_with fail
    refine C1.out.mono ?_
    rintro e w1 ⟨u, rfl, own1, b1⟩
    go_wp2_with fail
    go_ret
    exact ⟨_, rfl, own1, b1⟩
  | true =>
    have C1 := Lib.hid (impl_withNumber v xs (ys.length : Int) base w h hb (by omega) (by omega) (by omega))
    have hlen := varB_len (ys.length : Int)
    rw [show putP true ys = varB ys.length ++ ys from rfl, ← List.append_assoc]
    obtain ⟨zs, hzs⟩ : ∃ zs, xs ++ varB (ys.length : Int) = zs := ⟨_, rfl⟩
    have hz : zs.length ≤ 20000000 := by rw [← hzs, List.length_append]; omega
    rw [hzs] at C1 ⊢
    have hi2 := hi
    obtain ⟨a, cap, rfl, hl1, hm, hc⟩ := hi2
    unfold maxLen at hm
    clear hzs hlen hc
    go_enter Try.func67, Try.ntmps67
    go_wp2_with fail
    refine C1.out.mono ?_
    rintro e w1 ⟨u1, rfl, own1, b1⟩
    have i1 := hd w1 b1
    have hs1 := Nat.le_trans hb b1.size
    go_wp2_with (at_builtin; refine wp_appI rfl _ _ rfl base u1 _ zs ys rfl rfl own1 i1 (by omega) hs1 ?_; intro v2 w2 own2 g2)
    go_ret
    exact ⟨_, rfl, own2, b1.grown g2 hs1 own1.lt⟩
end Go.Proofs.Ytomlejfilfdnbaa
