/- Chapter 3: what the model's functions on records answer. -/
import Derived.Test.YtomlejfilfdnbaaR0
import Derived.Test.YtomlejfilfdnbaaW1d
import Derived.Deep.RegionHeld3
namespace Go.Proofs.Ytomlejfilfdnbaa
open Go.ChangeShapes Go.WideShapes Go.ChangeAt Go.RowKit
set_option linter.unusedVariables false

theorem spec_l3Part (has : Bool) (v : Value) (xs : List Int) (w : World) (h : Ints w v xs) :
    Calls Try.prog 52 #[.bool has, v] w fun e w' => e = .returned (.bool (partOk has xs)) ∧ w = w' := by
  have C1 := Lib.hid (spec_l1Ok v xs w h)
  obtain ⟨a, cap, rfl, hl, hm, hc⟩ := h
  unfold maxLen at hm
  clear hc
  cases has with
  | true =>
    have e0 : partOk true xs = (okBs xs && decide (xs.length ≤ 12)) := by unfold partOk; simp
    rw [e0]
    clear e0
    cases hok : okBs xs with
    | false =>
      rw [hok] at C1
      clear hok
      go_enter Try.func52, Try.ntmps52
      go_wp2_with fail
      refine C1.out.mono ?_
      rintro e w1 ⟨rfl, rfl⟩
      go_wp2_with fail
      go_ret
      exact ⟨rfl, rfl⟩
    | true =>
      rw [hok] at C1
      clear hok
      by_cases h12 : xs.length ≤ 12
      · have d1 : decide ((xs.length : Int) ≤ 12) = true := decide_eq_true (by omega)
        rw [decide_eq_true h12]
        go_enter Try.func52, Try.ntmps52
        go_wp2_with fail
        refine C1.out.mono ?_
        rintro e w1 ⟨rfl, rfl⟩
        go_wp2_with fail
        go_ret
        exact ⟨rfl, rfl⟩
      · have d1 : decide ((xs.length : Int) ≤ 12) = false := decide_eq_false (by omega)
        rw [decide_eq_false h12]
        go_enter Try.func52, Try.ntmps52
        go_wp2_with fail
        refine C1.out.mono ?_
        rintro e w1 ⟨rfl, rfl⟩
        go_wp2_with fail
        go_ret
        exact ⟨rfl, rfl⟩
  | false =>
    by_cases h0 : xs.length = 0
    · obtain rfl : xs = [] := List.eq_nil_of_length_eq_zero h0
      rw [show okBs [] = true from rfl] at C1
      clear h0
      go_enter Try.func52, Try.ntmps52
      go_wp2_with fail
      refine C1.out.mono ?_
      rintro e w1 ⟨rfl, rfl⟩
      go_wp2_with fail
      go_ret
      exact ⟨rfl, rfl⟩
    · have e0 : partOk false xs = false := by unfold partOk; rw [decide_eq_false h0]; rfl
      rw [e0]
      have d0 : ((xs.length : Int) == 0) = false := by rw [beq_eq_false_iff_ne]; omega
      have d1 : (xs.length == 0) = false := by rw [beq_eq_false_iff_ne]; exact h0
      clear e0 C1
      go_enter Try.func52, Try.ntmps52
      go_wp2_with fail
      go_ret
      exact ⟨rfl, rfl⟩

theorem spec_l3Put (has : Bool) (v : Value) (xs : List Int) (w : World) (h : Ints w v xs) (hl : xs.length ≤ 1000) :
    Calls Try.prog 56 #[.bool has, v] w (NewInts1 w (putP has xs)) := by
  cases has with
  | false =>
    have C1 := Lib.hid (spec_l1Bytes (-1) w (by omega) (by omega))
    rw [show putP false xs = varB (-1) from rfl, varB_in (by omega) (by omega)]
    go_enter Try.func56, Try.ntmps56
    go_wp2_with fail
    refine C1.out.mono ?_
    rintro e w1 ⟨u, rfl, own, bel⟩
    go_wp2_with fail
    go_ret
    exact ⟨_, rfl, own, bel⟩
  | true =>
    have hv := h
    obtain ⟨a, cap, rfl, hl1, hm, hc⟩ := h
    unfold maxLen at hm
    clear hc
    have C1 := Lib.hid (spec_l1Bytes (xs.length : Int) w (by omega) (by omega))
    have hlen := varB_len (xs.length : Int)
    rw [show putP true xs = varB xs.length ++ xs from rfl]
    rw [varB_in (by omega) (by omega)] at hlen ⊢
    obtain ⟨ys, hys⟩ : ∃ ys, varF 2 (foldP (xs.length : Int)) = ys := ⟨_, rfl⟩
    rw [hys] at C1 hlen ⊢
    clear hys
    go_enter Try.func56, Try.ntmps56
    go_wp2_with fail
    refine C1.out.mono ?_
    rintro e w1 ⟨u, rfl, own, bel⟩
    go_wp2_with (at_builtin; refine wp_appI rfl _ _ rfl w.heap.size _ _ ys xs rfl rfl own (hv.below bel) (by omega) bel.size ?_; intro v2 w2 own2 g2)
    go_ret
    exact ⟨_, rfl, own2, bel.grown g2 bel.size own.lt⟩

/-- a function that reads a record and answers a bool -/
def SaysB (b : Bool) (w : World) (e : Ending) (w' : World) : Prop := e = .returned (.bool b) ∧ Below w.heap.size w w'

theorem spec_RecordValid (v : Value) (r : Rec) (w : World) (h : RecV w v r) :
    Calls Try.prog 43 #[v] w (SaysB (recOk r) w) := by
  obtain ⟨kv, vv, rfl, ik, iv⟩ := h
  obtain ⟨off, time, hk, key, hv, val⟩ := r
  have C1 : Hid (∀ wn, Calls Try.prog 32 #[.int .i64 off, .int .i64 0, .int .i64 99999] wn fun e w' => e = .returned (.bool (inR off 0 99999)) ∧ wn = w') := fun wn => spec_l6In off 0 99999 wn
  have C2 : Hid (∀ wn, Calls Try.prog 32 #[.int .i64 time, .int .i64 0, .int .i64 99999] wn fun e w' => e = .returned (.bool (inR time 0 99999)) ∧ wn = w') := fun wn => spec_l6In time 0 99999 wn
  have C3 : Hid (∀ wn, Ints wn kv key → Calls Try.prog 52 #[.bool hk, kv] wn fun e w' => e = .returned (.bool (partOk hk key)) ∧ wn = w') := fun wn hi => spec_l3Part hk kv key wn hi
  have C4 : Hid (∀ wn, Ints wn vv val → Calls Try.prog 52 #[.bool hv, vv] wn fun e w' => e = .returned (.bool (partOk hv val)) ∧ wn = w') := fun wn hi => spec_l3Part hv vv val wn hi
  unfold recOk
  simp only
  have bel : Hid (∀ o : Obj, Below w.heap.size w (w.alloc o)) := fun o => (Below.refl _ _).alloc (Nat.le_refl _) _
  have iK : Hid (∀ o : Obj, Ints (w.alloc o) kv key) := fun o => ik.below (bel.out o)
  have iV : Hid (∀ o : Obj, Ints (w.alloc o) vv val) := fun o => iv.below (bel.out o)
  cases h1 : inR off 0 99999 with
  | false =>
    rw [h1] at C1
    clear h1
    go_enter Try.func43, Try.ntmps43
    go_wp2_with fail
    refine (C1.out _).mono ?_
    rintro e w1 ⟨rfl, rfl⟩
    go_wp2_with fail
    go_ret
    exact ⟨rfl, bel.out _⟩
  | true =>
    rw [h1] at C1
    cases h2 : inR time 0 99999 with
    | false =>
      rw [h2] at C2
      clear h1 h2
      go_enter Try.func43, Try.ntmps43
      go_wp2_with fail
      refine (C1.out _).mono ?_
      rintro e w1 ⟨rfl, rfl⟩
      go_wp2_with fail
      refine (C2.out _).mono ?_
      rintro e w1 ⟨rfl, rfl⟩
      go_wp2_with fail
      go_ret
      exact ⟨rfl, bel.out _⟩
    | true =>
      rw [h2] at C2
      cases h3 : partOk hk key with
      | false =>
        rw [h3] at C3
        clear h1 h2 h3
        go_enter Try.func43, Try.ntmps43
        go_wp2_with fail
        refine (C1.out _).mono ?_
        rintro e w1 ⟨rfl, rfl⟩
        go_wp2_with fail
        refine (C2.out _).mono ?_
        rintro e w1 ⟨rfl, rfl⟩
        go_wp2_with fail
        refine (C3.out _ (iK.out _)).mono ?_
        rintro e w1 ⟨rfl, rfl⟩
        go_wp2_with fail
        go_ret
        exact ⟨rfl, bel.out _⟩
      | true =>
        rw [h3] at C3
        cases h4 : partOk hv val
        all_goals
          rw [h4] at C4
          clear h1 h2 h3 h4
          go_enter Try.func43, Try.ntmps43
          go_wp2_with fail
          refine (C1.out _).mono ?_
          rintro e w1 ⟨rfl, rfl⟩
          go_wp2_with fail
          refine (C2.out _).mono ?_
          rintro e w1 ⟨rfl, rfl⟩
          go_wp2_with fail
          refine (C3.out _ (iK.out _)).mono ?_
          rintro e w1 ⟨rfl, rfl⟩
          go_wp2_with fail
          refine (C4.out _ (iV.out _)).mono ?_
          rintro e w1 ⟨rfl, rfl⟩
          go_wp2_with fail
          go_ret
          exact ⟨rfl, bel.out _⟩
end Go.Proofs.Ytomlejfilfdnbaa
