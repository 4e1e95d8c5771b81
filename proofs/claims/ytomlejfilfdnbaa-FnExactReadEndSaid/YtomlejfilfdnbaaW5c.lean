/- Chapter 5: which batches are valid as the model tells it; from where to where batches go. -/
import Derived.Test.YtomlejfilfdnbaaW5b
namespace Go.Proofs.Ytomlejfilfdnbaa
open Go.ChangeShapes Go.WideShapes Go.ChangeAt Go.RowKit
set_option linter.unusedVariables false

set_option maxHeartbeats 2000000 in
theorem spec_BatchValid (v : Value) (b : Bat) (w : World) (h : BatV w v b) : Calls Try.prog 22 #[v] w (SaysB (batOk b) w) := by
  obtain ⟨a, cap, rfl, hr, hl, hm⟩ := h.parts
  have C1 : Hid (∀ W, Below w.heap.size w W → Calls Try.prog 31 #[.slice a b.recs.length cap] W (SaysB (ordOk b.recs && inR b.recs.length 1 6) W)) := Lib.hid fun W hW => spec_l5Records _ _ W (hr.below hW)
  rw [batOk_model]
  obtain ⟨packed, mark, prod, epoch, seq, recs⟩ := b
  simp only at C1 hl hm ⊢
  have C2 : Hid (∀ W, Calls Try.prog 32 #[.int .i64 prod, .int .i64 0, .int .i64 255] W fun e w' => e = .returned (.bool (inR prod 0 255)) ∧ W = w') := Lib.hid fun W => spec_l6In prod 0 255 W
  have C3 : Hid (∀ W, Calls Try.prog 32 #[.int .i64 epoch, .int .i64 0, .int .i64 99] W fun e w' => e = .returned (.bool (inR epoch 0 99)) ∧ W = w') := Lib.hid fun W => spec_l6In epoch 0 99 W
  have C4 : Hid (∀ W, Calls Try.prog 32 #[.int .i64 seq, .int .i64 0, .int .i64 9999] W fun e w' => e = .returned (.bool (inR seq 0 9999)) ∧ W = w') := Lib.hid fun W => spec_l6In seq 0 9999 W
  obtain ⟨ob, hob⟩ : ∃ ob, (ordOk recs && inR recs.length 1 6) = ob := ⟨_, rfl⟩
  obtain ⟨pb, hpb⟩ : ∃ pb, inR prod 0 255 = pb := ⟨_, rfl⟩
  obtain ⟨eb, heb⟩ : ∃ eb, inR epoch 0 99 = eb := ⟨_, rfl⟩
  obtain ⟨sb, hsb⟩ : ∃ sb, inR seq 0 9999 = sb := ⟨_, rfl⟩
  rw [hob] at C1 ⊢
  rw [hpb] at C2 ⊢
  rw [heb] at C3 ⊢
  rw [hsb] at C4 ⊢
  obtain ⟨R, hR⟩ : ∃ R, (ob && pb && eb && sb && (if prod = 255 then decide (epoch = 0) && decide (seq = 0) && !mark else !mark || decide (recs.length = 1))) = R := ⟨_, rfl⟩
  rw [hR]
  have HR := Lib.hid hR
  clear hR hob hpb heb hsb h hr
  obtain ⟨n, hn⟩ : ∃ n, recs.length = n := ⟨_, rfl⟩
  rw [hn] at C1 hl HR ⊢
  clear hn
  have bel : Hid (∀ o : Obj, Below w.heap.size w (w.alloc o)) := Lib.hid fun o => (Below.refl _ _).alloc (Nat.le_refl _) _
  have xB := Blk.made w #[.bool packed, .bool mark, .int .i64 prod, .int .i64 epoch, .int .i64 seq, .slice a n cap] 37
  go_enter Try.func22, Try.ntmps22
  go_wp2_with fail
  generalize hW1 : w.alloc (.cells #[.bool packed, .bool mark, .int .i64 prod, .int .i64 epoch, .int .i64 seq, .slice a n cap] 37) = w1 at xB ⊢
  have b1 : Below w.heap.size w w1 := by rw [← hW1]; exact bel.out _
  obtain ⟨X, hX⟩ : ∃ X, w.heap.size = X := ⟨_, rfl⟩
  rw [hX] at xB ⊢
  have HX := Lib.hid hX
  clear hX hW1 bel
  refine (C1.out w1 b1).mono ?_
  rintro e w2 ⟨rfl, b2⟩
  have B2 := Bstep b1 b2
  have x2 := xB.belowS b2
  clear xB
  obtain ⟨c0, c1, c2, c3, c4, c5⟩ := x2.sixC
  cases ob with
  | false =>
    go_wp2_with fail
    go_ret
    exact ⟨ret_bool (by rw [← HR.out]; simp), B2⟩
  | true =>
  go_wp2_with fail
  refine (C2.out w2).mono ?_
  rintro e w2' ⟨rfl, rfl⟩
  cases pb with
  | false =>
    go_wp2_with fail
    go_ret
    exact ⟨ret_bool (by rw [← HR.out]; simp), B2⟩
  | true =>
  go_wp2_with fail
  refine (C3.out w2).mono ?_
  rintro e w2' ⟨rfl, rfl⟩
  cases eb with
  | false =>
    go_wp2_with fail
    go_ret
    exact ⟨ret_bool (by rw [← HR.out]; simp), B2⟩
  | true =>
  go_wp2_with fail
  refine (C4.out w2).mono ?_
  rintro e w2' ⟨rfl, rfl⟩
  cases sb with
  | false =>
    go_wp2_with fail
    go_ret
    exact ⟨ret_bool (by rw [← HR.out]; simp), B2⟩
  | true =>
  by_cases hp : prod = 255
  · subst hp
    have q0 : ((255 : Int) == 255) = true := rfl
    by_cases he : epoch = 0
    · subst he
      have q1 : ((0 : Int) == 0) = true := rfl
      by_cases hs : seq = 0
      · subst hs
        cases mark
        all_goals
          go_wp2_with fail
          go_ret
          exact ⟨ret_bool (by rw [← HR.out]; simp), B2⟩
      · have q2 : (seq == 0) = false := by rw [beq_eq_false_iff_ne]; exact hs
        have E2 := Lib.hid hs
        clear hs
        go_wp2_with fail
        go_ret
        exact ⟨ret_bool (by rw [← HR.out]; simp [E2.out]), B2⟩
    · have q1 : (epoch == 0) = false := by rw [beq_eq_false_iff_ne]; exact he
      have E2 := Lib.hid he
      clear he
      go_wp2_with fail
      go_ret
      exact ⟨ret_bool (by rw [← HR.out]; simp [E2.out]), B2⟩
  · have q0 : (prod == 255) = false := by rw [beq_eq_false_iff_ne]; exact hp
    have E0 := Lib.hid hp
    clear hp
    cases mark with
    | false =>
      go_wp2_with fail
      go_ret
      exact ⟨ret_bool (by rw [← HR.out]; simp [E0.out]), B2⟩
    | true =>
      by_cases h1 : n = 1
      · have q3 : ((n : Int) == 1) = true := by rw [beq_iff_eq]; omega
        have q3n : (n == 1) = true := by rw [beq_iff_eq]; exact h1
        have E3 := Lib.hid h1
        clear h1
        go_wp2_with fail
        go_ret
        exact ⟨ret_bool (by rw [← HR.out]; simp [E0.out, E3.out]), B2⟩
      · have q3 : ((n : Int) == 1) = false := by rw [beq_eq_false_iff_ne]; omega
        have q3n : (n == 1) = false := by rw [beq_eq_false_iff_ne]; exact h1
        have E3 := Lib.hid h1
        clear h1
        go_wp2_with fail
        go_ret
        exact ⟨ret_bool (by rw [← HR.out]; simp [E0.out, E3.out]), B2⟩

/-- the first and the last offset, and whether the batch is valid -/
def SpanIs (ok : Bool) (f l : Int) (w : World) (e : Ending) (w' : World) : Prop := e = .returned (.tuple #[.int .i64 (if ok = true then f else 0), .int .i64 (if ok = true then l else 0), .bool ok]) ∧ Below w.heap.size w w'
def SpanRes (b : Bat) (w : World) (e : Ending) (w' : World) : Prop := e = .returned (.tuple #[.int .i64 (spanF b), .int .i64 (spanL b), .bool (batOk b)]) ∧ Below w.heap.size w w'

set_option maxHeartbeats 1000000 in
theorem impl_BatchSpan (v : Value) (b : Bat) (w : World) (h : BatV w v b) : Calls Try.prog 26 #[v] w (SpanRes b w) := by
  have C1 : Hid (∀ W, Below w.heap.size w W → Calls Try.prog 24 #[v] W (SaysB (batOk b) W)) := Lib.hid fun W hW => impl_BatchValid v b W (h.below hW)
  obtain ⟨a, cap, rfl, hr, hl, hm⟩ := h.parts
  have HV : Hid (batOk b = true → 1 ≤ b.recs.length ∧ b.recs.length ≤ 6) := Lib.hid fun hb => (batOk_iff.1 hb).1
  show Calls Try.prog 26 _ w (SpanIs (batOk b) (recAt b.recs 0).off (recAt b.recs (b.recs.length - 1)).off w)
  obtain ⟨packed, mark, prod, epoch, seq, recs⟩ := b
  simp only at C1 hl hm hr HV ⊢
  obtain ⟨ok, hok⟩ : ∃ ok, batOk ⟨packed, mark, prod, epoch, seq, recs⟩ = ok := ⟨_, rfl⟩
  obtain ⟨o0, ho0⟩ : ∃ o0, (recAt recs 0).off = o0 := ⟨_, rfl⟩
  obtain ⟨o1, ho1⟩ : ∃ o1, (recAt recs (recs.length - 1)).off = o1 := ⟨_, rfl⟩
  rw [hok] at C1 HV
  rw [hok, ho0, ho1]
  have HO0 := Lib.hid ho0
  have HO1 := Lib.hid ho1
  clear hok h ho0 ho1
  have bel : Hid (∀ o : Obj, Below w.heap.size w (w.alloc o)) := Lib.hid fun o => (Below.refl _ _).alloc (Nat.le_refl _) _
  have xB := Blk.made w #[.bool packed, .bool mark, .int .i64 prod, .int .i64 epoch, .int .i64 seq, .slice a recs.length cap] 37
  have Hr := Lib.hid hr
  clear hr
  go_enter Try.func26, Try.ntmps26
  go_wp2_with fail
  generalize hW1 : w.alloc (.cells #[.bool packed, .bool mark, .int .i64 prod, .int .i64 epoch, .int .i64 seq, .slice a recs.length cap] 37) = w1 at xB ⊢
  have b1 : Below w.heap.size w w1 := by rw [← hW1]; exact bel.out _
  obtain ⟨X, hX⟩ : ∃ X, w.heap.size = X := ⟨_, rfl⟩
  rw [hX] at xB ⊢
  have HX := Lib.hid hX
  clear hX hW1 bel
  refine (C1.out w1 b1).mono ?_
  rintro e w2 ⟨rfl, b2⟩
  have B2 := Bstep b1 b2
  have x2 := xB.belowS b2
  clear xB
  obtain ⟨c0, c1, c2, c3, c4, c5⟩ := x2.sixC
  cases ok with
  | false =>
    go_wp2_with fail
    go_ret3
    exact ⟨rfl, B2⟩
  | true =>
    obtain ⟨l1, l6⟩ := HV.out rfl
    obtain ⟨g, off, cap', e, hm'⟩ := Hr.out.form (by omega)
    simp only [Value.slice.injEq, true_and] at e
    obtain ⟨rfl, rfl⟩ := e
    have hr2 := Hr.out.below B2
    obtain ⟨_, _, r0⟩ := hr2.rec 0 (by omega)
    obtain ⟨_, _, r1⟩ := hr2.rec (recs.length - 1) (by omega)
    have f0 := r0.1
    have f1 := r1.1
    rw [Nat.zero_mul, Nat.add_zero] at f0
    rw [HO0.out] at f0
    rw [HO1.out] at f1
    clear r0 r1 hr2 hm'
    have s1 : IntKind.i64.wrap ((recs.length : Int) - 1) = (recs.length : Int) - 1 := IntWalk.i64_in _ ⟨by omega, by omega⟩
    have n1 : ((recs.length : Int) - 1).toNat = recs.length - 1 := by omega
    have n2 : (1 : Int) ≤ (recs.length : Int) := by omega
    have n4 : 0 < recs.length := by omega
    have n3 : (recs.length : Int) - 1 < (recs.length : Int) := by omega
    go_wp2_with fail
    go_quiet (fail)
    go_wp2_with fail
    go_ret3
    exact ⟨rfl, Bstep B2 (below_drewN (Below.refl _ _) nq)⟩

end Go.Proofs.Ytomlejfilfdnbaa
