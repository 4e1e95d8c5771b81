/- Chapter 11: the model's test of a message. -/
import Derived.Test.YthlboonobepdaaaW11c
namespace Go.Proofs.Ythlboonobepdaaa
open Go.ChangeShapes Go.WideShapes Go.ChangeAt Go.RowKit
set_option linter.unusedVariables false

set_option maxHeartbeats 1000000 in
theorem spec_OldValid (v : Value) (m : Mes) (w : World) (h : MesV w v m) (l1 : m.key.length ≤ 1000000000) (l2 : m.val.length ≤ 1000000000) : Calls Try.prog 22 #[v] w (Same w (mOk m)) := by
  have hm := h
  obtain ⟨off, timed, time, key, val, hk, miss⟩ := m
  obtain ⟨kv, vv, rfl, ik, iv⟩ := h
  simp only at ik iv
  obtain ⟨ak, ck, rfl, _, _, _⟩ := id ik
  obtain ⟨av, cv, rfl, _, _, _⟩ := id iv
  have bA := alloc_below' w (.cells #[.int .i64 off, .bool timed, .int .i64 time, .slice ak key.length ck, .slice av val.length cv, .bool hk, .bool miss] 25)
  have xA := Blk.made w #[.int .i64 off, .bool timed, .int .i64 time, .slice ak key.length ck, .slice av val.length cv, .bool hk, .bool miss] 25
  have C1 := Lib.hid (spec_l11Record _ ⟨off, timed, time, key, val, hk, miss⟩ _ (hm.below bA) l1 l2)
  have C2 : Hid (∀ W v, RecV W v (mRec ⟨off, timed, time, key, val, hk, miss⟩) → Calls Try.prog 46 #[v] W (SaysB (recOk (mRec ⟨off, timed, time, key, val, hk, miss⟩)) W)) := Lib.hid fun W v hv => spec_RecordValid v _ W hv
  unfold mOk
  obtain ⟨rb, hrb⟩ : ∃ rb, recOk (mRec ⟨off, timed, time, key, val, hk, miss⟩) = rb := ⟨_, rfl⟩
  rw [hrb] at C2 ⊢
  clear hrb
  go_enter Try.func22, Try.ntmps22
  go_wp2_with fail
  generalize hwb : w.alloc (.cells #[.int .i64 off, .bool timed, .int .i64 time, .slice ak key.length ck, .slice av val.length cv, .bool hk, .bool miss] 25) = wb at bA xA C1 ⊢
  clear hwb
  obtain ⟨A, hA⟩ : ∃ A, w.heap.size = A := ⟨_, rfl⟩
  rw [hA] at xA ⊢
  have HA := Lib.hid hA
  clear hA
  refine C1.out.mono ?_
  rintro e w1 ⟨k1, v1, rfl, own1, own3, b1⟩
  have hr : RecV w1 (.agg #[.int .i64 off, .int .i64 time, .bool hk, k1, .bool (!miss), v1]) (mRec ⟨off, timed, time, key, val, hk, miss⟩) := ⟨_, _, rfl, own1.ints, own3.ints⟩
  have B1 := Bstep bA b1
  have xA1 := xA.belowS b1
  obtain ⟨a1, cap1, rfl, _, _, _⟩ := own1.ints
  obtain ⟨a3, cap3, rfl, _, _, _⟩ := own3.ints
  clear own1 own3 C1 xA
  go_wp2_with fail
  refine (C2.out w1 _ hr).mono ?_
  rintro e w2 ⟨rfl, b2⟩
  have B2 := Bstep B1 b2
  obtain ⟨c0, c1, c2, c3, c4, c5, c6⟩ := (xA1.belowS b2).seven?
  clear xA1 C2 hr
  cases rb with
  | false =>
    go_wp2_with fail
    go_ret
    exact ⟨ret_bool (by simp), B2⟩
  | true =>
    cases timed with
    | true =>
      go_wp2_with fail
      go_ret
      exact ⟨ret_bool (by simp), B2⟩
    | false =>
      by_cases h0 : time = 0
      · have e0 : (time == 0) = true := by rw [beq_iff_eq]; exact h0
        have hE : Hid ((true && (false || decide (time = 0))) = true) := Lib.hid (by rw [decide_eq_true h0]; rfl)
        clear h0
        go_wp2_with fail
        go_ret
        exact ⟨ret_bool hE.out.symm, B2⟩
      · have e0 : (time == 0) = false := by rw [beq_eq_false_iff_ne]; exact h0
        have hE : Hid ((true && (false || decide (time = 0))) = false) := Lib.hid (by rw [decide_eq_false h0]; rfl)
        clear h0
        go_wp2_with fail
        go_ret
        exact ⟨ret_bool hE.out.symm, B2⟩
end Go.Proofs.Ythlboonobepdaaa
