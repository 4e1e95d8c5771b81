/- Chapter 11: valid messages, by the program. -/
import Derived.Test.YthlboonobepdaaaW11
namespace Go.Proofs.Ythlboonobepdaaa
open Go.ChangeShapes Go.WideShapes Go.ChangeAt Go.RowKit
set_option linter.unusedVariables false

set_option maxHeartbeats 1000000 in
theorem impl_Old_newRecord (v : Value) (m : Mes) (w : World) (h : MesV w v m) (l1 : m.key.length ≤ 1000000000) (l2 : m.val.length ≤ 1000000000) : Calls Try.prog 61 #[v] w (RecNew w (mRec m)) := by
  obtain ⟨off, timed, time, key, val, hk, miss⟩ := m
  simp only at l1 l2
  obtain ⟨kv, vv, rfl, ik, iv⟩ := h
  simp only at ik iv
  obtain ⟨ak, ck, rfl, _, _, _⟩ := id ik
  obtain ⟨av, cv, rfl, _, _, _⟩ := id iv
  have bA := alloc_below' w (.cells #[.int .i64 off, .bool timed, .int .i64 time, .slice ak key.length ck, .slice av val.length cv, .bool hk, .bool miss] 25)
  have bZ := alloc_below' (w.alloc (.cells #[.int .i64 off, .bool timed, .int .i64 time, .slice ak key.length ck, .slice av val.length cv, .bool hk, .bool miss] 25)) (.cells #[.int .i64 0, .int .i64 0, .bool false, .slice none 0 0, .bool false, .slice none 0 0] 64)
  have xZ := Blk.made (w.alloc (.cells #[.int .i64 off, .bool timed, .int .i64 time, .slice ak key.length ck, .slice av val.length cv, .bool hk, .bool miss] 25)) #[.int .i64 0, .int .i64 0, .bool false, .slice none 0 0, .bool false, .slice none 0 0] 64
  have B0 := Bstep bA bZ
  simp only [alloc_szO] at xZ
  go_enter Try.func61, Try.ntmps61
  go_wp2_with fail
  generalize hwb : ((w.alloc (.cells #[.int .i64 off, .bool timed, .int .i64 time, .slice ak key.length ck, .slice av val.length cv, .bool hk, .bool miss] 25)).alloc (.cells #[.int .i64 0, .int .i64 0, .bool false, .slice none 0 0, .bool false, .slice none 0 0] 64)) = wb at xZ B0 ⊢
  clear hwb bA bZ
  obtain ⟨Z, hZ⟩ : ∃ Z, w.heap.size + 1 = Z := ⟨_, rfl⟩
  rw [hZ] at xZ ⊢
  have hwZ : w.heap.size ≤ Z := by omega
  have hwZ1 : w.heap.size ≤ Z + 1 := by omega
  clear hZ
  refine (impl_newRecord _ ⟨off, time, hk, key, !miss, val⟩ wb ⟨_, _, rfl, ik.below B0, iv.below B0⟩ l1 l2).mono ?_
  rintro e w1 ⟨kv1, vv1, rfl, own1, own3, b1⟩
  simp only at own1 own3 ⊢
  obtain ⟨a1, cap1, rfl, _, _, _⟩ := own1.ints
  obtain ⟨a3, cap3, rfl, _, _, _⟩ := own3.ints
  have xZ1 := xZ.belowS b1
  have own1' := own1.base xZ.lt
  have own3' := own3.base xZ.lt
  have B1 := Bstep B0 b1
  obtain ⟨d0, d1, d2, d3, d4, d5⟩ := xZ1.sixO
  have fz := xZ1.free
  clear xZ own1 own3 b1
  go_wp2_with fail
  have box8 := xZ1.six (.int .i64 off) (.int .i64 time) (.bool hk) (.slice a1 key.length cap1) (.bool (!miss)) (.slice a3 val.length cap3)
  have g8 := six_grown w1 Z (.int .i64 off) (.int .i64 time) (.bool hk) (.slice a1 key.length cap1) (.bool (!miss)) (.slice a3 val.length cap3)
  have bel8 := bel_six B1 hwZ (.int .i64 off) (.int .i64 time) (.bool hk) (.slice a1 key.length cap1) (.bool (!miss)) (.slice a3 val.length cap3)
  generalize hW8 : ((((((w1.setCell ⟨Z, 0, none⟩ (.int .i64 off)).setCell ⟨Z, 1, none⟩ (.int .i64 time)).setCell ⟨Z, 2, none⟩ (.bool hk)).setCell ⟨Z, 3, none⟩ (.slice a1 key.length cap1)).setCell ⟨Z, 4, none⟩ (.bool (!miss))).setCell ⟨Z, 5, none⟩ (.slice a3 val.length cap3)) = W8 at box8 g8 bel8 ⊢
  have o1 := (own1'.by (Nat.lt_succ_self Z) g8).base hwZ1
  have o2 := (own3'.by (Nat.lt_succ_self Z) g8).base hwZ1
  clear d0 d1 d2 d3 d4 d5 fz hW8
  obtain ⟨c0, c1, c2, c3, c4, c5⟩ := box8.sixO
  refine bodyPost_ret (v := .agg #[.int .i64 off, .int .i64 time, .bool hk, .slice a1 key.length cap1, .bool (!miss), .slice a3 val.length cap3]) (by simp [results, Try.results61, go_sem, c0, c1, c2, c3, c4, c5]) rfl ?_
  exact ⟨_, _, rfl, o1, o2, bel8⟩
theorem as_old_yes (W : World) (v : Value) : (Instr.typeAssert (.iface 25 v) 80 25 true).run Try.prog W = .ok (.tuple #[v, .bool true]) W := by kernel_rfl
theorem as_old_no (W : World) (v : Value) : (Instr.typeAssert (.iface 64 v) 80 25 true).run Try.prog W = .ok (.tuple #[.agg #[.int .i64 0, .bool false, .int .i64 0, .slice none 0 0, .slice none 0 0, .bool false, .bool false], .bool false]) W := by kernel_rfl
theorem as_rec_yes (W : World) (v : Value) : (Instr.typeAssert (.iface 64 v) 80 64 true).run Try.prog W = .ok (.tuple #[v, .bool true]) W := by kernel_rfl
theorem impl_isFormValid_rec (v : Value) (r : Rec) (w : World) (h : RecV w v r) : Calls Try.prog 45 #[.iface 64 v] w (Same w (recOk r)) := by
  obtain ⟨kv, vv, rfl, ik, iv⟩ := id h
  obtain ⟨ak, ck, rfl, _, _, _⟩ := id ik
  obtain ⟨av, cv, rfl, _, _, _⟩ := id iv
  have h1 := fun W => as_old_no W (.agg #[.int .i64 r.off, .int .i64 r.time, .bool r.hk, .slice ak r.key.length ck, .bool r.hv, .slice av r.val.length cv])
  have h2 := fun W => as_rec_yes W (.agg #[.int .i64 r.off, .int .i64 r.time, .bool r.hk, .slice ak r.key.length ck, .bool r.hv, .slice av r.val.length cv])
  have bA := alloc_below' w (.cells #[.int .i64 r.off, .int .i64 r.time, .bool r.hk, .slice ak r.key.length ck, .bool r.hv, .slice av r.val.length cv] 64)
  have C1 := Lib.hid (impl_RecordValid _ r _ (h.below bA))
  go_enter Try.func45, Try.ntmps45
  go_wp2_with fail
  refine C1.out.mono ?_
  rintro e w1 ⟨rfl, b1⟩
  go_wp2_with fail
  go_ret
  exact ⟨rfl, Bstep bA b1⟩
theorem mOk_form (m : Mes) : mOk m = ((m.timed || decide (m.time = 0)) && recOk (mRec m)) := by unfold mOk; rw [Bool.and_comm]
set_option maxHeartbeats 1000000 in
theorem impl_isFormValid_old (v : Value) (m : Mes) (w : World) (h : MesV w v m) (l1 : m.key.length ≤ 1000000000) (l2 : m.val.length ≤ 1000000000) : Calls Try.prog 45 #[.iface 25 v] w (Same w (mOk m)) := by
  have hm := h
  rw [mOk_form]
  obtain ⟨off, timed, time, key, val, hk, miss⟩ := m
  simp only at l1 l2
  obtain ⟨kv, vv, rfl, ik, iv⟩ := h
  simp only at ik iv ⊢
  obtain ⟨ak, ck, rfl, _, _, _⟩ := id ik
  obtain ⟨av, cv, rfl, _, _, _⟩ := id iv
  have h1 := fun W => as_old_yes W (.agg #[.int .i64 off, .bool timed, .int .i64 time, .slice ak key.length ck, .slice av val.length cv, .bool hk, .bool miss])
  have bA := alloc_below' w (.cells #[.int .i64 off, .bool timed, .int .i64 time, .slice ak key.length ck, .slice av val.length cv, .bool hk, .bool miss] 25)
  have C1 := Lib.hid (impl_Old_newRecord _ ⟨off, timed, time, key, val, hk, miss⟩ _ (hm.below bA) l1 l2)
  have C2 : Hid (∀ W v, RecV W v (mRec ⟨off, timed, time, key, val, hk, miss⟩) → Calls Try.prog 45 #[.iface 64 v] W (Same W (recOk (mRec ⟨off, timed, time, key, val, hk, miss⟩)))) := Lib.hid fun W v hv => impl_isFormValid_rec v _ W hv
  cases timed with
  | true =>
    rw [Bool.true_or, Bool.true_and]
    go_enter Try.func45, Try.ntmps45
    go_wp2_with fail
    refine C1.out.mono ?_
    rintro e w1 ⟨k1, v1, rfl, own1, own3, b1⟩
    have hr : RecV w1 (.agg #[.int .i64 off, .int .i64 time, .bool hk, k1, .bool (!miss), v1]) (mRec ⟨off, true, time, key, val, hk, miss⟩) := ⟨_, _, rfl, own1.ints, own3.ints⟩
    have B1 := Bstep bA b1
    obtain ⟨a1, cap1, rfl, _, _, _⟩ := own1.ints
    obtain ⟨a3, cap3, rfl, _, _, _⟩ := own3.ints
    clear own1 own3
    go_wp2_with fail
    refine (C2.out w1 _ hr).mono ?_
    rintro e w2 ⟨rfl, b2⟩
    go_wp2_with fail
    go_ret
    exact ⟨ret_bool (by simp), Bstep B1 b2⟩
  | false =>
    by_cases h0 : time = 0
    · have e0 : (time == 0) = true := by rw [beq_iff_eq]; exact h0
      rw [Bool.false_or, decide_eq_true h0, Bool.true_and]
      clear h0
      go_enter Try.func45, Try.ntmps45
      go_wp2_with fail
      refine C1.out.mono ?_
      rintro e w1 ⟨k1, v1, rfl, own1, own3, b1⟩
      have hr : RecV w1 (.agg #[.int .i64 off, .int .i64 time, .bool hk, k1, .bool (!miss), v1]) (mRec ⟨off, false, time, key, val, hk, miss⟩) := ⟨_, _, rfl, own1.ints, own3.ints⟩
      have B1 := Bstep bA b1
      obtain ⟨a1, cap1, rfl, _, _, _⟩ := own1.ints
      obtain ⟨a3, cap3, rfl, _, _, _⟩ := own3.ints
      clear own1 own3
      go_wp2_with fail
      refine (C2.out w1 _ hr).mono ?_
      rintro e w2 ⟨rfl, b2⟩
      go_wp2_with fail
      go_ret
      exact ⟨ret_bool (by simp), Bstep B1 b2⟩
    · have e0 : (time == 0) = false := by rw [beq_eq_false_iff_ne]; exact h0
      rw [Bool.false_or, decide_eq_false h0, Bool.false_and]
      clear h0
      go_enter Try.func45, Try.ntmps45
      go_wp2_with fail
      go_ret
      exact ⟨ret_bool (by simp), bA⟩
theorem impl_OldValid (v : Value) (m : Mes) (w : World) (h : MesV w v m) (l1 : m.key.length ≤ 1000000000) (l2 : m.val.length ≤ 1000000000) : Calls Try.prog 20 #[v] w (Same w (mOk m)) := by
  have hm := h
  obtain ⟨kv, vv, rfl, ik, iv⟩ := h
  obtain ⟨ak, ck, rfl, _, _, _⟩ := id ik
  obtain ⟨av, cv, rfl, _, _, _⟩ := id iv
  have bA := alloc_below' w (.cells #[.int .i64 m.off, .bool m.timed, .int .i64 m.time, .slice ak m.key.length ck, .slice av m.val.length cv, .bool m.hk, .bool m.miss] 25)
  have C1 := Lib.hid (impl_isFormValid_old _ m _ (hm.below bA) l1 l2)
  go_enter Try.func20, Try.ntmps20
  go_wp2_with fail
  refine C1.out.mono ?_
  rintro e w1 ⟨rfl, b1⟩
  go_wp2_with fail
  go_ret
  exact ⟨rfl, Bstep bA b1⟩
end Go.Proofs.Ythlboonobepdaaa
