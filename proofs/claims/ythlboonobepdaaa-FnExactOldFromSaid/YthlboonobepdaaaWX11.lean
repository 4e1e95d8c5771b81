/- Merged: W11 W11b W11c W11d W11e W11f W11g W11h. -/
import Derived.Test.YthlboonobepdaaaR11
import Derived.Test.YthlboonobepdaaaL1
import Derived.Test.YthlboonobepdaaaW3i
import Derived.Test.YthlboonobepdaaaW3k
import Derived.Test.YthlboonobepdaaaI1
import Derived.Test.YthlboonobepdaaaW3
import Derived.Test.YthlboonobepdaaaW2c
import Derived.Test.YthlboonobepdaaaP11b
import Derived.Test.YthlboonobepdaaaW3l
namespace Go.Proofs.Ythlboonobepdaaa
open Go.ChangeShapes Go.WideShapes Go.ChangeAt Go.RowKit
set_option linter.unusedVariables false
set_option maxRecDepth 100000

-- W11

theorem alloc_szO (w : World) (o : Obj) : (w.alloc o).heap.size = w.heap.size + 1 := by simp
theorem Blk.sixO {w : World} {B : Nat} {v0 v1 v2 v3 v4 v5 : Value} (h : Blk w B #[v0, v1, v2, v3, v4, v5]) :
    w.cell? ⟨B, 0, none⟩ = some v0 ∧ w.cell? ⟨B, 1, none⟩ = some v1 ∧ w.cell? ⟨B, 2, none⟩ = some v2 ∧ w.cell? ⟨B, 3, none⟩ = some v3 ∧ w.cell? ⟨B, 4, none⟩ = some v4 ∧ w.cell? ⟨B, 5, none⟩ = some v5 :=
  ⟨h.cell 0, h.cell 1, h.cell 2, h.cell 3, h.cell 4, h.cell 5⟩
theorem bel_ofO {w W : World} (h : w.grownBy W none) : Below w.heap.size w W := ⟨h.os, h.tape, h.output, h.size, fun k hk => h.block k hk (by simp)⟩
theorem own_nilI (w : World) (base : Nat) : Own w base (.slice none 0 0) [] := World.ownsRow_nil _ _ _ _
/-- a record in memory of the call's own -/
def RecNew (w : World) (r : Rec) (e : Ending) (w' : World) : Prop :=
  ∃ kv vv, e = .returned (.agg #[.int .i64 r.off, .int .i64 r.time, .bool r.hk, kv, .bool r.hv, vv]) ∧ Own w' w.heap.size kv r.key ∧ Own w' w.heap.size vv r.val ∧ Below w.heap.size w w'
set_option maxHeartbeats 1000000 in
theorem impl_newRecord (v : Value) (r : Rec) (w : World) (h : RecV w v r) (l1 : r.key.length ≤ 1000000000) (l2 : r.val.length ≤ 1000000000) : Calls Try.prog 67 #[v] w (RecNew w r) := by
  obtain ⟨off, time, hk, key, hv, val⟩ := r
  simp only at l1 l2
  obtain ⟨kv, vv, rfl, ik, iv⟩ := h
  simp only at ik iv
  have bA := alloc_below' w (.cells #[.int .i64 off, .int .i64 time, .bool hk, kv, .bool hv, vv] 64)
  have bZ := alloc_below' (w.alloc (.cells #[.int .i64 off, .int .i64 time, .bool hk, kv, .bool hv, vv] 64)) (.cells #[.int .i64 0, .int .i64 0, .bool false, .slice none 0 0, .bool false, .slice none 0 0] 64)
  have xA := (Blk.made w #[.int .i64 off, .int .i64 time, .bool hk, kv, .bool hv, vv] 64).belowS bZ
  have xZ := Blk.made (w.alloc (.cells #[.int .i64 off, .int .i64 time, .bool hk, kv, .bool hv, vv] 64)) #[.int .i64 0, .int .i64 0, .bool false, .slice none 0 0, .bool false, .slice none 0 0] 64
  have B0 := Bstep bA bZ
  simp only [alloc_szO] at xZ
  go_enter Try.func67, Try.ntmps67
  go_upto_region 1 with (fail)
  generalize hwb : ((w.alloc (.cells #[.int .i64 off, .int .i64 time, .bool hk, kv, .bool hv, vv] 64)).alloc (.cells #[.int .i64 0, .int .i64 0, .bool false, .slice none 0 0, .bool false, .slice none 0 0] 64)) = wb at xA xZ B0 ⊢
  clear hwb bA bZ
  obtain ⟨A, hA⟩ : ∃ A, w.heap.size = A := ⟨_, rfl⟩
  obtain ⟨Z, hZ⟩ : ∃ Z, w.heap.size + 1 = Z := ⟨_, rfl⟩
  rw [hZ] at xZ ⊢
  rw [hA] at xA ⊢
  have hAZ : A ≠ Z := by omega
  have hZA' : Z ≠ A := by omega
  have hwA : w.heap.size ≤ A := by omega
  have hwZ : w.heap.size ≤ Z := by omega
  have hAZ1 : A < Z + 1 := by omega
  have hwZ1 : w.heap.size ≤ Z + 1 := by omega
  have hsz : Z + 1 ≤ wb.heap.size := xZ.lt
  have ikb := ik.below B0
  obtain ⟨c0, c1, c2, c3, c4, c5⟩ := xA.sixO
  have HA := Lib.hid hA
  have ow0 := own_nilI wb (Z + 1)
  have hlk : ([] : List Int).length + key.length < 10000000000 := by simp; omega
  have hlv : ([] : List Int).length + val.length < 10000000000 := by simp; omega
  clear hZ hA
  go_upto_region 2 with (at_builtin; refine wp_appI rfl _ _ rfl (Z + 1) (.slice none 0 0) kv [] key rfl rfl ow0 ikb hlk hsz ?_; intro v1 w1 own1 g1; rw [List.nil_append] at own1; obtain ⟨a1, cap1, rfl, _, _, _⟩ := own1.ints; have b1 : Below wb.heap.size wb w1 := bel_ofO g1; have x1 := xA.belowS b1; have f1 := x1.free; have sx1 := x1.sixO; obtain ⟨e0, e1, e2, e3, e4, e5⟩ := sx1; clear c0 c1 c2 c3 c4 c5)
  have x2 := x1.set 3 (.slice a1 key.length cap1)
  have gs : w1.grownBy (w1.setCell ⟨A, 3, none⟩ (.slice a1 key.length cap1)) (some A) := set_grown _ _ _ _
  have xZ2 := (xZ.belowS b1).by hZA' gs
  have B1 := Bstep B0 b1
  have B2 : Below w.heap.size w (w1.setCell ⟨A, 3, none⟩ (.slice a1 key.length cap1)) := B1.setCell hwA _
  have own2 := own1.by hAZ1 gs
  generalize w1.setCell ⟨A, 3, none⟩ (.slice a1 key.length cap1) = w2 at x2 xZ2 B2 own2 ⊢
  simp only [List.setIfInBounds_toArray, List.set_cons_zero, List.set_cons_succ] at x2
  have ivb := iv.below B2
  have ow2 := own_nilI w2 w2.heap.size
  have hsz2 : Z + 1 ≤ w2.heap.size := xZ2.lt
  clear own1 g1 b1 x1 f1 e0 e1 e2 e3 e4 e5 gs B1 xA xZ B0 ikb hsz
  obtain ⟨c0, c1, c2, c3, c4, c5⟩ := x2.sixO
  go_upto_region 3 with (at_builtin; refine wp_appI rfl _ _ rfl w2.heap.size (.slice none 0 0) vv [] val rfl rfl ow2 ivb hlv (Nat.le_refl _) ?_; intro v3 w3 own3 g3; rw [List.nil_append] at own3; obtain ⟨a3, cap3, rfl, _, _, _⟩ := own3.ints; have b3 : Below w2.heap.size w2 w3 := bel_ofO g3; have x3 := x2.belowS b3; have f3 := x3.free; have sx3 := x3.sixO; obtain ⟨e0, e1, e2, e3, e4, e5⟩ := sx3; clear c0 c1 c2 c3 c4 c5)
  have x4 := x3.set 5 (.slice a3 val.length cap3)
  have gs : w3.grownBy (w3.setCell ⟨A, 5, none⟩ (.slice a3 val.length cap3)) (some A) := set_grown _ _ _ _
  have xZ4 := (xZ2.belowS b3).by hZA' gs
  have B3 := Bstep B2 b3
  have B4 : Below w.heap.size w (w3.setCell ⟨A, 5, none⟩ (.slice a3 val.length cap3)) := B3.setCell hwA _
  have own24 := (own2.below b3).by hAZ1 gs
  have own34 := (own3.base hsz2).by hAZ1 gs
  generalize w3.setCell ⟨A, 5, none⟩ (.slice a3 val.length cap3) = w4 at x4 xZ4 B4 own24 own34 ⊢
  simp only [List.setIfInBounds_toArray, List.set_cons_zero, List.set_cons_succ] at x4
  clear own3 g3 b3 x3 f3 e0 e1 e2 e3 e4 e5 gs B3 x2 xZ2 B2 own2 ivb hsz2
  obtain ⟨c0, c1, c2, c3, c4, c5⟩ := x4.sixO
  obtain ⟨d0, d1, d2, d3, d4, d5⟩ := xZ4.sixO
  have fz := xZ4.free
  go_wp2_with fail
  have box8 := xZ4.six (.int .i64 off) (.int .i64 time) (.bool hk) (.slice a1 key.length cap1) (.bool hv) (.slice a3 val.length cap3)
  have g8 := six_grown w4 Z (.int .i64 off) (.int .i64 time) (.bool hk) (.slice a1 key.length cap1) (.bool hv) (.slice a3 val.length cap3)
  have bel8 := bel_six B4 hwZ (.int .i64 off) (.int .i64 time) (.bool hk) (.slice a1 key.length cap1) (.bool hv) (.slice a3 val.length cap3)
  generalize hW8 : ((((((w4.setCell ⟨Z, 0, none⟩ (.int .i64 off)).setCell ⟨Z, 1, none⟩ (.int .i64 time)).setCell ⟨Z, 2, none⟩ (.bool hk)).setCell ⟨Z, 3, none⟩ (.slice a1 key.length cap1)).setCell ⟨Z, 4, none⟩ (.bool hv)).setCell ⟨Z, 5, none⟩ (.slice a3 val.length cap3)) = W8 at box8 g8 bel8 ⊢
  have o1 := (own24.by (Nat.lt_succ_self Z) g8).base hwZ1
  have o2 := (own34.by (Nat.lt_succ_self Z) g8).base hwZ1
  clear c0 c1 c2 c3 c4 c5 d0 d1 d2 d3 d4 d5 fz hW8
  obtain ⟨c0, c1, c2, c3, c4, c5⟩ := box8.sixO
  refine bodyPost_ret (v := .agg #[.int .i64 off, .int .i64 time, .bool hk, (.slice a1 key.length cap1), .bool hv, (.slice a3 val.length cap3)]) (by simp [results, Try.results67, go_sem, c0, c1, c2, c3, c4, c5]) rfl ?_
  exact ⟨_, _, rfl, o1, o2, bel8⟩
-- W11b

set_option maxHeartbeats 1000000 in
theorem impl_Old_newRecord (v : Value) (m : Mes) (w : World) (h : MesV w v m) (l1 : m.key.length ≤ 1000000000) (l2 : m.val.length ≤ 1000000000) : Calls Try.prog 61 #[v] w (RecNew w (mRec m)) := by
  obtain ⟨off, timed, time, key, val, hk, miss⟩ := m
  simp only at l1 l2
  obtain ⟨kv, vv, rfl, ik, iv⟩ := h
  simp only at ik iv
  obtain ⟨ak, ck, rfl, _, _, _⟩ := id ik
  obtain ⟨av, cv, rfl, _, _, _⟩ := id iv
  have bA := alloc_below' w (.cells #[.int .i64 off, .bool timed, .int .i64 time, .slice ak key.length ck, .slice av val.length cv, .bool hk, .bool miss] 25)
  have bZ := alloc_below' (w.alloc (.cells #[.int .i64 off, .bool timed, .int .i64 time, .slice ak key.length ck, .slice av val.length cv, .bool hk, .bool miss] 25)) (.cells #[.int .i64 0, .int .i64 0, .bool false, .slice none 0 0, .bool false, .slice none 0 0] 64)
  have xZ := Blk.made (w.alloc (.cells #[.int .i64 off, .bool timed, .int .i64 time, .slice ak key.length ck, .slice av val.length cv, .bool hk, .bool miss] 25)) #[.int .i64 0, .int .i64 0, .bool false, .slice none 0 0, .bool false, .slice none 0 0] 64
  have B0 := Bstep bA bZ
  simp only [alloc_szO] at xZ
  go_enter Try.func61, Try.ntmps61
  go_wp2_with fail
  generalize hwb : ((w.alloc (.cells #[.int .i64 off, .bool timed, .int .i64 time, .slice ak key.length ck, .slice av val.length cv, .bool hk, .bool miss] 25)).alloc (.cells #[.int .i64 0, .int .i64 0, .bool false, .slice none 0 0, .bool false, .slice none 0 0] 64)) = wb at xZ B0 ⊢
  clear hwb bA bZ
  obtain ⟨Z, hZ⟩ : ∃ Z, w.heap.size + 1 = Z := ⟨_, rfl⟩
  rw [hZ] at xZ ⊢
  have hwZ : w.heap.size ≤ Z := by omega
  have hwZ1 : w.heap.size ≤ Z + 1 := by omega
  clear hZ
  refine (impl_newRecord _ ⟨off, time, hk, key, !miss, val⟩ wb ⟨_, _, rfl, ik.below B0, iv.below B0⟩ l1 l2).mono ?_
  rintro e w1 ⟨kv1, vv1, rfl, own1, own3, b1⟩
  simp only at own1 own3 ⊢
  obtain ⟨a1, cap1, rfl, _, _, _⟩ := own1.ints
  obtain ⟨a3, cap3, rfl, _, _, _⟩ := own3.ints
  have xZ1 := xZ.belowS b1
  have own1' := own1.base xZ.lt
  have own3' := own3.base xZ.lt
  have B1 := Bstep B0 b1
  obtain ⟨d0, d1, d2, d3, d4, d5⟩ := xZ1.sixO
  have fz := xZ1.free
  clear xZ own1 own3 b1
  go_wp2_with fail
  have box8 := xZ1.six (.int .i64 off) (.int .i64 time) (.bool hk) (.slice a1 key.length cap1) (.bool (!miss)) (.slice a3 val.length cap3)
  have g8 := six_grown w1 Z (.int .i64 off) (.int .i64 time) (.bool hk) (.slice a1 key.length cap1) (.bool (!miss)) (.slice a3 val.length cap3)
  have bel8 := bel_six B1 hwZ (.int .i64 off) (.int .i64 time) (.bool hk) (.slice a1 key.length cap1) (.bool (!miss)) (.slice a3 val.length cap3)
  generalize hW8 : ((((((w1.setCell ⟨Z, 0, none⟩ (.int .i64 off)).setCell ⟨Z, 1, none⟩ (.int .i64 time)).setCell ⟨Z, 2, none⟩ (.bool hk)).setCell ⟨Z, 3, none⟩ (.slice a1 key.length cap1)).setCell ⟨Z, 4, none⟩ (.bool (!miss))).setCell ⟨Z, 5, none⟩ (.slice a3 val.length cap3)) = W8 at box8 g8 bel8 ⊢
  have o1 := (own1'.by (Nat.lt_succ_self Z) g8).base hwZ1
  have o2 := (own3'.by (Nat.lt_succ_self Z) g8).base hwZ1
  clear d0 d1 d2 d3 d4 d5 fz hW8
  obtain ⟨c0, c1, c2, c3, c4, c5⟩ := box8.sixO
  refine bodyPost_ret (v := .agg #[.int .i64 off, .int .i64 time, .bool hk, .slice a1 key.length cap1, .bool (!miss), .slice a3 val.length cap3]) (by simp [results, Try.results61, go_sem, c0, c1, c2, c3, c4, c5]) rfl ?_
  exact ⟨_, _, rfl, o1, o2, bel8⟩
theorem as_old_yes (W : World) (v : Value) : (Instr.typeAssert (.iface 25 v) 80 25 true).run Try.prog W = .ok (.tuple #[v, .bool true]) W := by kernel_rfl
theorem as_old_no (W : World) (v : Value) : (Instr.typeAssert (.iface 64 v) 80 25 true).run Try.prog W = .ok (.tuple #[.agg #[.int .i64 0, .bool false, .int .i64 0, .slice none 0 0, .slice none 0 0, .bool false, .bool false], .bool false]) W := by kernel_rfl
theorem as_rec_yes (W : World) (v : Value) : (Instr.typeAssert (.iface 64 v) 80 64 true).run Try.prog W = .ok (.tuple #[v, .bool true]) W := by kernel_rfl
theorem impl_isFormValid_rec (v : Value) (r : Rec) (w : World) (h : RecV w v r) : Calls Try.prog 45 #[.iface 64 v] w (Same w (recOk r)) := by
  obtain ⟨kv, vv, rfl, ik, iv⟩ := id h
  obtain ⟨ak, ck, rfl, _, _, _⟩ := id ik
  obtain ⟨av, cv, rfl, _, _, _⟩ := id iv
  have h1 := fun W => as_old_no W (.agg #[.int .i64 r.off, .int .i64 r.time, .bool r.hk, .slice ak r.key.length ck, .bool r.hv, .slice av r.val.length cv])
  have h2 := fun W => as_rec_yes W (.agg #[.int .i64 r.off, .int .i64 r.time, .bool r.hk, .slice ak r.key.length ck, .bool r.hv, .slice av r.val.length cv])
  have bA := alloc_below' w (.cells #[.int .i64 r.off, .int .i64 r.time, .bool r.hk, .slice ak r.key.length ck, .bool r.hv, .slice av r.val.length cv] 64)
  have C1 := Lib.hid (impl_RecordValid _ r _ (h.below bA))
  go_enter Try.func45, Try.ntmps45
  go_wp2_with fail
  refine C1.out.mono ?_
  rintro e w1 ⟨rfl, b1⟩
  go_wp2_with fail
  go_ret
  exact ⟨rfl, Bstep bA b1⟩
theorem mOk_form (m : Mes) : mOk m = ((m.timed || decide (m.time = 0)) && recOk (mRec m)) := by unfold mOk; rw [Bool.and_comm]
set_option maxHeartbeats 1000000 in
theorem impl_isFormValid_old (v : Value) (m : Mes) (w : World) (h : MesV w v m) (l1 : m.key.length ≤ 1000000000) (l2 : m.val.length ≤ 1000000000) : Calls Try.prog 45 #[.iface 25 v] w (Same w (mOk m)) := by
  have hm := h
  rw [mOk_form]
  obtain ⟨off, timed, time, key, val, hk, miss⟩ := m
  simp only at l1 l2
  obtain ⟨kv, vv, rfl, ik, iv⟩ := h
  simp only at ik iv ⊢
  obtain ⟨ak, ck, rfl, _, _, _⟩ := id ik
  obtain ⟨av, cv, rfl, _, _, _⟩ := id iv
  have h1 := fun W => as_old_yes W (.agg #[.int .i64 off, .bool timed, .int .i64 time, .slice ak key.length ck, .slice av val.length cv, .bool hk, .bool miss])
  have bA := alloc_below' w (.cells #[.int .i64 off, .bool timed, .int .i64 time, .slice ak key.length ck, .slice av val.length cv, .bool hk, .bool miss] 25)
  have C1 := Lib.hid (impl_Old_newRecord _ ⟨off, timed, time, key, val, hk, miss⟩ _ (hm.below bA) l1 l2)
  have C2 : Hid (∀ W v, RecV W v (mRec ⟨off, timed, time, key, val, hk, miss⟩) → Calls Try.prog 45 #[.iface 64 v] W (Same W (recOk (mRec ⟨off, timed, time, key, val, hk, miss⟩)))) := Lib.hid fun W v hv => impl_isFormValid_rec v _ W hv
  cases timed with
  | true =>
    rw [Bool.true_or, Bool.true_and]
    go_enter Try.func45, Try.ntmps45
    go_wp2_with fail
    refine C1.out.mono ?_
    rintro e w1 ⟨k1, v1, rfl, own1, own3, b1⟩
    have hr : RecV w1 (.agg #[.int .i64 off, .int .i64 time, .bool hk, k1, .bool (!miss), v1]) (mRec ⟨off, true, time, key, val, hk, miss⟩) := ⟨_, _, rfl, own1.ints, own3.ints⟩
    have B1 := Bstep bA b1
    obtain ⟨a1, cap1, rfl, _, _, _⟩ := own1.ints
    obtain ⟨a3, cap3, rfl, _, _, _⟩ := own3.ints
    clear own1 own3
    go_wp2_with fail
    refine (C2.out w1 _ hr).mono ?_
    rintro e w2 ⟨rfl, b2⟩
    go_wp2_with fail
    go_ret
    exact ⟨ret_bool (by simp), Bstep B1 b2⟩
  | false =>
    by_cases h0 : time = 0
    · have e0 : (time == 0) = true := by rw [beq_iff_eq]; exact h0
      rw [Bool.false_or, decide_eq_true h0, Bool.true_and]
      clear h0
      go_enter Try.func45, Try.ntmps45
      go_wp2_with fail
      refine C1.out.mono ?_
      rintro e w1 ⟨k1, v1, rfl, own1, own3, b1⟩
      have hr : RecV w1 (.agg #[.int .i64 off, .int .i64 time, .bool hk, k1, .bool (!miss), v1]) (mRec ⟨off, false, time, key, val, hk, miss⟩) := ⟨_, _, rfl, own1.ints, own3.ints⟩
      have B1 := Bstep bA b1
      obtain ⟨a1, cap1, rfl, _, _, _⟩ := own1.ints
      obtain ⟨a3, cap3, rfl, _, _, _⟩ := own3.ints
      clear own1 own3
      go_wp2_with fail
      refine (C2.out w1 _ hr).mono ?_
      rintro e w2 ⟨rfl, b2⟩
      go_wp2_with fail
      go_ret
      exact ⟨ret_bool (by simp), Bstep B1 b2⟩
    · have e0 : (time == 0) = false := by rw [beq_eq_false_iff_ne]; exact h0
      rw [Bool.false_or, decide_eq_false h0, Bool.false_and]
      clear h0
      go_enter Try.func45, Try.ntmps45
      go_wp2_with fail
      go_ret
      exact ⟨ret_bool (by simp), bA⟩
theorem impl_OldValid (v : Value) (m : Mes) (w : World) (h : MesV w v m) (l1 : m.key.length ≤ 1000000000) (l2 : m.val.length ≤ 1000000000) : Calls Try.prog 20 #[v] w (Same w (mOk m)) := by
  have hm := h
  obtain ⟨kv, vv, rfl, ik, iv⟩ := h
  obtain ⟨ak, ck, rfl, _, _, _⟩ := id ik
  obtain ⟨av, cv, rfl, _, _, _⟩ := id iv
  have bA := alloc_below' w (.cells #[.int .i64 m.off, .bool m.timed, .int .i64 m.time, .slice ak m.key.length ck, .slice av m.val.length cv, .bool m.hk, .bool m.miss] 25)
  have C1 := Lib.hid (impl_isFormValid_old _ m _ (hm.below bA) l1 l2)
  go_enter Try.func20, Try.ntmps20
  go_wp2_with fail
  refine C1.out.mono ?_
  rintro e w1 ⟨rfl, b1⟩
  go_wp2_with fail
  go_ret
  exact ⟨rfl, Bstep bA b1⟩
-- W11c

theorem Ints.grownO {w w' : World} {v : Value} {xs : List Int} {row : Option Nat} (h : Ints w v xs) (hg : w.grownBy w' row) (hne : 0 < xs.length → ∀ k, row = some k → v.ownBlock ≠ some k) : Ints w' v xs := by
  rcases Nat.eq_zero_or_pos xs.length with h0 | h0
  · obtain ⟨a, cap, rfl, hl, hm, hc⟩ := h
    exact ⟨a, cap, rfl, hl, hm, fun h1 => by omega⟩
  · exact h.grown hg (hne h0)
theorem Ints.keepZ {w w' : World} {v : Value} {xs : List Int} {Z : Nat} (h : Ints w v xs) (hg : w.grownBy w' (some Z)) (hne : ∀ k, v.ownBlock = some k → 0 < xs.length → k ≠ Z) : Ints w' v xs :=
  h.grownO hg fun h0 k hk e => by simp only [Option.some.injEq] at hk; subst hk; exact hne _ e h0 rfl
/-- an empty row of the call's own -/
def IsEmpty (base : Nat) (W : World) (v : Value) : Prop := ∃ E, v = .slice (some ⟨E, 0, none⟩) 0 0 ∧ Own W base v []
/-- the record of a message, its parts of the call's own -/
def IsRec (base : Nat) (m : Mes) (W : World) (v : Value) : Prop :=
  ∃ a1 cap1 a3 cap3, v = .agg #[.int .i64 m.off, .int .i64 m.time, .bool m.hk, .slice a1 m.key.length cap1, .bool (!m.miss), .slice a3 m.val.length cap3] ∧ Own W base (.slice a1 m.key.length cap1) m.key ∧ Own W base (.slice a3 m.val.length cap3) m.val
/-- what the operations of the region yield -/
def prO (A base : Nat) (m : Mes) (kv vv : Value) : Nat → World → Value → Prop
  | 0, _, v => v = .pointer (some ⟨A, 0, none⟩)
  | 1, _, v => v = .int .i64 m.off
  | 2, _, v => v = .pointer (some ⟨A, 2, none⟩)
  | 3, _, v => v = .int .i64 m.time
  | 4, _, v => v = .pointer (some ⟨A, 5, none⟩)
  | 5, _, v => v = .bool m.hk
  | 6, W, v => IsEmpty base W v
  | 7, _, v => v = .pointer (some ⟨A, 3, none⟩)
  | 8, _, v => v = kv
  | 9, W, v => Own W base v m.key
  | 10, _, v => v = .pointer (some ⟨A, 6, none⟩)
  | 11, _, v => v = .bool m.miss
  | 12, _, v => v = .bool (!m.miss)
  | 13, W, v => IsEmpty base W v
  | 14, _, v => v = .pointer (some ⟨A, 4, none⟩)
  | 15, _, v => v = vv
  | 16, W, v => Own W base v m.val
  | 17, W, v => IsRec base m W v
  | _, _, _ => True
theorem prO_kept {A base Z : Nat} (hZ : Z < base) {m : Mes} {kv vv : Value} (i : Nat) (w w' : World) (v : Value) (hk : w.grownBy w' (some Z)) (h : prO A base m kv vv i w v) : prO A base m kv vv i w' v := by
  match i with
  | 0 | 1 | 2 | 3 | 4 | 5 | 7 | 8 | 10 | 11 | 12 | 14 | 15 => exact h
  | 6 | 13 => obtain ⟨E, e, o⟩ := h; exact ⟨E, e, o.by hZ hk⟩
  | 9 | 16 => exact Own.by h hZ hk
  | 17 => obtain ⟨a1, c1, a3, c3, e, o1, o3⟩ := h; exact ⟨a1, c1, a3, c3, e, o1.by hZ hk, o3.by hZ hk⟩
  | n + 18 => trivial
/-- the worlds of the region -/
def FrO (w0 : World) (A Z base : Nat) (m : Mes) (kv vv : Value) (l : Array Bool) (W : World) : Prop :=
  (Blk W A #[.int .i64 m.off, .bool m.timed, .int .i64 m.time, kv, vv, .bool m.hk, .bool m.miss] ∧ (∃ z0 z1 z2 z3 z4 z5, Blk W Z #[z0, z1, z2, z3, z4, z5]) ∧ Ints W kv m.key ∧ Ints W vv m.val ∧ w0.grownBy W (some Z) ∧ base ≤ W.heap.size) ∧
  (l.getD 18 false = true → ∃ a1 cap1 a3 cap3, Blk W Z #[.int .i64 m.off, .int .i64 m.time, .bool m.hk, .slice a1 m.key.length cap1, .bool (!m.miss), .slice a3 m.val.length cap3] ∧ Own W base (.slice a1 m.key.length cap1) m.key ∧ Own W base (.slice a3 m.val.length cap3) m.val)
theorem FrO.same {w0 W : World} {A Z base : Nat} {m : Mes} {kv vv : Value} {l : Array Bool} {i : Nat} (h : FrO w0 A Z base m kv vv l W) (hi : i ≠ 18) : FrO w0 A Z base m kv vv (l.setIfInBounds i true) W :=
  ⟨h.1, fun e => h.2 (by rwa [getD_set_other _ _ _ _ hi] at e)⟩
theorem FrO.below {w0 W W' : World} {A Z base : Nat} {m : Mes} {kv vv : Value} {l : Array Bool} {i : Nat} (h : FrO w0 A Z base m kv vv l W) (hb : Below W.heap.size W W') (hi : i ≠ 18) : FrO w0 A Z base m kv vv (l.setIfInBounds i true) W' := by
  obtain ⟨⟨h1, ⟨z0, z1, z2, z3, z4, z5, h2⟩, h3, h4, h5, h6⟩, h7⟩ := h
  refine ⟨⟨h1.belowS hb, ⟨z0, z1, z2, z3, z4, z5, h2.belowS hb⟩, h3.below hb, h4.below hb, grown_trans h5 (grown_of_below hb), Nat.le_trans h6 hb.size⟩, fun e => ?_⟩
  obtain ⟨a1, c1, a3, c3, hz, o1, o3⟩ := h7 (by rwa [getD_set_other _ _ _ _ hi] at e)
  exact ⟨a1, c1, a3, c3, hz.belowS hb, o1.below hb, o3.below hb⟩
theorem FrO.store {w0 W : World} {A Z base : Nat} {m : Mes} {kv vv : Value} {l : Array Bool} {z0 z1 z2 z3 z4 z5 : Value} {a1 a3 : Option Addr} {cap1 cap3 : Nat} (h : FrO w0 A Z base m kv vv l W) (hz : Blk W Z #[z0, z1, z2, z3, z4, z5])
    (o1 : Own W base (.slice a1 m.key.length cap1) m.key) (o3 : Own W base (.slice a3 m.val.length cap3) m.val) (hZ : Z < base ∧ A ≠ Z ∧ (∀ k, kv.ownBlock = some k → 0 < m.key.length → k ≠ Z) ∧ ∀ k, vv.ownBlock = some k → 0 < m.val.length → k ≠ Z) :
    FrO w0 A Z base m kv vv (l.setIfInBounds 18 true) ((((((W.setCell ⟨Z, 0, none⟩ (.int .i64 m.off)).setCell ⟨Z, 1, none⟩ (.int .i64 m.time)).setCell ⟨Z, 2, none⟩ (.bool m.hk)).setCell ⟨Z, 3, none⟩ (.slice a1 m.key.length cap1)).setCell ⟨Z, 4, none⟩ (.bool (!m.miss))).setCell ⟨Z, 5, none⟩ (.slice a3 m.val.length cap3)) := by
  obtain ⟨⟨h1, _, h3, h4, h5, h6⟩, _⟩ := h
  have g := six_grown W Z (.int .i64 m.off) (.int .i64 m.time) (.bool m.hk) (.slice a1 m.key.length cap1) (.bool (!m.miss)) (.slice a3 m.val.length cap3)
  have b := hz.six (.int .i64 m.off) (.int .i64 m.time) (.bool m.hk) (.slice a1 m.key.length cap1) (.bool (!m.miss)) (.slice a3 m.val.length cap3)
  refine ⟨⟨h1.by hZ.2.1 g, ⟨_, _, _, _, _, _, b⟩, h3.keepZ g hZ.2.2.1, h4.keepZ g hZ.2.2.2, grown_trans h5 g, Nat.le_trans h6 g.size⟩, fun _ => ⟨a1, cap1, a3, cap3, b, o1.by hZ.1 g, o3.by hZ.1 g⟩⟩
set_option maxHeartbeats 4000000 in
theorem spec_l11Record (v : Value) (m : Mes) (w : World) (h : MesV w v m) (l1 : m.key.length ≤ 1000000000) (l2 : m.val.length ≤ 1000000000) : Calls Try.prog 47 #[v] w (RecNew w (mRec m)) := by
  obtain ⟨kv, vv, rfl, ik, iv⟩ := h
  have lk := ik.lt
  have lv := iv.lt
  have bA := alloc_below' w (.cells #[.int .i64 m.off, .bool m.timed, .int .i64 m.time, kv, vv, .bool m.hk, .bool m.miss] 25)
  have bZ := alloc_below' (w.alloc (.cells #[.int .i64 m.off, .bool m.timed, .int .i64 m.time, kv, vv, .bool m.hk, .bool m.miss] 25)) (.cells #[.int .i64 0, .int .i64 0, .bool false, .slice none 0 0, .bool false, .slice none 0 0] 64)
  have xA := (Blk.made w #[.int .i64 m.off, .bool m.timed, .int .i64 m.time, kv, vv, .bool m.hk, .bool m.miss] 25).belowS bZ
  have xZ := Blk.made (w.alloc (.cells #[.int .i64 m.off, .bool m.timed, .int .i64 m.time, kv, vv, .bool m.hk, .bool m.miss] 25)) #[.int .i64 0, .int .i64 0, .bool false, .slice none 0 0, .bool false, .slice none 0 0] 64
  have B0 := Bstep bA bZ
  simp only [alloc_szO] at xZ
  go_enter Try.func47, Try.ntmps47
  go_upto_region 1 with (fail)
  generalize hwb : ((w.alloc (.cells #[.int .i64 m.off, .bool m.timed, .int .i64 m.time, kv, vv, .bool m.hk, .bool m.miss] 25)).alloc (.cells #[.int .i64 0, .int .i64 0, .bool false, .slice none 0 0, .bool false, .slice none 0 0] 64)) = wb at xA xZ B0 ⊢
  clear hwb bA bZ
  obtain ⟨A, hA⟩ : ∃ A, w.heap.size = A := ⟨_, rfl⟩
  obtain ⟨Z, hZ⟩ : ∃ Z, w.heap.size + 1 = Z := ⟨_, rfl⟩
  rw [hZ] at xZ ⊢
  rw [hA] at xA ⊢
  have hwZ : w.heap.size ≤ Z := by omega
  have hwZ1 : w.heap.size ≤ Z + 1 := by omega
  obtain ⟨base, hbase⟩ : ∃ base, Z + 1 = base := ⟨_, rfl⟩
  have hZb : Z < base ∧ A ≠ Z ∧ (∀ k, kv.ownBlock = some k → 0 < m.key.length → k ≠ Z) ∧ ∀ k, vv.ownBlock = some k → 0 < m.val.length → k ≠ Z :=
    ⟨by omega, by omega, fun k hk h0 => by have := lk h0 k hk; omega, fun k hk h0 => by have := lv h0 k hk; omega⟩
  have hdr : Below wb.heap.size wb { wb with drawn := wb.drawn + 1 } := below_drewN (Below.refl _ _) 1
  have F0 : FrO wb A Z base m kv vv (Array.replicate 19 false) { wb with drawn := wb.drawn + 1 } :=
    ⟨⟨xA.belowS hdr, ⟨_, _, _, _, _, _, xZ.belowS hdr⟩, (ik.below B0).below hdr, (iv.below B0).below hdr, grown_of_below hdr, by have := (xZ.belowS hdr).lt; omega⟩, fun e => by simp at e⟩
  refine region_inv (prO A base m kv vv) (FrO wb A Z base m kv vv) (fun W W' => W.grownBy W' (some Z)) (by kernel_rfl) (by decide +kernel) ?_ (by decide +kernel) (by decide +kernel) (fun i w w' v hr hp => prO_kept hZb.1 i w w' v hr hp) F0 ?_ ?_
  · intro s hs
    show s < 21
    revert s
    decide +kernel
  · intro i o ho l a W hls hl hop hdeps hI K hK
    obtain ⟨i1, i2, i3, i4, hF⟩ := hI
    have e1 : a.tmps.getD 1 undef = .pointer (some ⟨A, 0, none⟩) := i3 1 (by decide +kernel)
    have e2 : a.tmps.getD 2 undef = .pointer (some ⟨Z, 0, none⟩) := i3 2 (by decide +kernel)
    have hls' : l.size = 19 := hls
    match i, ho with
    | 0, ho =>
      obtain rfl := Option.some.inj ho
      clear i1 i2 i3 i4 hdeps
      go_simp
      exact hK _ _ (World.grownBy.refl _ _) (hF.same (by decide)) (fun _ => rfl)
    | 1, ho =>
      obtain rfl := Option.some.inj ho
      have d0 : l.getD 0 false = true := by
        simp [Region.binds] at hdeps ⊢
        simp [hdeps]
      have p : a.tmps.getD 3 undef = .pointer (some ⟨A, 0, none⟩) := i4 0 _ 3 rfl rfl d0
      obtain ⟨c0, c1, c2, c3, c4, c5, c6⟩ := hF.1.1.seven?
      clear i1 i2 i3 i4 hdeps e1 e2 d0
      go_simp
      exact hK _ _ (World.grownBy.refl _ _) (hF.same (by decide)) (fun _ => rfl)
    | 2, ho =>
      obtain rfl := Option.some.inj ho
      clear i1 i2 i3 i4 hdeps
      go_simp
      exact hK _ _ (World.grownBy.refl _ _) (hF.same (by decide)) (fun _ => rfl)
    | 3, ho =>
      obtain rfl := Option.some.inj ho
      have d2 : l.getD 2 false = true := by
        simp [Region.binds] at hdeps ⊢
        simp [hdeps]
      have p : a.tmps.getD 5 undef = .pointer (some ⟨A, 2, none⟩) := i4 2 _ 5 rfl rfl d2
      obtain ⟨c0, c1, c2, c3, c4, c5, c6⟩ := hF.1.1.seven?
      clear i1 i2 i3 i4 hdeps e1 e2 d2
      go_simp
      exact hK _ _ (World.grownBy.refl _ _) (hF.same (by decide)) (fun _ => rfl)
    | 4, ho =>
      obtain rfl := Option.some.inj ho
      clear i1 i2 i3 i4 hdeps
      go_simp
      exact hK _ _ (World.grownBy.refl _ _) (hF.same (by decide)) (fun _ => rfl)
    | 5, ho =>
      obtain rfl := Option.some.inj ho
      have d4 : l.getD 4 false = true := by
        simp [Region.binds] at hdeps ⊢
        simp [hdeps]
      have p : a.tmps.getD 7 undef = .pointer (some ⟨A, 5, none⟩) := i4 4 _ 7 rfl rfl d4
      obtain ⟨c0, c1, c2, c3, c4, c5, c6⟩ := hF.1.1.seven?
      clear i1 i2 i3 i4 hdeps e1 e2 d4
      go_simp
      exact hK _ _ (World.grownBy.refl _ _) (hF.same (by decide)) (fun _ => rfl)
    | 6, ho =>
      obtain rfl := Option.some.inj ho
      clear i1 i2 i3 i4 hdeps e1 e2
      go_simp
      exact hK _ _ (grown_of_below (alloc_below' _ _)) (hF.below (alloc_below' _ _) (by decide)) (fun _ => ⟨_, rfl, own_empty W base hF.1.2.2.2.2.2⟩)
    | 7, ho =>
      obtain rfl := Option.some.inj ho
      clear i1 i2 i3 i4 hdeps
      go_simp
      exact hK _ _ (World.grownBy.refl _ _) (hF.same (by decide)) (fun _ => rfl)
    | 8, ho =>
      obtain rfl := Option.some.inj ho
      have d7 : l.getD 7 false = true := by
        simp [Region.binds] at hdeps ⊢
        simp [hdeps]
      have p : a.tmps.getD 10 undef = .pointer (some ⟨A, 3, none⟩) := i4 7 _ 10 rfl rfl d7
      obtain ⟨c0, c1, c2, c3, c4, c5, c6⟩ := hF.1.1.seven?
      clear i1 i2 i3 i4 hdeps e1 e2 d7
      go_simp
      exact hK _ _ (World.grownBy.refl _ _) (hF.same (by decide)) (fun _ => rfl)
    | 9, ho =>
      obtain rfl := Option.some.inj ho
      have d6 : l.getD 6 false = true := by
        simp [Region.binds] at hdeps ⊢
        simp [hdeps]
      have d8 : l.getD 8 false = true := by
        simp [Region.binds] at hdeps ⊢
        simp [hdeps]
      obtain ⟨E, p1, ho⟩ : IsEmpty base W (a.tmps.getD 9 undef) := i4 6 _ 9 rfl rfl d6
      have p2 : a.tmps.getD 11 undef = kv := i4 8 _ 11 rfl rfl d8
      have hi := hF.1.2.2.1
      have hb := hF.1.2.2.2.2.2
      rw [p1] at ho
      clear i1 i2 i3 i4 hdeps e1 e2 d6 d8
      refine op_appE _ _ rfl E base kv m.key p1 p2 ho hi (by omega) hb fun v' w' h1 h2 h3 => ?_
      exact hK _ _ (grown_of_below h2) (hF.below h2 (by decide)) (fun _ => h1)
    | 10, ho =>
      obtain rfl := Option.some.inj ho
      clear i1 i2 i3 i4 hdeps
      go_simp
      exact hK _ _ (World.grownBy.refl _ _) (hF.same (by decide)) (fun _ => rfl)
    | 11, ho =>
      obtain rfl := Option.some.inj ho
      have d10 : l.getD 10 false = true := by
        simp [Region.binds] at hdeps ⊢
        simp [hdeps]
      have p : a.tmps.getD 13 undef = .pointer (some ⟨A, 6, none⟩) := i4 10 _ 13 rfl rfl d10
      obtain ⟨c0, c1, c2, c3, c4, c5, c6⟩ := hF.1.1.seven?
      clear i1 i2 i3 i4 hdeps e1 e2 d10
      go_simp
      exact hK _ _ (World.grownBy.refl _ _) (hF.same (by decide)) (fun _ => rfl)
    | 12, ho =>
      obtain rfl := Option.some.inj ho
      have d11 : l.getD 11 false = true := by
        simp [Region.binds] at hdeps ⊢
        simp [hdeps]
      have p : a.tmps.getD 14 undef = .bool m.miss := i4 11 _ 14 rfl rfl d11
      clear i1 i2 i3 i4 hdeps e1 e2 d11
      go_simp
      exact hK _ _ (World.grownBy.refl _ _) (hF.same (by decide)) (fun _ => rfl)
    | 13, ho =>
      obtain rfl := Option.some.inj ho
      clear i1 i2 i3 i4 hdeps e1 e2
      go_simp
      exact hK _ _ (grown_of_below (alloc_below' _ _)) (hF.below (alloc_below' _ _) (by decide)) (fun _ => ⟨_, rfl, own_empty W base hF.1.2.2.2.2.2⟩)
    | 14, ho =>
      obtain rfl := Option.some.inj ho
      clear i1 i2 i3 i4 hdeps
      go_simp
      exact hK _ _ (World.grownBy.refl _ _) (hF.same (by decide)) (fun _ => rfl)
    | 15, ho =>
      obtain rfl := Option.some.inj ho
      have d14 : l.getD 14 false = true := by
        simp [Region.binds] at hdeps ⊢
        simp [hdeps]
      have p : a.tmps.getD 17 undef = .pointer (some ⟨A, 4, none⟩) := i4 14 _ 17 rfl rfl d14
      obtain ⟨c0, c1, c2, c3, c4, c5, c6⟩ := hF.1.1.seven?
      clear i1 i2 i3 i4 hdeps e1 e2 d14
      go_simp
      exact hK _ _ (World.grownBy.refl _ _) (hF.same (by decide)) (fun _ => rfl)
    | 16, ho =>
      obtain rfl := Option.some.inj ho
      have d13 : l.getD 13 false = true := by
        simp [Region.binds] at hdeps ⊢
        simp [hdeps]
      have d15 : l.getD 15 false = true := by
        simp [Region.binds] at hdeps ⊢
        simp [hdeps]
      obtain ⟨E, p1, ho⟩ : IsEmpty base W (a.tmps.getD 16 undef) := i4 13 _ 16 rfl rfl d13
      have p2 : a.tmps.getD 18 undef = vv := i4 15 _ 18 rfl rfl d15
      have hi := hF.1.2.2.2.1
      have hb := hF.1.2.2.2.2.2
      rw [p1] at ho
      clear i1 i2 i3 i4 hdeps e1 e2 d13 d15
      refine op_appE _ _ rfl E base vv m.val p1 p2 ho hi (by omega) hb fun v' w' h1 h2 h3 => ?_
      exact hK _ _ (grown_of_below h2) (hF.below h2 (by decide)) (fun _ => h1)
    | 17, ho =>
      obtain rfl := Option.some.inj ho
      have d1 : l.getD 1 false = true := by
        simp [Region.binds] at hdeps ⊢
        simp [hdeps]
      have d3 : l.getD 3 false = true := by
        simp [Region.binds] at hdeps ⊢
        simp [hdeps]
      have d5 : l.getD 5 false = true := by
        simp [Region.binds] at hdeps ⊢
        simp [hdeps]
      have d9 : l.getD 9 false = true := by
        simp [Region.binds] at hdeps ⊢
        simp [hdeps]
      have d12 : l.getD 12 false = true := by
        simp [Region.binds] at hdeps ⊢
        simp [hdeps]
      have d16 : l.getD 16 false = true := by
        simp [Region.binds] at hdeps ⊢
        simp [hdeps]
      have p1 : a.tmps.getD 4 undef = .int .i64 m.off := i4 1 _ 4 rfl rfl d1
      have p3 : a.tmps.getD 6 undef = .int .i64 m.time := i4 3 _ 6 rfl rfl d3
      have p5 : a.tmps.getD 8 undef = .bool m.hk := i4 5 _ 8 rfl rfl d5
      have p12 : a.tmps.getD 15 undef = .bool (!m.miss) := i4 12 _ 15 rfl rfl d12
      have o9 : Own W base (a.tmps.getD 12 undef) m.key := i4 9 _ 12 rfl rfl d9
      have o16 : Own W base (a.tmps.getD 19 undef) m.val := i4 16 _ 19 rfl rfl d16
      obtain ⟨u1, hu1⟩ : ∃ u, a.tmps.getD 12 undef = u := ⟨_, rfl⟩
      obtain ⟨u3, hu3⟩ : ∃ u, a.tmps.getD 19 undef = u := ⟨_, rfl⟩
      rw [hu1] at o9
      rw [hu3] at o16
      obtain ⟨a1, cap1, rfl, _, _, _⟩ := o9.ints
      obtain ⟨a3, cap3, rfl, _, _, _⟩ := o16.ints
      rw [Array.getD_eq_getD_getElem?] at p1 p3 p5 p12 hu1 hu3
      clear i1 i2 i3 i4 hdeps e1 e2 d1 d3 d5 d9 d12 d16
      go_simp
      exact hK _ _ (World.grownBy.refl _ _) (hF.same (by decide)) (fun _ => ⟨_, _, _, _, rfl, o9, o16⟩)
    | 18, ho =>
      obtain rfl := Option.some.inj ho
      have d17 : l.getD 17 false = true := by
        simp [Region.binds] at hdeps ⊢
        simp [hdeps]
      obtain ⟨a1, cap1, a3, cap3, p, o1, o3⟩ : IsRec base m W (a.tmps.getD 20 undef) := i4 17 _ 20 rfl rfl d17
      obtain ⟨z0, z1, z2, z3, z4, z5, hZ⟩ := hF.1.2.1
      obtain ⟨q0, q1, q2, q3, q4, q5⟩ := hZ.sixO
      have fz := hZ.free
      have HF := Lib.hid (hF.store hZ o1 o3 hZb)
      clear i1 i2 i3 i4 hdeps e1 d17 hF
      go_simp
      exact hK undef _ (six_grown W Z _ _ _ _ _ _) HF.out (fun q => (q rfl).elim)
    | n + 19, ho =>
      have hx := (Array.getElem?_eq_some_iff.1 ho).1
      have hx2 : n + 19 < 19 := hx
      omega
  · intro l a W hI hall
    obtain ⟨i1, i2, i3, i4, hF⟩ := hI
    have e2 : a.tmps.getD 2 undef = .pointer (some ⟨Z, 0, none⟩) := i3 2 (by decide +kernel)
    obtain ⟨a1, cap1, a3, cap3, hz, o1, o3⟩ := hF.2 (hall 18 (by decide))
    have gW := hF.1.2.2.2.2.1
    obtain ⟨c0, c1, c2, c3, c4, c5⟩ := hz.sixO
    rw [Array.getD_eq_getD_getElem?] at e2
    clear i2 i3 i4 hF hall
    go_wp2_with fail
    refine bodyPost_ret (v := .agg #[.int .i64 m.off, .int .i64 m.time, .bool m.hk, .slice a1 m.key.length cap1, .bool (!m.miss), .slice a3 m.val.length cap3]) (by simp [results, Try.results47, go_sem, e2, c0, c1, c2, c3, c4, c5]) i1 ?_
    exact ⟨_, _, rfl, o1.base (by omega), o3.base (by omega), B0.grown gW B0.size (fun k hk => by simp only [Option.some.injEq] at hk; omega)⟩
-- W11d

set_option maxHeartbeats 1000000 in
theorem spec_OldValid (v : Value) (m : Mes) (w : World) (h : MesV w v m) (l1 : m.key.length ≤ 1000000000) (l2 : m.val.length ≤ 1000000000) : Calls Try.prog 22 #[v] w (Same w (mOk m)) := by
  have hm := h
  obtain ⟨off, timed, time, key, val, hk, miss⟩ := m
  obtain ⟨kv, vv, rfl, ik, iv⟩ := h
  simp only at ik iv
  obtain ⟨ak, ck, rfl, _, _, _⟩ := id ik
  obtain ⟨av, cv, rfl, _, _, _⟩ := id iv
  have bA := alloc_below' w (.cells #[.int .i64 off, .bool timed, .int .i64 time, .slice ak key.length ck, .slice av val.length cv, .bool hk, .bool miss] 25)
  have xA := Blk.made w #[.int .i64 off, .bool timed, .int .i64 time, .slice ak key.length ck, .slice av val.length cv, .bool hk, .bool miss] 25
  have C1 := Lib.hid (spec_l11Record _ ⟨off, timed, time, key, val, hk, miss⟩ _ (hm.below bA) l1 l2)
  have C2 : Hid (∀ W v, RecV W v (mRec ⟨off, timed, time, key, val, hk, miss⟩) → Calls Try.prog 46 #[v] W (SaysB (recOk (mRec ⟨off, timed, time, key, val, hk, miss⟩)) W)) := Lib.hid fun W v hv => spec_RecordValid v _ W hv
  unfold mOk
  obtain ⟨rb, hrb⟩ : ∃ rb, recOk (mRec ⟨off, timed, time, key, val, hk, miss⟩) = rb := ⟨_, rfl⟩
  rw [hrb] at C2 ⊢
  clear hrb
  go_enter Try.func22, Try.ntmps22
  go_wp2_with fail
  generalize hwb : w.alloc (.cells #[.int .i64 off, .bool timed, .int .i64 time, .slice ak key.length ck, .slice av val.length cv, .bool hk, .bool miss] 25) = wb at bA xA C1 ⊢
  clear hwb
  obtain ⟨A, hA⟩ : ∃ A, w.heap.size = A := ⟨_, rfl⟩
  rw [hA] at xA ⊢
  have HA := Lib.hid hA
  clear hA
  refine C1.out.mono ?_
  rintro e w1 ⟨k1, v1, rfl, own1, own3, b1⟩
  have hr : RecV w1 (.agg #[.int .i64 off, .int .i64 time, .bool hk, k1, .bool (!miss), v1]) (mRec ⟨off, timed, time, key, val, hk, miss⟩) := ⟨_, _, rfl, own1.ints, own3.ints⟩
  have B1 := Bstep bA b1
  have xA1 := xA.belowS b1
  obtain ⟨a1, cap1, rfl, _, _, _⟩ := own1.ints
  obtain ⟨a3, cap3, rfl, _, _, _⟩ := own3.ints
  clear own1 own3 C1 xA
  go_wp2_with fail
  refine (C2.out w1 _ hr).mono ?_
  rintro e w2 ⟨rfl, b2⟩
  have B2 := Bstep B1 b2
  obtain ⟨c0, c1, c2, c3, c4, c5, c6⟩ := (xA1.belowS b2).seven?
  clear xA1 C2 hr
  cases rb with
  | false =>
    go_wp2_with fail
    go_ret
    exact ⟨ret_bool (by simp), B2⟩
  | true =>
    cases timed with
    | true =>
      go_wp2_with fail
      go_ret
      exact ⟨ret_bool (by simp), B2⟩
    | false =>
      by_cases h0 : time = 0
      · have e0 : (time == 0) = true := by rw [beq_iff_eq]; exact h0
        have hE : Hid ((true && (false || decide (time = 0))) = true) := Lib.hid (by rw [decide_eq_true h0]; rfl)
        clear h0
        go_wp2_with fail
        go_ret
        exact ⟨ret_bool hE.out.symm, B2⟩
      · have e0 : (time == 0) = false := by rw [beq_eq_false_iff_ne]; exact h0
        have hE : Hid ((true && (false || decide (time = 0))) = false) := Lib.hid (by rw [decide_eq_false h0]; rfl)
        clear h0
        go_wp2_with fail
        go_ret
        exact ⟨ret_bool hE.out.symm, B2⟩
-- W11e

theorem impl_withInt (v : Value) (xs : List Int) (n : Int) (m : Nat) (base : Nat) (w : World) (h : Own w base v xs) (hb : base ≤ w.heap.size) (hl : xs.length ≤ 100000000) (m1 : 1 ≤ m) (m3 : m ≤ 3) (n0 : 0 ≤ n) (n1 : n < 256 ^ m) :
    Calls Try.prog 36 #[v, .int .i64 n, .int .i64 (m : Int)] w (AppRes w base (xs ++ sfx m n)) := by
  have p3 := pow256_le m m3
  have C1 := impl_IntBytes n (m : Int) w ⟨by omega, by omega⟩ ⟨by omega, by omega⟩
  have hok := okI_mk m1 m3 n0 n1
  rw [intB_yes hok, hok, Int.toNat_natCast] at C1
  have C1 := Lib.hid C1
  have hlen := sfx_len m n
  have hlen2 : (sfx m n).length ≤ 3 := by omega
  obtain ⟨ys, hys⟩ : ∃ ys, sfx m n = ys := ⟨_, rfl⟩
  rw [hys] at C1 hlen2 ⊢
  clear hys hok hlen p3
  go_enter Try.func36, Try.ntmps36
  go_wp2_with fail
  (with_reducible refine C1.out.mono ?_)
  rintro e w1 ⟨u, rfl, own1, b1⟩
  have own0 := h.below b1
  have bb : Below base w w1 := b1.mono hb
  have hs1 := Nat.le_trans hb b1.size
  go_wp2_with (at_builtin; refine wp_appI rfl _ _ rfl base v u xs ys rfl rfl own0 own1.ints (by omega) hs1 ?_; intro v2 w2 own2 g2)
  go_ret
  exact ⟨_, rfl, own2, bb.grown g2 hs1 own0.lt⟩
theorem own_lit1 (w : World) (base : Nat) (n : Int) (hb : base ≤ w.heap.size) : Own (w.alloc (.cells #[.int .i64 n] 3)) base (.slice (some ⟨w.heap.size, 0, none⟩) 1 1) [n] := by
  have h := World.ownsRow_made (e := 3) (size := 1) w #[.int .i64 n] 1 hb (by unfold maxLen; omega) (by simp)
  refine ⟨by simp, .inr ⟨w.heap.size, 1, #[.int .i64 n], rfl, hb, heap_alloc_new w _, by simp, by unfold maxLen; omega, by simp, by simp⟩⟩
theorem impl_withOldPart (v u : Value) (xs ys : List Int) (has : Bool) (base : Nat) (w : World) (h : Own w base v xs) (hi : Ints w u ys) (hd : ∀ w' : World, w.grownBy w' v.ownBlock → Ints w' u ys) (hb : base ≤ w.heap.size) (hl : xs.length ≤ 10000000) (hy : ys.length ≤ 1000) :
    Calls Try.prog 50 #[v, .bool has, u] w (AppRes w base (xs ++ partO has ys)) := by
  have h0 := h
  obtain ⟨av, cv, rfl, _, _, _⟩ := h.ints
  cases has with
  | false =>
    rw [show partO false ys = [255] from rfl]
    go_enter Try.func50, Try.ntmps50
    go_wp2_with (at_builtin; refine wp_app1 rfl (.tmp 9) (.tmp 10) rfl base _ xs 255 rfl rfl h0 (by omega) hb ?_; intro v1 w1 own1 g1 hv1; obtain ⟨g, cp, rfl⟩ := hv1)
    go_ret
    exact ⟨_, rfl, own1, (Below.refl base w).grown g1 hb h0.lt⟩
  | true =>
    rw [show partO true ys = [(ys.length : Int)] ++ ys from rfl, ← List.append_assoc]
    have hd' := Lib.hid hd
    obtain ⟨au, cu, rfl, _, hmu, _⟩ := id hi
    unfold maxLen at hmu
    have hl1 : (xs ++ [(ys.length : Int)]).length + ys.length < 10000000000 := by simp; omega
    clear hd
    go_enter Try.func50, Try.ntmps50
    go_wp2_with (first
      | (at_builtin; refine wp_app1 rfl (.tmp 12) (.tmp 15) rfl base _ xs (ys.length : Int) rfl rfl h0 (by omega) hb ?_; intro v1 w1 own1 g1 hv1; obtain ⟨g, cp, rfl⟩ := hv1; have i1 := hd'.out w1 g1; have b1 : Below base w w1 := (Below.refl base w).grown g1 hb h0.lt; have hb1 := Nat.le_trans hb b1.size)
      | (at_builtin; refine wp_appI rfl (.tmp 16) (.tmp 17) rfl base _ _ _ ys rfl rfl own1 i1 hl1 hb1 ?_; intro v2 w2 own2 g2))
    go_ret
    exact ⟨_, rfl, own2, b1.grown g2 hb1 own1.lt⟩
theorem AppRes.lenOf {w : World} {base : Nat} {v : Value} {xs : List Int} (h : Own w base v xs) : ∃ a c, v = .slice a xs.length c := by
  obtain ⟨a, c, rfl, _⟩ := h.ints
  exact ⟨a, c, rfl⟩
theorem Ints.keepR {w w' : World} {v : Value} {xs : List Int} {row : Option Nat} (h : Ints w v xs) (hg : w.grownBy w' row) (hne : ∀ q, v.ownBlock = some q → 0 < xs.length → row ≠ some q) : Ints w' v xs := by
  rcases Nat.eq_zero_or_pos xs.length with h0 | h0
  · obtain ⟨a, cap, rfl, hl, hm, hc⟩ := h
    exact ⟨a, cap, rfl, hl, hm, fun h1 => by omega⟩
  · exact h.keep fun b hv hlt => hg.block b hlt (fun e => hne b hv h0 e.symm)
set_option maxHeartbeats 2000000 in
theorem impl_summedBytes (v : Value) (m : Mes) (w : World) (h : MesV w v m) (hok : mOk m = true) : Calls Try.prog 35 #[v] w (NewInts1 w (restO m)) := by
  obtain ⟨⟨_, ⟨t0, t1⟩, p1, p2⟩, _⟩ := mOk_iff.1 hok
  have k12 := (partOk_iff.1 p1).2.2
  have v12 := (partOk_iff.1 p2).2.2
  have hm := h
  obtain ⟨off, timed, time, key, val, hk, miss⟩ := m
  obtain ⟨kv, vv, rfl, ik, iv⟩ := h
  simp only at ik iv t0 t1 k12 v12
  obtain ⟨ak, ck, rfl, _, _, _⟩ := id ik
  obtain ⟨av, cv, rfl, _, _, _⟩ := id iv
  have lk := ik.lt
  have lv := iv.lt
  have bA := alloc_below' w (.cells #[.int .i64 off, .bool timed, .int .i64 time, .slice ak key.length ck, .slice av val.length cv, .bool hk, .bool miss] 25)
  have xA := Blk.made w #[.int .i64 off, .bool timed, .int .i64 time, .slice ak key.length ck, .slice av val.length cv, .bool hk, .bool miss] 25
  have C2 : Hid (∀ W v xs base, Own W base v xs → Below w.heap.size w W → w.heap.size ≤ base → base ≤ W.heap.size → xs.length ≤ 10000000 → Calls Try.prog 50 #[v, .bool hk, .slice ak key.length ck] W (AppRes W base (xs ++ partO hk key))) := Lib.hid fun W v xs base ho hb hs hw hl =>
    impl_withOldPart v _ xs key hk base W ho (ik.below hb) (fun w' hg => (ik.below hb).keepR hg fun q hq h0 e => by have := lk h0 q hq; have := ho.lt q e; omega) hw hl (by omega)
  have C3 : Hid (∀ W v xs base, Own W base v xs → Below w.heap.size w W → w.heap.size ≤ base → base ≤ W.heap.size → xs.length ≤ 10000000 → Calls Try.prog 50 #[v, .bool (!miss), .slice av val.length cv] W (AppRes W base (xs ++ partO (!miss) val))) := Lib.hid fun W v xs base ho hb hs hw hl =>
    impl_withOldPart v _ xs val (!miss) base W ho (iv.below hb) (fun w' hg => (iv.below hb).keepR hg fun q hq h0 e => by have := lv h0 q hq; have := ho.lt q e; omega) hw hl (by omega)
  rw [show restO ⟨off, timed, time, key, val, hk, miss⟩ = headO ⟨off, timed, time, key, val, hk, miss⟩ ++ partO hk key ++ partO (!miss) val from rfl]
  have hlk : (partO hk key).length = 1 + key.length := partO_len p1
  have hlv : (partO (!miss) val).length = 1 + val.length := partO_len p2
  obtain ⟨P1, hP1⟩ : ∃ P1, partO hk key = P1 := ⟨_, rfl⟩
  obtain ⟨P2, hP2⟩ : ∃ P2, partO (!miss) val = P2 := ⟨_, rfl⟩
  rw [hP1] at C2 hlk ⊢
  rw [hP2] at C3 hlv ⊢
  clear hP1 hP2 p1 p2
  obtain ⟨R, hR⟩ : ∃ R, headO ⟨off, timed, time, key, val, hk, miss⟩ ++ P1 ++ P2 = R := ⟨_, rfl⟩
  rw [hR]
  have HR := Lib.hid hR
  clear hR
  go_enter Try.func35, Try.ntmps35
  go_upto_region 1 with (fail)
  generalize hwb : w.alloc (.cells #[.int .i64 off, .bool timed, .int .i64 time, .slice ak key.length ck, .slice av val.length cv, .bool hk, .bool miss] 25) = wb at bA xA ⊢
  clear hwb
  obtain ⟨A, hA⟩ : ∃ A, w.heap.size = A := ⟨_, rfl⟩
  rw [hA] at xA ⊢
  have HA := Lib.hid hA
  have hs0 : w.heap.size ≤ wb.heap.size := bA.size
  have hAb := xA.lt
  clear hA
  have b0 := alloc_below' wb (.cells #[.int .i64 0] 3)
  have o0 := own_lit1 wb wb.heap.size 0 (Nat.le_refl _)
  have x0 := xA.belowS b0
  obtain ⟨c0, c1, c2, c3, c4, c5, c6⟩ := x0.seven?
  go_upto_region 2 with (fail)
  obtain ⟨L0, hL0⟩ : ∃ L0, wb.heap.size = L0 := ⟨_, rfl⟩
  rw [hL0] at o0 hs0 ⊢
  have b0s : L0 ≤ (wb.alloc (.cells #[.int .i64 0] 3)).heap.size := by rw [← hL0]; exact b0.size
  generalize hw0 : wb.alloc (.cells #[.int .i64 0] 3) = w0 at b0 o0 x0 c0 c1 c2 c3 c4 c5 c6 b0s ⊢
  have HL := Lib.hid hL0
  clear hw0 hL0
  cases timed with
  | false =>
    have HH : Hid (headO ⟨off, false, time, key, val, hk, miss⟩ = [0]) := Lib.hid rfl
    have hh4 : ([0] : List Int).length ≤ 4 := by simp
    obtain ⟨H, hH⟩ : ∃ H, ([0] : List Int) = H := ⟨_, rfl⟩
    rw [hH] at o0 hh4 HH
    clear hH
    go_wp2_with fail
    refine (C2.out w0 _ H L0 o0 (Bstep bA b0) hs0 b0s (by omega)).mono ?_
    rintro e w1 ⟨v1, rfl, own1, b1⟩
    have b1' := b0.trans (b1.mono (by have := HL.out; omega))
    obtain ⟨Q, hQ⟩ : ∃ Q, H ++ P1 = Q := ⟨_, rfl⟩
    have hql : Q.length ≤ 100 := by rw [← hQ, List.length_append]; omega
    rw [hQ] at own1
    have HQ := Lib.hid hQ
    clear hQ
    have x1 := xA.belowS b1'
    have b1s : L0 ≤ w1.heap.size := by have := b1'.size; have := HL.out; omega
    obtain ⟨a1, k1, rfl⟩ := AppRes.lenOf own1
    clear c0 c1 c2 c3 c4 c5 c6
    obtain ⟨c0, c1, c2, c3, c4, c5, c6⟩ := x1.seven?
    go_wp2_with fail
    refine (C3.out w1 _ _ L0 own1 (Bstep bA b1') hs0 b1s (by omega)).mono ?_
    rintro e w3 ⟨v3, rfl, own3, b3⟩
    have b3' : Below wb.heap.size wb w3 := b1'.trans (b3.mono (by have := HL.out; omega))
    go_wp2_with fail
    go_ret
    have own3' : Own w3 L0 v3 R := by rw [← HR.out, HH.out, HQ.out]; exact own3
    exact ⟨_, rfl, own3'.base hs0, Bstep bA b3'⟩
  | true =>
    have hh : (headO ⟨off, true, time, key, val, hk, miss⟩).length = 4 := headO_len _
    have HH : Hid (headO ⟨off, true, time, key, val, hk, miss⟩ = [1] ++ sfx 3 time) := Lib.hid rfl
    rw [HH.out] at hh
    have b9 := Bstep b0 (alloc_below' w0 (.cells #[.int .i64 1] 3))
    have o9 := own_lit1 w0 L0 1 b0s
    have b9s : L0 ≤ (w0.alloc (.cells #[.int .i64 1] 3)).heap.size := by have := b9.size; have := HL.out; omega
    have x9 := x0.belowS (alloc_below' w0 (.cells #[.int .i64 1] 3))
    have C4 := Lib.hid (impl_withInt _ [1] time 3 L0 _ o9 b9s (by simp) (by omega) (by omega) t0 (by omega))
    obtain ⟨H, hH⟩ : ∃ H, [1] ++ sfx 3 time = H := ⟨_, rfl⟩
    rw [hH] at C4 hh HH
    obtain ⟨f0, f1, f2, f3, f4, f5, f6⟩ := x9.seven?
    have hh4 : H.length ≤ 4 := by omega
    clear hH hh
    go_wp2_with fail
    refine C4.out.mono ?_
    rintro e w2 ⟨v2, rfl, own2, b2⟩
    have B2 : Below wb.heap.size wb w2 := b9.trans (b2.mono (by have := HL.out; omega))
    have B2s : L0 ≤ w2.heap.size := by have := B2.size; have := HL.out; omega
    have x2 := xA.belowS B2
    clear c0 c1 c2 c3 c4 c5 c6 f0 f1 f2 f3 f4 f5 f6
    obtain ⟨c0, c1, c2, c3, c4, c5, c6⟩ := x2.seven?
    obtain ⟨ah, ch, rfl⟩ := AppRes.lenOf own2
    go_wp2_with fail
    refine (C2.out w2 _ H L0 own2 (Bstep bA B2) hs0 B2s (by omega)).mono ?_
    rintro e w1 ⟨v1, rfl, own1, b1⟩
    have b1' : Below wb.heap.size wb w1 := B2.trans (b1.mono (by have := HL.out; omega))
    obtain ⟨Q, hQ⟩ : ∃ Q, H ++ P1 = Q := ⟨_, rfl⟩
    have hql : Q.length ≤ 100 := by rw [← hQ, List.length_append]; omega
    rw [hQ] at own1
    have HQ := Lib.hid hQ
    clear hQ
    have x1 := xA.belowS b1'
    have b1s : L0 ≤ w1.heap.size := by have := b1'.size; have := HL.out; omega
    obtain ⟨a1, k1, rfl⟩ := AppRes.lenOf own1
    clear c0 c1 c2 c3 c4 c5 c6
    obtain ⟨c0, c1, c2, c3, c4, c5, c6⟩ := x1.seven?
    go_wp2_with fail
    refine (C3.out w1 _ _ L0 own1 (Bstep bA b1') hs0 b1s (by omega)).mono ?_
    rintro e w3 ⟨v3, rfl, own3, b3⟩
    have b3' : Below wb.heap.size wb w3 := b1'.trans (b3.mono (by have := HL.out; omega))
    go_wp2_with fail
    go_ret
    have own3' : Own w3 L0 v3 R := by rw [← HR.out, HH.out, HQ.out]; exact own3
    exact ⟨_, rfl, own3'.base hs0, Bstep bA b3'⟩
-- W11f

set_option maxHeartbeats 2000000 in
theorem impl_OldBytes (v : Value) (m : Mes) (w : World) (h : MesV w v m) (l1 : m.key.length ≤ 1000000000) (l2 : m.val.length ≤ 1000000000) : Calls Try.prog 13 #[v] w (NewInts w (mBi m) (mOk m)) := by
  have hm := h
  obtain ⟨off, timed, time, key, val, hk, miss⟩ := m
  obtain ⟨kv, vv, rfl, ik, iv⟩ := h
  simp only at ik iv
  obtain ⟨ak, ck, rfl, _, _, _⟩ := id ik
  obtain ⟨av, cv, rfl, _, _, _⟩ := id iv
  have bA := alloc_below' w (.cells #[.int .i64 off, .bool timed, .int .i64 time, .slice ak key.length ck, .slice av val.length cv, .bool hk, .bool miss] 25)
  have xA := Blk.made w #[.int .i64 off, .bool timed, .int .i64 time, .slice ak key.length ck, .slice av val.length cv, .bool hk, .bool miss] 25
  have C1 := Lib.hid (impl_OldValid _ ⟨off, timed, time, key, val, hk, miss⟩ _ (hm.below bA) l1 l2)
  have HBi : Hid (mOk ⟨off, timed, time, key, val, hk, miss⟩ = true → mBi ⟨off, timed, time, key, val, hk, miss⟩ = sfx 3 off ++ sfx 2 (sumB (restO ⟨off, timed, time, key, val, hk, miss⟩)) ++ restO ⟨off, timed, time, key, val, hk, miss⟩) := Lib.hid fun h => if_pos h
  have HNo : Hid (mOk ⟨off, timed, time, key, val, hk, miss⟩ = false → mBi ⟨off, timed, time, key, val, hk, miss⟩ = []) := Lib.hid fun h => if_neg (by rw [h]; simp)
  have HOK : Hid (mOk ⟨off, timed, time, key, val, hk, miss⟩ = true → okBs (restO ⟨off, timed, time, key, val, hk, miss⟩) = true ∧ (restO ⟨off, timed, time, key, val, hk, miss⟩).length ≤ 40 ∧ 0 ≤ off ∧ off ≤ 99999) := Lib.hid fun h => by
    have h1 := restO_len h
    obtain ⟨⟨o1, _, p1, p2⟩, _⟩ := mOk_iff.1 h
    have q1 := (partOk_iff.1 p1).2.2
    have q2 := (partOk_iff.1 p2).2.2
    simp only at q1 q2 o1
    refine ⟨restO_ok h, ?_, o1⟩
    simp only at h1
    split at h1 <;> omega
  have HC : Hid (mOk ⟨off, timed, time, key, val, hk, miss⟩ = true → ∀ W, Below w.heap.size w W → Calls Try.prog 35 #[.agg #[.int .i64 off, .bool timed, .int .i64 time, .slice ak key.length ck, .slice av val.length cv, .bool hk, .bool miss]] W (NewInts1 W (restO ⟨off, timed, time, key, val, hk, miss⟩))) := Lib.hid fun h W hW => impl_summedBytes _ _ W (hm.below hW) h
  obtain ⟨ok, hok⟩ : ∃ ok, mOk ⟨off, timed, time, key, val, hk, miss⟩ = ok := ⟨_, rfl⟩
  obtain ⟨R, hR⟩ : ∃ R, restO ⟨off, timed, time, key, val, hk, miss⟩ = R := ⟨_, rfl⟩
  obtain ⟨X, hX⟩ : ∃ X, mBi ⟨off, timed, time, key, val, hk, miss⟩ = X := ⟨_, rfl⟩
  rw [hok] at C1 HBi HNo HOK HC
  rw [hR] at HBi HOK HC
  rw [hX] at HBi HNo
  rw [hok, hX]
  clear hok hR hX hm
  cases ok with
  | false =>
    obtain rfl := HNo.out rfl
    go_enter Try.func13, Try.ntmps13
    go_wp2_with fail
    refine C1.out.mono ?_
    rintro e w1 ⟨rfl, b1⟩
    go_wp2_with fail
    go_ret2
    exact ⟨_, rfl, own_nilI _ _, Bstep bA b1⟩
  | true =>
    obtain ⟨hRok, hRl, o0, o1⟩ := HOK.out rfl
    have HX := Lib.hid (HBi.out rfl)
    have CS := Lib.hid (HC.out rfl)
    have hs := sumB_bound R
    have CM : Hid (∀ W v, Ints W v R → Calls Try.prog 37 #[v] W fun e w' => e = .returned (.int .i64 (sumB R)) ∧ W = w') := Lib.hid fun W v hv => by have := impl_SumOf v R W hv; rwa [sumV_yes hRok] at this
    obtain ⟨S, hS⟩ : ∃ S, sumB R = S := ⟨_, rfl⟩
    rw [hS] at CM HX hs
    clear hS HBi HNo HOK HC
    go_enter Try.func13, Try.ntmps13
    go_wp2_with fail
    generalize hwb : w.alloc (.cells #[.int .i64 off, .bool timed, .int .i64 time, .slice ak key.length ck, .slice av val.length cv, .bool hk, .bool miss] 25) = wb at bA xA C1 ⊢
    clear hwb
    obtain ⟨A, hA⟩ : ∃ A, w.heap.size = A := ⟨_, rfl⟩
    rw [hA] at xA ⊢
    have HA := Lib.hid hA
    clear hA
    refine C1.out.mono ?_
    rintro e w1 ⟨rfl, b1⟩
    have B1 := Bstep bA b1
    have x1 := xA.belowS b1
    obtain ⟨c0, c1, c2, c3, c4, c5, c6⟩ := x1.seven?
    clear xA b1 C1
    go_wp2_with fail
    refine (CS.out w1 B1).mono ?_
    rintro e w2 ⟨u1, rfl, own1, b2⟩
    have B2 := Bstep B1 b2
    have x2 := x1.belowS b2
    clear c0 c1 c2 c3 c4 c5 c6 x1
    obtain ⟨c0, c1, c2, c3, c4, c5, c6⟩ := x2.seven?
    obtain ⟨a1, k1, rfl⟩ := AppRes.lenOf own1
    have i1 := own1.ints
    have t1 := own1.lt2
    have C3 := Lib.hid (impl_withInt (.slice none 0 0) [] off 3 w2.heap.size w2 (own_nilI _ _) (Nat.le_refl _) (by simp) (by omega) (by omega) o0 (by omega))
    rw [List.nil_append] at C3
    have f3 := sfx_len 3 off
    obtain ⟨F, hF⟩ : ∃ F, sfx 3 off = F := ⟨_, rfl⟩
    rw [hF] at C3 HX f3
    have fl : F.length ≤ 3 := by omega
    clear hF f3 own1
    go_wp2_with fail
    refine C3.out.mono ?_
    rintro e w3 ⟨u2, rfl, own2, b3⟩
    obtain ⟨a2, k2, rfl⟩ := AppRes.lenOf own2
    have hs23 : w2.heap.size ≤ w3.heap.size := b3.size
    have i13 := i1.below b3
    clear c0 c1 c2 c3 c4 c5 c6
    go_wp2_with fail
    refine (CM.out w3 _ i13).mono ?_
    rintro e w3' ⟨rfl, rfl⟩
    have C4 := Lib.hid (impl_withInt _ F S 2 w2.heap.size w3 own2 hs23 (by omega) (by omega) (by omega) hs.1 (by omega))
    have f2 := sfx_len 2 S
    obtain ⟨T, hT⟩ : ∃ T, sfx 2 S = T := ⟨_, rfl⟩
    rw [hT] at C4 HX f2
    have tl : T.length ≤ 2 := by omega
    clear hT f2
    go_wp2_with fail
    refine C4.out.mono ?_
    rintro e w4 ⟨u4, rfl, own4, b4⟩
    have B24 : Below w2.heap.size w2 w4 := b3.trans b4
    have hs24 : w2.heap.size ≤ w4.heap.size := B24.size
    have i14 := i1.below B24
    obtain ⟨G, hG⟩ : ∃ G, F ++ T = G := ⟨_, rfl⟩
    have gl : G.length + R.length < 10000000000 := by rw [← hG, List.length_append]; omega
    rw [hG] at own4 HX
    obtain ⟨a4, k4, rfl⟩ := AppRes.lenOf own4
    clear hG
    go_wp2_with (at_builtin; refine wp_appI rfl (.tmp 18) (.tmp 19) rfl w2.heap.size _ _ G R rfl rfl own4 i14 gl hs24 ?_; intro v5 w5 own5 g5)
    go_ret2
    rw [← HX.out] at own5
    have hw2 : w.heap.size ≤ w2.heap.size := B2.size
    exact ⟨_, rfl, own5.base hw2, B2.trans ((B24.grown g5 hs24 own4.lt).mono hw2)⟩
theorem spec_l11Part (has : Bool) (v : Value) (xs : List Int) (w : World) (h : Ints w v xs) (hl : xs.length ≤ 1000) : Calls Try.prog 55 #[.bool has, v] w (NewInts1 w (partO has xs)) := by
  obtain ⟨a, cap, rfl, _, hm, _⟩ := id h
  unfold maxLen at hm
  cases has with
  | false =>
    rw [show partO false xs = [255] from rfl]
    have o := own_lit1 w w.heap.size 255 (Nat.le_refl _)
    go_enter Try.func55, Try.ntmps55
    go_wp2_with fail
    go_ret
    exact ⟨_, rfl, o, alloc_below' _ _⟩
  | true =>
    rw [show partO true xs = [(xs.length : Int)] ++ xs from rfl]
    have o := own_lit1 w w.heap.size (xs.length : Int) (Nat.le_refl _)
    have b := alloc_below' w (.cells #[.int .i64 (xs.length : Int)] 3)
    have i := h.below b
    have hs : w.heap.size ≤ (w.alloc (.cells #[.int .i64 (xs.length : Int)] 3)).heap.size := b.size
    have hl1 : [(xs.length : Int)].length + xs.length < 10000000000 := by simp; omega
    have HI : Hid (Ints (w.alloc (.cells #[.int .i64 (xs.length : Int)] 3)) (.slice a xs.length cap) xs) := Lib.hid i
    go_enter Try.func55, Try.ntmps55
    go_wp2_with (at_builtin; refine wp_appI rfl (.tmp 10) (.tmp 11) rfl w.heap.size (.slice (some ⟨w.heap.size, 0, none⟩) 1 1) (.slice a xs.length cap) [(xs.length : Int)] xs rfl rfl o HI.out hl1 hs ?_; intro v2 w2 own2 g2)
    go_ret
    exact ⟨_, rfl, own2, b.grown g2 b.size o.lt⟩
set_option maxHeartbeats 4000000 in
theorem spec_l11Bytes (v : Value) (m : Mes) (w : World) (h : MesV w v m) (hok : mOk m = true) : Calls Try.prog 38 #[v] w (NewInts1 w (mBytes m)) := by
  have hRok := restO_ok hok
  obtain ⟨⟨⟨o0, o1⟩, ⟨t0, t1⟩, p1, p2⟩, _⟩ := mOk_iff.1 hok
  have k12 := (partOk_iff.1 p1).2.2
  have v12 := (partOk_iff.1 p2).2.2
  have hlk := partO_len p1
  have hlv := partO_len p2
  have hm := h
  obtain ⟨off, timed, time, key, val, hk, miss⟩ := m
  obtain ⟨kv, vv, rfl, ik, iv⟩ := h
  simp only at ik iv o0 o1 t0 t1 k12 v12 hlk hlv
  obtain ⟨ak, ck, rfl, _, _, _⟩ := id ik
  obtain ⟨av, cv, rfl, _, _, _⟩ := id iv
  have bA := alloc_below' w (.cells #[.int .i64 off, .bool timed, .int .i64 time, .slice ak key.length ck, .slice av val.length cv, .bool hk, .bool miss] 25)
  have xA := Blk.made w #[.int .i64 off, .bool timed, .int .i64 time, .slice ak key.length ck, .slice av val.length cv, .bool hk, .bool miss] 25
  have C2 : Hid (∀ W, Below w.heap.size w W → Calls Try.prog 55 #[.bool hk, .slice ak key.length ck] W (NewInts1 W (partO hk key))) := Lib.hid fun W hW => spec_l11Part hk _ key W (ik.below hW) (by omega)
  have C3 : Hid (∀ W, Below w.heap.size w W → Calls Try.prog 55 #[.bool (!miss), .slice av val.length cv] W (NewInts1 W (partO (!miss) val))) := Lib.hid fun W hW => spec_l11Part (!miss) _ val W (iv.below hW) (by omega)
  have hR : headO ⟨off, timed, time, key, val, hk, miss⟩ ++ partO hk key ++ partO (!miss) val = restO ⟨off, timed, time, key, val, hk, miss⟩ := rfl
  have hB : mBytes ⟨off, timed, time, key, val, hk, miss⟩ = sfx 3 off ++ sfx 2 (sumB (restO ⟨off, timed, time, key, val, hk, miss⟩)) ++ restO ⟨off, timed, time, key, val, hk, miss⟩ := rfl
  obtain ⟨P1, hP1⟩ : ∃ P1, partO hk key = P1 := ⟨_, rfl⟩
  obtain ⟨P2, hP2⟩ : ∃ P2, partO (!miss) val = P2 := ⟨_, rfl⟩
  rw [hP1] at C2 hlk hR
  rw [hP2] at C3 hlv hR
  obtain ⟨R, hR'⟩ : ∃ R, restO ⟨off, timed, time, key, val, hk, miss⟩ = R := ⟨_, rfl⟩
  rw [hR'] at hR hB hRok
  obtain ⟨X, hX⟩ : ∃ X, mBytes ⟨off, timed, time, key, val, hk, miss⟩ = X := ⟨_, rfl⟩
  rw [hX] at hB ⊢
  have hs := sumB_bound R
  have CM : Hid (∀ W v, Ints W v R → Calls Try.prog 56 #[v] W fun e w' => e = .returned (.int .i64 (sumB R)) ∧ W = w') := Lib.hid fun W v hv => spec_l2Sum v R W hv hRok
  obtain ⟨S, hS⟩ : ∃ S, sumB R = S := ⟨_, rfl⟩
  rw [hS] at CM hB hs
  have HR := Lib.hid hR
  have HB := Lib.hid hB
  have lk1 : P1.length ≤ 13 := by omega
  have lv1 : P2.length ≤ 13 := by omega
  clear hP1 hP2 hR' hX hR hB hS hlk hlv p1 p2 hok hm
  go_enter Try.func38, Try.ntmps38
  go_upto_region 1 with (fail)
  generalize hwb : w.alloc (.cells #[.int .i64 off, .bool timed, .int .i64 time, .slice ak key.length ck, .slice av val.length cv, .bool hk, .bool miss] 25) = wb at bA xA ⊢
  clear hwb
  obtain ⟨A, hA⟩ : ∃ A, w.heap.size = A := ⟨_, rfl⟩
  rw [hA] at xA ⊢
  have HA := Lib.hid hA
  clear hA
  have b0 := alloc_below' wb (.cells #[.int .i64 0] 3)
  have o00 := own_lit1 wb wb.heap.size 0 (Nat.le_refl _)
  have x0 := xA.belowS b0
  obtain ⟨c0, c1, c2, c3, c4, c5, c6⟩ := x0.seven?
  go_upto_region 2 with (fail)
  obtain ⟨L0, hL0⟩ : ∃ L0, wb.heap.size = L0 := ⟨_, rfl⟩
  have hs0 : w.heap.size ≤ L0 := by rw [← hL0]; exact bA.size
  have hAL : A < L0 := by rw [← hL0]; exact xA.lt
  rw [hL0] at o00 ⊢
  generalize hw0 : wb.alloc (.cells #[.int .i64 0] 3) = w0 at b0 o00 x0 c0 c1 c2 c3 c4 c5 c6 ⊢
  have B0 : Below L0 wb w0 := by rw [← hL0]; exact b0
  have bA' : ∀ W, Below L0 wb W → Below w.heap.size w W := fun W h => bA.trans (h.mono hs0)
  have HBA := Lib.hid bA'
  have HXA : Hid (∀ W, Below L0 wb W → Seven W A (.int .i64 off) (.bool timed) (.int .i64 time) (.slice ak key.length ck) (.slice av val.length cv) (.bool hk) (.bool miss)) := Lib.hid fun W h => (xA.below hAL h).seven?
  have hLw : ∀ W, Below L0 wb W → L0 ≤ W.heap.size := fun W h => by have := h.size; omega
  have HLw := Lib.hid hLw
  clear hw0 hL0 b0 bA' hLw bA xA x0
  cases timed with
  | false =>
    have HH : Hid (headO ⟨off, false, time, key, val, hk, miss⟩ = [0]) := Lib.hid rfl
    have hh4 : ([0] : List Int).length ≤ 4 := by simp
    obtain ⟨H, hH⟩ : ∃ H, ([0] : List Int) = H := ⟨_, rfl⟩
    rw [hH] at o00 hh4 HH
    clear hH
    go_upto_region 4 with (fail)
    have ownH := o00
    have BH := B0
    have lH := HLw.out w0 B0
    obtain ⟨ah, ch, hvh⟩ : ∃ a c, Value.slice (some ⟨L0, 0, none⟩) 1 1 = .slice a 1 c := ⟨_, _, rfl⟩
    clear hvh
    obtain ⟨d0, d1, d2, d3, d4, d5, d6⟩ := HXA.out _ BH
    clear c0 c1 c2 c3 c4 c5 c6
    go_wp2_with fail
    refine (C2.out _ (HBA.out _ BH)).mono ?_
    rintro e w4 ⟨v4, rfl, own4, b4⟩
    have B4 : Below L0 wb w4 := BH.trans (b4.mono lH)
    have l4 := HLw.out w4 B4
    have oH4 := ownH.below b4
    have i4 := own4.ints
    obtain ⟨a4, k4, rfl⟩ := AppRes.lenOf own4
    have hl4 : H.length + P1.length < 10000000000 := by omega
    obtain ⟨Q, hQ⟩ : ∃ Q, H ++ P1 = Q := ⟨_, rfl⟩
    have ql : Q.length ≤ 20 := by rw [← hQ, List.length_append]; omega
    have HQ := Lib.hid hQ
    clear d0 d1 d2 d3 d4 d5 d6 hQ ownH own4
    go_upto_region 5 with (at_builtin; refine wp_appI rfl (.tmp 13) (.tmp 18) rfl L0 _ _ H P1 rfl rfl oH4 i4 hl4 l4 ?_; intro v5 w5 own5 g5)
    rw [HQ.out] at own5
    have B5 : Below L0 wb w5 := B4.grown g5 (by have := B4.size; omega) oH4.lt
    have l5 := HLw.out w5 B5
    obtain ⟨a5, k5, rfl⟩ := AppRes.lenOf own5
    obtain ⟨d0, d1, d2, d3, d4, d5, d6⟩ := HXA.out _ B5
    clear oH4 i4 g5 B4 BH b4
    go_wp2_with fail
    refine (C3.out _ (HBA.out _ B5)).mono ?_
    rintro e w6 ⟨v6, rfl, own6, b6⟩
    have B6 : Below L0 wb w6 := B5.trans (b6.mono l5)
    have l6 := HLw.out w6 B6
    have o56 := own5.below b6
    have i6 := own6.ints
    obtain ⟨a6, k6, rfl⟩ := AppRes.lenOf own6
    have hl6 : Q.length + P2.length < 10000000000 := by omega
    have HR2 : Hid (Q ++ P2 = R) := Lib.hid (by rw [← HQ.out, ← HH.out]; exact HR.out)
    clear d0 d1 d2 d3 d4 d5 d6 own5 own6
    go_upto_region 6 with (at_builtin; refine wp_appI rfl (.tmp 20) (.tmp 26) rfl L0 _ _ Q P2 rfl rfl o56 i6 hl6 l6 ?_; intro v7 w7 own7 g7)
    have hl7 : (Q ++ P2).length ≤ 40 := by rw [List.length_append]; omega
    rw [HR2.out] at own7 hl7
    have B7 : Below L0 wb w7 := B6.grown g7 (by have := B6.size; omega) o56.lt
    have l7 := HLw.out w7 B7
    obtain ⟨a7, k7, rfl⟩ := AppRes.lenOf own7
    obtain ⟨d0, d1, d2, d3, d4, d5, d6⟩ := HXA.out _ B7
    clear o56 i6 g7 B6 b6 B5
    have C5 := Lib.hid (spec_l2Int off 3 w7 (by omega) (by omega) o0 (by omega))
    have f5 := sfx_len 3 off
    obtain ⟨F, hF⟩ : ∃ F, sfx 3 off = F := ⟨_, rfl⟩
    rw [hF] at C5 HB f5
    have fl : F.length ≤ 3 := by omega
    clear hF f5
    go_wp2_with fail
    refine C5.out.mono ?_
    rintro e w8 ⟨v8, rfl, own8, b8⟩
    have i78 := own7.ints.below b8
    have t7 := own7.lt2
    obtain ⟨a8, k8, rfl⟩ := AppRes.lenOf own8
    clear d0 d1 d2 d3 d4 d5 d6
    go_wp2_with fail
    refine (CM.out w8 _ i78).mono ?_
    rintro e w8' ⟨rfl, rfl⟩
    have C6 := Lib.hid (spec_l2Int S 2 w8 (by omega) (by omega) hs.1 (by omega))
    have f6 := sfx_len 2 S
    obtain ⟨T, hT⟩ : ∃ T, sfx 2 S = T := ⟨_, rfl⟩
    rw [hT] at C6 HB f6
    have tl : T.length ≤ 2 := by omega
    clear hT f6
    go_wp2_with fail
    refine C6.out.mono ?_
    rintro e w9 ⟨v9, rfl, own9, b9'⟩
    have b79 := Bstep b8 b9'
    have hs79 : w7.heap.size ≤ w9.heap.size := b79.size
    have o89 := own8.below b9'
    have i9 := own9.ints
    obtain ⟨a9, k9, rfl⟩ := AppRes.lenOf own9
    have hl9 : F.length + T.length < 10000000000 := by omega
    obtain ⟨G, hG⟩ : ∃ G, F ++ T = G := ⟨_, rfl⟩
    have gl : G.length + R.length < 10000000000 := by rw [← hG, List.length_append]; omega
    rw [hG] at HB
    have HG := Lib.hid hG
    clear hG own9
    go_upto_region 7 with (at_builtin; refine wp_appI rfl (.tmp 30) (.tmp 33) rfl w7.heap.size _ _ F T rfl rfl o89 i9 hl9 hs79 ?_; intro v10 w10 own10 g10)
    rw [HG.out] at own10
    have b710 : Below w7.heap.size w7 w10 := b79.grown g10 hs79 o89.lt
    have hs710 : w7.heap.size ≤ w10.heap.size := b710.size
    have i710 := own7.ints.below b710
    obtain ⟨a10, k10, rfl⟩ := AppRes.lenOf own10
    go_wp2_with (at_builtin; refine wp_appI rfl (.tmp 35) (.tmp 36) rfl w7.heap.size _ _ G R rfl rfl own10 i710 gl hs710 ?_; intro v11 w11 own11 g11)
    go_ret
    rw [← HB.out] at own11
    have hw7 : w.heap.size ≤ w7.heap.size := Nat.le_trans hs0 l7
    exact ⟨_, rfl, own11.base hw7, (HBA.out _ B7).trans ((b710.grown g11 hs710 own10.lt).mono hw7)⟩
  | true =>
    have HH : Hid (headO ⟨off, true, time, key, val, hk, miss⟩ = [1] ++ sfx 3 time) := Lib.hid rfl
    have hh : (headO ⟨off, true, time, key, val, hk, miss⟩).length = 4 := headO_len _
    rw [HH.out] at hh
    have f3 := sfx_len 3 time
    have b9 := alloc_below' w0 (.cells #[.int .i64 1] 3)
    have o9 := own_lit1 w0 L0 1 (HLw.out w0 B0)
    have B9 : Below L0 wb (w0.alloc (.cells #[.int .i64 1] 3)) := B0.trans (b9.mono (HLw.out w0 B0))
    have l9 := HLw.out _ B9
    have C4 := Lib.hid (spec_l2Int time 3 (w0.alloc (.cells #[.int .i64 1] 3)) (by omega) (by omega) t0 (by omega))
    obtain ⟨F3, hF3⟩ : ∃ F3, sfx 3 time = F3 := ⟨_, rfl⟩
    rw [hF3] at C4 hh HH f3
    have fl3 : F3.length ≤ 3 := by omega
    clear hF3 f3
    obtain ⟨f0, f1, f2, f3', f4, f5, f6⟩ := HXA.out _ B9
    go_wp2_with fail
    refine C4.out.mono ?_
    rintro e w2 ⟨v2, rfl, own2, b2⟩
    have B2 : Below L0 wb w2 := B9.trans (b2.mono l9)
    have l2 := HLw.out w2 B2
    have o92 := o9.below b2
    have i2 := own2.ints
    have hl92 : ([1] : List Int).length + F3.length < 10000000000 := by simp; omega
    obtain ⟨H, hH⟩ : ∃ H, [1] ++ F3 = H := ⟨_, rfl⟩
    rw [hH] at HH hh
    have hh4 : H.length ≤ 4 := by omega
    have HH1 := Lib.hid hH
    clear f0 f1 f2 f3' f4 f5 f6 hh hH
    obtain ⟨a2, k2, rfl⟩ := AppRes.lenOf own2
    go_upto_region 4 with (at_builtin; refine wp_appI rfl (.tmp 8) (.tmp 11) rfl L0 _ _ [1] F3 rfl rfl o92 i2 hl92 l2 ?_; intro v3 w3 own3 g3)
    rw [HH1.out] at own3
    have ownH := own3
    have BH : Below L0 wb w3 := B2.grown g3 (by have := B2.size; have := HLw.out w2 B2; omega) o92.lt
    have lH := HLw.out w3 BH
    obtain ⟨ah, ch, rfl⟩ := AppRes.lenOf own3
    clear own3 g3
    obtain ⟨d0, d1, d2, d3, d4, d5, d6⟩ := HXA.out _ BH
    clear c0 c1 c2 c3 c4 c5 c6
    go_wp2_with fail
    refine (C2.out _ (HBA.out _ BH)).mono ?_
    rintro e w4 ⟨v4, rfl, own4, b4⟩
    have B4 : Below L0 wb w4 := BH.trans (b4.mono lH)
    have l4 := HLw.out w4 B4
    have oH4 := ownH.below b4
    have i4 := own4.ints
    obtain ⟨a4, k4, rfl⟩ := AppRes.lenOf own4
    have hl4 : H.length + P1.length < 10000000000 := by omega
    obtain ⟨Q, hQ⟩ : ∃ Q, H ++ P1 = Q := ⟨_, rfl⟩
    have ql : Q.length ≤ 20 := by rw [← hQ, List.length_append]; omega
    have HQ := Lib.hid hQ
    clear d0 d1 d2 d3 d4 d5 d6 hQ ownH own4
    go_upto_region 5 with (at_builtin; refine wp_appI rfl (.tmp 13) (.tmp 18) rfl L0 _ _ H P1 rfl rfl oH4 i4 hl4 l4 ?_; intro v5 w5 own5 g5)
    rw [HQ.out] at own5
    have B5 : Below L0 wb w5 := B4.grown g5 (by have := B4.size; omega) oH4.lt
    have l5 := HLw.out w5 B5
    obtain ⟨a5, k5, rfl⟩ := AppRes.lenOf own5
    obtain ⟨d0, d1, d2, d3, d4, d5, d6⟩ := HXA.out _ B5
    clear oH4 i4 g5 B4 BH b4
    go_wp2_with fail
    refine (C3.out _ (HBA.out _ B5)).mono ?_
    rintro e w6 ⟨v6, rfl, own6, b6⟩
    have B6 : Below L0 wb w6 := B5.trans (b6.mono l5)
    have l6 := HLw.out w6 B6
    have o56 := own5.below b6
    have i6 := own6.ints
    obtain ⟨a6, k6, rfl⟩ := AppRes.lenOf own6
    have hl6 : Q.length + P2.length < 10000000000 := by omega
    have HR2 : Hid (Q ++ P2 = R) := Lib.hid (by rw [← HQ.out, ← HH.out]; exact HR.out)
    clear d0 d1 d2 d3 d4 d5 d6 own5 own6
    go_upto_region 6 with (at_builtin; refine wp_appI rfl (.tmp 20) (.tmp 26) rfl L0 _ _ Q P2 rfl rfl o56 i6 hl6 l6 ?_; intro v7 w7 own7 g7)
    have hl7 : (Q ++ P2).length ≤ 40 := by rw [List.length_append]; omega
    rw [HR2.out] at own7 hl7
    have B7 : Below L0 wb w7 := B6.grown g7 (by have := B6.size; omega) o56.lt
    have l7 := HLw.out w7 B7
    obtain ⟨a7, k7, rfl⟩ := AppRes.lenOf own7
    obtain ⟨d0, d1, d2, d3, d4, d5, d6⟩ := HXA.out _ B7
    clear o56 i6 g7 B6 b6 B5
    have C5 := Lib.hid (spec_l2Int off 3 w7 (by omega) (by omega) o0 (by omega))
    have f5 := sfx_len 3 off
    obtain ⟨F, hF⟩ : ∃ F, sfx 3 off = F := ⟨_, rfl⟩
    rw [hF] at C5 HB f5
    have fl : F.length ≤ 3 := by omega
    clear hF f5
    go_wp2_with fail
    refine C5.out.mono ?_
    rintro e w8 ⟨v8, rfl, own8, b8⟩
    have i78 := own7.ints.below b8
    have t7 := own7.lt2
    obtain ⟨a8, k8, rfl⟩ := AppRes.lenOf own8
    clear d0 d1 d2 d3 d4 d5 d6
    go_wp2_with fail
    refine (CM.out w8 _ i78).mono ?_
    rintro e w8' ⟨rfl, rfl⟩
    have C6 := Lib.hid (spec_l2Int S 2 w8 (by omega) (by omega) hs.1 (by omega))
    have f6 := sfx_len 2 S
    obtain ⟨T, hT⟩ : ∃ T, sfx 2 S = T := ⟨_, rfl⟩
    rw [hT] at C6 HB f6
    have tl : T.length ≤ 2 := by omega
    clear hT f6
    go_wp2_with fail
    refine C6.out.mono ?_
    rintro e w9 ⟨v9, rfl, own9, b9'⟩
    have b79 := Bstep b8 b9'
    have hs79 : w7.heap.size ≤ w9.heap.size := b79.size
    have o89 := own8.below b9'
    have i9 := own9.ints
    obtain ⟨a9, k9, rfl⟩ := AppRes.lenOf own9
    have hl9 : F.length + T.length < 10000000000 := by omega
    obtain ⟨G, hG⟩ : ∃ G, F ++ T = G := ⟨_, rfl⟩
    have gl : G.length + R.length < 10000000000 := by rw [← hG, List.length_append]; omega
    rw [hG] at HB
    have HG := Lib.hid hG
    clear hG own9
    go_upto_region 7 with (at_builtin; refine wp_appI rfl (.tmp 30) (.tmp 33) rfl w7.heap.size _ _ F T rfl rfl o89 i9 hl9 hs79 ?_; intro v10 w10 own10 g10)
    rw [HG.out] at own10
    have b710 : Below w7.heap.size w7 w10 := b79.grown g10 hs79 o89.lt
    have hs710 : w7.heap.size ≤ w10.heap.size := b710.size
    have i710 := own7.ints.below b710
    obtain ⟨a10, k10, rfl⟩ := AppRes.lenOf own10
    go_wp2_with (at_builtin; refine wp_appI rfl (.tmp 35) (.tmp 36) rfl w7.heap.size _ _ G R rfl rfl own10 i710 gl hs710 ?_; intro v11 w11 own11 g11)
    go_ret
    rw [← HB.out] at own11
    have hw7 : w.heap.size ≤ w7.heap.size := Nat.le_trans hs0 l7
    exact ⟨_, rfl, own11.base hw7, (HBA.out _ B7).trans ((b710.grown g11 hs710 own10.lt).mono hw7)⟩
-- W11g

theorem reader_integer (B : Nat) (v : Value) (xs : List Int) (k m : Int) (f : Bool) (w : World) (h : Rdr w B v k f) (hv : ∀ W : World, w.grownBy W (some B) → Ints W v xs) (hk : I64 k) (hm : I64 m) :
    Calls Try.prog 57 #[.pointer (some ⟨B, 0, none⟩), .int .i64 m] w (RNumRes w B v (intR xs k f m)) := by
  have C1 := Lib.hid (reader_take B v xs k m f w h (hv w (World.grownBy.refl _ _)) hk hm)
  have HV := Lib.hid hv
  unfold intR
  obtain ⟨⟨ys, k', f'⟩, hg⟩ : ∃ g, takeR xs k f m = g := ⟨_, rfl⟩
  rw [hg] at C1 ⊢
  simp only
  have C2 : Hid (∀ W u, Ints W u ys → Calls Try.prog 66 #[u, .int .i64 0, .int .i64 m] W (GotRes (numF ys 0 m) (okF ys 0 m) W)) := Lib.hid fun W u hu => impl_IntFrom u ys 0 m W hu ⟨by omega, by omega⟩ hm
  obtain ⟨n, hn⟩ : ∃ n, numF ys 0 m = n := ⟨_, rfl⟩
  obtain ⟨b, hb⟩ : ∃ b, okF ys 0 m = b := ⟨_, rfl⟩
  rw [hn, hb] at C2
  rw [hn, hb]
  clear hg hn hb hv h
  cases b with
  | true =>
    rw [show (f' || !true) = f' by simp]
    go_enter Try.func57, Try.ntmps57
    go_wp2_with fail
    refine C1.out.mono ?_
    rintro e w1 ⟨u, rfl, iu, R1, g1⟩
    have iu1 := iu w1 (HV.out w1 g1)
    clear iu
    go_wp2_with fail
    refine (C2.out w1 u iu1).mono ?_
    rintro e w2 ⟨rfl, rfl⟩
    go_wp2_with fail
    go_ret
    exact ⟨rfl, R1, g1⟩
  | false =>
    rw [show (f' || !false) = true by simp]
    go_enter Try.func57, Try.ntmps57
    go_wp2_with fail
    refine C1.out.mono ?_
    rintro e w1 ⟨u, rfl, iu, R1, g1⟩
    have iu1 := iu w1 (HV.out w1 g1)
    clear iu
    go_wp2_with fail
    refine (C2.out w1 u iu1).mono ?_
    rintro e w2 ⟨rfl, rfl⟩
    have R2 : Blk w1 B #[v, .int .i64 k', .bool f'] := R1
    have c0 := R2.cell 0
    have c1 := R2.cell 1
    have c2 : w1.cell? ⟨B, 2, none⟩ = some (.bool f') := R2.cell 2
    have fz := R2.free
    clear c0 c1
    go_wp2_with fail
    go_ret
    exact ⟨rfl, R2.set 2 _, grown_trans g1 (grown_set _ _ _ _)⟩
theorem reader_oldPart (B : Nat) (v : Value) (xs : List Int) (k : Int) (f : Bool) (w : World) (h : Rdr w B v k f) (hv : ∀ W : World, w.grownBy W (some B) → Ints W v xs) (h0 : 0 ≤ k) (h1 : k ≤ xs.length) :
    Calls Try.prog 59 #[.pointer (some ⟨B, 0, none⟩)] w (RPartRes w B v (oPartR xs k f)) := by
  have hlen : (xs.length : Int) ≤ 9223372036854775807 := by
    obtain ⟨a, cap, _, hl, hm, _⟩ := hv w (World.grownBy.refl _ _)
    unfold maxLen at hm
    omega
  have C1 := Lib.hid (reader_integer B v xs k 1 f w h hv ⟨by omega, by omega⟩ ⟨by omega, by omega⟩)
  have hin := intR_in xs k f 1 h0 h1
  have hnum := intR_num xs k f 1
  have HV := Lib.hid hv
  unfold oPartR
  obtain ⟨⟨n, k', f'⟩, hg⟩ : ∃ g, intR xs k f 1 = g := ⟨_, rfl⟩
  rw [hg] at C1 hin hnum ⊢
  simp only at hin hnum ⊢
  have hn255 := hnum.2.2 trivial
  have hn0 := hnum.1
  have C2 : Hid (∀ W : World, w.grownBy W (some B) → Rdr W B v k' f' → Calls Try.prog 58 #[.pointer (some ⟨B, 0, none⟩), .int .i64 n] W (RTakeRes W B v xs (takeR xs k' f' n))) := Lib.hid fun W hW hr => reader_take B v xs k' n f' W hr (HV.out W hW) ⟨by omega, by omega⟩ ⟨by omega, by omega⟩
  have hy0 := takeR_lenO xs k' f' n
  clear hg hv hnum h
  by_cases hn : n = 255
  · have e0 : (n == 255) = true := by rw [beq_iff_eq]; exact hn
    rw [if_pos hn]
    clear hn hy0
    go_enter Try.func59, Try.ntmps59
    go_wp2_with fail
    refine C1.out.mono ?_
    rintro e w1 ⟨rfl, R1, g1⟩
    go_wp2_with fail
    go_ret2
    exact ⟨_, rfl, own_nil _ _, R1, g1⟩
  · have e0 : (n == 255) = false := by rw [beq_eq_false_iff_ne]; exact hn
    rw [if_neg hn]
    clear hn
    obtain ⟨⟨ys, k2, f2⟩, hg2⟩ : ∃ g, takeR xs k' f' n = g := ⟨_, rfl⟩
    rw [hg2] at C2 hy0 ⊢
    simp only at hy0 ⊢
    have hy : ys.length ≤ 1000000 := by omega
    have hyl : ([] : List Int).length + ys.length < 10000000000 := by simp; omega
    clear hy0 hg2
    go_enter Try.func59, Try.ntmps59
    go_wp2_with fail
    refine C1.out.mono ?_
    rintro e w1 ⟨rfl, R1, g1⟩
    go_wp2_with fail
    refine (C2.out w1 g1 R1).mono ?_
    rintro e w2 ⟨u, rfl, iuf, R2, g2⟩
    have G2 := grown_trans g1 g2
    have iu := iuf w2 (HV.out w2 G2)
    clear iuf
    have hsz := G2.size
    have ow0 : Own w2 w.heap.size (.slice none 0 0) [] := own_nil _ _
    go_wp2_with (at_builtin; refine wp_appI rfl _ _ rfl w.heap.size (.slice none 0 0) u [] ys rfl rfl ow0 iu hyl hsz ?_; intro v7 w7 own7 g7)
    go_ret2
    exact ⟨_, rfl, own7, Blk.grown R2 (by simp [Value.ownBlock]) g7, grown_trans G2 (grown_none g7)⟩
/-- a message that was read, whatever it tells -/
def ROldRes (w : World) (B : Nat) (xs : List Int) (e : Ending) (w' : World) : Prop := ∃ v, e = .returned v ∧ MesOwn w' w.heap.size v (tellI xs) ∧ w.grownBy w' (some B)
set_option maxHeartbeats 8000000 in
theorem reader_old (B : Nat) (v : Value) (xs : List Int) (w : World) (h : Rdr w B v 0 false) (hv : ∀ W : World, w.grownBy W (some B) → Ints W v xs) :
    Calls Try.prog 39 #[.pointer (some ⟨B, 0, none⟩)] w (ROldRes w B xs) := by
  have HV := Lib.hid hv
  have hlen : (xs.length : Int) ≤ 9223372036854775807 := by
    obtain ⟨a, cap, _, hl, hm, _⟩ := hv w (World.grownBy.refl _ _)
    unfold maxLen at hm
    omega
  have hB := Blk.lt h
  have bz := alloc_below' w (.cells #[.int .i64 0, .bool false, .int .i64 0, .slice none 0 0, .slice none 0 0, .bool false, .bool false] 25)
  have xZ := Blk.made w #[.int .i64 0, .bool false, .int .i64 0, .slice none 0 0, .slice none 0 0, .bool false, .bool false] 25
  have gz := grown_of_below (row := some B) bz
  have Rz : Rdr _ B v 0 false := Blk.belowS h bz
  clear hv h
  go_enter Try.func39, Try.ntmps39
  go_upto_region 1 with (fail)
  generalize hWz : w.alloc (.cells #[.int .i64 0, .bool false, .int .i64 0, .slice none 0 0, .slice none 0 0, .bool false, .bool false] 25) = wz at bz xZ gz Rz ⊢
  clear hWz
  obtain ⟨Z, hZ⟩ : ∃ Z, w.heap.size = Z := ⟨_, rfl⟩
  rw [hZ] at xZ ⊢
  have hZB : Z ≠ B := by omega
  have hwZ : w.heap.size ≤ Z := by omega
  have HZ := Lib.hid hZ
  clear bz hZ
  obtain ⟨⟨n0, k0, f0⟩, E0⟩ : ∃ g, intR xs 0 false 3 = g := ⟨_, rfl⟩
  have N0 := intR_in xs 0 false 3 (by omega) (by omega)
  have M0 := intR_num xs 0 false 3
  have C0 := Lib.hid (reader_integer B v xs 0 3 false wz Rz (fun W g => HV.out W (grown_trans gz g)) ⟨by omega, by omega⟩ ⟨by omega, by omega⟩)
  rw [E0] at N0 M0 C0
  simp only at N0 M0
  have HE0 := Lib.hid E0
  clear E0
  go_wp2_with fail
  refine C0.out.mono ?_
  rintro e w1 ⟨rfl, R1, g1⟩
  simp only at R1 ⊢
  have z1 := xZ.by hZB g1
  have G1 := grown_trans gz g1
  have hZ1 := z1.lt
  clear xZ gz Rz g1 C0
  have bx := alloc_below' w1 (.cells #[.int .i64 n0, .bool false, .int .i64 0, .slice none 0 0, .slice none 0 0, .bool false, .bool false] 25)
  have xx := Blk.made w1 #[.int .i64 n0, .bool false, .int .i64 0, .slice none 0 0, .slice none 0 0, .bool false, .bool false] 25
  go_upto_region 2 with (fail)
  generalize hWx : w1.alloc (.cells #[.int .i64 n0, .bool false, .int .i64 0, .slice none 0 0, .slice none 0 0, .bool false, .bool false] 25) = wx at bx xx ⊢
  clear hWx
  have Rx : Rdr wx B v k0 f0 := Blk.belowS R1 bx
  have zx := z1.belowS bx
  have Gx := grown_trans G1 (grown_of_below bx)
  obtain ⟨X, hX⟩ : ∃ X, w1.heap.size = X := ⟨_, rfl⟩
  rw [hX] at xx ⊢
  have hs1 := G1.size
  have hZX2 : Z < X := by omega
  have hXB : X ≠ B := by omega
  have hBX : B ≠ X := by omega
  have hBX1 : B < X + 1 := by omega
  have hZX : Z ≠ X := by omega
  have hwX : w.heap.size ≤ X := by omega
  have hwX1 : w.heap.size ≤ X + 1 := by omega
  have HX := Lib.hid hX
  clear R1 z1 G1 bx hX hZ1 hs1
  obtain ⟨⟨ys, k1, f1⟩, E1⟩ : ∃ g, takeR xs k0 f0 2 = g := ⟨_, rfl⟩
  have N1 := takeR_in xs k0 f0 2 N0.1 N0.2
  have C1 := Lib.hid (reader_take B v xs k0 2 f0 wx Rx (HV.out wx Gx) ⟨by omega, by omega⟩ ⟨by omega, by omega⟩)
  rw [E1] at N1 C1
  simp only at N1
  have HE1 := Lib.hid E1
  clear E1
  go_wp2_with fail
  refine C1.out.mono ?_
  rintro e w2 ⟨u2, rfl, _, R2, g2⟩
  simp only at R2
  have x2 := xx.by hXB g2
  have z2 := zx.by hZB g2
  have G2 := grown_trans Gx g2
  clear xx zx Gx Rx g2 C1
  obtain ⟨⟨n2, k2, f2⟩, E2⟩ : ∃ g, intR xs k1 f1 1 = g := ⟨_, rfl⟩
  have N2 := intR_in xs k1 f1 1 N1.1 N1.2
  have C2 := Lib.hid (reader_integer B v xs k1 1 f1 w2 R2 (fun W g => HV.out W (grown_trans G2 g)) ⟨by omega, by omega⟩ ⟨by omega, by omega⟩)
  rw [E2] at N2 C2
  simp only at N2
  have HE2 := Lib.hid E2
  clear E2
  go_wp2_with fail
  refine C2.out.mono ?_
  rintro e w3 ⟨rfl, R3, g3⟩
  simp only at R3 ⊢
  have x3 := x2.by hXB g3
  have z3 := z2.by hZB g3
  have G3 := grown_trans G2 g3
  clear x2 z2 G2 R2 g3 C2
  obtain ⟨d0, d1, d2, d3, d4, d5, d6⟩ := x3.seven?
  have fx := x3.free
  by_cases ht : n2 = 1
  · have e0 : (n2 == 1) = true := by rw [beq_iff_eq]; exact ht
    have HTD : Hid (decide (n2 = 1) = true) := Lib.hid (decide_eq_true ht)
    clear ht
    go_upto_region 4 with (fail)
    have y3 := x3.set 1 (.bool true)
    have gy : w3.grownBy (w3.setCell ⟨X, 1, none⟩ (.bool true)) (some X) := grown_set _ _ _ _
    have zy := z3.by hZX gy
    have Ry : Rdr _ B v k2 f2 := Blk.by R3 hBX gy
    have Gy := grown_new G3 hwX gy
    generalize hWy : w3.setCell ⟨X, 1, none⟩ (.bool true) = wy at y3 zy Ry Gy ⊢
    simp only [List.setIfInBounds_toArray, List.set_cons_zero, List.set_cons_succ] at y3
    clear hWy gy x3 z3 R3 G3 d0 d1 d2 d3 d4 d5 d6 fx
    obtain ⟨⟨n3, k3, f3⟩, E3⟩ : ∃ g, intR xs k2 f2 3 = g := ⟨_, rfl⟩
    have N3 := intR_in xs k2 f2 3 N2.1 N2.2
    have C3 := Lib.hid (reader_integer B v xs k2 3 f2 wy Ry (fun W g => HV.out W (grown_trans Gy g)) ⟨by omega, by omega⟩ ⟨by omega, by omega⟩)
    rw [E3] at N3 C3
    simp only at N3
    have HE3 := Lib.hid E3
    clear E3
    obtain ⟨d0, d1, d2, d3, d4, d5, d6⟩ := y3.seven?
    go_wp2_with fail
    refine C3.out.mono ?_
    rintro e w3b ⟨rfl, R3, g3⟩
    simp only at R3 ⊢
    have x3 := y3.by hXB g3
    have z3 := zy.by hZB g3
    have G3 := grown_trans Gy g3
    clear y3 zy Ry Gy g3 C3 d0 d1 d2 d3 d4 d5 d6
    obtain ⟨d0, d1, d2, d3, d4, d5, d6⟩ := x3.seven?
    have fx := x3.free
    go_upto_region 6 with (fail)
    have x4 := x3.set 2 (.int .i64 n3)
    have g4 : w3b.grownBy (w3b.setCell ⟨X, 2, none⟩ (.int .i64 n3)) (some X) := grown_set _ _ _ _
    have z4 := z3.by hZX g4
    have R4 : Rdr _ B v k3 f3 := Blk.by R3 hBX g4
    have G4 := grown_new G3 hwX g4
    generalize hW4 : w3b.setCell ⟨X, 2, none⟩ (.int .i64 n3) = w4 at x4 z4 R4 G4 ⊢
    simp only [List.setIfInBounds_toArray, List.set_cons_zero, List.set_cons_succ] at x4
    clear hW4 g4 x3 z3 R3 G3 d0 d1 d2 d3 d4 d5 d6 fx
    obtain ⟨⟨h1, ks, k4, f4⟩, E4⟩ : ∃ g, oPartR xs k3 f3 = g := ⟨_, rfl⟩
    have N4 := oPartR_in xs k3 f3 N3.1 N3.2
    rw [E4] at N4
    simp only at N4
    have CP1 := Lib.hid (reader_oldPart B v xs k3 f3 w4 R4 (fun W g => HV.out W (grown_trans G4 g)) N3.1 N3.2)
    rw [E4] at CP1
    have HE4 := Lib.hid E4
    clear E4
    go_wp2_with fail
    refine CP1.out.mono ?_
    rintro e w5 ⟨u5, rfl, own5, R5, g5⟩
    simp only at own5 R5 ⊢
    have G5 := grown_trans G4 g5
    have x5 := x4.by hXB g5
    have z5 := z4.by hZB g5
    have hX4 : X + 1 ≤ w4.heap.size := x4.lt
    obtain ⟨a1, c1, rfl⟩ := AppRes.lenOf own5
    obtain ⟨d0, d1, d2, d3, d4, d5, d6⟩ := x5.seven?
    have fx := x5.free
    go_upto_region 7 with (fail)
    have x6 := (x5.set 5 (.bool h1)).set 3 (.slice a1 ks.length c1)
    have g6 : w5.grownBy ((w5.setCell ⟨X, 5, none⟩ (.bool h1)).setCell ⟨X, 3, none⟩ (.slice a1 ks.length c1)) (some X) := grown_trans (grown_set _ _ _ _) (grown_set _ _ _ _)
    have z6 := z5.by hZX g6
    have R6 : Rdr _ B v k4 f4 := Blk.by R5 hBX g6
    have o56 : Own _ (X + 1) (.slice a1 ks.length c1) ks := (own5.base hX4).by (Nat.lt_succ_self X) g6
    have G6 := grown_new G5 hwX g6
    generalize hW6 : ((w5.setCell ⟨X, 5, none⟩ (.bool h1)).setCell ⟨X, 3, none⟩ (.slice a1 ks.length c1)) = w6 at x6 z6 R6 o56 G6 ⊢
    simp only [List.setIfInBounds_toArray, List.set_cons_zero, List.set_cons_succ] at x6
    clear hW6 g6 x5 z5 R5 own5 g5 G5 d0 d1 d2 d3 d4 d5 d6 fx CP1 x4 z4 R4 G4 hX4
    obtain ⟨⟨h2, vs, k5, f5⟩, E5⟩ : ∃ g, oPartR xs k4 f4 = g := ⟨_, rfl⟩
    have CP2 := Lib.hid (reader_oldPart B v xs k4 f4 w6 R6 (fun W g => HV.out W (grown_trans G6 g)) N4.1 N4.2)
    rw [E5] at CP2
    have HE5 := Lib.hid E5
    clear E5
    go_wp2_with fail
    refine CP2.out.mono ?_
    rintro e w7 ⟨u7, rfl, own7, R7, g7⟩
    simp only at own7 R7 ⊢
    have G7 := grown_trans G6 g7
    have x7 := x6.by hXB g7
    have z7 := z6.by hZB g7
    have o57 := o56.by hBX1 g7
    have apart := o56.apart own7
    have hX6 : X + 1 ≤ w6.heap.size := x6.lt
    obtain ⟨a2, c2, rfl⟩ := AppRes.lenOf own7
    obtain ⟨d0, d1, d2, d3, d4, d5, d6⟩ := x7.seven?
    have fx := x7.free
    go_upto_region 9 with (fail)
    have x8 := (x7.set 6 (.bool (!h2))).set 4 (.slice a2 vs.length c2)
    have g8 : w7.grownBy ((w7.setCell ⟨X, 6, none⟩ (.bool (!h2))).setCell ⟨X, 4, none⟩ (.slice a2 vs.length c2)) (some X) := grown_trans (grown_set _ _ _ _) (grown_set _ _ _ _)
    have z8 := z7.by hZX g8
    have o58 := o57.by (Nat.lt_succ_self X) g8
    have o78 : Own _ (X + 1) (.slice a2 vs.length c2) vs := (own7.base hX6).by (Nat.lt_succ_self X) g8
    have G8 := grown_new G7 hwX g8
    generalize hW8 : ((w7.setCell ⟨X, 6, none⟩ (.bool (!h2))).setCell ⟨X, 4, none⟩ (.slice a2 vs.length c2)) = w8 at x8 z8 o58 o78 G8 ⊢
    simp only [List.setIfInBounds_toArray, List.set_cons_zero, List.set_cons_succ] at x8
    clear hW8 g8 x7 z7 R7 own7 g7 G7 d0 d1 d2 d3 d4 d5 d6 fx CP2 x6 z6 R6 G6 o56 o57 hX6
    obtain ⟨d0, d1, d2, d3, d4, d5, d6⟩ := x8.seven?
    obtain ⟨q0, q1, q2, q3, q4, q5, q6⟩ := z8.seven?
    have fz := z8.free
    go_wp2_with fail
    have box8 := z8.sevenS (.int .i64 n0) (.bool true) (.int .i64 n3) (.slice a1 ks.length c1) (.slice a2 vs.length c2) (.bool h1) (.bool (!h2))
    have gR := seven_grown w8 Z (.int .i64 n0) (.bool true) (.int .i64 n3) (.slice a1 ks.length c1) (.slice a2 vs.length c2) (.bool h1) (.bool (!h2))
    generalize hWR : (((((((w8.setCell ⟨Z, 0, none⟩ (.int .i64 n0)).setCell ⟨Z, 1, none⟩ (.bool true)).setCell ⟨Z, 2, none⟩ (.int .i64 n3)).setCell ⟨Z, 3, none⟩ (.slice a1 ks.length c1)).setCell ⟨Z, 4, none⟩ (.slice a2 vs.length c2)).setCell ⟨Z, 5, none⟩ (.bool h1)).setCell ⟨Z, 6, none⟩ (.bool (!h2))) = WR at box8 gR ⊢
    have r1 := (o58.by (show Z < X + 1 by omega) gR).base hwX1
    have r2 := (o78.by (show Z < X + 1 by omega) gR).base hwX1
    have GR := grown_new G8 hwZ gR
    clear d0 d1 d2 d3 d4 d5 d6 q0 q1 q2 q3 q4 q5 q6 fz hWR
    obtain ⟨d0, d1, d2, d3, d4, d5, d6⟩ := box8.seven?
    have HT : tellI xs = ⟨n0, true, n3, ks, vs, h1, !h2⟩ := by
      unfold tellI
      simp only [HE0.out, HE1.out, HE2.out, HTD.out, if_true, HE3.out, HE4.out, HE5.out]
    refine bodyPost_ret (v := .agg #[.int .i64 n0, .bool true, .int .i64 n3, .slice a1 ks.length c1, .slice a2 vs.length c2, .bool h1, .bool (!h2)]) (by simp [results, Try.results39, go_sem, d0, d1, d2, d3, d4, d5, d6]) rfl ?_
    exact ⟨_, rfl, by rw [HT]; exact ⟨_, _, rfl, r1, r2, apart⟩, GR⟩
  · have e0 : (n2 == 1) = false := by rw [beq_eq_false_iff_ne]; exact ht
    have HTD : Hid (decide (n2 = 1) = false) := Lib.hid (decide_eq_false ht)
    clear ht
    go_upto_region 4 with (fail)
    have x4 := x3.set 1 (.bool false)
    have gy : w3.grownBy (w3.setCell ⟨X, 1, none⟩ (.bool false)) (some X) := grown_set _ _ _ _
    have z4 := z3.by hZX gy
    have R4 : Rdr _ B v k2 f2 := Blk.by R3 hBX gy
    have G4 := grown_new G3 hwX gy
    generalize hWy : w3.setCell ⟨X, 1, none⟩ (.bool false) = w4 at x4 z4 R4 G4 ⊢
    simp only [List.setIfInBounds_toArray, List.set_cons_zero, List.set_cons_succ] at x4
    clear hWy gy x3 z3 R3 G3 d0 d1 d2 d3 d4 d5 d6 fx
    have N3 := N2
    obtain ⟨d0, d1, d2, d3, d4, d5, d6⟩ := x4.seven?
    go_upto_region 6 with (fail)
    clear d0 d1 d2 d3 d4 d5 d6
    obtain ⟨⟨h1, ks, k4, f4⟩, E4⟩ : ∃ g, oPartR xs k2 f2 = g := ⟨_, rfl⟩
    have N4 := oPartR_in xs k2 f2 N3.1 N3.2
    rw [E4] at N4
    simp only at N4
    have CP1 := Lib.hid (reader_oldPart B v xs k2 f2 w4 R4 (fun W g => HV.out W (grown_trans G4 g)) N3.1 N3.2)
    rw [E4] at CP1
    have HE4 := Lib.hid E4
    clear E4
    go_wp2_with fail
    refine CP1.out.mono ?_
    rintro e w5 ⟨u5, rfl, own5, R5, g5⟩
    simp only at own5 R5 ⊢
    have G5 := grown_trans G4 g5
    have x5 := x4.by hXB g5
    have z5 := z4.by hZB g5
    have hX4 : X + 1 ≤ w4.heap.size := x4.lt
    obtain ⟨a1, c1, rfl⟩ := AppRes.lenOf own5
    obtain ⟨d0, d1, d2, d3, d4, d5, d6⟩ := x5.seven?
    have fx := x5.free
    go_upto_region 7 with (fail)
    have x6 := (x5.set 5 (.bool h1)).set 3 (.slice a1 ks.length c1)
    have g6 : w5.grownBy ((w5.setCell ⟨X, 5, none⟩ (.bool h1)).setCell ⟨X, 3, none⟩ (.slice a1 ks.length c1)) (some X) := grown_trans (grown_set _ _ _ _) (grown_set _ _ _ _)
    have z6 := z5.by hZX g6
    have R6 : Rdr _ B v k4 f4 := Blk.by R5 hBX g6
    have o56 : Own _ (X + 1) (.slice a1 ks.length c1) ks := (own5.base hX4).by (Nat.lt_succ_self X) g6
    have G6 := grown_new G5 hwX g6
    generalize hW6 : ((w5.setCell ⟨X, 5, none⟩ (.bool h1)).setCell ⟨X, 3, none⟩ (.slice a1 ks.length c1)) = w6 at x6 z6 R6 o56 G6 ⊢
    simp only [List.setIfInBounds_toArray, List.set_cons_zero, List.set_cons_succ] at x6
    clear hW6 g6 x5 z5 R5 own5 g5 G5 d0 d1 d2 d3 d4 d5 d6 fx CP1 x4 z4 R4 G4 hX4
    obtain ⟨⟨h2, vs, k5, f5⟩, E5⟩ : ∃ g, oPartR xs k4 f4 = g := ⟨_, rfl⟩
    have CP2 := Lib.hid (reader_oldPart B v xs k4 f4 w6 R6 (fun W g => HV.out W (grown_trans G6 g)) N4.1 N4.2)
    rw [E5] at CP2
    have HE5 := Lib.hid E5
    clear E5
    go_wp2_with fail
    refine CP2.out.mono ?_
    rintro e w7 ⟨u7, rfl, own7, R7, g7⟩
    simp only at own7 R7 ⊢
    have G7 := grown_trans G6 g7
    have x7 := x6.by hXB g7
    have z7 := z6.by hZB g7
    have o57 := o56.by hBX1 g7
    have apart := o56.apart own7
    have hX6 : X + 1 ≤ w6.heap.size := x6.lt
    obtain ⟨a2, c2, rfl⟩ := AppRes.lenOf own7
    obtain ⟨d0, d1, d2, d3, d4, d5, d6⟩ := x7.seven?
    have fx := x7.free
    go_upto_region 9 with (fail)
    have x8 := (x7.set 6 (.bool (!h2))).set 4 (.slice a2 vs.length c2)
    have g8 : w7.grownBy ((w7.setCell ⟨X, 6, none⟩ (.bool (!h2))).setCell ⟨X, 4, none⟩ (.slice a2 vs.length c2)) (some X) := grown_trans (grown_set _ _ _ _) (grown_set _ _ _ _)
    have z8 := z7.by hZX g8
    have o58 := o57.by (Nat.lt_succ_self X) g8
    have o78 : Own _ (X + 1) (.slice a2 vs.length c2) vs := (own7.base hX6).by (Nat.lt_succ_self X) g8
    have G8 := grown_new G7 hwX g8
    generalize hW8 : ((w7.setCell ⟨X, 6, none⟩ (.bool (!h2))).setCell ⟨X, 4, none⟩ (.slice a2 vs.length c2)) = w8 at x8 z8 o58 o78 G8 ⊢
    simp only [List.setIfInBounds_toArray, List.set_cons_zero, List.set_cons_succ] at x8
    clear hW8 g8 x7 z7 R7 own7 g7 G7 d0 d1 d2 d3 d4 d5 d6 fx CP2 x6 z6 R6 G6 o56 o57 hX6
    obtain ⟨d0, d1, d2, d3, d4, d5, d6⟩ := x8.seven?
    obtain ⟨q0, q1, q2, q3, q4, q5, q6⟩ := z8.seven?
    have fz := z8.free
    go_wp2_with fail
    have box8 := z8.sevenS (.int .i64 n0) (.bool false) (.int .i64 0) (.slice a1 ks.length c1) (.slice a2 vs.length c2) (.bool h1) (.bool (!h2))
    have gR := seven_grown w8 Z (.int .i64 n0) (.bool false) (.int .i64 0) (.slice a1 ks.length c1) (.slice a2 vs.length c2) (.bool h1) (.bool (!h2))
    generalize hWR : (((((((w8.setCell ⟨Z, 0, none⟩ (.int .i64 n0)).setCell ⟨Z, 1, none⟩ (.bool false)).setCell ⟨Z, 2, none⟩ (.int .i64 0)).setCell ⟨Z, 3, none⟩ (.slice a1 ks.length c1)).setCell ⟨Z, 4, none⟩ (.slice a2 vs.length c2)).setCell ⟨Z, 5, none⟩ (.bool h1)).setCell ⟨Z, 6, none⟩ (.bool (!h2))) = WR at box8 gR ⊢
    have r1 := (o58.by (show Z < X + 1 by omega) gR).base hwX1
    have r2 := (o78.by (show Z < X + 1 by omega) gR).base hwX1
    have GR := grown_new G8 hwZ gR
    clear d0 d1 d2 d3 d4 d5 d6 q0 q1 q2 q3 q4 q5 q6 fz hWR
    obtain ⟨d0, d1, d2, d3, d4, d5, d6⟩ := box8.seven?
    have HT : tellI xs = ⟨n0, false, 0, ks, vs, h1, !h2⟩ := by
      unfold tellI
      simp only [HE0.out, HE1.out, HE2.out, HTD.out, Bool.false_eq_true, if_false, HE4.out, HE5.out]
    refine bodyPost_ret (v := .agg #[.int .i64 n0, .bool false, .int .i64 0, .slice a1 ks.length c1, .slice a2 vs.length c2, .bool h1, .bool (!h2)]) (by simp [results, Try.results39, go_sem, d0, d1, d2, d3, d4, d5, d6]) rfl ?_
    exact ⟨_, rfl, by rw [HT]; exact ⟨_, _, rfl, r1, r2, apart⟩, GR⟩
-- W11h

theorem slices_Equal (v u : Value) (xs ys : List Int) (w : World) (h : Ints w v xs) (g : Ints w u ys) :
    Calls Try.prog 40 #[v, u] w (Same w (xs == ys)) := by
  have h2 := h
  have g2 := g
  obtain ⟨a, cap, rfl, hl, hm, hc⟩ := h2
  obtain ⟨b, cap2, rfl, gl, gm, gc⟩ := g2
  unfold maxLen at hm gm
  by_cases he : xs.length = ys.length
  · have hn : ((xs.length : Int) != (ys.length : Int)) = false := by simp [he]
    have hn' : (xs.length != ys.length) = false := by simp [he]
    have He := Lib.hid he
    have hlt' : ys.length ≤ xs.length := by omega
    clear he
    have hc' := Lib.hid hc
    have gc' := Lib.hid gc
    clear hc gc
    go_enter Try.func40, Try.ntmps40
    go_wp2
    go_loopw [13] (fun i wr => ∃ k : Nat, k ≤ xs.length ∧ i = .int .i64 k ∧ FirstSame xs ys k ∧ Below w.heap.size w wr) (fun i _ => xs.length - (intOf i).toNat)
    case atStart => exact ⟨0, Nat.zero_le _, rfl, fun i hi => by omega, Below.refl _ _⟩
    case round =>
      obtain ⟨k, hk, rfl, hrel, hbel⟩ := hrel
      by_cases hlt : k < xs.length
      · have hlt2 : k < ys.length := by have := He.out; omega
        obtain ⟨b1, off1, rfl, hcell⟩ := hc'.out (by omega)
        obtain ⟨b2, off2, rfl, gcell⟩ := gc'.out (by omega)
        have hx := (hbel.cell (World.block_lt_of_cell? w _ (hcell k hlt))).trans (hcell k hlt)
        have hy := (hbel.cell (World.block_lt_of_cell? w _ (gcell k hlt2))).trans (gcell k hlt2)
        clear hcell gcell
        obtain ⟨x, ex⟩ : ∃ x, xs.getD k 0 = x := ⟨_, rfl⟩
        obtain ⟨y, ey⟩ : ∃ y, ys.getD k 0 = y := ⟨_, rfl⟩
        rw [ex] at hx
        rw [ey] at hy
        have Ex := Lib.hid ex
        have Ey := Lib.hid ey
        clear ex ey
        have i0 : (0 : Int) ≤ (k : Int) := by omega
        have i1 : (k : Int) < (xs.length : Int) := by omega
        have i2 : (k : Int) < (ys.length : Int) := by omega
        by_cases hxy : x = y
        · have H1 := hrel.snoc Ex.out Ey.out hxy
          have hq : (x != y) = false := by simp [hxy]
          clear hxy
          go_wp2
          go_quiet (fail)
          go_wp2
          go_roundw
          case rel => exact ⟨k + 1, by omega, by go_num, H1, below_drewN hbel _⟩
          case measure => simp [intOf]; omega
        · have hq : (x != y) = true := by simp [hxy]
          have H1 := Lib.hid (beq_no_at Ex.out Ey.out hxy)
          clear hxy
          go_wp2
          go_quiet (fail)
          go_wp2
          go_ret
          exact ⟨ret_bool H1.out.symm, below_drewN hbel _⟩
      · go_wp2
        go_ret
        exact ⟨ret_bool (beq_yes He.out fun i hi => hrel i (by omega)).symm, hbel⟩
  · have hn : ((xs.length : Int) != (ys.length : Int)) = true := by simp; omega
    have hn' : (xs.length != ys.length) = true := by simp [he]
    have H1 := Lib.hid (beq_no_len he)
    go_enter Try.func40, Try.ntmps40
    go_wp2
    go_ret
    exact ⟨ret_bool H1.out.symm, Below.refl _ _⟩
/-- what is read of bytes -/
def OldOut (w : World) (xs : List Int) (e : Ending) (w' : World) : Prop := ∃ v, e = .returned (.tuple #[v, .bool (rdM xs).2]) ∧ MesOwn w' w.heap.size v (rdM xs).1 ∧ Below w.heap.size w w'
theorem OldOut.mk {w w' : World} {xs : List Int} {m : Mes} {b : Bool} {v : Value} {e : Ending} (h : rdM xs = (m, b)) (he : e = .returned (.tuple #[v, .bool b])) (own : MesOwn w' w.heap.size v m) (bel : Below w.heap.size w w') : OldOut w xs e w' := by
  refine ⟨v, ?_, ?_, bel⟩
  · rw [h]; exact he
  · rw [h]; exact own
set_option maxHeartbeats 4000000 in
theorem impl_OldFrom (v : Value) (xs : List Int) (w : World) (h : Ints w v xs) : Calls Try.prog 16 #[v] w (OldOut w xs) := by
  have hlt := h.lt
  obtain ⟨a, cap, rfl, hl, hm, _⟩ := id h
  unfold maxLen at hm
  have hrd := rdM_tell xs
  have hll := tellI_len xs
  have bz := alloc_below' w (.cells #[.int .i64 0, .bool false, .int .i64 0, .slice none 0 0, .slice none 0 0, .bool false, .bool false] 25)
  have bb := alloc_below' (w.alloc (.cells #[.int .i64 0, .bool false, .int .i64 0, .slice none 0 0, .slice none 0 0, .bool false, .bool false] 25)) (.cells #[.slice a xs.length cap, .int .i64 0, .bool false] 55)
  have xZ := (Blk.made w #[.int .i64 0, .bool false, .int .i64 0, .slice none 0 0, .slice none 0 0, .bool false, .bool false] 25).belowS bb
  have xB := Blk.made (w.alloc (.cells #[.int .i64 0, .bool false, .int .i64 0, .slice none 0 0, .slice none 0 0, .bool false, .bool false] 25)) #[.slice a xs.length cap, .int .i64 0, .bool false] 55
  have B0 := Bstep bz bb
  simp only [alloc_szO] at xB
  go_enter Try.func16, Try.ntmps16
  go_upto_region 2 with (fail)
  generalize hwb : ((w.alloc (.cells #[.int .i64 0, .bool false, .int .i64 0, .slice none 0 0, .slice none 0 0, .bool false, .bool false] 25)).alloc (.cells #[.slice a xs.length cap, .int .i64 0, .bool false] 55)) = wb at xZ xB B0 ⊢
  clear hwb bz bb
  obtain ⟨Z, hZ⟩ : ∃ Z, w.heap.size = Z := ⟨_, rfl⟩
  obtain ⟨B, hB⟩ : ∃ B, w.heap.size + 1 = B := ⟨_, rfl⟩
  rw [hB] at xB ⊢
  rw [hZ] at xZ ⊢
  have hZB : Z ≠ B := by omega
  have hwZ : w.heap.size ≤ Z := by omega
  have hwB : w.heap.size ≤ B := by omega
  have hZb := xZ.lt
  have hBb := xB.lt
  have hwb : w.heap.size ≤ wb.heap.size := B0.size
  have ib := h.below B0
  have HV : ∀ W : World, wb.grownBy W (some B) → Ints W (.slice a xs.length cap) xs := fun W g => ib.keepR g fun q hq h0 e => by
    have := hlt h0 q hq
    simp only [Option.some.injEq] at e
    omega
  have C0 := Lib.hid (reader_old B (.slice a xs.length cap) xs wb xB HV)
  have HVH := Lib.hid HV
  obtain ⟨m, hmm⟩ : ∃ m, tellI xs = m := ⟨_, rfl⟩
  unfold ROldRes at C0
  rw [hmm] at C0 hrd hll
  have HZ := Lib.hid hZ
  have HRD := Lib.hid hrd
  clear hmm hrd HV ib h xB hB hZ
  go_wp2_with fail
  refine C0.out.mono ?_
  rintro e w1 ⟨v1, rfl, own1, g1⟩
  have x1 := xZ.by hZB g1
  have B1 : Below w.heap.size w w1 := B0.grown g1 hwb (fun k hk => by simp only [Option.some.injEq] at hk; omega)
  have i1 := HVH.out w1 g1
  have hs1 : wb.heap.size ≤ w1.heap.size := g1.size
  have CB : Hid (∀ W u, MesV W u m → Calls Try.prog 13 #[u] W (NewInts W (mBi m) (mOk m))) := Lib.hid fun W u hu => impl_OldBytes u m W hu (by omega) (by omega)
  have HY : Hid (mOk m = true → mBi m = mBytes m) := Lib.hid fun h => if_pos h
  have CE : Hid (∀ W u v, Ints W u (mBi m) → Ints W v xs → Calls Try.prog 40 #[u, v] W (Same W (mBi m == xs))) := Lib.hid fun W u v hu hv => slices_Equal u v _ _ W hu hv
  obtain ⟨ok, hok⟩ : ∃ ok, mOk m = ok := ⟨_, rfl⟩
  obtain ⟨eqb, heq⟩ : ∃ eqb, (mBi m == xs) = eqb := ⟨_, rfl⟩
  rw [hok] at CB
  rw [heq] at CE
  have HNO : Hid (ok = false ∨ eqb = false → rdM xs = (Mes.zero, false)) := Lib.hid fun h => by
    rw [HRD.out, if_neg]
    rintro ⟨h1, h2⟩
    rcases h with h | h
    · rw [← hok, h1] at h; cases h
    · rw [← heq, HY.out h1, h2] at h; simp at h
  have HYES : Hid (ok = true → eqb = true → rdM xs = (m, true)) := Lib.hid fun h1 h2 => by
    rw [HRD.out, if_pos]
    rw [← hok] at h1
    refine ⟨h1, ?_⟩
    rw [← heq, beq_iff_eq] at h2
    rw [← h2, HY.out h1]
  obtain ⟨X, hX⟩ : ∃ X, mBi m = X := ⟨_, rfl⟩
  rw [hX] at CB CE
  clear hok heq hX HY HRD xZ g1 C0 HVH B0
  obtain ⟨off, timed, time, key, val, hk, miss⟩ := m
  obtain ⟨kv, vv, rfl, o1, o2, ap⟩ := own1
  simp only at o1 o2 hll ⊢
  obtain ⟨ak, ck, rfl⟩ := AppRes.lenOf o1
  obtain ⟨av, cv, rfl⟩ := AppRes.lenOf o2
  have bM := alloc_below' w1 (.cells #[.int .i64 off, .bool timed, .int .i64 time, .slice ak key.length ck, .slice av val.length cv, .bool hk, .bool miss] 25)
  have xM := Blk.made w1 #[.int .i64 off, .bool timed, .int .i64 time, .slice ak key.length ck, .slice av val.length cv, .bool hk, .bool miss] 25
  go_upto_region 3 with (fail)
  generalize hwm : w1.alloc (.cells #[.int .i64 off, .bool timed, .int .i64 time, .slice ak key.length ck, .slice av val.length cv, .bool hk, .bool miss] 25) = w2 at bM xM ⊢
  clear hwm
  obtain ⟨P, hP⟩ : ∃ P, w1.heap.size = P := ⟨_, rfl⟩
  rw [hP] at xM ⊢
  have HP := Lib.hid hP
  have x2 := x1.belowS bM
  have B2 := Bstep B1 bM
  have i2 := i1.below bM
  have o12 := o1.below bM
  have o22 := o2.below bM
  clear hP bM x1 B1 i1 o1 o2
  obtain ⟨c0, c1, c2, c3, c4, c5, c6⟩ := xM.seven?
  go_wp2_with fail
  refine (CB.out w2 _ ⟨_, _, rfl, o12.ints, o22.ints⟩).mono ?_
  rintro e w3 ⟨u3, rfl, own3, b3⟩
  have x3 := x2.belowS b3
  have m3 := xM.belowS b3
  have B3 := Bstep B2 b3
  have i3 := i2.below b3
  have o13 := o12.below b3
  have o23 := o22.below b3
  obtain ⟨au, cu, rfl⟩ := AppRes.lenOf own3
  have i33 := own3.ints
  clear x2 xM B2 i2 o12 o22 b3 c0 c1 c2 c3 c4 c5 c6 own3
  cases ok with
  | false =>
    have HM := HNO.out (by first | exact .inl rfl | simp)
    clear HNO HYES
    obtain ⟨q0, q1, q2, q3, q4, q5, q6⟩ := x3.seven?
    have fz := x3.free
    go_wp2_with fail
    have box8 := x3.sevenS (.int .i64 0) (.bool false) (.int .i64 0) (.slice none 0 0) (.slice none 0 0) (.bool false) (.bool false)
    have gR := seven_grown w3 Z (.int .i64 0) (.bool false) (.int .i64 0) (.slice none 0 0) (.slice none 0 0) (.bool false) (.bool false)
    have bR := bel_seven B3 hwZ (.int .i64 0) (.bool false) (.int .i64 0) (.slice none 0 0) (.slice none 0 0) (.bool false) (.bool false)
    generalize hWR : (((((((w3.setCell ⟨Z, 0, none⟩ (.int .i64 0)).setCell ⟨Z, 1, none⟩ (.bool false)).setCell ⟨Z, 2, none⟩ (.int .i64 0)).setCell ⟨Z, 3, none⟩ (.slice none 0 0)).setCell ⟨Z, 4, none⟩ (.slice none 0 0)).setCell ⟨Z, 5, none⟩ (.bool false)).setCell ⟨Z, 6, none⟩ (.bool false)) = WR at box8 gR bR ⊢
    clear q0 q1 q2 q3 q4 q5 q6 fz hWR
    obtain ⟨q0, q1, q2, q3, q4, q5, q6⟩ := box8.seven?
    refine bodyPost_ret (v := .tuple #[.agg #[.int .i64 0, .bool false, .int .i64 0, .slice none 0 0, .slice none 0 0, .bool false, .bool false], .bool false]) (by simp [results, Try.results16, go_sem, q0, q1, q2, q3, q4, q5, q6]) rfl ?_
    exact OldOut.mk HM rfl ⟨_, _, rfl, own_nil _ _, own_nil _ _, fun k hk => by simp [Value.ownBlock] at hk⟩ bR
  | true =>
    go_wp2_with fail
    refine (CE.out w3 _ _ i33 i3).mono ?_
    rintro e w4 ⟨rfl, b4⟩
    have x4 := x3.belowS b4
    have m4 := m3.belowS b4
    have B4 := Bstep B3 b4
    have o14 := o13.below b4
    have o24 := o23.below b4
    clear x3 m3 B3 o13 o23 b4 i3 i33
    cases eqb with
    | false =>
      have HM := HNO.out (by first | exact .inr rfl | simp)
      clear HNO HYES
      obtain ⟨q0, q1, q2, q3, q4, q5, q6⟩ := x4.seven?
      have fz := x4.free
      go_wp2_with fail
      have box8 := x4.sevenS (.int .i64 0) (.bool false) (.int .i64 0) (.slice none 0 0) (.slice none 0 0) (.bool false) (.bool false)
      have gR := seven_grown w4 Z (.int .i64 0) (.bool false) (.int .i64 0) (.slice none 0 0) (.slice none 0 0) (.bool false) (.bool false)
      have bR := bel_seven B4 hwZ (.int .i64 0) (.bool false) (.int .i64 0) (.slice none 0 0) (.slice none 0 0) (.bool false) (.bool false)
      generalize hWR : (((((((w4.setCell ⟨Z, 0, none⟩ (.int .i64 0)).setCell ⟨Z, 1, none⟩ (.bool false)).setCell ⟨Z, 2, none⟩ (.int .i64 0)).setCell ⟨Z, 3, none⟩ (.slice none 0 0)).setCell ⟨Z, 4, none⟩ (.slice none 0 0)).setCell ⟨Z, 5, none⟩ (.bool false)).setCell ⟨Z, 6, none⟩ (.bool false)) = WR at box8 gR bR ⊢
      clear q0 q1 q2 q3 q4 q5 q6 fz hWR
      obtain ⟨q0, q1, q2, q3, q4, q5, q6⟩ := box8.seven?
      refine bodyPost_ret (v := .tuple #[.agg #[.int .i64 0, .bool false, .int .i64 0, .slice none 0 0, .slice none 0 0, .bool false, .bool false], .bool false]) (by simp [results, Try.results16, go_sem, q0, q1, q2, q3, q4, q5, q6]) rfl ?_
      exact OldOut.mk HM rfl ⟨_, _, rfl, own_nil _ _, own_nil _ _, fun k hk => by simp [Value.ownBlock] at hk⟩ bR
    | true =>
      have HM := HYES.out (by first | trivial | rfl) (by first | trivial | rfl)
      clear HNO HYES
      obtain ⟨c0, c1, c2, c3, c4, c5, c6⟩ := m4.seven?
      obtain ⟨q0, q1, q2, q3, q4, q5, q6⟩ := x4.seven?
      have fz := x4.free
      go_wp2_with fail
      have box8 := x4.sevenS (.int .i64 off) (.bool timed) (.int .i64 time) (.slice ak key.length ck) (.slice av val.length cv) (.bool hk) (.bool miss)
      have gR := seven_grown w4 Z (.int .i64 off) (.bool timed) (.int .i64 time) (.slice ak key.length ck) (.slice av val.length cv) (.bool hk) (.bool miss)
      have bR := bel_seven B4 hwZ (.int .i64 off) (.bool timed) (.int .i64 time) (.slice ak key.length ck) (.slice av val.length cv) (.bool hk) (.bool miss)
      generalize hWR : (((((((w4.setCell ⟨Z, 0, none⟩ (.int .i64 off)).setCell ⟨Z, 1, none⟩ (.bool timed)).setCell ⟨Z, 2, none⟩ (.int .i64 time)).setCell ⟨Z, 3, none⟩ (.slice ak key.length ck)).setCell ⟨Z, 4, none⟩ (.slice av val.length cv)).setCell ⟨Z, 5, none⟩ (.bool hk)).setCell ⟨Z, 6, none⟩ (.bool miss)) = WR at box8 gR bR ⊢
      clear q0 q1 q2 q3 q4 q5 q6 fz hWR
      obtain ⟨q0, q1, q2, q3, q4, q5, q6⟩ := box8.seven?
      refine bodyPost_ret (v := .tuple #[.agg #[.int .i64 off, .bool timed, .int .i64 time, .slice ak key.length ck, .slice av val.length cv, .bool hk, .bool miss], .bool true]) (by simp [results, Try.results16, go_sem, q0, q1, q2, q3, q4, q5, q6]) rfl ?_
      exact OldOut.mk HM rfl ⟨_, _, rfl, (o14.by hZb gR).base hwb, (o24.by hZb gR).base hwb, ap⟩ bR
end Go.Proofs.Ythlboonobepdaaa
