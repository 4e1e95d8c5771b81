/- Chapter 11: the record of a message, by the program and by the model. -/
import Derived.Test.YthlboonobepdaaaR11
import Derived.Test.YthlboonobepdaaaL1
import Derived.Test.YthlboonobepdaaaW3i
import Derived.Test.YthlboonobepdaaaW3k
import Derived.Test.YthlboonobepdaaaI1
namespace Go.Proofs.Ythlboonobepdaaa
open Go.ChangeShapes Go.WideShapes Go.ChangeAt Go.RowKit
set_option linter.unusedVariables false

theorem alloc_szO (w : World) (o : Obj) : (w.alloc o).heap.size = w.heap.size + 1 := by simp
theorem Blk.sixO {w : World} {B : Nat} {v0 v1 v2 v3 v4 v5 : Value} (h : Blk w B #[v0, v1, v2, v3, v4, v5]) :
    w.cell? ⟨B, 0, none⟩ = some v0 ∧ w.cell? ⟨B, 1, none⟩ = some v1 ∧ w.cell? ⟨B, 2, none⟩ = some v2 ∧ w.cell? ⟨B, 3, none⟩ = some v3 ∧ w.cell? ⟨B, 4, none⟩ = some v4 ∧ w.cell? ⟨B, 5, none⟩ = some v5 :=
  ⟨h.cell 0, h.cell 1, h.cell 2, h.cell 3, h.cell 4, h.cell 5⟩
theorem bel_ofO {w W : World} (h : w.grownBy W none) : Below w.heap.size w W := ⟨h.os, h.tape, h.output, h.size, fun k hk => h.block k hk (by simp)⟩
theorem own_nilI (w : World) (base : Nat) : Own w base (.slice none 0 0) [] := World.ownsRow_nil _ _ _ _
/-- a record in memory of the call's own -/
def RecNew (w : World) (r : Rec) (e : Ending) (w' : World) : Prop :=
  ∃ kv vv, e = .returned (.agg #[.int .i64 r.off, .int .i64 r.time, .bool r.hk, kv, .bool r.hv, vv]) ∧ Own w' w.heap.size kv r.key ∧ Own w' w.heap.size vv r.val ∧ Below w.heap.size w w'
set_option maxHeartbeats 1000000 in
theorem impl_newRecord (v : Value) (r : Rec) (w : World) (h : RecV w v r) (l1 : r.key.length ≤ 1000000000) (l2 : r.val.length ≤ 1000000000) : Calls Try.prog 67 #[v] w (RecNew w r) := by
  obtain ⟨off, time, hk, key, hv, val⟩ := r
  simp only at l1 l2
  obtain ⟨kv, vv, rfl, ik, iv⟩ := h
  simp only at ik iv
  have bA := alloc_below' w (.cells #[.int .i64 off, .int .i64 time, .bool hk, kv, .bool hv, vv] 64)
  have bZ := alloc_below' (w.alloc (.cells #[.int .i64 off, .int .i64 time, .bool hk, kv, .bool hv, vv] 64)) (.cells #[.int .i64 0, .int .i64 0, .bool false, .slice none 0 0, .bool false, .slice none 0 0] 64)
  have xA := (Blk.made w #[.int .i64 off, .int .i64 time, .bool hk, kv, .bool hv, vv] 64).belowS bZ
  have xZ := Blk.made (w.alloc (.cells #[.int .i64 off, .int .i64 time, .bool hk, kv, .bool hv, vv] 64)) #[.int .i64 0, .int .i64 0, .bool false, .slice none 0 0, .bool false, .slice none 0 0] 64
  have B0 := Bstep bA bZ
  simp only [alloc_szO] at xZ
  go_enter Try.func67, Try.ntmps67
  go_upto_region 1 with (fail)
  generalize hwb : ((w.alloc (.cells #[.int .i64 off, .int .i64 time, .bool hk, kv, .bool hv, vv] 64)).alloc (.cells #[.int .i64 0, .int .i64 0, .bool false, .slice none 0 0, .bool false, .slice none 0 0] 64)) = wb at xA xZ B0 ⊢
  clear hwb bA bZ
  obtain ⟨A, hA⟩ : ∃ A, w.heap.size = A := ⟨_, rfl⟩
  obtain ⟨Z, hZ⟩ : ∃ Z, w.heap.size + 1 = Z := ⟨_, rfl⟩
  rw [hZ] at xZ ⊢
  rw [hA] at xA ⊢
  have hAZ : A ≠ Z := by omega
  have hZA' : Z ≠ A := by omega
  have hwA : w.heap.size ≤ A := by omega
  have hwZ : w.heap.size ≤ Z := by omega
  have hAZ1 : A < Z + 1 := by omega
  have hwZ1 : w.heap.size ≤ Z + 1 := by omega
  have hsz : Z + 1 ≤ wb.heap.size := xZ.lt
  have ikb := ik.below B0
  obtain ⟨c0, c1, c2, c3, c4, c5⟩ := xA.sixO
  have HA := Lib.hid hA
  have ow0 := own_nilI wb (Z + 1)
  have hlk : ([] : List Int).length + key.length < 10000000000 := by simp; omega
  have hlv : ([] : List Int).length + val.length < 10000000000 := by simp; omega
  clear hZ hA
  go_upto_region 2 with (at_builtin; refine wp_appI rfl _ _ rfl (Z + 1) (.slice none 0 0) kv [] key rfl rfl ow0 ikb hlk hsz ?_; intro v1 w1 own1 g1; rw [List.nil_append] at own1; obtain ⟨a1, cap1, rfl, _, _, _⟩ := own1.ints; have b1 : Below wb.heap.size wb w1 := bel_ofO g1; have x1 := xA.belowS b1; have f1 := x1.free; have sx1 := x1.sixO; obtain ⟨e0, e1, e2, e3, e4, e5⟩ := sx1; clear c0 c1 c2 c3 c4 c5)
  have x2 := x1.set 3 (.slice a1 key.length cap1)
  have gs : w1.grownBy (w1.setCell ⟨A, 3, none⟩ (.slice a1 key.length cap1)) (some A) := set_grown _ _ _ _
  have xZ2 := (xZ.belowS b1).by hZA' gs
  have B1 := Bstep B0 b1
  have B2 : Below w.heap.size w (w1.setCell ⟨A, 3, none⟩ (.slice a1 key.length cap1)) := B1.setCell hwA _
  have own2 := own1.by hAZ1 gs
  generalize w1.setCell ⟨A, 3, none⟩ (.slice a1 key.length cap1) = w2 at x2 xZ2 B2 own2 ⊢
  simp only [List.setIfInBounds_toArray, List.set_cons_zero, List.set_cons_succ] at x2
  have ivb := iv.below B2
  have ow2 := own_nilI w2 w2.heap.size
  have hsz2 : Z + 1 ≤ w2.heap.size := xZ2.lt
  clear own1 g1 b1 x1 f1 e0 e1 e2 e3 e4 e5 gs B1 xA xZ B0 ikb hsz
  obtain ⟨c0, c1, c2, c3, c4, c5⟩ := x2.sixO
  go_upto_region 3 with (at_builtin; refine wp_appI rfl _ _ rfl w2.heap.size (.slice none 0 0) vv [] val rfl rfl ow2 ivb hlv (Nat.le_refl _) ?_; intro v3 w3 own3 g3; rw [List.nil_append] at own3; obtain ⟨a3, cap3, rfl, _, _, _⟩ := own3.ints; have b3 : Below w2.heap.size w2 w3 := bel_ofO g3; have x3 := x2.belowS b3; have f3 := x3.free; have sx3 := x3.sixO; obtain ⟨e0, e1, e2, e3, e4, e5⟩ := sx3; clear c0 c1 c2 c3 c4 c5)
  have x4 := x3.set 5 (.slice a3 val.length cap3)
  have gs : w3.grownBy (w3.setCell ⟨A, 5, none⟩ (.slice a3 val.length cap3)) (some A) := set_grown _ _ _ _
  have xZ4 := (xZ2.belowS b3).by hZA' gs
  have B3 := Bstep B2 b3
  have B4 : Below w.heap.size w (w3.setCell ⟨A, 5, none⟩ (.slice a3 val.length cap3)) := B3.setCell hwA _
  have own24 := (own2.below b3).by hAZ1 gs
  have own34 := (own3.base hsz2).by hAZ1 gs
  generalize w3.setCell ⟨A, 5, none⟩ (.slice a3 val.length cap3) = w4 at x4 xZ4 B4 own24 own34 ⊢
  simp only [List.setIfInBounds_toArray, List.set_cons_zero, List.set_cons_succ] at x4
  clear own3 g3 b3 x3 f3 e0 e1 e2 e3 e4 e5 gs B3 x2 xZ2 B2 own2 ivb hsz2
  obtain ⟨c0, c1, c2, c3, c4, c5⟩ := x4.sixO
  obtain ⟨d0, d1, d2, d3, d4, d5⟩ := xZ4.sixO
  have fz := xZ4.free
  go_wp2_with fail
  have box8 := xZ4.six (.int .i64 off) (.int .i64 time) (.bool hk) (.slice a1 key.length cap1) (.bool hv) (.slice a3 val.length cap3)
  have g8 := six_grown w4 Z (.int .i64 off) (.int .i64 time) (.bool hk) (.slice a1 key.length cap1) (.bool hv) (.slice a3 val.length cap3)
  have bel8 := bel_six B4 hwZ (.int .i64 off) (.int .i64 time) (.bool hk) (.slice a1 key.length cap1) (.bool hv) (.slice a3 val.length cap3)
  generalize hW8 : ((((((w4.setCell ⟨Z, 0, none⟩ (.int .i64 off)).setCell ⟨Z, 1, none⟩ (.int .i64 time)).setCell ⟨Z, 2, none⟩ (.bool hk)).setCell ⟨Z, 3, none⟩ (.slice a1 key.length cap1)).setCell ⟨Z, 4, none⟩ (.bool hv)).setCell ⟨Z, 5, none⟩ (.slice a3 val.length cap3)) = W8 at box8 g8 bel8 ⊢
  have o1 := (own24.by (Nat.lt_succ_self Z) g8).base hwZ1
  have o2 := (own34.by (Nat.lt_succ_self Z) g8).base hwZ1
  clear c0 c1 c2 c3 c4 c5 d0 d1 d2 d3 d4 d5 fz hW8
  obtain ⟨c0, c1, c2, c3, c4, c5⟩ := box8.sixO
  refine bodyPost_ret (v := .agg #[.int .i64 off, .int .i64 time, .bool hk, (.slice a1 key.length cap1), .bool hv, (.slice a3 val.length cap3)]) (by simp [results, Try.results67, go_sem, c0, c1, c2, c3, c4, c5]) rfl ?_
  exact ⟨_, _, rfl, o1, o2, bel8⟩
end Go.Proofs.Ythlboonobepdaaa
