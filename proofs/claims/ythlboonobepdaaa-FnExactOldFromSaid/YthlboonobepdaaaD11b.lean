/- Chapter 11: the drawn messages of the laws. -/
import Derived.Test.YthlboonobepdaaaD11
namespace Go.Proofs.Ythlboonobepdaaa
open Go.ChangeShapes Go.WideShapes Go.ChangeAt Go.RowKit
set_option linter.unusedVariables false

def MesLaw (w : World) (e : Ending) (w' : World) : Prop := ∃ (m : Mes) (v : Value), e = .returned v ∧ MesP w' w.heap.size v m ∧ m.key.length ≤ 12 ∧ m.val.length ≤ 12 ∧ Below w.heap.size w w'
set_option maxHeartbeats 1000000 in
theorem spec_DrawOldValid (v : Value) (zs : List Int) (w : World) (h : U8s w v zs) (hs : zs.length ≤ 1048576) : Calls Try.prog 21 #[v] w (MesLaw w) := by
  have bz := alloc_below' w (.cells #[.int .i64 0, .bool false, .int .i64 0, .slice none 0 0, .slice none 0 0, .bool false, .bool false] 25)
  have xZ := Blk.made w #[.int .i64 0, .bool false, .int .i64 0, .slice none 0 0, .slice none 0 0, .bool false, .bool false] 25
  have C1 := Lib.hid (spec_l6Open v zs _ (h.keep fun _ b _ hlt => bz.block b hlt) hs)
  go_enter Try.func21, Try.ntmps21
  go_wp2_with fail
  generalize hWz : w.alloc (.cells #[.int .i64 0, .bool false, .int .i64 0, .slice none 0 0, .slice none 0 0, .bool false, .bool false] 25) = wz at bz xZ C1 ⊢
  clear hWz
  obtain ⟨Z, hZ⟩ : ∃ Z, w.heap.size = Z := ⟨_, rfl⟩
  rw [hZ] at xZ ⊢
  have hwZ : w.heap.size ≤ Z := by omega
  refine C1.out.mono ?_
  rintro e w1 ⟨B, rfl, hB, hR, b1⟩
  have x1 := xZ.belowS b1
  have B1 := Bstep bz b1
  have hZB : Z < B := Nat.lt_of_lt_of_le xZ.lt hB
  have hZ1 : Z + 1 ≤ wz.heap.size := xZ.lt
  have HZ := Lib.hid hZ
  clear xZ C1 hZ
  go_wp2_with fail
  refine (spec_pick B _ 60 w1 hR (by omega) (by omega) (by omega)).mono ?_
  rintro e w2 ⟨k, rfl, hk, hR2, g2⟩
  have x2 := x1.by (by omega) g2
  have B2 : Below wz.heap.size wz w2 := b1.grown g2 b1.size (fun q hq => by simp only [Option.some.injEq] at hq; omega)
  clear x1 hR g2 hk B1 b1
  go_wp2_with fail
  refine (spec_l91Old B _ _ w2 hR2 (by omega)).mono ?_
  rintro e w3 ⟨m, u, rfl, own, l1, l2, hR3, g3⟩
  have x3 := x2.by (by omega) g3
  have B3 : Below wz.heap.size wz w3 := B2.grown g3 B2.size (fun q hq => by simp only [Option.some.injEq] at hq; omega)
  have B3' : Below w.heap.size w w3 := Bstep bz B3
  have hs3 : wz.heap.size ≤ w2.heap.size := B2.size
  obtain ⟨off, timed, time, key, val, hk, miss⟩ := m
  obtain ⟨kv, vv, rfl, o1, o2⟩ := own
  simp only at o1 o2 l1 l2 ⊢
  obtain ⟨ak, ck, rfl, _, _, _⟩ := o1.ints
  obtain ⟨av, cv, rfl, _, _, _⟩ := o2.ints
  obtain ⟨c0, c1, c2, c3, c4, c5, c6⟩ := x3.seven?
  have fz := x3.free
  clear x2 hR2 g3 hR3 B2
  go_wp2_with fail
  have box8 := x3.sevenS (.int .i64 off) (.bool timed) (.int .i64 time) (.slice ak key.length ck) (.slice av val.length cv) (.bool hk) (.bool miss)
  have gR := seven_grown w3 Z (.int .i64 off) (.bool timed) (.int .i64 time) (.slice ak key.length ck) (.slice av val.length cv) (.bool hk) (.bool miss)
  have bel8 := bel_seven B3' hwZ (.int .i64 off) (.bool timed) (.int .i64 time) (.slice ak key.length ck) (.slice av val.length cv) (.bool hk) (.bool miss)
  generalize hWR : (((((((w3.setCell ⟨Z, 0, none⟩ (.int .i64 off)).setCell ⟨Z, 1, none⟩ (.bool timed)).setCell ⟨Z, 2, none⟩ (.int .i64 time)).setCell ⟨Z, 3, none⟩ (.slice ak key.length ck)).setCell ⟨Z, 4, none⟩ (.slice av val.length cv)).setCell ⟨Z, 5, none⟩ (.bool hk)).setCell ⟨Z, 6, none⟩ (.bool miss)) = WR at box8 gR bel8 ⊢
  have q1 := (o1.by (show Z < w2.heap.size by omega) gR).base (show w.heap.size ≤ w2.heap.size by omega)
  have q2 := (o2.by (show Z < w2.heap.size by omega) gR).base (show w.heap.size ≤ w2.heap.size by omega)
  clear c0 c1 c2 c3 c4 c5 c6 fz hWR x3
  obtain ⟨c0, c1, c2, c3, c4, c5, c6⟩ := box8.seven?
  refine bodyPost_ret (v := .agg #[.int .i64 off, .bool timed, .int .i64 time, .slice ak key.length ck, .slice av val.length cv, .bool hk, .bool miss]) (by simp [results, Try.results21, go_sem, c0, c1, c2, c3, c4, c5, c6]) rfl ?_
  exact ⟨⟨off, timed, time, key, val, hk, miss⟩, _, rfl, ⟨_, _, rfl, q1, q2⟩, l1, l2, bel8⟩
set_option maxHeartbeats 1000000 in
theorem spec_DrawOldBytes (v : Value) (zs : List Int) (w : World) (h : U8s w v zs) (hs : zs.length ≤ 1048576) : Calls Try.prog 12 #[v] w (MesLaw w) := by
  have bz := alloc_below' w (.cells #[.int .i64 0, .bool false, .int .i64 0, .slice none 0 0, .slice none 0 0, .bool false, .bool false] 25)
  have xZ := Blk.made w #[.int .i64 0, .bool false, .int .i64 0, .slice none 0 0, .slice none 0 0, .bool false, .bool false] 25
  have C1 := Lib.hid (spec_l6Open v zs _ (h.keep fun _ b _ hlt => bz.block b hlt) hs)
  go_enter Try.func12, Try.ntmps12
  go_wp2_with fail
  generalize hWz : w.alloc (.cells #[.int .i64 0, .bool false, .int .i64 0, .slice none 0 0, .slice none 0 0, .bool false, .bool false] 25) = wz at bz xZ C1 ⊢
  clear hWz
  obtain ⟨Z, hZ⟩ : ∃ Z, w.heap.size = Z := ⟨_, rfl⟩
  rw [hZ] at xZ ⊢
  have hwZ : w.heap.size ≤ Z := by omega
  refine C1.out.mono ?_
  rintro e w1 ⟨B, rfl, hB, hR, b1⟩
  have x1 := xZ.belowS b1
  have B1 := Bstep bz b1
  have hZB : Z < B := Nat.lt_of_lt_of_le xZ.lt hB
  have hZ1 : Z + 1 ≤ wz.heap.size := xZ.lt
  have HZ := Lib.hid hZ
  clear xZ C1 hZ
  go_wp2_with fail
  refine (spec_pick B _ 60 w1 hR (by omega) (by omega) (by omega)).mono ?_
  rintro e w2 ⟨k, rfl, hk, hR2, g2⟩
  have x2 := x1.by (by omega) g2
  have B2 : Below wz.heap.size wz w2 := b1.grown g2 b1.size (fun q hq => by simp only [Option.some.injEq] at hq; omega)
  clear x1 hR g2 hk B1 b1
  go_wp2_with fail
  refine (spec_l91Old B _ _ w2 hR2 (by omega)).mono ?_
  rintro e w3 ⟨m, u, rfl, own, l1, l2, hR3, g3⟩
  have x3 := x2.by (by omega) g3
  have B3 : Below wz.heap.size wz w3 := B2.grown g3 B2.size (fun q hq => by simp only [Option.some.injEq] at hq; omega)
  have B3' : Below w.heap.size w w3 := Bstep bz B3
  have hs3 : wz.heap.size ≤ w2.heap.size := B2.size
  obtain ⟨off, timed, time, key, val, hk, miss⟩ := m
  obtain ⟨kv, vv, rfl, o1, o2⟩ := own
  simp only at o1 o2 l1 l2 ⊢
  obtain ⟨ak, ck, rfl, _, _, _⟩ := o1.ints
  obtain ⟨av, cv, rfl, _, _, _⟩ := o2.ints
  obtain ⟨c0, c1, c2, c3, c4, c5, c6⟩ := x3.seven?
  have fz := x3.free
  clear x2 hR2 g3 hR3 B2
  go_wp2_with fail
  have box8 := x3.sevenS (.int .i64 off) (.bool timed) (.int .i64 time) (.slice ak key.length ck) (.slice av val.length cv) (.bool hk) (.bool miss)
  have gR := seven_grown w3 Z (.int .i64 off) (.bool timed) (.int .i64 time) (.slice ak key.length ck) (.slice av val.length cv) (.bool hk) (.bool miss)
  have bel8 := bel_seven B3' hwZ (.int .i64 off) (.bool timed) (.int .i64 time) (.slice ak key.length ck) (.slice av val.length cv) (.bool hk) (.bool miss)
  generalize hWR : (((((((w3.setCell ⟨Z, 0, none⟩ (.int .i64 off)).setCell ⟨Z, 1, none⟩ (.bool timed)).setCell ⟨Z, 2, none⟩ (.int .i64 time)).setCell ⟨Z, 3, none⟩ (.slice ak key.length ck)).setCell ⟨Z, 4, none⟩ (.slice av val.length cv)).setCell ⟨Z, 5, none⟩ (.bool hk)).setCell ⟨Z, 6, none⟩ (.bool miss)) = WR at box8 gR bel8 ⊢
  have q1 := (o1.by (show Z < w2.heap.size by omega) gR).base (show w.heap.size ≤ w2.heap.size by omega)
  have q2 := (o2.by (show Z < w2.heap.size by omega) gR).base (show w.heap.size ≤ w2.heap.size by omega)
  clear c0 c1 c2 c3 c4 c5 c6 fz hWR x3
  obtain ⟨c0, c1, c2, c3, c4, c5, c6⟩ := box8.seven?
  refine bodyPost_ret (v := .agg #[.int .i64 off, .bool timed, .int .i64 time, .slice ak key.length ck, .slice av val.length cv, .bool hk, .bool miss]) (by simp [results, Try.results12, go_sem, c0, c1, c2, c3, c4, c5, c6]) rfl ?_
  exact ⟨⟨off, timed, time, key, val, hk, miss⟩, _, rfl, ⟨_, _, rfl, q1, q2⟩, l1, l2, bel8⟩
end Go.Proofs.Ythlboonobepdaaa
