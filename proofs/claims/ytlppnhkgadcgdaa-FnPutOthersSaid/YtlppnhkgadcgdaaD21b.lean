/- Chapter 21: what the laws on producers and a batch draw. -/
import Derived.Test.YtlppnhkgadcgdaaD21
namespace Go.Proofs.Ytlppnhkgadcgdaa
open Go.ChangeShapes Go.WideShapes Go.ChangeAt Go.RowKit
set_option linter.unusedVariables false

/-- producers and a batch that a law draws -/
def LawPair (w : World) (e : Ending) (w' : World) : Prop :=
  ∃ (u : Value) (ts : List Trm) (b : Bat) (v : Value), e = .returned (.tuple #[u, v]) ∧ Ts w' u ts ∧ BatV w' v b ∧ ts.length ≤ 9 ∧ Below w.heap.size w w'
set_option maxHeartbeats 1000000 in
theorem spec_DrawProducersCheck (v : Value) (zs : List Int) (w : World) (h : U8s w v zs) (hs : zs.length ≤ 1048576) : Calls Try.prog 23 #[v] w (LawPair w) := by
  have xZ := Blk.made w #[.bool false, .bool false, .int .i64 0, .int .i64 0, .int .i64 0, .slice none 0 0] 33
  have bZ := alloc_below' w (.cells #[.bool false, .bool false, .int .i64 0, .int .i64 0, .int .i64 0, .slice none 0 0] 33)
  have hU := h.keep (w' := w.alloc (.cells #[.bool false, .bool false, .int .i64 0, .int .i64 0, .int .i64 0, .slice none 0 0] 33)) fun _ b e hb => Below.heap_alloc w _ b hb
  go_enter Try.func23, Try.ntmps23
  go_wp2_with fail
  generalize hwz : w.alloc (.cells #[.bool false, .bool false, .int .i64 0, .int .i64 0, .int .i64 0, .slice none 0 0] 33) = wz at xZ bZ hU ⊢
  obtain ⟨Z, hZ⟩ : ∃ Z, w.heap.size = Z := ⟨_, rfl⟩
  rw [hZ] at xZ ⊢
  have HZ := Lib.hid hZ
  clear hwz hZ
  (with_reducible refine (spec_l6Open v zs wz hU hs).mono ?_)
  rintro e w1 ⟨B, rfl, hB, hR, b1⟩
  have B1 := Bstep bZ b1
  have x1 := xZ.belowS b1
  have lZ := xZ.lt
  clear bZ b1 xZ hU
  go_wp2_with fail
  (with_reducible refine (spec_l92Numbered B 0 w1 hR (by omega)).mono ?_)
  rintro e w2 ⟨u, ts, b, rv, lo1, h1, lo2, h2, rfl, ht, hr, hsh, ⟨l1, l2⟩, hR2, g2⟩
  have x2 := x1.by (by omega) g2
  have B2 := below_of_grown B1 (by have := HZ.out; omega) g2
  have hZ1 := x1.lt
  obtain ⟨packed, mark, prod, epoch, seq, recs⟩ := b
  obtain ⟨ra, rc, hrv, -, -, -⟩ := hr.recs
  subst hrv
  simp only at hr ⊢
  have zz := x2.six (.bool packed) (.bool mark) (.int .i64 prod) (.int .i64 epoch) (.int .i64 seq) (.slice ra recs.length rc)
  have gz := six_grown w2 Z (.bool packed) (.bool mark) (.int .i64 prod) (.int .i64 epoch) (.int .i64 seq) (.slice ra recs.length rc)
  have ht3 := (ht.by gz (.inl (by omega))).ts
  have hr3 := (hr.by gz (.inl (by omega))).recs
  have BF := bel_six B2 (show w.heap.size ≤ Z by have := HZ.out; omega) (.bool packed) (.bool mark) (.int .i64 prod) (.int .i64 epoch) (.int .i64 seq) (.slice ra recs.length rc)
  obtain ⟨c0, c1, c2, c3, c4, c5⟩ := x2.sixC
  have fz := x2.free
  clear x1 x2 B1 B2 ht hr g2 hR hR2 gz
  go_wp2_with fail
  generalize (((((w2.setCell ⟨Z, 0, none⟩ (.bool packed)).setCell ⟨Z, 1, none⟩ (.bool mark)).setCell ⟨Z, 2, none⟩ (.int .i64 prod)).setCell ⟨Z, 3, none⟩ (.int .i64 epoch)).setCell ⟨Z, 4, none⟩ (.int .i64 seq)).setCell ⟨Z, 5, none⟩ (.slice ra recs.length rc) = WW at zz ht3 hr3 BF ⊢
  clear c0 c1 c2 c3 c4 c5 fz
  obtain ⟨c0, c1, c2, c3, c4, c5⟩ := zz.sixC
  refine bodyPost_ret (v := .tuple #[u, .agg #[.bool packed, .bool mark, .int .i64 prod, .int .i64 epoch, .int .i64 seq, .slice ra recs.length rc]]) (by simp [results, Try.results23, go_sem, c0, c1, c2, c3, c4, c5]) rfl ?_
  exact ⟨u, ts, ⟨packed, mark, prod, epoch, seq, recs⟩, _, rfl, ht3, ⟨_, rfl, hr3⟩, hsh.1, BF⟩
set_option maxHeartbeats 1000000 in
theorem spec_DrawProducersPut (v : Value) (zs : List Int) (w : World) (h : U8s w v zs) (hs : zs.length ≤ 1048576) : Calls Try.prog 31 #[v] w (LawPair w) := by
  have xZ := Blk.made w #[.bool false, .bool false, .int .i64 0, .int .i64 0, .int .i64 0, .slice none 0 0] 33
  have bZ := alloc_below' w (.cells #[.bool false, .bool false, .int .i64 0, .int .i64 0, .int .i64 0, .slice none 0 0] 33)
  have hU := h.keep (w' := w.alloc (.cells #[.bool false, .bool false, .int .i64 0, .int .i64 0, .int .i64 0, .slice none 0 0] 33)) fun _ b e hb => Below.heap_alloc w _ b hb
  go_enter Try.func31, Try.ntmps31
  go_wp2_with fail
  generalize hwz : w.alloc (.cells #[.bool false, .bool false, .int .i64 0, .int .i64 0, .int .i64 0, .slice none 0 0] 33) = wz at xZ bZ hU ⊢
  obtain ⟨Z, hZ⟩ : ∃ Z, w.heap.size = Z := ⟨_, rfl⟩
  rw [hZ] at xZ ⊢
  have HZ := Lib.hid hZ
  clear hwz hZ
  (with_reducible refine (spec_l6Open v zs wz hU hs).mono ?_)
  rintro e w1 ⟨B, rfl, hB, hR, b1⟩
  have B1 := Bstep bZ b1
  have x1 := xZ.belowS b1
  have lZ := xZ.lt
  clear bZ b1 xZ hU
  go_wp2_with fail
  (with_reducible refine (spec_l92Numbered B 0 w1 hR (by omega)).mono ?_)
  rintro e w2 ⟨u, ts, b, rv, lo1, h1, lo2, h2, rfl, ht, hr, hsh, ⟨l1, l2⟩, hR2, g2⟩
  have x2 := x1.by (by omega) g2
  have B2 := below_of_grown B1 (by have := HZ.out; omega) g2
  have hZ1 := x1.lt
  obtain ⟨packed, mark, prod, epoch, seq, recs⟩ := b
  obtain ⟨ra, rc, hrv, -, -, -⟩ := hr.recs
  subst hrv
  simp only at hr ⊢
  have zz := x2.six (.bool packed) (.bool mark) (.int .i64 prod) (.int .i64 epoch) (.int .i64 seq) (.slice ra recs.length rc)
  have gz := six_grown w2 Z (.bool packed) (.bool mark) (.int .i64 prod) (.int .i64 epoch) (.int .i64 seq) (.slice ra recs.length rc)
  have ht3 := (ht.by gz (.inl (by omega))).ts
  have hr3 := (hr.by gz (.inl (by omega))).recs
  have BF := bel_six B2 (show w.heap.size ≤ Z by have := HZ.out; omega) (.bool packed) (.bool mark) (.int .i64 prod) (.int .i64 epoch) (.int .i64 seq) (.slice ra recs.length rc)
  obtain ⟨c0, c1, c2, c3, c4, c5⟩ := x2.sixC
  have fz := x2.free
  clear x1 x2 B1 B2 ht hr g2 hR hR2 gz
  go_wp2_with fail
  generalize (((((w2.setCell ⟨Z, 0, none⟩ (.bool packed)).setCell ⟨Z, 1, none⟩ (.bool mark)).setCell ⟨Z, 2, none⟩ (.int .i64 prod)).setCell ⟨Z, 3, none⟩ (.int .i64 epoch)).setCell ⟨Z, 4, none⟩ (.int .i64 seq)).setCell ⟨Z, 5, none⟩ (.slice ra recs.length rc) = WW at zz ht3 hr3 BF ⊢
  clear c0 c1 c2 c3 c4 c5 fz
  obtain ⟨c0, c1, c2, c3, c4, c5⟩ := zz.sixC
  refine bodyPost_ret (v := .tuple #[u, .agg #[.bool packed, .bool mark, .int .i64 prod, .int .i64 epoch, .int .i64 seq, .slice ra recs.length rc]]) (by simp [results, Try.results31, go_sem, c0, c1, c2, c3, c4, c5]) rfl ?_
  exact ⟨u, ts, ⟨packed, mark, prod, epoch, seq, recs⟩, _, rfl, ht3, ⟨_, rfl, hr3⟩, hsh.1, BF⟩
end Go.Proofs.Ytlppnhkgadcgdaa
