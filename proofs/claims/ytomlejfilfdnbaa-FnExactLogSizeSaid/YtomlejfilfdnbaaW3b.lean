/- Chapter 3: a record as bytes, as the model makes it. -/
import Derived.Test.YtomlejfilfdnbaaW3
namespace Go.Proofs.Ytomlejfilfdnbaa
open Go.ChangeShapes Go.WideShapes Go.ChangeAt Go.RowKit
set_option linter.unusedVariables false

theorem cell_of_block {w : World} {B : Nat} {cs : Array Value} {t : TypeId} {fr : Nat × Nat} (h : w.heap[B]? = some (.cells cs t fr)) (i : Nat) : w.cell? ⟨B, i, none⟩ = cs[i]? := by simp [World.cell?, h]
/-- the box of a record in block B holds its six fields -/
def BoxR (W : World) (B : Nat) (off time : Int) (hk : Bool) (kv : Value) (hv : Bool) (vv : Value) : Prop :=
  W.cell? ⟨B, 0, none⟩ = some (.int .i64 off) ∧ W.cell? ⟨B, 1, none⟩ = some (.int .i64 time) ∧ W.cell? ⟨B, 2, none⟩ = some (.bool hk) ∧ W.cell? ⟨B, 3, none⟩ = some kv ∧ W.cell? ⟨B, 4, none⟩ = some (.bool hv) ∧ W.cell? ⟨B, 5, none⟩ = some vv
theorem BoxR.made (w : World) (t : TypeId) (off time : Int) (hk : Bool) (kv : Value) (hv : Bool) (vv : Value) :
    BoxR (w.alloc (.cells #[.int .i64 off, .int .i64 time, .bool hk, kv, .bool hv, vv] t)) w.heap.size off time hk kv hv vv := by
  have hb := heap_alloc_new w (.cells #[.int .i64 off, .int .i64 time, .bool hk, kv, .bool hv, vv] t)
  exact ⟨cell_of_block hb 0, cell_of_block hb 1, cell_of_block hb 2, cell_of_block hb 3, cell_of_block hb 4, cell_of_block hb 5⟩
theorem BoxR.below {w W : World} {B : Nat} {off time : Int} {hk : Bool} {kv : Value} {hv : Bool} {vv : Value} (h : BoxR w B off time hk kv hv vv) (hB : B < w.heap.size) (hb : Below w.heap.size w W) : BoxR W B off time hk kv hv vv := by
  obtain ⟨h0, h1, h2, h3, h4, h5⟩ := h
  have k : ∀ i, W.cell? ⟨B, i, none⟩ = w.cell? ⟨B, i, none⟩ := fun i => hb.cell (p := ⟨B, i, none⟩) hB
  exact ⟨(k 0).trans h0, (k 1).trans h1, (k 2).trans h2, (k 3).trans h3, (k 4).trans h4, (k 5).trans h5⟩

set_option maxHeartbeats 1000000 in
theorem spec_l3BytesG (v : Value) (r : Rec) (o t : Int) (w : World) (h : RecV w v r) (hr : recOk r = true) (d1 : -1000000 ≤ r.time - t) (d2 : r.time - t ≤ 1000000) (d3 : -1000000 ≤ r.off - o) (d4 : r.off - o ≤ 1000000) :
    Calls Try.prog 47 #[v, .int .i64 o, .int .i64 t] w (NewInts1 w (recBytes r o t)) := by
  have hlen := recBody_len (o := o) (t := t) hr
  obtain ⟨⟨r0, r1⟩, ⟨q0, q1⟩, pk, pv⟩ := recOk_iff.1 hr
  have lk := (partOk_iff.1 pk).2.2
  have lv := (partOk_iff.1 pv).2.2
  obtain ⟨kv, vv, rfl, ik, iv⟩ := h
  unfold recBytes
  unfold recBody at hlen ⊢
  obtain ⟨off, time, hk, key, hv, val⟩ := r
  simp only at hlen r0 r1 q0 q1 lk lv ik iv d1 d2 d3 d4 ⊢
  have e1 := varB_len (time - t)
  have e2 := varB_len (off - o)
  have e3 := putP_len (has := hk) lk
  have e4 := putP_len (has := hv) lv
  have P1 : Hid (∀ wn, Calls Try.prog 55 #[.int .i64 (time - t)] wn (NewInts1 wn (varB (time - t)))) := fun wn => by
    have := spec_l1Bytes (time - t) wn (by omega) (by omega)
    rwa [← varB_in (by omega) (by omega)] at this
  have P2 : Hid (∀ wn, Calls Try.prog 55 #[.int .i64 (off - o)] wn (NewInts1 wn (varB (off - o)))) := fun wn => by
    have := spec_l1Bytes (off - o) wn (by omega) (by omega)
    rwa [← varB_in (by omega) (by omega)] at this
  have P3 : Hid (∀ wn, Ints wn kv key → Calls Try.prog 56 #[.bool hk, kv] wn (NewInts1 wn (putP hk key))) := fun wn hi => spec_l3Put hk kv key wn hi (by omega)
  have P4 : Hid (∀ wn, Ints wn vv val → Calls Try.prog 56 #[.bool hv, vv] wn (NewInts1 wn (putP hv val))) := fun wn hi => spec_l3Put hv vv val wn hi (by omega)
  obtain ⟨x1, hx1⟩ : ∃ x, varB (time - t) = x := ⟨_, rfl⟩
  obtain ⟨x2, hx2⟩ : ∃ x, varB (off - o) = x := ⟨_, rfl⟩
  obtain ⟨x3, hx3⟩ : ∃ x, putP hk key = x := ⟨_, rfl⟩
  obtain ⟨x4, hx4⟩ : ∃ x, putP hv val = x := ⟨_, rfl⟩
  rw [hx1] at P1 e1 hlen ⊢
  rw [hx2] at P2 e2 hlen ⊢
  rw [hx3] at P3 e3 hlen ⊢
  rw [hx4] at P4 e4 hlen ⊢
  obtain ⟨body, hbody⟩ : ∃ ys, x1 ++ x2 ++ x3 ++ x4 = ys := ⟨_, rfl⟩
  rw [hbody] at hlen ⊢
  have Hbody := Lib.hid hbody
  clear hbody
  have P5 : Hid (∀ wn, Calls Try.prog 55 #[.int .i64 (body.length : Int)] wn (NewInts1 wn (varB body.length))) := fun wn => by
    have := spec_l1Bytes (body.length : Int) wn (by omega) (by omega)
    rwa [← varB_in (by omega) (by omega)] at this
  have e5 := varB_len (body.length : Int)
  clear hx1 hx2 hx3 hx4 hr pk pv
  go_enter Try.func47, Try.ntmps47
  go_wp2_with fail
  obtain ⟨wb, hwb⟩ : ∃ wb, w.alloc (.cells #[.int .i64 off, .int .i64 time, .bool hk, kv, .bool hv, vv] 44) = wb := ⟨_, rfl⟩
  have box : BoxR wb w.heap.size off time hk kv hv vv := by rw [← hwb]; exact BoxR.made _ _ _ _ _ _ _ _
  have belw : Below w.heap.size w wb := by rw [← hwb]; exact (Below.refl _ _).alloc (Nat.le_refl _) _
  have hBlt : w.heap.size < wb.heap.size := by rw [← hwb]; simp
  rw [hwb]
  have keep : Hid (∀ W, Below wb.heap.size wb W → (W.cell? ⟨w.heap.size, 0, none⟩ = some (.int .i64 off) ∧ W.cell? ⟨w.heap.size, 1, none⟩ = some (.int .i64 time) ∧ Below wb.heap.size wb W)) := fun W hW => by
    obtain ⟨b0, b1, _⟩ := box.below hBlt hW
    exact ⟨b0, b1, hW⟩
  have A1 : Hid (∀ W, (W.cell? ⟨w.heap.size, 0, none⟩ = some (.int .i64 off) ∧ W.cell? ⟨w.heap.size, 1, none⟩ = some (.int .i64 time) ∧ Below wb.heap.size wb W) → Calls Try.prog 55 #[.int .i64 (time - t)] W fun e W' => ∃ v1, e = .returned v1 ∧ Own W' wb.heap.size v1 x1 ∧
      (W'.cell? ⟨w.heap.size, 0, none⟩ = some (.int .i64 off) ∧ W'.cell? ⟨w.heap.size, 1, none⟩ = some (.int .i64 time) ∧ Below wb.heap.size wb W')) := fun W h => (P1.out W).mono fun e W' ⟨v1, he, own, bel⟩ => ⟨v1, he, own.base h.2.2.size, keep.out W' (Bstep h.2.2 bel)⟩
  have A2 : Hid (∀ W v1, Own W wb.heap.size v1 x1 → (W.cell? ⟨w.heap.size, 0, none⟩ = some (.int .i64 off) ∧ W.cell? ⟨w.heap.size, 1, none⟩ = some (.int .i64 time) ∧ Below wb.heap.size wb W) → Calls Try.prog 55 #[.int .i64 (off - o)] W fun e W' => ∃ v2, e = .returned v2 ∧ Own W' wb.heap.size v2 x2 ∧ Own W' wb.heap.size v1 x1 ∧
      (W'.cell? ⟨w.heap.size, 0, none⟩ = some (.int .i64 off) ∧ W'.cell? ⟨w.heap.size, 1, none⟩ = some (.int .i64 time) ∧ Below wb.heap.size wb W')) := fun W v1 hv1 h => (P2.out W).mono fun e W' ⟨v2, he, own, bel⟩ => ⟨v2, he, own.base h.2.2.size, hv1.below bel, keep.out W' (Bstep h.2.2 bel)⟩
  have s1 : IntKind.i64.wrap (time - t) = time - t := IntWalk.i64_in _ ⟨by omega, by omega⟩
  have s2 : IntKind.i64.wrap (off - o) = off - o := IntWalk.i64_in _ ⟨by omega, by omega⟩
  have S0 := keep.out wb (Below.refl _ _)
  have S1 : wb.drew.cell? ⟨w.heap.size, 0, none⟩ = some (.int .i64 off) ∧ wb.drew.cell? ⟨w.heap.size, 1, none⟩ = some (.int .i64 time) ∧ Below wb.heap.size wb wb.drew := keep.out wb.drew (below_drewN (Below.refl _ _) 1)
  have h12 : x1.length + x2.length < 10000000000 := by omega
  clear hwb
  go_region_held3 (fun W => W.cell? ⟨w.heap.size, 0, none⟩ = some (.int .i64 off) ∧ W.cell? ⟨w.heap.size, 1, none⟩ = some (.int .i64 time) ∧ Below wb.heap.size wb W) (first | assumption | go_keep)
    (first
      | (go_at_call 55; ((with_reducible refine (A1.out _ (by assumption)).mono ?_); rintro e W1 ⟨v1, rfl, own1, hS1⟩))
      | (go_at_call 55; ((with_reducible refine (A2.out _ _ own1 (by assumption)).mono ?_); rintro e W2 ⟨v2, rfl, own2, own1', hS2⟩))
      | (refine step_appI rfl (.tmp 12) (.tmp 17) rfl wb.heap.size v1 v2 x1 x2 rfl rfl own1' own2.ints h12 hS2.2.2.size ?_; intro v3 W3 own3 g3; have hS3 := keep.out W3 (hS2.2.2.grown g3 hS2.2.2.size own1'.lt)))
  have B3 := hS3.2.2
  obtain ⟨_, _, b2, b3, _, _⟩ := box.below hBlt B3
  have iK3 := ik.below (Bstep belw B3)
  clear S0 S1 s1 s2 hS1 hS2 own1 own1' own2 A1 A2 b2 b3 hS3
  obtain ⟨_, _, b2, b3, _, _⟩ := box.below hBlt B3
  go_wp2_with fail
  (with_reducible refine (P3.out _ iK3).mono ?_)
  rintro e W4 ⟨v4, rfl, own4, bel4⟩
  have B4 := Bstep B3 bel4
  have own34 := own3.below bel4
  clear b2 b3
  go_wp2_with (
    at_builtin
    refine wp_appI rfl _ _ rfl wb.heap.size v3 v4 (x1 ++ x2) x3 rfl rfl own34 own4.ints (by rw [List.length_append]; omega) B4.size ?_
    intro v5 W5 own5 g5
    have B5 := B4.grown g5 B4.size own34.lt
    obtain ⟨_, _, _, _, b4, b5⟩ := box.below hBlt B5)
  (with_reducible refine (P4.out _ (iv.below (Bstep belw B5))).mono ?_)
  rintro e W6 ⟨v6, rfl, own6, bel6⟩
  have B6 := Bstep B5 bel6
  have own56 := own5.below bel6
  clear b4 b5
  go_wp2_with (
    at_builtin
    refine wp_appI rfl _ _ rfl wb.heap.size v5 v6 (x1 ++ x2 ++ x3) x4 rfl rfl own56 own6.ints (by rw [List.length_append, List.length_append]; omega) B6.size ?_
    intro v7 W7 own7 g7
    have B7 := B6.grown g7 B6.size own56.lt
    rw [Hbody.out] at own7
    have i7 := own7.ints
    obtain ⟨a7, cap7, rfl, hl7, hm7, hc7⟩ := i7
    unfold maxLen at hm7
    clear hc7)
  (with_reducible refine (P5.out _).mono ?_)
  rintro e W8 ⟨v8, rfl, own8, bel8⟩
  have B8 := Bstep B7 bel8
  go_wp2_with (at_builtin; refine wp_appI rfl _ _ rfl W7.heap.size v8 _ _ body rfl rfl own8 (own7.ints.below bel8) (by omega) bel8.size ?_; intro v9 W9 own9 g9)
  go_ret
  have B9 := B8.grown g9 B8.size (fun k hk => Nat.le_trans B7.size (own8.lt k hk))
  have hsz : w.heap.size ≤ W7.heap.size := Nat.le_trans belw.size B7.size
  exact ⟨_, rfl, own9.base hsz, Bstep belw B9⟩
theorem spec_l3Bytes (v : Value) (r : Rec) (o t : Int) (w : World) (h : RecV w v r) (hr : recOk r = true) (hb : baseOk o t = true) :
    Calls Try.prog 47 #[v, .int .i64 o, .int .i64 t] w (NewInts1 w (recBytes r o t)) := by
  obtain ⟨⟨o0, o1⟩, t0, t1⟩ := baseOk_iff.1 hb
  obtain ⟨⟨r0, r1⟩, ⟨q0, q1⟩, pk, pv⟩ := recOk_iff.1 hr
  exact spec_l3BytesG v r o t w h hr (by omega) (by omega) (by omega) (by omega)
end Go.Proofs.Ytomlejfilfdnbaa
