/- Chapter 5: the exact laws of a batch's test and span. -/
import Derived.Test.YtaakcikjdphocaaL5c
import Derived.Deep.Fields
import Derived.Deep.Slices
import Derived.ChangeSame
import Derived.ChangeArms
import Derived.ChangeSlices
namespace Go.Proofs.Ytaakcikjdphocaa
open Go.ChangeShapes Go.WideShapes Go.ChangeAt Go.RowKit
set_option linter.unusedVariables false

section
variable {H : Type} {enc : TypeId × Value → H} {P : Program} {w : World} {base : Nat} {spare : Nat → Bool} {held : Bool}
/-- a struct of one-cell fields, field by field, out of its cells -/
theorem fields_of {t : TypeId} {fs : Array Field} {cs : List Value} {fuel : Nat} {x : DataW H × List MemPlace} (hs : P.underlying t = some (.struct fs)) (hone : Go.Deep.oneCellFields P fs = true) (hC : P.cellsOf t = fs.size)
    (h : DataW.trod enc P w base spare held fuel t cs = some x) : cs.length = fs.size ∧ ∃ n, ∀ (j : Nat) (f : Field), fs[j]? = some f → ∃ c y, cs[j]? = some c ∧ DataW.trod enc P w base spare held n f.type [c] = some y := by
  obtain ⟨xs, n, _, _, hcl, hlen, hg⟩ := DataW.trod_struct hs h
  refine ⟨hcl.trans hC, n, fun j f hj => ?_⟩
  have hjl : j < fs.size := (Array.getElem?_eq_some_iff.1 hj).1
  have hjc : j < cs.length := by omega
  obtain ⟨o, k⟩ := Go.Deep.hone_of hone j f hj
  have h1 := hg j f hj
  rw [o, k, List.drop_eq_getElem_cons hjc] at h1
  exact ⟨cs[j], _, List.getElem?_eq_getElem hjc, h1.trans (List.getElem?_eq_getElem (show j < xs.length by omega))⟩
end
theorem cell_Ints {H : Type} {enc : TypeId × Value → H} {W : World} {held : Bool} {n : Nat} {c : Value} {y : DataW H × List MemPlace} (hf : DataW.trod enc Try.prog W 0 (fun _ => true) held n 27 [c] = some y) : ∃ zs, IntsIn W c zs := by
  rcases open_ints Try.underlying27 Try.underlying3 (by kernel_rfl) hf with ⟨hcs, _⟩ | ⟨x, l, cp, zs, hcs, _, hl, hm, hz, _, hcell, hwz⟩
  · simp only [List.cons.injEq, and_true] at hcs
    subst hcs
    exact ⟨[], IntsIn.none W⟩
  · simp only [List.cons.injEq, and_true] at hcs
    subst hcs
    exact ⟨zs.take l, IntsIn.of hl hm (by simpa using hz) hcell hwz⟩
/-- the cells of a record that comes in -/
theorem rec_cells {H : Type} {enc : TypeId × Value → H} {W : World} {held : Bool} {n : Nat} {cs : List Value} {y : DataW H × List MemPlace} (h : DataW.trod enc Try.prog W 0 (fun _ => true) held n 79 cs = some y) :
    ∃ (r : Rec) (kv vv : Value), cs = [.int .i64 r.off, .int .i64 r.time, .bool r.hk, kv, .bool r.hv, vv] ∧ Ints W kv r.key ∧ Ints W vv r.val := by
  obtain ⟨hlen, m, hf⟩ := fields_of Try.underlying79 (by kernel_rfl) (by kernel_rfl) h
  match cs, hlen with
  | [c0, c1, c2, c3, c4, c5], _ =>
    obtain ⟨_, y0, e0, h0⟩ := hf 0 _ rfl
    obtain ⟨_, y1, e1, h1⟩ := hf 1 _ rfl
    obtain ⟨_, y2, e2, h2⟩ := hf 2 _ rfl
    obtain ⟨_, y3, e3, h3⟩ := hf 3 _ rfl
    obtain ⟨_, y4, e4, h4⟩ := hf 4 _ rfl
    obtain ⟨_, y5, e5, h5⟩ := hf 5 _ rfl
    cases e0
    cases e1
    cases e2
    cases e3
    cases e4
    cases e5
    obtain ⟨n0, f0, _, r0⟩ := DataW.trod_int Try.underlying3 h0
    obtain ⟨n1, f1, _, r1⟩ := DataW.trod_int Try.underlying3 h1
    obtain ⟨n2, f2, _⟩ := DataW.trod_bool Try.underlying4 h2
    obtain ⟨n4, f4, _⟩ := DataW.trod_bool Try.underlying4 h4
    obtain ⟨z3, i3⟩ := cell_Ints h3
    obtain ⟨z5, i5⟩ := cell_Ints h5
    cases f0
    cases f1
    cases f2
    cases f4
    exact ⟨⟨n0, n1, n2, z3, n4, z5⟩, _, _, rfl, i3.1, i5.1⟩
theorem cell_Recs {H : Type} {enc : TypeId × Value → H} {W : World} {held : Bool} {n : Nat} {c : Value} {y : DataW H × List MemPlace} (h : DataW.trod enc Try.prog W 0 (fun _ => true) held n 39 [c] = some y) : ∃ rs, Recs W c rs := by
  rcases Go.Deep.open_slice Try.underlying39 h with ⟨hcs, _⟩ | ⟨a, len, cap, m, k, D, Pl, hcs, _, hl, hm, hmm, _, hi⟩
  · simp only [List.cons.injEq, and_true] at hcs
    subst hcs
    exact ⟨[], Recs.none W⟩
  · simp only [List.cons.injEq, and_true] at hcs
    subst hcs
    have hC : Try.prog.cellsOf 79 = 6 := by kernel_rfl
    rw [hC] at hi
    have hex : ∀ i, i < len → ∃ r : Rec, ∃ kv vv, ∀ j v, [Value.int .i64 r.off, .int .i64 r.time, .bool r.hk, kv, .bool r.hv, vv][j]? = some v → W.cell? ((a.add (i * 6)).add j) = some v ∧ Ints W kv r.key ∧ Ints W vv r.val := fun i hil => by
      obtain ⟨cs', hc, ht'⟩ := hi i (by rw [hmm]; simp; omega)
      obtain ⟨_, hlen, hat⟩ := World.cells?_some hc
      obtain ⟨r, kv, vv, rfl, i1, i2⟩ := rec_cells ht'
      refine ⟨r, kv, vv, fun j v hj => ⟨?_, i1, i2⟩⟩
      have hjl : j < 6 := by
        have := (List.getElem?_eq_some_iff.1 hj).1
        simpa using this
      rw [hat j hjl, hj]
    by_cases h0 : len = 0
    · subst h0
      exact ⟨[], ⟨some a, cap, rfl, by simp, hm, fun h => by simp at h⟩⟩
    · have : Inhabited Rec := ⟨Rec.zero⟩
      obtain ⟨f, hf⟩ := Go.Deep.choose_lt hex
      obtain ⟨b, off, spot⟩ := a
      have hs : spot = none := by
        obtain ⟨kv, vv, hj⟩ := hf 0 (by omega)
        have := (hj 0 _ rfl).1
        simpa [Addr.add] using World.cell?_spot this
      subst hs
      refine ⟨(List.range len).map f, ⟨_, cap, by simp, by simpa using hl, hm, fun _ => ⟨b, off, rfl, fun i hil => ?_⟩⟩⟩
      have hil' : i < len := by simpa using hil
      have er : recAt ((List.range len).map f) i = f i := by
        rw [recAt_in hil]
        simp
      rw [er]
      obtain ⟨kv, vv, hj⟩ := hf i hil'
      refine ⟨kv, vv, ?_⟩
      have q : ∀ j v, [Value.int .i64 (f i).off, .int .i64 (f i).time, .bool (f i).hk, kv, .bool (f i).hv, vv][j]? = some v → W.cell? ⟨b, off + i * 6 + j, none⟩ = some v := fun j v h => by
        have := (hj j v h).1
        rwa [Addr.add_lit, Addr.add_lit] at this
      exact ⟨q 0 _ rfl, q 1 _ rfl, q 2 _ rfl, q 3 _ rfl, q 4 _ rfl, q 5 _ rfl, (hj 0 _ rfl).2.1, (hj 0 _ rfl).2.2⟩
set_option maxRecDepth 100000 in
/-- a batch as it comes in -/
theorem in_Batch {H : Type} {enc : TypeId × Value → H} {W : World} {held : Bool} {r : Reach} {b0 : Nat} {v : Value} {d : DataW H} {p : List MemPlace}
    (hv : Value.okWide Try.prog W r b0 41 v) (h : DataW.Trod enc Try.prog W 0 (fun _ => true) held 41 v d p) : ∃ z, BatV W v z := by
  obtain ⟨cs, rfl, hsz⟩ := okWide_struct Try.underlying41 hv
  obtain ⟨fuel, hfu⟩ := h
  obtain ⟨cs⟩ := cs
  have hfu' : DataW.trod enc Try.prog W 0 (fun _ => true) held fuel 41 cs = some (d, p) := hfu
  obtain ⟨hlen, m, hf⟩ := fields_of Try.underlying41 (by kernel_rfl) (by kernel_rfl) hfu'
  match cs, hlen with
  | [c0, c1, c2, c3, c4, c5], _ =>
    obtain ⟨_, y0, e0, h0⟩ := hf 0 _ rfl
    obtain ⟨_, y1, e1, h1⟩ := hf 1 _ rfl
    obtain ⟨_, y2, e2, h2⟩ := hf 2 _ rfl
    obtain ⟨_, y3, e3, h3⟩ := hf 3 _ rfl
    obtain ⟨_, y4, e4, h4⟩ := hf 4 _ rfl
    obtain ⟨_, y5, e5, h5⟩ := hf 5 _ rfl
    cases e0
    cases e1
    cases e2
    cases e3
    cases e4
    cases e5
    obtain ⟨n0, f0, _⟩ := DataW.trod_bool Try.underlying4 h0
    obtain ⟨n1, f1, _⟩ := DataW.trod_bool Try.underlying4 h1
    obtain ⟨n2, f2, _, r2⟩ := DataW.trod_int Try.underlying3 h2
    obtain ⟨n3, f3, _, r3⟩ := DataW.trod_int Try.underlying3 h3
    obtain ⟨n4, f4, _, r4⟩ := DataW.trod_int Try.underlying3 h4
    obtain ⟨z5, i5⟩ := cell_Recs h5
    cases f0
    cases f1
    cases f2
    cases f3
    cases f4
    exact ⟨⟨n0, n1, n2, n3, n4, z5⟩, _, rfl, i5⟩
/-- the cells of two boxes of batches, as the last comparison reads them -/
def TwoBats (W : World) (A X : Nat) (v0 v1 v2 v3 v4 r1 r2 : Value) : Prop :=
  W.cell? ⟨A, 0, none⟩ = some v0 ∧ W.cell? ⟨A, 1, none⟩ = some v1 ∧ W.cell? ⟨A, 2, none⟩ = some v2 ∧ W.cell? ⟨A, 3, none⟩ = some v3 ∧ W.cell? ⟨A, 4, none⟩ = some v4 ∧ W.cell? ⟨A, 5, none⟩ = some r1 ∧
  W.cell? ⟨X, 0, none⟩ = some v0 ∧ W.cell? ⟨X, 1, none⟩ = some v1 ∧ W.cell? ⟨X, 2, none⟩ = some v2 ∧ W.cell? ⟨X, 3, none⟩ = some v3 ∧ W.cell? ⟨X, 4, none⟩ = some v4 ∧ W.cell? ⟨X, 5, none⟩ = some r2
theorem two_bats {W : World} {A X : Nat} {v0 v1 v2 v3 v4 r1 r2 : Value} (h : Blk W A #[v0, v1, v2, v3, v4, r1]) (g : Blk W X #[v0, v1, v2, v3, v4, r2]) : TwoBats W A X v0 v1 v2 v3 v4 r1 r2 :=
  have a := h.sixC
  have b := g.sixC
  ⟨a.1, a.2.1, a.2.2.1, a.2.2.2.1, a.2.2.2.2.1, a.2.2.2.2.2, b⟩
set_option maxHeartbeats 2000000 in
theorem law_FnExactBatchValid (w : World) (v : Value) (b : Bat) (h : BatV w v b) : Calls Try.prog 7 #[v] w (Yes w) := by
  have hv := h
  obtain ⟨a, cap, rfl, hr, hl, hm⟩ := h.parts
  obtain ⟨packed, mark, prod, epoch, seq, recs⟩ := b
  simp only at hr hl hv ⊢
  clear h hr
  have bw := alloc_below' w (.cells #[.bool packed, .bool mark, .int .i64 prod, .int .i64 epoch, .int .i64 seq, .slice a recs.length cap] 41)
  have xA := Blk.made w #[.bool packed, .bool mark, .int .i64 prod, .int .i64 epoch, .int .i64 seq, .slice a recs.length cap] 41
  go_enter Try.func7, Try.ntmps7
  go_wp2_with fail
  generalize hwb : w.alloc (.cells #[.bool packed, .bool mark, .int .i64 prod, .int .i64 epoch, .int .i64 seq, .slice a recs.length cap] 41) = wb at bw xA ⊢
  clear hwb
  have hAl : w.heap.size < wb.heap.size := xA.lt
  obtain ⟨A, hA⟩ : ∃ A, w.heap.size = A := ⟨_, rfl⟩
  rw [hA] at xA hAl ⊢
  (with_reducible refine (laws_szBatch _ ⟨packed, mark, prod, epoch, seq, recs⟩ 1048576 wb (hv.below bw) (by omega) (by omega)).mono ?_)
  rintro e w1 ⟨⟨n, rfl, hn⟩, b1⟩
  have B1 := Bstep bw b1
  have x1 := xA.belowS b1
  have HA := Lib.hid hA
  clear xA hA
  rcases hn with ⟨rfl, hn⟩ | ⟨n0, hn⟩
  · clear hn
    go_wp2_with fail
    go_ret
    exact ⟨rfl, B1⟩
  have d0 : decide (n < 0) = false := decide_eq_false (by omega)
  have hsz : recs.length + szL recs ≤ 100000000 := by simp only at hn; omega
  have C3 : Hid (∀ wn, Below w.heap.size w wn → Calls Try.prog 22 #[.agg #[.bool packed, .bool mark, .int .i64 prod, .int .i64 epoch, .int .i64 seq, .slice a recs.length cap]] wn (BatCopy wn ⟨packed, mark, prod, epoch, seq, recs⟩)) := Lib.hid fun wn hw => laws_toBatch _ ⟨packed, mark, prod, epoch, seq, recs⟩ wn (hv.below hw) hsz
  have C1 : Hid (∀ wn u, BatV wn u ⟨packed, mark, prod, epoch, seq, recs⟩ → Calls Try.prog 20 #[u] wn (SaysB (batOk ⟨packed, mark, prod, epoch, seq, recs⟩) wn)) := Lib.hid fun wn u hu => spec_BatchValid u _ wn hu
  have C2 : Hid (∀ wn u, BatV wn u ⟨packed, mark, prod, epoch, seq, recs⟩ → Calls Try.prog 19 #[u] wn (SaysB (batOk ⟨packed, mark, prod, epoch, seq, recs⟩) wn)) := Lib.hid fun wn u hu => impl_BatchValid u _ wn hu
  have C4 : Hid (∀ wn u v, BatV wn u ⟨packed, mark, prod, epoch, seq, recs⟩ → BatV wn v ⟨packed, mark, prod, epoch, seq, recs⟩ → Calls Try.prog 23 #[u, v] wn (Same wn true)) := Lib.hid fun wn u v hu hv => laws_eqBatch u v _ wn hu hv
  obtain ⟨ob, hb⟩ : ∃ ob, batOk ⟨packed, mark, prod, epoch, seq, recs⟩ = ob := ⟨_, rfl⟩
  rw [hb] at C1 C2
  have hbb : (ob != ob) = false := by simp
  clear hb
  clear hn bw b1 hAl hsz
  obtain ⟨c0, c1, c2, c3, c4, c5⟩ := x1.sixC
  go_wp2_with fail
  (with_reducible refine (C3.out w1 B1).mono ?_)
  rintro e w2 ⟨v2, rfl, own2, b2⟩
  have B2 := Bstep B1 b2
  have x2 := x1.belowS b2
  clear c0 c1 c2 c3 c4 c5
  go_wp2_with fail
  (with_reducible refine (C1.out w2 v2 own2.batV).mono ?_)
  rintro e w3 ⟨rfl, b3⟩
  have B3 := Bstep B2 b3
  have x3 := x2.belowS b3
  clear x1 x2 own2 b2 b3 B2 B1
  obtain ⟨c0, c1, c2, c3, c4, c5⟩ := x3.sixC
  go_wp2_with fail
  (with_reducible refine (C3.out w3 B3).mono ?_)
  rintro e w4 ⟨v4, rfl, own4, b4⟩
  have B4 := Bstep B3 b4
  have x4 := x3.belowS b4
  obtain ⟨r4, rfl, o4⟩ := own4
  simp only at o4
  obtain ⟨a5, cap5, rfl⟩ := o4.form
  clear c0 c1 c2 c3 c4 c5 x3 B3
  have bx := alloc_below' w4 (.cells #[.bool packed, .bool mark, .int .i64 prod, .int .i64 epoch, .int .i64 seq, .slice a5 recs.length cap5] 25)
  have xx := Blk.made w4 #[.bool packed, .bool mark, .int .i64 prod, .int .i64 epoch, .int .i64 seq, .slice a5 recs.length cap5] 25
  go_wp2_with fail
  generalize hw5 : w4.alloc (.cells #[.bool packed, .bool mark, .int .i64 prod, .int .i64 epoch, .int .i64 seq, .slice a5 recs.length cap5] 25) = w5 at bx xx ⊢
  obtain ⟨X, hX⟩ : ∃ X, w4.heap.size = X := ⟨_, rfl⟩
  have x5 := x4.belowS bx
  have B5 := Bstep B4 bx
  have o5 := o4.below bx
  rw [hX] at xx ⊢
  clear hw5 x4 B4 bx o4 hX
  have hx5 : BatV w5 (.agg #[.bool packed, .bool mark, .int .i64 prod, .int .i64 epoch, .int .i64 seq, .slice a5 recs.length cap5]) ⟨packed, mark, prod, epoch, seq, recs⟩ := ⟨_, rfl, o5.recs⟩
  (with_reducible refine (C2.out w5 _ hx5).mono ?_)
  rintro e w6 ⟨rfl, b6⟩
  have B6 := Bstep B5 b6
  have x6 := x5.belowS b6
  have xx6 := xx.belowS b6
  have o6 := o5.below b6
  clear x5 B5 b6 xx o5
  have HS : Hid (∀ W, Below w6.heap.size w6 W → TwoBats W A X (.bool packed) (.bool mark) (.int .i64 prod) (.int .i64 epoch) (.int .i64 seq) (.slice a recs.length cap) (.slice a5 recs.length cap5)) := Lib.hid fun W hW => two_bats (x6.belowS hW) (xx6.belowS hW)
  have bdr : Below w6.heap.size w6 w6.drew := below_drewN (Below.refl _ _) 1
  have S6 := HS.out w6.drew bdr
  have D3 := Lib.hid (C3.out w6.drew (Bstep B6 bdr))
  have D4 : Hid (∀ W u, Below w6.heap.size w6 W → BatV W u ⟨packed, mark, prod, epoch, seq, recs⟩ → Calls Try.prog 23 #[.agg #[.bool packed, .bool mark, .int .i64 prod, .int .i64 epoch, .int .i64 seq, .slice a5 recs.length cap5], u] W (Same W true)) := Lib.hid fun W u hW hu => C4.out W _ u ⟨_, rfl, (o6.below hW).recs⟩ hu
  cases ob
  all_goals
    go_wp2_with fail
    unfold TwoBats at S6
    go_region_held3 (fun W => W.cell? ⟨A, 0, none⟩ = some (.bool packed) ∧ W.cell? ⟨A, 1, none⟩ = some (.bool mark) ∧ W.cell? ⟨A, 2, none⟩ = some (.int .i64 prod) ∧ W.cell? ⟨A, 3, none⟩ = some (.int .i64 epoch) ∧ W.cell? ⟨A, 4, none⟩ = some (.int .i64 seq) ∧ W.cell? ⟨A, 5, none⟩ = some (.slice a recs.length cap) ∧ W.cell? ⟨X, 0, none⟩ = some (.bool packed) ∧ W.cell? ⟨X, 1, none⟩ = some (.bool mark) ∧ W.cell? ⟨X, 2, none⟩ = some (.int .i64 prod) ∧ W.cell? ⟨X, 3, none⟩ = some (.int .i64 epoch) ∧ W.cell? ⟨X, 4, none⟩ = some (.int .i64 seq) ∧ W.cell? ⟨X, 5, none⟩ = some (.slice a5 recs.length cap5)) (first | with_reducible exact S6 | exact HS.out _ (Bstep bdr b7) | exact HS.out _ (Bstep (Bstep bdr b7) b8) | go_keep)
      (first
        | (go_at_call 22; ((with_reducible refine D3.out.mono ?_); rintro e w7 ⟨v7, rfl, own7, b7⟩))
        | (go_at_call 23; ((with_reducible refine (D4.out _ _ (Bstep bdr b7) own7.batV).mono ?_); rintro e w8 ⟨rfl, b8⟩)))
    go_wp2_with fail
    go_ret
    exact ⟨rfl, B6.trans ((Bstep (Bstep bdr b7) b8).mono B6.size)⟩
set_option maxHeartbeats 2000000 in
theorem law_FnExactBatchSpan (w : World) (v : Value) (b : Bat) (h : BatV w v b) : Calls Try.prog 9 #[v] w (Yes w) := by
  have hv := h
  obtain ⟨a, cap, rfl, hr, hl, hm⟩ := h.parts
  obtain ⟨packed, mark, prod, epoch, seq, recs⟩ := b
  simp only at hr hl hv ⊢
  clear h hr
  have bw := alloc_below' w (.cells #[.bool packed, .bool mark, .int .i64 prod, .int .i64 epoch, .int .i64 seq, .slice a recs.length cap] 41)
  have xA := Blk.made w #[.bool packed, .bool mark, .int .i64 prod, .int .i64 epoch, .int .i64 seq, .slice a recs.length cap] 41
  go_enter Try.func9, Try.ntmps9
  go_wp2_with fail
  generalize hwb : w.alloc (.cells #[.bool packed, .bool mark, .int .i64 prod, .int .i64 epoch, .int .i64 seq, .slice a recs.length cap] 41) = wb at bw xA ⊢
  clear hwb
  have hAl : w.heap.size < wb.heap.size := xA.lt
  obtain ⟨A, hA⟩ : ∃ A, w.heap.size = A := ⟨_, rfl⟩
  rw [hA] at xA hAl ⊢
  (with_reducible refine (laws_szBatch _ ⟨packed, mark, prod, epoch, seq, recs⟩ 1048576 wb (hv.below bw) (by omega) (by omega)).mono ?_)
  rintro e w1 ⟨⟨n, rfl, hn⟩, b1⟩
  have B1 := Bstep bw b1
  have x1 := xA.belowS b1
  have HA := Lib.hid hA
  clear xA hA
  rcases hn with ⟨rfl, hn⟩ | ⟨n0, hn⟩
  · clear hn
    go_wp2_with fail
    go_ret
    exact ⟨rfl, B1⟩
  have d0 : decide (n < 0) = false := decide_eq_false (by omega)
  have hsz : recs.length + szL recs ≤ 100000000 := by simp only at hn; omega
  have C3 : Hid (∀ wn, Below w.heap.size w wn → Calls Try.prog 22 #[.agg #[.bool packed, .bool mark, .int .i64 prod, .int .i64 epoch, .int .i64 seq, .slice a recs.length cap]] wn (BatCopy wn ⟨packed, mark, prod, epoch, seq, recs⟩)) := Lib.hid fun wn hw => laws_toBatch _ ⟨packed, mark, prod, epoch, seq, recs⟩ wn (hv.below hw) hsz
  have C1 : Hid (∀ wn u, BatV wn u ⟨packed, mark, prod, epoch, seq, recs⟩ → Calls Try.prog 17 #[u] wn (SpanRes ⟨packed, mark, prod, epoch, seq, recs⟩ wn)) := Lib.hid fun wn u hu => spec_BatchSpan u _ wn hu
  have C2 : Hid (∀ wn u, BatV wn u ⟨packed, mark, prod, epoch, seq, recs⟩ → Calls Try.prog 16 #[u] wn (SpanRes ⟨packed, mark, prod, epoch, seq, recs⟩ wn)) := Lib.hid fun wn u hu => impl_BatchSpan u _ wn hu
  have C4 : Hid (∀ wn u v, BatV wn u ⟨packed, mark, prod, epoch, seq, recs⟩ → BatV wn v ⟨packed, mark, prod, epoch, seq, recs⟩ → Calls Try.prog 23 #[u, v] wn (Same wn true)) := Lib.hid fun wn u v hu hv => laws_eqBatch u v _ wn hu hv
  unfold SpanRes at C1 C2
  obtain ⟨ob, hb⟩ : ∃ ob, batOk ⟨packed, mark, prod, epoch, seq, recs⟩ = ob := ⟨_, rfl⟩
  obtain ⟨f1, hf1⟩ : ∃ x, spanF ⟨packed, mark, prod, epoch, seq, recs⟩ = x := ⟨_, rfl⟩
  obtain ⟨f2, hf2⟩ : ∃ x, spanL ⟨packed, mark, prod, epoch, seq, recs⟩ = x := ⟨_, rfl⟩
  rw [hb, hf1, hf2] at C1 C2
  have hbb : (ob != ob) = false := by simp
  have hff : (f1 != f1) = false := by simp
  have hgg : (f2 != f2) = false := by simp
  clear hb hf1 hf2
  clear hn bw b1 hAl hsz
  obtain ⟨c0, c1, c2, c3, c4, c5⟩ := x1.sixC
  go_wp2_with fail
  (with_reducible refine (C3.out w1 B1).mono ?_)
  rintro e w2 ⟨v2, rfl, own2, b2⟩
  have B2 := Bstep B1 b2
  have x2 := x1.belowS b2
  clear c0 c1 c2 c3 c4 c5
  go_wp2_with fail
  (with_reducible refine (C1.out w2 v2 own2.batV).mono ?_)
  rintro e w3 ⟨rfl, b3⟩
  have B3 := Bstep B2 b3
  have x3 := x2.belowS b3
  clear x1 x2 own2 b2 b3 B2 B1
  obtain ⟨c0, c1, c2, c3, c4, c5⟩ := x3.sixC
  go_wp2_with fail
  (with_reducible refine (C3.out w3 B3).mono ?_)
  rintro e w4 ⟨v4, rfl, own4, b4⟩
  have B4 := Bstep B3 b4
  have x4 := x3.belowS b4
  obtain ⟨r4, rfl, o4⟩ := own4
  simp only at o4
  obtain ⟨a5, cap5, rfl⟩ := o4.form
  clear c0 c1 c2 c3 c4 c5 x3 B3
  have bx := alloc_below' w4 (.cells #[.bool packed, .bool mark, .int .i64 prod, .int .i64 epoch, .int .i64 seq, .slice a5 recs.length cap5] 25)
  have xx := Blk.made w4 #[.bool packed, .bool mark, .int .i64 prod, .int .i64 epoch, .int .i64 seq, .slice a5 recs.length cap5] 25
  go_wp2_with fail
  generalize hw5 : w4.alloc (.cells #[.bool packed, .bool mark, .int .i64 prod, .int .i64 epoch, .int .i64 seq, .slice a5 recs.length cap5] 25) = w5 at bx xx ⊢
  obtain ⟨X, hX⟩ : ∃ X, w4.heap.size = X := ⟨_, rfl⟩
  have x5 := x4.belowS bx
  have B5 := Bstep B4 bx
  have o5 := o4.below bx
  rw [hX] at xx ⊢
  clear hw5 x4 B4 bx o4 hX
  have hx5 : BatV w5 (.agg #[.bool packed, .bool mark, .int .i64 prod, .int .i64 epoch, .int .i64 seq, .slice a5 recs.length cap5]) ⟨packed, mark, prod, epoch, seq, recs⟩ := ⟨_, rfl, o5.recs⟩
  (with_reducible refine (C2.out w5 _ hx5).mono ?_)
  rintro e w6 ⟨rfl, b6⟩
  have B6 := Bstep B5 b6
  have x6 := x5.belowS b6
  have xx6 := xx.belowS b6
  have o6 := o5.below b6
  clear x5 B5 b6 xx o5
  have HS : Hid (∀ W, Below w6.heap.size w6 W → TwoBats W A X (.bool packed) (.bool mark) (.int .i64 prod) (.int .i64 epoch) (.int .i64 seq) (.slice a recs.length cap) (.slice a5 recs.length cap5)) := Lib.hid fun W hW => two_bats (x6.belowS hW) (xx6.belowS hW)
  have bdr : Below w6.heap.size w6 w6.drew := below_drewN (Below.refl _ _) 1
  have S6 := HS.out w6.drew bdr
  have D3 := Lib.hid (C3.out w6.drew (Bstep B6 bdr))
  have D4 : Hid (∀ W u, Below w6.heap.size w6 W → BatV W u ⟨packed, mark, prod, epoch, seq, recs⟩ → Calls Try.prog 23 #[.agg #[.bool packed, .bool mark, .int .i64 prod, .int .i64 epoch, .int .i64 seq, .slice a5 recs.length cap5], u] W (Same W true)) := Lib.hid fun W u hW hu => C4.out W _ u ⟨_, rfl, (o6.below hW).recs⟩ hu
  cases ob
  all_goals
    go_wp2_with fail
    unfold TwoBats at S6
    go_region_held3 (fun W => W.cell? ⟨A, 0, none⟩ = some (.bool packed) ∧ W.cell? ⟨A, 1, none⟩ = some (.bool mark) ∧ W.cell? ⟨A, 2, none⟩ = some (.int .i64 prod) ∧ W.cell? ⟨A, 3, none⟩ = some (.int .i64 epoch) ∧ W.cell? ⟨A, 4, none⟩ = some (.int .i64 seq) ∧ W.cell? ⟨A, 5, none⟩ = some (.slice a recs.length cap) ∧ W.cell? ⟨X, 0, none⟩ = some (.bool packed) ∧ W.cell? ⟨X, 1, none⟩ = some (.bool mark) ∧ W.cell? ⟨X, 2, none⟩ = some (.int .i64 prod) ∧ W.cell? ⟨X, 3, none⟩ = some (.int .i64 epoch) ∧ W.cell? ⟨X, 4, none⟩ = some (.int .i64 seq) ∧ W.cell? ⟨X, 5, none⟩ = some (.slice a5 recs.length cap5)) (first | with_reducible exact S6 | exact HS.out _ (Bstep bdr b7) | exact HS.out _ (Bstep (Bstep bdr b7) b8) | go_keep)
      (first
        | (go_at_call 22; ((with_reducible refine D3.out.mono ?_); rintro e w7 ⟨v7, rfl, own7, b7⟩))
        | (go_at_call 23; ((with_reducible refine (D4.out _ _ (Bstep bdr b7) own7.batV).mono ?_); rintro e w8 ⟨rfl, b8⟩)))
    go_wp2_with fail
    go_ret
    exact ⟨rfl, B6.trans ((Bstep (Bstep bdr b7) b8).mono B6.size)⟩
end Go.Proofs.Ytaakcikjdphocaa
