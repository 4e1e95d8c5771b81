/- Chapter 21: exact laws on producers and a batch. -/
import Derived.Test.YtlppnhkgadcgdaaW21c
import Derived.Test.YtlppnhkgadcgdaaT12b
import Derived.Test.YtlppnhkgadcgdaaK12
import Derived.Test.YtlppnhkgadcgdaaK5
namespace Go.Proofs.Ytlppnhkgadcgdaa
open Go.ChangeShapes Go.WideShapes Go.ChangeAt Go.RowKit
set_option linter.unusedVariables false

set_option maxHeartbeats 4000000 in
theorem law_FnExactProducersCheck (w : World) (v : Value) (ts : List Trm) (h : Ts w v ts) (u : Value) (b : Bat) (g : BatV w u b) : Calls Try.prog 3 #[v, u] w (Yes w) := by
  have hv := h
  obtain ⟨al, cl, rfl, hll, hlm, hlc⟩ := h
  unfold maxLen at hlm
  clear hlc
  have hu := g
  obtain ⟨a, cap, rfl, hr, hl, hm⟩ := g.parts
  obtain ⟨packed, mark, prod, epoch, seq, recs⟩ := b
  simp only at hr hl hu ⊢
  clear g hr
  have bw := alloc_below' w (.cells #[.bool packed, .bool mark, .int .i64 prod, .int .i64 epoch, .int .i64 seq, .slice a recs.length cap] 25)
  have xA := Blk.made w #[.bool packed, .bool mark, .int .i64 prod, .int .i64 epoch, .int .i64 seq, .slice a recs.length cap] 25
  go_enter Try.func3, Try.ntmps3
  go_wp2_with fail
  generalize hwb : w.alloc (.cells #[.bool packed, .bool mark, .int .i64 prod, .int .i64 epoch, .int .i64 seq, .slice a recs.length cap] 25) = wb at bw xA ⊢
  clear hwb
  obtain ⟨A, hA⟩ : ∃ A, w.heap.size = A := ⟨_, rfl⟩
  rw [hA] at xA ⊢
  have HA := Lib.hid hA
  clear hA
  have C0 := Lib.hid (laws_szProducerS (.slice al ts.length cl) ts 1048576 wb (hv.below bw) (by omega) (by omega))
  unfold SzResT at C0
  by_cases hlen : (1048576 : Int) - (ts.length : Int) < 0
  · rw [if_pos hlen] at C0
    have H0 := Lib.hid hlen
    clear hlen
    refine C0.out.mono ?_
    rintro e w1 ⟨rfl, rfl⟩
    go_wp2_with fail
    go_ret
    exact ⟨rfl, bw⟩
  rw [if_neg hlen] at C0
  have D0 := Lib.hid (laws_szBatch _ ⟨packed, mark, prod, epoch, seq, recs⟩ (1048576 - (ts.length : Int)) wb (hu.below bw) (by omega) (by omega))
  have dl : decide ((1048576 : Int) - (ts.length : Int) < 0) = false := decide_eq_false hlen
  have hts : ts.length ≤ 1000000000 := by omega
  have HL := Lib.hid hlen
  clear hlen
  refine C0.out.mono ?_
  rintro e w1 ⟨rfl, rfl⟩
  obtain ⟨c0, c1, c2, c3, c4, c5⟩ := xA.sixC
  go_wp2_with fail
  (with_reducible refine D0.out.mono ?_)
  rintro e w1 ⟨⟨n, rfl, hn⟩, b1⟩
  have B1 := Bstep bw b1
  have x1 := xA.belowS b1
  clear c0 c1 c2 c3 c4 c5 xA bw b1 C0 D0
  rcases hn with ⟨rfl, hn⟩ | ⟨n0, hn⟩
  · clear hn
    go_wp2_with fail
    go_ret
    exact ⟨rfl, B1⟩
  have d0 : decide (n < 0) = false := decide_eq_false (by omega)
  have hsz : recs.length + szL recs ≤ 100000000 := by have := HL.out; omega
  clear hn HL
  have C3 : Hid (∀ W, Below w.heap.size w W → Calls Try.prog 18 #[.slice al ts.length cl] W (CopyT W ts)) := Lib.hid fun W hW => laws_toProducerS _ ts W (hv.below hW) hts
  have D3 : Hid (∀ W, Below w.heap.size w W → Calls Try.prog 19 #[.agg #[.bool packed, .bool mark, .int .i64 prod, .int .i64 epoch, .int .i64 seq, .slice a recs.length cap]] W (BatCopy W ⟨packed, mark, prod, epoch, seq, recs⟩)) := Lib.hid fun W hW => laws_toBatch _ ⟨packed, mark, prod, epoch, seq, recs⟩ W (hu.below hW) hsz
  have C6 : Hid (∀ W u v ss, Ts W u ss → Ts W v ss → Calls Try.prog 21 #[u, v] W (Same W true)) := Lib.hid fun W u v ss hu hv => laws_eqProducerS u v ss W hu hv
  have D6 : Hid (∀ W u v, BatV W u ⟨packed, mark, prod, epoch, seq, recs⟩ → BatV W v ⟨packed, mark, prod, epoch, seq, recs⟩ → Calls Try.prog 22 #[u, v] W (Same W true)) := Lib.hid fun W u v hu hv => laws_eqBatch u v _ W hu hv
  clear hts hsz n0
  have C1 : Hid (∀ W u v, Ts W u ts → BatV W v ⟨packed, mark, prod, epoch, seq, recs⟩ → Calls Try.prog 17 #[u, v] W (SaysN (checkP ts ⟨packed, mark, prod, epoch, seq, recs⟩) W)) := Lib.hid fun W u v hu hv => spec_ProducersCheck u v ts _ W hu hv
  have C2 : Hid (∀ W u v, Ts W u ts → BatV W v ⟨packed, mark, prod, epoch, seq, recs⟩ → Calls Try.prog 20 #[u, v] W (SaysN (checkP ts ⟨packed, mark, prod, epoch, seq, recs⟩) W)) := Lib.hid fun W u v hu hv => impl_ProducersCheck u v ts _ W hu hv
  obtain ⟨N, hN⟩ : ∃ N, checkP ts ⟨packed, mark, prod, epoch, seq, recs⟩ = N := ⟨_, rfl⟩
  rw [hN] at C1 C2
  clear hN
  have hNN : (N != N) = false := by simp
  go_upto_region 8 with (fail)
  have HS : Hid (∀ W, Below w1.heap.size w1 W → W.cell? ⟨A, 0, none⟩ = some (.bool packed) ∧ W.cell? ⟨A, 1, none⟩ = some (.bool mark) ∧ W.cell? ⟨A, 2, none⟩ = some (.int .i64 prod) ∧ W.cell? ⟨A, 3, none⟩ = some (.int .i64 epoch) ∧ W.cell? ⟨A, 4, none⟩ = some (.int .i64 seq) ∧ W.cell? ⟨A, 5, none⟩ = some (.slice a recs.length cap)) := Lib.hid fun W hW => (x1.belowS hW).sixC
  have bdr : Below w1.heap.size w1 w1.drew := below_drewN (Below.refl _ _) 1
  have S1 := HS.out _ bdr
  have E0 := Bstep B1 bdr
  go_region_held3 (fun W => W.cell? ⟨A, 0, none⟩ = some (.bool packed) ∧ W.cell? ⟨A, 1, none⟩ = some (.bool mark) ∧ W.cell? ⟨A, 2, none⟩ = some (.int .i64 prod) ∧ W.cell? ⟨A, 3, none⟩ = some (.int .i64 epoch) ∧ W.cell? ⟨A, 4, none⟩ = some (.int .i64 seq) ∧ W.cell? ⟨A, 5, none⟩ = some (.slice a recs.length cap))
    (first | with_reducible exact S1 | exact HS.out _ (Bstep (Bstep (Bstep bdr b7) b8) b9) | exact HS.out _ (Bstep (Bstep bdr b7) b8) | exact HS.out _ (Bstep bdr b7) | go_keep)
    (first | (go_at_call 18; ((with_reducible refine (C3.out _ E0).mono ?_); rintro e w7 ⟨v7, rfl, own7, b7⟩))
           | (go_at_call 19; ((with_reducible refine (D3.out _ (Bstep E0 b7)).mono ?_); rintro e w8 ⟨v8, rfl, own8, b8⟩))
           | (go_at_call 17; ((with_reducible refine (C1.out _ _ _ (own7.below b8).ts own8.batV).mono ?_); rintro e w9 ⟨rfl, b9⟩)))
  have B9 := Bstep (Bstep (Bstep bdr b7) b8) b9
  have B2 := B1.trans (B9.mono B1.size)
  have x2 := x1.belowS B9
  clear x1 B1 HS S1 E0 bdr own7 b7 own8 b8 b9 B9 C1
  obtain ⟨c0, c1, c2, c3, c4, c5⟩ := x2.sixC
  go_wp2_with fail
  (with_reducible refine (C3.out w9 B2).mono ?_)
  rintro e w3 ⟨v3, rfl, own3, b3⟩
  have B3 := Bstep B2 b3
  have x3 := x2.belowS b3
  clear c0 c1 c2 c3 c4 c5 x2
  obtain ⟨c0, c1, c2, c3, c4, c5⟩ := x3.sixC
  go_wp2_with fail
  (with_reducible refine (D3.out w3 B3).mono ?_)
  rintro e w4 ⟨v4, rfl, own4, b4⟩
  have B4 := Bstep B3 b4
  have x4 := x3.belowS b4
  have own34 := own3.below b4
  obtain ⟨r4, rfl, o4⟩ := own4
  simp only at o4
  obtain ⟨a5, cap5, rfl⟩ := o4.form
  clear c0 c1 c2 c3 c4 c5 x3 B3 b3 b4 own3
  have bx := alloc_below' w4 (.cells #[.bool packed, .bool mark, .int .i64 prod, .int .i64 epoch, .int .i64 seq, .slice a5 recs.length cap5] 33)
  have xx := Blk.made w4 #[.bool packed, .bool mark, .int .i64 prod, .int .i64 epoch, .int .i64 seq, .slice a5 recs.length cap5] 33
  go_wp2_with fail
  generalize hw5 : w4.alloc (.cells #[.bool packed, .bool mark, .int .i64 prod, .int .i64 epoch, .int .i64 seq, .slice a5 recs.length cap5] 33) = w5 at bx xx ⊢
  obtain ⟨X, hX⟩ : ∃ X, w4.heap.size = X := ⟨_, rfl⟩
  have x5 := x4.belowS bx
  have B5 := Bstep B4 bx
  have o5 := o4.below bx
  have own35 := own34.below bx
  rw [hX] at xx ⊢
  clear hw5 x4 B4 bx o4 hX own34
  have hx5 : BatV w5 (.agg #[.bool packed, .bool mark, .int .i64 prod, .int .i64 epoch, .int .i64 seq, .slice a5 recs.length cap5]) ⟨packed, mark, prod, epoch, seq, recs⟩ := ⟨_, rfl, o5.recs⟩
  (with_reducible refine (C2.out w5 _ _ own35.ts hx5).mono ?_)
  rintro e w6 ⟨rfl, b6⟩
  have B6 := Bstep B5 b6
  have x6 := x5.belowS b6
  have xx6 := xx.belowS b6
  have o6 := o5.below b6
  have own36 := own35.below b6
  clear x5 B5 b6 xx o5 hx5 own35 C2
  obtain ⟨al3, cl3, rfl⟩ := own36.form'
  go_wp2_with fail
  (with_reducible refine (C3.out w6 B6).mono ?_)
  rintro e w7 ⟨v7, rfl, own7, b7⟩
  have B7 := Bstep B6 b7
  have x7 := x6.belowS b7
  have xx7 := xx6.belowS b7
  have o7 := o6.below b7
  have own37 := own36.below b7
  clear x6 xx6 o6 own36 b7 B6
  go_wp2_with fail
  (with_reducible refine (C6.out w7 _ _ _ own37.ts own7.ts).mono ?_)
  rintro e w8 ⟨rfl, b8⟩
  have B8 := Bstep B7 b8
  have x8 := x7.belowS b8
  have xx8 := xx7.belowS b8
  have o8 := o7.below b8
  clear x7 xx7 o7 own37 own7 b8 B7
  have HS : Hid (∀ W, Below w8.heap.size w8 W → TwoBats W A X (.bool packed) (.bool mark) (.int .i64 prod) (.int .i64 epoch) (.int .i64 seq) (.slice a recs.length cap) (.slice a5 recs.length cap5)) := Lib.hid fun W hW => two_bats (x8.belowS hW) (xx8.belowS hW)
  have bdr : Below w8.heap.size w8 w8.drew := below_drewN (Below.refl _ _) 1
  have S6 := HS.out w8.drew bdr
  have E3 := Lib.hid (D3.out w8.drew (Bstep B8 bdr))
  have E4 : Hid (∀ W u, Below w8.heap.size w8 W → BatV W u ⟨packed, mark, prod, epoch, seq, recs⟩ → Calls Try.prog 22 #[.agg #[.bool packed, .bool mark, .int .i64 prod, .int .i64 epoch, .int .i64 seq, .slice a5 recs.length cap5], u] W (Same W true)) := Lib.hid fun W u hW hu => D6.out W _ u ⟨_, rfl, (o8.below hW).recs⟩ hu
  go_upto_region 16 with (fail)
  unfold TwoBats at S6
  go_region_held3 (fun W => W.cell? ⟨A, 0, none⟩ = some (.bool packed) ∧ W.cell? ⟨A, 1, none⟩ = some (.bool mark) ∧ W.cell? ⟨A, 2, none⟩ = some (.int .i64 prod) ∧ W.cell? ⟨A, 3, none⟩ = some (.int .i64 epoch) ∧ W.cell? ⟨A, 4, none⟩ = some (.int .i64 seq) ∧ W.cell? ⟨A, 5, none⟩ = some (.slice a recs.length cap) ∧ W.cell? ⟨X, 0, none⟩ = some (.bool packed) ∧ W.cell? ⟨X, 1, none⟩ = some (.bool mark) ∧ W.cell? ⟨X, 2, none⟩ = some (.int .i64 prod) ∧ W.cell? ⟨X, 3, none⟩ = some (.int .i64 epoch) ∧ W.cell? ⟨X, 4, none⟩ = some (.int .i64 seq) ∧ W.cell? ⟨X, 5, none⟩ = some (.slice a5 recs.length cap5)) (first | with_reducible exact S6 | exact HS.out _ (Bstep bdr b7) | exact HS.out _ (Bstep (Bstep bdr b7) b9) | go_keep)
    (first
      | (go_at_call 19; ((with_reducible refine E3.out.mono ?_); rintro e w7 ⟨v7, rfl, own7, b7⟩))
      | (go_at_call 22; ((with_reducible refine (E4.out _ _ (Bstep bdr b7) own7.batV).mono ?_); rintro e w9 ⟨rfl, b9⟩)))
  go_wp2_with fail
  go_ret
  exact ⟨rfl, B8.trans ((Bstep (Bstep bdr b7) b9).mono B8.size)⟩
end Go.Proofs.Ytlppnhkgadcgdaa
