/- Chapter 13: laws of the entry that is found. -/
import Derived.Test.YtlifglljneaknaaK8
import Derived.Test.YtlifglljneaknaaD8
import Derived.Test.YtlifglljneaknaaW8g
namespace Go.Proofs.Ytlifglljneaknaa
open Go.ChangeShapes Go.WideShapes Go.ChangeAt Go.RowKit
set_option linter.unusedVariables false

set_option maxHeartbeats 1000000 in
theorem law_FnExactIndexFind (w : World) (v : Value) (ts : List Trm) (h : Ts w v ts) (o : Int) (ho : I64 o) : Calls Try.prog 5 #[v, .int .i64 o] w (Yes w) := by
  have hv := h
  obtain ⟨a, cap, rfl, hl, hm, hc⟩ := h
  unfold maxLen at hm
  clear hc
  have C0 := Lib.hid (laws_szEntryS (.slice a ts.length cap) ts 1048576 w hv (by omega) (by omega))
  unfold SzRes at C0
  by_cases hlen : (1048576 : Int) - (ts.length : Int) < 0
  · rw [if_pos hlen] at C0
    go_enter Try.func5, Try.ntmps5
    go_wp2_with fail
    refine C0.out.mono ?_
    rintro e w1 ⟨rfl, rfl⟩
    go_wp2_with fail
    go_ret
    exact ⟨rfl, Below.refl _ _⟩
  · rw [if_neg hlen] at C0
    have C3 : Hid (∀ W, Below w.heap.size w W → Calls Try.prog 11 #[.slice a ts.length cap] W (CopyT W ts)) := Lib.hid fun W hW => laws_toEntryS _ ts W (hv.below hW) (by omega)
    have C1 : Hid (∀ W u, Ts W u ts → Calls Try.prog 8 #[u, .int .i64 o] W (FoundR W ts o)) := Lib.hid fun W u hu => spec_IndexFind u ts o W hu
    have C2 : Hid (∀ W u, Ts W u ts → Calls Try.prog 7 #[u, .int .i64 o] W (FoundR W ts o)) := Lib.hid fun W u hu => impl_IndexFind u ts o W hu
    have C6 : Hid (∀ W u v, Ts W u ts → Ts W v ts → Calls Try.prog 13 #[u, v] W (Same W true)) := Lib.hid fun W u v hu hv => laws_eqEntryS u v ts W hu hv
    go_enter Try.func5, Try.ntmps5
    go_wp2_with fail
    refine C0.out.mono ?_
    rintro e w0 ⟨rfl, rfl⟩
    go_wp2_with fail
    refine (C3.out w (Below.refl _ _)).mono ?_
    rintro e w1 ⟨v1, rfl, own1, b1⟩
    go_wp2_with fail
    refine (C1.out w1 v1 own1.ts).mono ?_
    rintro e w2 ⟨⟨p, q⟩, b, rfl, hF, b2⟩
    have B2 := Bstep b1 b2
    have bX := alloc_below' w2 (.cells #[.int .i64 p, .int .i64 q] 27)
    have xX := Blk.made w2 #[.int .i64 p, .int .i64 q] 27
    clear own1 b1 b2
    go_wp2_with fail
    generalize w2.alloc (.cells #[.int .i64 p, .int .i64 q] 27) = w3 at xX bX ⊢
    obtain ⟨X, hX⟩ : ∃ X, w2.heap.size = X := ⟨_, rfl⟩
    have B3 := Bstep B2 bX
    rw [hX] at xX ⊢
    clear hX bX B2
    refine (C3.out w3 B3).mono ?_
    rintro e w4 ⟨v4, rfl, own4, b4⟩
    have B4 := Bstep B3 b4
    have x4 := xX.belowS b4
    clear B3 b4 xX
    go_wp2_with fail
    refine (C2.out w4 v4 own4.ts).mono ?_
    rintro e w5 ⟨⟨p', q'⟩, b', rfl, hF', b5⟩
    obtain ⟨e1, rfl⟩ := hF.uniq hF'
    simp only [Trm.mk.injEq] at e1
    obtain ⟨rfl, rfl⟩ := e1
    have B5 := Bstep B4 b5
    have x5 := x4.belowS b5
    have own5 := own4.below b5
    clear B4 b5 x4 own4 hF hF'
    have bY := alloc_below' w5 (.cells #[.int .i64 p, .int .i64 q] 27)
    have xY := Blk.made w5 #[.int .i64 p, .int .i64 q] 27
    have x6 := x5.belowS bY
    have own6 := own5.below bY
    have B6 := Bstep B5 bY
    have q0 := x6.cell 0
    have q1 := x6.cell 1
    have C5 : Hid (∀ W, Calls Try.prog 12 #[.agg #[.int .i64 p, .int .i64 q], .agg #[.int .i64 p, .int .i64 q]] W (Same W true)) := Lib.hid fun W => laws_eqEntry p q W
    have hbb : (b != b) = false := by simp
    clear x5 own5 B5
    go_wp2_with fail
    refine (C5.out _).mono ?_
    rintro e w7 ⟨rfl, b7⟩
    have own7 := own6.below b7
    have B7 := Bstep B6 b7
    clear own6 B6 b7 xY bY x6 q0 q1
    go_wp2_with fail
    refine (C3.out w7 B7).mono ?_
    rintro e w8 ⟨v8, rfl, own8, b8⟩
    have B8 := Bstep B7 b8
    go_wp2_with fail
    refine (C6.out w8 v4 v8 (own7.below b8).ts own8.ts).mono ?_
    rintro e w9 ⟨rfl, b9⟩
    go_wp2_with fail
    go_ret
    exact ⟨rfl, Bstep B8 b9⟩
theorem spec_DrawIndexFind (v : Value) (zs : List Int) (w : World) (h : U8s w v zs) (hs : zs.length ≤ 1048576) :
    Calls Try.prog 6 #[v] w fun e w' => ∃ u ts k, e = .returned (.tuple #[u, .int .i64 k]) ∧ OwnT w' w.heap.size u ts ∧ ShortB ts ∧ Below w.heap.size w w' := by
  have C1 := Lib.hid (spec_l6Open v zs w h hs)
  go_enter Try.func6, Try.ntmps6
  go_wp2_with fail
  refine C1.out.mono ?_
  rintro e w1 ⟨B, rfl, hB, hR, bel⟩
  go_wp2_with fail
  refine (spec_l92Entries B 0 w1 hR (by omega)).mono ?_
  rintro e w2 ⟨u, ts, rfl, own2, hT, hR2, g2⟩
  have B2 := below_of_grown bel hB g2
  have hBs := hR.lt
  go_wp2_with fail
  refine (spec_pick B _ 40 w2 hR2 (by omega) (by omega) (by omega)).mono ?_
  rintro e w3 ⟨k, rfl, hk, hR3, g3⟩
  have own3 := own2.by hBs g3
  go_wp2_with fail
  go_ret2
  exact ⟨u, ts, (k : Int), rfl, own3.base bel.size, hT, below_of_grown B2 hB g3⟩
end Go.Proofs.Ytlifglljneaknaa
