/- Chapter 23: a law of a term that begins twice. -/
import Derived.Test.YtfejolnfaechiaaD14b
import Derived.Test.YtfejolnfaechiaaK14f
import Derived.Test.YtfejolnfaechiaaT1
namespace Go.Proofs.Ytfejolnfaechiaa
open Go.ChangeShapes Go.WideShapes Go.ChangeAt Go.RowKit
set_option linter.unusedVariables false

set_option maxHeartbeats 2000000 in
theorem law_FnTermsPutTwice (w : World) (v : Value) (zs : List Int) (h : U8s w v zs) : Calls Try.prog 4 #[v] w (Yes w) := by
  have hU := h
  obtain ⟨a, cap, rfl, hl, hm, hc, hr⟩ := hU
  unfold maxLen at hm
  clear hc hr
  by_cases hlen : 1048576 < zs.length
  · go_enter Try.func4, Try.ntmps4
    go_wp2
    go_ret
    exact ⟨rfl, Below.refl _ _⟩
  · have C0 := Lib.hid (spec_DrawTermsPut _ zs w h (by omega))
    clear h
    go_enter Try.func4, Try.ntmps4
    go_wp2_with fail
    refine C0.out.mono ?_
    rintro e w1 ⟨u, ts, x, y, rfl, own1, hT, ⟨x0, x1⟩, ⟨y0, y1⟩, B1⟩
    have hT9 := hT.1
    have C1 : Hid (∀ W u, Ts W u ts → Calls Try.prog 16 #[u, .agg #[.int .i64 x, .int .i64 y]] W (NewT W (putL ts ⟨x, y⟩) (tsOk (ts ++ [⟨x, y⟩])))) := Lib.hid fun W u hu => spec_TermsPut u ts x y W hu (by omega)
    have C2 : Hid (∀ W u, Ts W u ts → Formed u → Calls Try.prog 15 #[u, .agg #[.int .i64 x, .int .i64 y]] W (NewT W (putL ts ⟨x, y⟩) (tsOk (ts ++ [⟨x, y⟩])))) := Lib.hid fun W u hu hf => impl_TermsPut u ts x y W hu hf (by omega)
    have HF : Hid (tsOk (ts ++ [⟨x, y⟩]) = true → _) := Lib.hid fun ok => put_facts ok
    obtain ⟨xs, hx⟩ : ∃ xs, putL ts ⟨x, y⟩ = xs := ⟨_, rfl⟩
    obtain ⟨b, hb⟩ : ∃ b, tsOk (ts ++ [⟨x, y⟩]) = b := ⟨_, rfl⟩
    rw [hb, hx] at C1 C2
    rw [hb, hx] at HF
    have Hb := Lib.hid hb
    have C5 : Hid (∀ W u v, Ts W u xs → Ts W v xs → Calls Try.prog 17 #[u, v] W (Same W true)) := Lib.hid fun W u v hu hv => laws_sameTerms u v xs W hu hv
    have qb : (b != b) = false := by simp
    have qe : (b == b) = true := by simp
    have bX := alloc_below' w1 (.cells #[.int .i64 x, .int .i64 y] 25)
    have xX := Blk.made w1 #[.int .i64 x, .int .i64 y] 25
    clear hb hx C0 hT
    go_wp2_with fail
    generalize hW2 : w1.alloc (.cells #[.int .i64 x, .int .i64 y] 25) = w1' at bX xX ⊢
    clear hW2
    obtain ⟨X, hX⟩ : ∃ X, w1.heap.size = X := ⟨_, rfl⟩
    rw [hX] at xX ⊢
    clear hX
    have own1' := own1.below bX
    have B1' := Bstep B1 bX
    clear own1 B1 bX
    refine (C2.out w1' u own1'.ts own1'.formed).mono ?_
    rintro e w2 ⟨u2, rfl, ownG, b2⟩
    have B2 := Bstep B1' b2
    have own2 := own1'.below b2
    have x2 := xX.belowS b2
    clear own1' b2 B1' xX
    have k0 : w2.cell? ⟨X, 0, none⟩ = some (.int .i64 x) := x2.cell 0
    have k1 : w2.cell? ⟨X, 1, none⟩ = some (.int .i64 y) := x2.cell 1
    go_wp2_with fail
    refine (C1.out w2 u own2.ts).mono ?_
    rintro e w3 ⟨u3, rfl, ownW, b3⟩
    have B3 := Bstep B2 b3
    have own3 := own2.below b3
    have ownG3 := ownG.below b3
    have x3 := x2.belowS b3
    clear own2 b3 B2 ownG x2 k0 k1
    cases b with
    | false =>
      go_wp2_with fail
      refine (C5.out w3 _ _ ownG3.ts ownW.ts).mono ?_
      rintro e w4 ⟨rfl, b4⟩
      go_wp2_with fail
      refine (C5.out w4 _ _ (ownG3.below b4).ts (ownW.below b4).ts).mono ?_
      rintro e w5 ⟨rfl, b5⟩
      go_wp2_with fail
      go_ret
      exact ⟨rfl, Bstep (Bstep B3 b4) b5⟩
    | true =>
      obtain ⟨f1, f2, f3, f4, f5⟩ := HF.out rfl
      go_wp2_with fail
      refine (C5.out w3 _ _ ownG3.ts ownW.ts).mono ?_
      rintro e w4 ⟨rfl, b4⟩
      have B4 := Bstep B3 b4
      have own4 := own3.below b4
      have ownG4 := ownG3.below b4
      have x4 := x3.belowS b4
      clear own3 ownG3 ownW B3 b4 x3 C5 C1 C2 HF own4
      subst f1
      have C8 : Hid (∀ W, Ts W u2 (ts ++ [⟨x, y⟩]) → Calls Try.prog 15 #[u2, .agg #[.int .i64 x, .int .i64 y]] W (NewT W (putL (ts ++ [⟨x, y⟩]) ⟨x, y⟩) (tsOk ((ts ++ [⟨x, y⟩]) ++ [⟨x, y⟩])))) := Lib.hid fun W hu => impl_TermsPut u2 _ x y W hu ownG4.formed (by simp; omega)
      have C9 : Hid (∀ W, Ts W u2 (ts ++ [⟨x, y⟩]) → Calls Try.prog 15 #[u2, .agg #[.int .i64 (x + 1), .int .i64 y]] W (NewT W (putL (ts ++ [⟨x, y⟩]) ⟨x + 1, y⟩) (tsOk ((ts ++ [⟨x, y⟩]) ++ [⟨x + 1, y⟩])))) := Lib.hid fun W hu => impl_TermsPut u2 _ (x + 1) y W hu ownG4.formed (by simp; omega)
      rw [f2] at C8
      rw [f3] at C9
      obtain ⟨us, hus⟩ : ∃ us, ts ++ [⟨x, y⟩] = us := ⟨_, rfl⟩
      rw [hus] at C8 C9 ownG4
      clear hus f2 f3 f4 f5 Hb
      have k0 : w4.cell? ⟨X, 0, none⟩ = some (.int .i64 x) := x4.cell 0
      have k1 : w4.cell? ⟨X, 1, none⟩ = some (.int .i64 y) := x4.cell 1
      go_wp2_with fail
      refine (C8.out w4 ownG4.ts).mono ?_
      rintro e w5 ⟨u5, rfl, own5, b5⟩
      have B5 := Bstep B4 b5
      have ownG5 := ownG4.below b5
      have x5 := x4.belowS b5
      clear k0 k1 B4 b5 ownG4 x4 C8
      have k0 : w5.cell? ⟨X, 0, none⟩ = some (.int .i64 x) := x5.cell 0
      have k1 : w5.cell? ⟨X, 1, none⟩ = some (.int .i64 y) := x5.cell 1
      go_wp2_with fail
      refine (C9.out w5 ownG5.ts).mono ?_
      rintro e w6 ⟨u6, rfl, own6, b6⟩
      go_wp2_with fail
      go_ret
      exact ⟨rfl, Bstep B5 b6⟩
end Go.Proofs.Ytfejolnfaechiaa
