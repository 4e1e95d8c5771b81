/- Chapter 5: batches that are none. -/
import Derived.Test.YtaakcikjdphocaaK5b
import Derived.Test.YtaakcikjdphocaaR9
namespace Go.Proofs.Ytaakcikjdphocaa
open Go.ChangeShapes Go.WideShapes Go.ChangeAt Go.RowKit
set_option linter.unusedVariables false

theorem part_facts {b : Bat} (h : batOk b = true) : batOk ⟨b.packed, b.mark, b.prod, b.epoch, b.seq, []⟩ = false ∧ batOk ⟨b.packed, b.mark, b.prod, b.epoch, b.seq, recAt b.recs 0 :: b.recs⟩ = false ∧ batOk ⟨b.packed, true, 255, b.epoch, b.seq, b.recs⟩ = false ∧ 1 ≤ b.recs.length ∧ b.recs.length ≤ 6 := by
  obtain ⟨⟨h1, h6⟩, _, _, ho⟩ := batOk_iff.1 h
  refine ⟨?_, ?_, ?_, h1, h6⟩
  · cases e : batOk ⟨b.packed, b.mark, b.prod, b.epoch, b.seq, []⟩ with
    | false => rfl
    | true => have := (batOk_iff.1 e).1.1; simp at this
  · cases e : batOk ⟨b.packed, b.mark, b.prod, b.epoch, b.seq, recAt b.recs 0 :: b.recs⟩ with
    | false => rfl
    | true =>
      have o := ordOk_off (batOk_iff.1 e).2.2.2 (i := 0) (j := 1) (by omega) (by simp; omega)
      have e1 : recAt (recAt b.recs 0 :: b.recs) 1 = recAt b.recs 0 := rfl
      have e0 : recAt (recAt b.recs 0 :: b.recs) 0 = recAt b.recs 0 := rfl
      simp only [e0, e1] at o
      omega
  · cases e : batOk ⟨b.packed, true, 255, b.epoch, b.seq, b.recs⟩ with
    | false => rfl
    | true => have := (batOk_iff.1 e).2.2.1; simp [prodOk] at this
set_option maxHeartbeats 2000000 in
theorem law_FnBatchPart (w : World) (v : Value) (zs : List Int) (h : U8s w v zs) : Calls Try.prog 5 #[v] w (Yes w) := by
  have hU := h
  obtain ⟨a, cap, rfl, hl, hm, hc, hr⟩ := hU
  unfold maxLen at hm
  clear hc hr
  by_cases hlen : 1048576 < zs.length
  · go_enter Try.func5, Try.ntmps5
    go_wp2
    go_ret
    exact ⟨rfl, Below.refl _ _⟩
  · have C0 := Lib.hid (spec_DrawBatchValid _ zs w h (by omega))
    clear h
    go_enter Try.func5, Try.ntmps5
    go_wp2_with fail
    (with_reducible refine C0.out.mono ?_)
    rintro e w1 ⟨b, u, rfl, hb, hl8, B1⟩
    have HB := Lib.hid hb
    obtain ⟨ra, rc, rfl, hrec, hrl, hrm⟩ := hb.parts
    have HF : Hid (batOk b = true → _) := Lib.hid (part_facts (b := b))
    have C1 : Hid (∀ wn, Below w1.heap.size w1 wn → Calls Try.prog 19 #[.agg #[.bool b.packed, .bool b.mark, .int .i64 b.prod, .int .i64 b.epoch, .int .i64 b.seq, .slice ra b.recs.length rc]] wn (SaysB (batOk b) wn)) := Lib.hid fun wn hw => impl_BatchValid _ b wn (HB.out.below hw)
    have C2 : Hid (∀ wn, Below w1.heap.size w1 wn → Calls Try.prog 20 #[.agg #[.bool b.packed, .bool b.mark, .int .i64 b.prod, .int .i64 b.epoch, .int .i64 b.seq, .slice ra b.recs.length rc]] wn (SaysB (batOk b) wn)) := Lib.hid fun wn hw => spec_BatchValid _ b wn (HB.out.below hw)
    obtain ⟨packed, mark, prod, epoch, seq, recs⟩ := b
    simp only at C1 C2 HF hrec hrl hl8
    obtain ⟨ob, hob⟩ : ∃ ob, batOk ⟨packed, mark, prod, epoch, seq, recs⟩ = ob := ⟨_, rfl⟩
    rw [hob] at C1 C2 HF
    have hbb : (ob != ob) = false := by simp
    have hbe : (ob == ob) = true := by simp
    clear hob hb
    have bx := alloc_below' w1 (.cells #[.bool packed, .bool mark, .int .i64 prod, .int .i64 epoch, .int .i64 seq, .slice ra recs.length rc] 25)
    have xx := Blk.made w1 #[.bool packed, .bool mark, .int .i64 prod, .int .i64 epoch, .int .i64 seq, .slice ra recs.length rc] 25
    go_wp2_with fail
    generalize hw2 : w1.alloc (.cells #[.bool packed, .bool mark, .int .i64 prod, .int .i64 epoch, .int .i64 seq, .slice ra recs.length rc] 25) = w2 at bx xx ⊢
    obtain ⟨X, hX⟩ : ∃ X, w1.heap.size = X := ⟨_, rfl⟩
    rw [hX] at xx ⊢
    have HX := Lib.hid hX
    clear hw2 hX
    (with_reducible refine (C1.out w2 bx).mono ?_)
    rintro e w3 ⟨rfl, b3⟩
    have x3 := xx.belowS b3
    have b13 := Bstep bx b3
    clear xx bx b3
    obtain ⟨c0, c1, c2, c3, c4, c5⟩ := x3.sixC
    go_wp2_with fail
    (with_reducible refine (C2.out w3 b13).mono ?_)
    rintro e w4 ⟨rfl, b4⟩
    have x4 := x3.belowS b4
    have b14 := Bstep b13 b4
    have B4 := Bstep B1 b14
    clear x3 b13 b4 c0 c1 c2 c3 c4 c5 C1 C2 C0
    cases ob with
    | false =>
      go_wp2_with fail
      go_ret
      exact ⟨rfl, B4⟩
    | true =>
      obtain ⟨px, py, pz, l1, l6⟩ := HF.out rfl
      obtain ⟨g, off, cap', eg, hm'⟩ := hrec.form (by omega)
      simp only [Value.slice.injEq, true_and] at eg
      obtain ⟨rfl, rfl⟩ := eg
      obtain ⟨news, nl, nc, n1, nr⟩ := recs_news hrec
      obtain ⟨r, a1, d1, a2, d2, Hr, hR⟩ := hrec.parts 0 (by omega)
      obtain ⟨ro, rt, rhk, rkey, rhv, rval⟩ := r
      obtain ⟨e0, e1, e2, e3, e4, e5, ik, iv⟩ := hR
      rw [Nat.zero_mul, Nat.add_zero] at e0 e1 e2 e3 e4 e5
      simp only at e0 e1 e2 e3 e4 e5 ik iv
      have lg : g < w1.heap.size := World.block_lt_of_cell? _ _ e0
      have HNC := Lib.hid nc
      have HNR := Lib.hid nr
      have HN1 := Lib.hid n1
      have HREC := Lib.hid hrec
      have HPX := Lib.hid px
      have HPY := Lib.hid py
      have HPZ := Lib.hid pz
      have Hik := Lib.hid ik
      have Hiv := Lib.hid iv
      have n4 : 0 < recs.length := by omega
      have lX1 : w1.heap.size ≤ X := by rw [HX.out]; omega
      clear nc nr n1 hrec px py pz HF HB ik iv hm' 
      obtain ⟨c0, c1, c2, c3, c4, c5⟩ := x4.sixC
      go_upto_region 9 with (fail)
      have yA := Blk.made w4 #[.bool packed, .bool mark, .int .i64 prod, .int .i64 epoch, .int .i64 seq, .slice (some ⟨g, off, none⟩) recs.length rc] 25
      have bA := alloc_below' w4 (.cells #[.bool packed, .bool mark, .int .i64 prod, .int .i64 epoch, .int .i64 seq, .slice (some ⟨g, off, none⟩) recs.length rc] 25)
      have xA := x4.belowS bA
      have BA := Bstep b14 bA
      have lXA := x4.lt
      generalize w4.alloc (.cells #[.bool packed, .bool mark, .int .i64 prod, .int .i64 epoch, .int .i64 seq, .slice (some ⟨g, off, none⟩) recs.length rc] 25) = wA at yA bA xA BA ⊢
      obtain ⟨X6, hX6⟩ : ∃ X6, w4.heap.size = X6 := ⟨_, rfl⟩
      rw [hX6] at yA lXA ⊢
      have l16 : w1.heap.size ≤ X6 := by rw [← hX6]; exact b14.size
      clear x4 c0 c1 c2 c3 c4 c5
      have l6A := yA.lt
      have q5 := yA.cell 5
      have f5 := yA.free 5
      go_upto_region 10 with (fail)
      have yB := blk_put yA (i := 5) (u := .slice (some ⟨wA.heap.size, 0, none⟩) 0 0) (cs' := #[.bool packed, .bool mark, .int .i64 prod, .int .i64 epoch, .int .i64 seq, .slice (some ⟨wA.heap.size, 0, none⟩) 0 0]) rfl
      have xB := xA.other (i := 5) (u := .slice (some ⟨wA.heap.size, 0, none⟩) 0 0) (show X ≠ X6 by omega)
      have BB := BA.setCell (p := ⟨X6, 5, none⟩) (show w1.heap.size ≤ X6 from l16) (.slice (some ⟨wA.heap.size, 0, none⟩) 0 0)
      have bal := alloc_below' (wA.setCell ⟨X6, 5, none⟩ (.slice (some ⟨wA.heap.size, 0, none⟩) 0 0)) (.cells #[] 34)
      replace yB := yB.belowS bal
      replace xB := xB.belowS bal
      replace BB := Bstep BB bal
      clear q5 f5 yA xA BA bA bal
      generalize (wA.setCell ⟨X6, 5, none⟩ (.slice (some ⟨wA.heap.size, 0, none⟩) 0 0)).alloc (.cells #[] 34) = wB at yB xB BB ⊢
      obtain ⟨E, hE⟩ : ∃ E, wA.heap.size = E := ⟨_, rfl⟩
      rw [hE] at yB l6A ⊢
      clear hE
      obtain ⟨c0, c1, c2, c3, c4, c5⟩ := xB.sixC
      have l6B := yB.lt
      go_upto_region 11 with (fail)
      have zC := Blk.made wB #[.bool packed, .bool mark, .int .i64 prod, .int .i64 epoch, .int .i64 seq, .slice (some ⟨g, off, none⟩) recs.length rc] 25
      have bC := alloc_below' wB (.cells #[.bool packed, .bool mark, .int .i64 prod, .int .i64 epoch, .int .i64 seq, .slice (some ⟨g, off, none⟩) recs.length rc] 25)
      have xC := xB.belowS bC
      have yC := yB.belowS bC
      have BC := Bstep BB bC
      have lB := BB.size
      clear c0 c1 c2 c3 c4 c5
      generalize wB.alloc (.cells #[.bool packed, .bool mark, .int .i64 prod, .int .i64 epoch, .int .i64 seq, .slice (some ⟨g, off, none⟩) recs.length rc] 25) = wC at zC bC xC yC BC ⊢
      obtain ⟨X7, hX7⟩ : ∃ X7, wB.heap.size = X7 := ⟨_, rfl⟩
      rw [hX7] at zC l6B lB ⊢
      clear hX7 bC xB yB BB
      have lC := zC.lt
      have HS : Hid (∀ W, Below wC.heap.size wC W → W.cell? ⟨X, 5, none⟩ = some (.slice (some ⟨g, off, none⟩) recs.length rc) ∧ W.cell? ⟨g, off, none⟩ = some (.int .i64 ro) ∧ W.cell? ⟨g, off + 1, none⟩ = some (.int .i64 rt) ∧ W.cell? ⟨g, off + 2, none⟩ = some (.bool rhk) ∧ W.cell? ⟨g, off + 3, none⟩ = some (.slice a1 rkey.length d1) ∧ W.cell? ⟨g, off + 4, none⟩ = some (.bool rhv) ∧ W.cell? ⟨g, off + 5, none⟩ = some (.slice a2 rval.length d2)) := Lib.hid fun W hW => by
        have B := BC.trans (hW.mono BC.size)
        exact ⟨(xC.belowS hW).cell 5, (B.cell lg).trans e0, (B.cell lg).trans e1, (B.cell lg).trans e2, (B.cell lg).trans e3, (B.cell lg).trans e4, (B.cell lg).trans e5⟩
      have bdr : Below wC.heap.size wC wC.drew := below_drewN (Below.refl _ _) 1
      have bdA : Below wC.heap.size wC (wC.alloc (.cells #[.int .i64 ro, .int .i64 rt, .bool rhk, .slice a1 rkey.length d1, .bool rhv, .slice a2 rval.length d2] 34)).drew := Bstep (alloc_below' _ _) (below_drewN (Below.refl _ _) 1)
      have S1 := HS.out _ bdr
      have S1a := HS.out _ bdA
      have ownL : Row6 (wC.alloc (.cells #[.int .i64 ro, .int .i64 rt, .bool rhk, .slice a1 rkey.length d1, .bool rhv, .slice a2 rval.length d2] 34)).drew wC.heap.size (.slice (some ⟨wC.heap.size, 0, none⟩) 1 1) 1 (six (.int .i64 ro) (.int .i64 rt) (.bool rhk) (.slice a1 rkey.length d1) (.bool rhv) (.slice a2 rval.length d2)) := by
        have : Row6 (wC.alloc (.cells #[.int .i64 ro, .int .i64 rt, .bool rhk, .slice a1 rkey.length d1, .bool rhv, .slice a2 rval.length d2] 34)) wC.heap.size (.slice (some ⟨wC.heap.size, 0, none⟩) 1 1) 1 (six (.int .i64 ro) (.int .i64 rt) (.bool rhk) (.slice a1 rkey.length d1) (.bool rhv) (.slice a2 rval.length d2)) := by
          refine ⟨[.int .i64 ro, .int .i64 rt, .bool rhk, .slice a1 rkey.length d1, .bool rhv, .slice a2 rval.length d2], ⟨rfl, .inr ⟨wC.heap.size, 1, _, rfl, Nat.le_refl _, heap_alloc_new wC _, by simp, by unfold maxLen; omega, by simp, by simp⟩⟩, fun i hi => ?_⟩
          rcases (show i = 0 ∨ i = 1 ∨ i = 2 ∨ i = 3 ∨ i = 4 ∨ i = 5 by omega) with rfl | rfl | rfl | rfl | rfl | rfl <;> rfl
        exact this.below (below_drewN (Below.refl _ _) 1)
      obtain ⟨xs1, own1, hx1⟩ := ownL
      have hcA : ∀ j u, news[j]? = some u → (wC.alloc (.cells #[.int .i64 ro, .int .i64 rt, .bool rhk, .slice a1 rkey.length d1, .bool rhv, .slice a2 rval.length d2] 34)).drew.cell? ((⟨g, off, none⟩ : Addr).add j) = some u := fun j u hj => by have h := HNC.out j u hj; rw [Addr.add_lit] at h ⊢; exact ((BC.trans (bdA.mono BC.size)).cell (p := ⟨g, off + j, none⟩) lg).trans h
      have n7 : 1 + recs.length < 1000000000 := by omega
      have HS5 : Hid (∀ (W : World) (u : Value), W.cell? ⟨X, 5, none⟩ = some (.slice (some ⟨g, off, none⟩) recs.length rc) ∧ W.cell? ⟨g, off, none⟩ = some (.int .i64 ro) ∧ W.cell? ⟨g, off + 1, none⟩ = some (.int .i64 rt) ∧ W.cell? ⟨g, off + 2, none⟩ = some (.bool rhk) ∧ W.cell? ⟨g, off + 3, none⟩ = some (.slice a1 rkey.length d1) ∧ W.cell? ⟨g, off + 4, none⟩ = some (.bool rhv) ∧ W.cell? ⟨g, off + 5, none⟩ = some (.slice a2 rval.length d2) → (W.setCell ⟨X7, 5, none⟩ u).cell? ⟨X, 5, none⟩ = some (.slice (some ⟨g, off, none⟩) recs.length rc) ∧ (W.setCell ⟨X7, 5, none⟩ u).cell? ⟨g, off, none⟩ = some (.int .i64 ro) ∧ (W.setCell ⟨X7, 5, none⟩ u).cell? ⟨g, off + 1, none⟩ = some (.int .i64 rt) ∧ (W.setCell ⟨X7, 5, none⟩ u).cell? ⟨g, off + 2, none⟩ = some (.bool rhk) ∧ (W.setCell ⟨X7, 5, none⟩ u).cell? ⟨g, off + 3, none⟩ = some (.slice a1 rkey.length d1) ∧ (W.setCell ⟨X7, 5, none⟩ u).cell? ⟨g, off + 4, none⟩ = some (.bool rhv) ∧ (W.setCell ⟨X7, 5, none⟩ u).cell? ⟨g, off + 5, none⟩ = some (.slice a2 rval.length d2)) := Lib.hid fun W u h => by
        have k : ∀ B i, B ≠ X7 → (W.setCell ⟨X7, 5, none⟩ u).cell? ⟨B, i, none⟩ = W.cell? ⟨B, i, none⟩ := fun B i hne => World.cell?_setCell_other _ _ _ _ (fun e => hne (congrArg Addr.block e).symm)
        obtain ⟨h0, h1, h2, h3, h4, h5, h6⟩ := h
        exact ⟨(k _ _ (by omega)).trans h0, (k _ _ (by omega)).trans h1, (k _ _ (by omega)).trans h2, (k _ _ (by omega)).trans h3, (k _ _ (by omega)).trans h4, (k _ _ (by omega)).trans h5, (k _ _ (by omega)).trans h6⟩
      go_region_held3 (fun W => W.cell? ⟨X, 5, none⟩ = some (.slice (some ⟨g, off, none⟩) recs.length rc) ∧ W.cell? ⟨g, off, none⟩ = some (.int .i64 ro) ∧ W.cell? ⟨g, off + 1, none⟩ = some (.int .i64 rt) ∧ W.cell? ⟨g, off + 2, none⟩ = some (.bool rhk) ∧ W.cell? ⟨g, off + 3, none⟩ = some (.slice a1 rkey.length d1) ∧ W.cell? ⟨g, off + 4, none⟩ = some (.bool rhv) ∧ W.cell? ⟨g, off + 5, none⟩ = some (.slice a2 rval.length d2)) (first | with_reducible exact S1 | with_reducible exact S1a | with_reducible exact hS3 | with_reducible exact hS4 | go_keep)
        (first
          | (refine step_appRm rfl (.tmp 36) (.tmp 38) rfl wC.heap.size (.slice (some ⟨wC.heap.size, 0, none⟩) 1 1) 1 xs1 rfl own1 ⟨g, off, none⟩ recs.length rc news rfl nl hcA HN1.out n4 n7 bdA.size ?_; intro G capG wD ownD gD hG lG; have BD := bdA.grown gD bdA.size (fun k hk => by simp [Value.ownBlock] at hk; omega); have hS3 := HS.out wD BD; have hS4 := HS5.out wD (.slice (some ⟨G, 0, none⟩) (1 + recs.length) capG) hS3; have zD := zC.belowS BD; have q5 := zD.cell 5; have f5 := zD.free 5))
      have lG7 : wC.heap.size ≤ G := by
        rcases hG with h | h
        · simp [Value.ownBlock] at h; omega
        · rw [h]; exact bdA.size
      have zE := blk_put zD (i := 5) (u := .slice (some ⟨G, 0, none⟩) (1 + recs.length) capG) (cs' := #[.bool packed, .bool mark, .int .i64 prod, .int .i64 epoch, .int .i64 seq, .slice (some ⟨G, 0, none⟩) (1 + recs.length) capG]) rfl
      have yE := (yC.belowS BD).other (i := 5) (u := .slice (some ⟨G, 0, none⟩) (1 + recs.length) capG) (show X6 ≠ X7 by omega)
      have xE := (xC.belowS BD).other (i := 5) (u := .slice (some ⟨G, 0, none⟩) (1 + recs.length) capG) (show X ≠ X7 by omega)
      have BE := (BC.trans (BD.mono BC.size)).setCell (p := ⟨X7, 5, none⟩) lB (.slice (some ⟨G, 0, none⟩) (1 + recs.length) capG)
      have eE : (wD.setCell ⟨X7, 5, none⟩ (.slice (some ⟨G, 0, none⟩) (1 + recs.length) capG)).heap[G]? = wD.heap[G]? := Below.heap_setCell _ _ _ G (show G ≠ X7 by omega)
      have lE : G < (wD.setCell ⟨X7, 5, none⟩ (.slice (some ⟨G, 0, none⟩) (1 + recs.length) capG)).heap.size := by
        rcases Nat.lt_or_ge G (wD.setCell ⟨X7, 5, none⟩ (.slice (some ⟨G, 0, none⟩) (1 + recs.length) capG)).heap.size with h | h
        · exact h
        · rw [Array.getElem?_eq_none h, Array.getElem?_eq_getElem lG] at eE; cases eE
      clear HS HS5 S1 S1a hS3 hS4 q5 f5 bdr bdA hcA zD yC xC gD hG zC
      go_upto_region 12 with (fail)
      generalize wD.setCell ⟨X7, 5, none⟩ (.slice (some ⟨G, 0, none⟩) (1 + recs.length) capG) = wE at zE yE xE BE eE lE ⊢
      obtain ⟨c0, c1, c2, c3, c4, c5⟩ := xE.sixC
      go_upto_region 13 with (fail)
      have bF := alloc_below' wE (.cells #[.bool packed, .bool mark, .int .i64 prod, .int .i64 epoch, .int .i64 seq, .slice (some ⟨g, off, none⟩) recs.length rc] 25)
      have uF := Blk.made wE #[.bool packed, .bool mark, .int .i64 prod, .int .i64 epoch, .int .i64 seq, .slice (some ⟨g, off, none⟩) recs.length rc] 25
      have zF := zE.belowS bF
      have yF := yE.belowS bF
      have BF := Bstep BE bF
      have eF := (bF.block G lE).trans eE
      have l7E := zE.lt
      have l6E := yE.lt
      have lBE := BE.size
      clear c0 c1 c2 c3 c4 c5 xE
      generalize wE.alloc (.cells #[.bool packed, .bool mark, .int .i64 prod, .int .i64 epoch, .int .i64 seq, .slice (some ⟨g, off, none⟩) recs.length rc] 25) = wF at bF uF zF yF BF eF ⊢
      obtain ⟨X8, hX8⟩ : ∃ X8, wE.heap.size = X8 := ⟨_, rfl⟩
      rw [hX8] at uF l7E l6E lBE lE ⊢
      clear hX8 bF zE yE BE
      have q2 := uF.cell 2
      have f2 := uF.free 2
      go_upto_region 14 with (fail)
      have uG := blk_put uF (i := 2) (u := .int .i64 255) (cs' := #[.bool packed, .bool mark, .int .i64 255, .int .i64 epoch, .int .i64 seq, .slice (some ⟨g, off, none⟩) recs.length rc]) rfl
      have zG := zF.other (i := 2) (u := .int .i64 255) (show X7 ≠ X8 by omega)
      have yG := yF.other (i := 2) (u := .int .i64 255) (show X6 ≠ X8 by omega)
      have BG := BF.setCell (p := ⟨X8, 2, none⟩) (show w1.heap.size ≤ X8 by omega) (.int .i64 255)
      have eG := (Below.heap_setCell wF ⟨X8, 2, none⟩ (.int .i64 255) G (show G ≠ X8 by omega)).trans eF
      clear q2 f2
      generalize wF.setCell ⟨X8, 2, none⟩ (.int .i64 255) = wG at uG zG yG BG eG ⊢
      clear uF zF yF BF eF
      have q1 := uG.cell 1
      have f1 := uG.free 1
      go_upto_region 15 with (fail)
      have uH := blk_put uG (i := 1) (u := .bool true) (cs' := #[.bool packed, .bool true, .int .i64 255, .int .i64 epoch, .int .i64 seq, .slice (some ⟨g, off, none⟩) recs.length rc]) rfl
      have zH := zG.other (i := 1) (u := .bool true) (show X7 ≠ X8 by omega)
      have yH := yG.other (i := 1) (u := .bool true) (show X6 ≠ X8 by omega)
      have BH := BG.setCell (p := ⟨X8, 1, none⟩) (show w1.heap.size ≤ X8 by omega) (.bool true)
      have eH := (Below.heap_setCell wG ⟨X8, 1, none⟩ (.bool true) G (show G ≠ X8 by omega)).trans eG
      clear q1 f1
      generalize wG.setCell ⟨X8, 1, none⟩ (.bool true) = wH at uH zH yH BH eH ⊢
      clear uG zG yG BG eG
      have V6 : BatV wH (.agg #[.bool packed, .bool mark, .int .i64 prod, .int .i64 epoch, .int .i64 seq, .slice (some ⟨E, 0, none⟩) 0 0]) ⟨packed, mark, prod, epoch, seq, []⟩ := ⟨_, rfl, _, 0, rfl, by simp, by simp, fun h => by simp at h⟩
      have V8 : BatV wH (.agg #[.bool packed, .bool true, .int .i64 255, .int .i64 epoch, .int .i64 seq, .slice (some ⟨g, off, none⟩) recs.length rc]) ⟨packed, true, 255, epoch, seq, recs⟩ := ⟨_, rfl, HREC.out.below BH⟩
      have V7 : BatV wH (.agg #[.bool packed, .bool mark, .int .i64 prod, .int .i64 epoch, .int .i64 seq, .slice (some ⟨G, 0, none⟩) (1 + recs.length) capG]) ⟨packed, mark, prod, epoch, seq, recAt recs 0 :: recs⟩ := by
        have lc : 1 + recs.length ≤ capG ∧ capG ≤ maxLen := by
          rcases ownD.2 with ⟨e, _⟩ | ⟨g', cap', cur, e, hb', hg', hl', hm', _⟩
          · simp at e
          · simp only [Value.slice.injEq, true_and] at e
            obtain ⟨_, rfl⟩ := e
            exact ⟨hl', hm'⟩
        have cl : ∀ j u, j < (1 + recs.length) * 6 → (xs1 ++ news)[j]? = some u → wH.cell? ⟨G, j, none⟩ = some u := fun j u hj hu => by
          exact (World.cell?_of_block (a := ⟨G, j, none⟩) eH).trans ((World.ownsRow.cellAt ownD j hj).trans hu)
        have hx6 : xs1.length = 6 := own1.1
        refine ⟨_, rfl, some ⟨G, 0, none⟩, capG, by simp [Nat.add_comm], by simp; omega, lc.2, fun _ => ⟨G, 0, rfl, fun i hi => ?_⟩⟩
        have hi' : i < recs.length + 1 := by simpa using hi
        cases i with
        | zero =>
          have k : ∀ r, r < 6 → wH.cell? ⟨G, 0 + 0 * 6 + r, none⟩ = some (six (.int .i64 ro) (.int .i64 rt) (.bool rhk) (.slice a1 rkey.length d1) (.bool rhv) (.slice a2 rval.length d2) r) := fun r hr => by
            rw [show 0 + 0 * 6 + r = r by omega]
            exact cl r _ (by omega) (by rw [List.getElem?_append_left (by omega)]; exact hx1 r (by omega))
          refine ⟨.slice a1 rkey.length d1, .slice a2 rval.length d2, ?_⟩
          show RecC wH G (0 + 0 * 6) (recAt recs 0) _ _
          rw [Hr.out]
          exact ⟨k 0 (by omega), k 1 (by omega), k 2 (by omega), k 3 (by omega), k 4 (by omega), k 5 (by omega), Hik.out.below BH, Hiv.out.below BH⟩
        | succ i =>
          obtain ⟨kv, vv, ⟨h0, h1, h2, h3, h4, h5⟩, hk, hv⟩ := HNR.out i (by omega)
          have k : ∀ r u, r < 6 → news[i * 6 + r]? = some u → wH.cell? ⟨G, 0 + (i + 1) * 6 + r, none⟩ = some u := fun r u hr hu => by
            rw [show 0 + (i + 1) * 6 + r = (i + 1) * 6 + r by omega]
            refine cl _ _ (by omega) ?_
            rw [List.getElem?_append_right (by omega), hx6, show (i + 1) * 6 + r - 6 = i * 6 + r by omega]
            exact hu
          exact ⟨kv, vv, k 0 _ (by omega) h0, k 1 _ (by omega) h1, k 2 _ (by omega) h2, k 3 _ (by omega) h3, k 4 _ (by omega) h4, k 5 _ (by omega) h5, hk.below BH, hv.below BH⟩
      have D6 : Hid (∀ W, Below wH.heap.size wH W → Calls Try.prog 19 #[.agg #[.bool packed, .bool mark, .int .i64 prod, .int .i64 epoch, .int .i64 seq, .slice (some ⟨E, 0, none⟩) 0 0]] W (SaysB false W)) := Lib.hid fun W hW => by
        have := impl_BatchValid _ _ W (V6.below hW)
        rwa [HPX.out] at this
      have D7 : Hid (∀ W, Below wH.heap.size wH W → Calls Try.prog 19 #[.agg #[.bool packed, .bool mark, .int .i64 prod, .int .i64 epoch, .int .i64 seq, .slice (some ⟨G, 0, none⟩) (1 + recs.length) capG]] W (SaysB false W)) := Lib.hid fun W hW => by
        have := impl_BatchValid _ _ W (V7.below hW)
        rwa [HPY.out] at this
      have D8 : Hid (∀ W, Below wH.heap.size wH W → Calls Try.prog 19 #[.agg #[.bool packed, .bool true, .int .i64 255, .int .i64 epoch, .int .i64 seq, .slice (some ⟨g, off, none⟩) recs.length rc]] W (SaysB false W)) := Lib.hid fun W hW => by
        have := impl_BatchValid _ _ W (V8.below hW)
        rwa [HPZ.out] at this
      have HB1 := Lib.hid B1
      clear V6 V7 V8 ownD own1 hx1 eH HNR HNC HN1 HREC HPX HPY HPZ Hik Hiv Hr nl B4 B1 b14 e0 e1 e2 e3 e4 e5
      obtain ⟨c0, c1, c2, c3, c4, c5⟩ := yH.sixC
      go_wp2_with fail
      (with_reducible refine (D6.out wH (Below.refl _ _)).mono ?_)
      rintro e w11 ⟨rfl, b11⟩
      clear c0 c1 c2 c3 c4 c5
      obtain ⟨c0, c1, c2, c3, c4, c5⟩ := (zH.belowS b11).sixC
      go_wp2_with fail
      (with_reducible refine (D7.out w11 b11).mono ?_)
      rintro e w12 ⟨rfl, b12⟩
      have B12 := Bstep b11 b12
      clear c0 c1 c2 c3 c4 c5
      obtain ⟨c0, c1, c2, c3, c4, c5⟩ := (uH.belowS B12).sixC
      go_wp2_with fail
      (with_reducible refine (D8.out w12 B12).mono ?_)
      rintro e w13 ⟨rfl, b13⟩
      go_wp2_with fail
      go_ret
      exact ⟨rfl, Bstep HB1.out (Bstep BH (Bstep B12 b13))⟩
end Go.Proofs.Ytaakcikjdphocaa
