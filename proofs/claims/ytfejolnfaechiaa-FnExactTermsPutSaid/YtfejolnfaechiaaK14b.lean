/- Chapter 23: the exact law of a term that begins. -/
import Derived.Test.YtfejolnfaechiaaK14
namespace Go.Proofs.Ytfejolnfaechiaa
open Go.ChangeShapes Go.WideShapes Go.ChangeAt Go.RowKit
set_option linter.unusedVariables false

theorem putL_len (ts : List Trm) (t : Trm) : (putL ts t).length ≤ ts.length + 1 := by
  unfold putL
  split <;> simp
set_option maxHeartbeats 2000000 in
theorem law_FnExactTermsPut (w : World) (v : Value) (ts : List Trm) (h : Ts w v ts) (u : Value) (t : Trm) (hu : u = .agg #[.int .i64 t.num, .int .i64 t.first]) : Calls Try.prog 13 #[v, u] w (Yes w) := by
  subst hu
  obtain ⟨x, y⟩ := t
  simp only
  have hv := h
  obtain ⟨a, cap, rfl, hl, hm, hc⟩ := h
  unfold maxLen at hm
  clear hc
  have bw := alloc_below' w (.cells #[.int .i64 x, .int .i64 y] 48)
  have xA := Blk.made w #[.int .i64 x, .int .i64 y] 48
  have C0 := Lib.hid (laws_szTermS (.slice a ts.length cap) ts 1048576 _ (hv.below bw) (by omega) (by omega))
  unfold SzRes at C0
  by_cases hlen : (1048576 : Int) - (ts.length : Int) < 0
  · rw [if_pos hlen] at C0
    go_enter Try.func13, Try.ntmps13
    go_wp2_with fail
    refine C0.out.mono ?_
    rintro e w1 ⟨rfl, rfl⟩
    go_wp2_with fail
    go_ret
    exact ⟨rfl, bw⟩
  · rw [if_neg hlen] at C0
    have C1 : Hid (∀ W u, Ts W u ts → Calls Try.prog 16 #[u, .agg #[.int .i64 x, .int .i64 y]] W (NewT W (putL ts ⟨x, y⟩) (tsOk (ts ++ [⟨x, y⟩])))) := Lib.hid fun W u hu => spec_TermsPut u ts x y W hu (by omega)
    have C2 : Hid (∀ W u, Ts W u ts → Formed u → Calls Try.prog 15 #[u, .agg #[.int .i64 x, .int .i64 y]] W (NewT W (putL ts ⟨x, y⟩) (tsOk (ts ++ [⟨x, y⟩])))) := Lib.hid fun W u hu hf => impl_TermsPut u ts x y W hu hf (by omega)
    have C4 : Hid (∀ W, Calls Try.prog 32 #[.agg #[.int .i64 x, .int .i64 y]] W fun e w' => e = .returned (.agg #[.int .i64 x, .int .i64 y]) ∧ Below W.heap.size W w') := Lib.hid fun W => laws_toTerm x y W
    have C6 : Hid (∀ W u v, Ts W u ts → Ts W v ts → Calls Try.prog 29 #[u, v] W (Same W true)) := Lib.hid fun W u v hu hv => laws_eqTermS u v ts W hu hv
    have hxl := putL_len ts ⟨x, y⟩
    obtain ⟨xs, hx⟩ : ∃ xs, putL ts ⟨x, y⟩ = xs := ⟨_, rfl⟩
    obtain ⟨b, hb⟩ : ∃ b, tsOk (ts ++ [⟨x, y⟩]) = b := ⟨_, rfl⟩
    rw [hb, hx] at C1 C2
    rw [hx] at hxl
    have C5 : Hid (∀ W u v, Ts W u xs → Ts W v xs → Calls Try.prog 29 #[u, v] W (Same W true)) := Lib.hid fun W u v hu hv => laws_eqTermS u v xs W hu hv
    have hbb : (b != b) = false := by simp
    have hq : (1 + 2 * (xs.length : Int) != 1 + 2 * (xs.length : Int)) = false := by simp
    have hlen1 : ts.length ≤ 1048576 := by omega
    have hlen2 : xs.length ≤ 1048577 := by omega
    clear hb hx hlen hxl
    cases b
    all_goals
      go_enter Try.func13, Try.ntmps13
      go_wp2_with fail
      generalize hwb : w.alloc (.cells #[.int .i64 x, .int .i64 y] 48) = wb at bw xA C0 ⊢
      clear hwb
      obtain ⟨A, hA⟩ : ∃ A, w.heap.size = A := ⟨_, rfl⟩
      rw [hA] at xA ⊢
      have HA := Lib.hid hA
      clear hA
      have HS : Hid (∀ W, Below wb.heap.size wb W → W.cell? ⟨A, 0, none⟩ = some (.int .i64 x) ∧ W.cell? ⟨A, 1, none⟩ = some (.int .i64 y)) := Lib.hid fun W hW => ⟨(xA.belowS hW).cell 0, (xA.belowS hW).cell 1⟩
      have C3 : Hid (∀ W, Below wb.heap.size wb W → Calls Try.prog 28 #[.slice a ts.length cap] W (CopyT W ts)) := Lib.hid fun W hW => laws_toTermS _ ts W (hv.below (Bstep bw hW)) (by omega)
      refine C0.out.mono ?_
      rintro e w0 ⟨rfl, rfl⟩
      go_upto_region 5 with (fail)
      have bdr : Below wb.heap.size wb wb.drew := below_drewN (Below.refl _ _) 1
      have S1 := HS.out wb.drew bdr
      have T1 := Lib.hid (C3.out wb.drew bdr)
      go_region_held3 (fun W => W.cell? ⟨A, 0, none⟩ = some (.int .i64 x) ∧ W.cell? ⟨A, 1, none⟩ = some (.int .i64 y)) (first | with_reducible exact S1 | with_reducible exact HS.out _ bb1 | with_reducible exact HS.out _ bb2 | with_reducible exact HS.out _ bb3 | go_keep)
        (first
          | (go_at_call 28; ((with_reducible refine T1.out.mono ?_); rintro e w1 ⟨v1, rfl, own1, b1⟩; have bb1 := Bstep bdr b1))
          | (go_at_call 32; ((with_reducible refine (C4.out _).mono ?_); rintro e w1b ⟨rfl, b1b⟩; have bb2 := Bstep bb1 b1b; have own1b := own1.below b1b))
          | (go_at_call 16; ((with_reducible refine (C1.out _ _ own1b.ts).mono ?_); rintro e w2 ⟨u2, rfl, ownW, b2⟩; have bb3 := Bstep bb2 b2)))
      have B2 := bb3
      clear own1 own1b b1 b1b b2 S1 T1 bb1 bb2 bdr
      go_wp2_with fail
      refine (C3.out w2 B2).mono ?_
      rintro e w3 ⟨v3, rfl, own3, b3⟩
      have B3 := Bstep B2 b3
      have ownW3 := ownW.below b3
      have s13 : wb.heap.size ≤ w2.heap.size := B2.size
      obtain ⟨q0, q1⟩ := HS.out w3 B3
      go_wp2_with fail
      refine (C4.out w3).mono ?_
      rintro e w3b ⟨rfl, b3b⟩
      have own3' := own3.below b3b
      clear q0 q1
      go_wp2_with fail
      refine (C2.out w3b v3 own3'.ts own3.formed).mono ?_
      rintro e w4 ⟨u4, rfl, ownG, b4⟩
      have B4 := Bstep (Bstep B3 b3b) b4
      have ownW4 := (ownW3.below b3b).below b4
      have own34 := own3'.below b4
      have s23 : w2.heap.size ≤ w3b.heap.size := (Nat.le_trans b3.size b3b.size)
      have sW : wb.heap.size ≤ w2.heap.size := s13
      clear b3 b4 own3 ownW3
      go_wp2_with fail
      refine (C5.out w4 u4 u2 ownG.ts ownW4.ts).mono ?_
      rintro e w5 ⟨rfl, b5⟩
      have B5 := Bstep B4 b5
      have ownW5 := ownW4.below b5
      have own35 := own34.below b5
      have ownG5 := ownG.below b5
      clear b5 ownW4 own34 B4
      go_wp2_with fail
      refine (C3.out w5 B5).mono ?_
      rintro e w6 ⟨v6, rfl, own6, b6⟩
      have B6 := Bstep B5 b6
      go_wp2_with fail
      refine (C6.out w6 v3 v6 (own35.below b6).ts own6.ts).mono ?_
      rintro e w7 ⟨rfl, b7⟩
      have b57 := Bstep b6 b7
      have B7 := Bstep B5 b57
      have ownW7 := ownW5.below b57
      have own37 := own35.below b57
      have ownG7 := ownG5.below b57
      clear b6 b7 b57 own6 ownW5 own35 ownG5 B5 B6
      go_wp2_with fail
      refine (laws_markTermS v3 _ ts 1 w7 own37 (by omega) (by omega) (by omega)).mono ?_
      rintro e w8 ⟨rfl, mk8, g8⟩
      have oW8 := ownW7.grown g8 (apart_row ownW own37 (Nat.le_refl _))
      have oG8 := ownG7.grown g8 (apart_row' own3' ownG7 (Nat.le_refl _))
      have B8 := below_row B7 own37 sW g8
      clear g8 mk8 ownW7 own37 ownG7 B7
      go_wp2_with fail
      refine (C5.out w8 u4 u2 oG8.ts oW8.ts).mono ?_
      rintro e w9 ⟨rfl, b9⟩
      have B9 := Bstep B8 b9
      have oW9 := oW8.below b9
      have oG9 := oG8.below b9
      clear b9 oW8 oG8 B8
      go_wp2_with fail
      refine (laws_markTermS u4 _ xs 1 w9 oG9 (by omega) (by omega) (by omega)).mono ?_
      rintro e w10 ⟨rfl, mk10, g10⟩
      have oW10 := oW9.grown g10 (apart_row ownW oG9 s23)
      have B10 := below_row B9 oG9 (Nat.le_trans sW s23) g10
      clear g10 oW9 oG9 B9
      go_wp2_with fail
      refine (laws_heldTermS u4 1 xs.length w10 mk10.ts (by omega) (by omega) (by omega)).mono ?_
      rintro e w11 ⟨rfl, rfl⟩
      go_upto_region 24 with (fail)
      have bdr2 : Below w10.heap.size w10 w10.drew := below_drewN (Below.refl _ _) 1
      have BD := Bstep B10 bdr2
      have S3 := HS.out w10.drew BD
      have T3 := Lib.hid (C3.out w10.drew BD)
      go_region_held3 (fun W => W.cell? ⟨A, 0, none⟩ = some (.int .i64 x) ∧ W.cell? ⟨A, 1, none⟩ = some (.int .i64 y)) (first | with_reducible exact S3 | with_reducible exact HS.out _ bc1 | with_reducible exact HS.out _ bc2 | with_reducible exact HS.out _ bc3 | go_keep)
        (first
          | (go_at_call 28; ((with_reducible refine T3.out.mono ?_); rintro e w12 ⟨v12, rfl, own12, b12⟩; have bc1 := Bstep BD b12))
          | (go_at_call 32; ((with_reducible refine (C4.out _).mono ?_); rintro e w12b ⟨rfl, b12b⟩; have bc2 := Bstep bc1 b12b; have own12b := own12.below b12b))
          | (go_at_call 15; ((with_reducible refine (C2.out _ _ own12b.ts own12.formed).mono ?_); rintro e w13 ⟨u13, rfl, own13, b13⟩; have bc3 := Bstep bc2 b13)))
      have bA := Bstep (Bstep (Bstep bdr2 b12) b12b) b13
      have B13 := bc3
      have oW13 := oW10.below bA
      have mk13 := mk10.below bA
      clear bA b12 b12b b13 own12 own12b S3 T3 BD bdr2 bc1 bc2 oW10 mk10 B10
      go_wp2_with fail
      refine (C5.out w13 u13 u2 own13.ts oW13.ts).mono ?_
      rintro e w14 ⟨rfl, b14⟩
      have B14 := Bstep B13 b14
      have mk14 := mk13.below b14
      clear b14 oW13 mk13 B13 own13
      go_wp2_with fail
      refine (laws_heldTermS u4 1 xs.length w14 mk14.ts (by omega) (by omega) (by omega)).mono ?_
      rintro e w15 ⟨rfl, rfl⟩
      go_wp2_with fail
      go_ret
      exact ⟨rfl, Bstep bw B14⟩
end Go.Proofs.Ytfejolnfaechiaa
