/- Chapter 21: batches are taken one after the other. -/
import Derived.Test.YtfapeppocfodpaaP23
import Derived.Test.YtfapeppocfodpaaW21h
import Derived.Test.YtfapeppocfodpaaWXL
namespace Go.Proofs.Ytfapeppocfodpaa
open Go.ChangeShapes Go.WideShapes Go.ChangeAt Go.RowKit
set_option linter.unusedVariables false

/-- producers and codes are answered, in memory of the call's own -/
def RunRes (w : World) (ts : List Trm) (cs : List Int) (e : Ending) (w' : World) : Prop :=
  ∃ v u, e = .returned (.tuple #[v, u]) ∧ OwnT w' w.heap.size v ts ∧ Own w' w.heap.size u cs ∧ (v.ownBlock = none ∨ v.ownBlock ≠ u.ownBlock) ∧ Below w.heap.size w w'
theorem take_snocB (bs : List Bat) (k : Nat) (x : Bat) (h : k < bs.length) (e : batN bs k = x) : bs.take (k + 1) = bs.take k ++ [x] := by
  subst e
  rw [List.take_succ_eq_append_getElem h]
  unfold batN
  simp [h]
theorem runOut_step (bs : List Bat) (k : Nat) (x : Bat) (h : k < bs.length) (e : batN bs k = x) : runOut (bs.take (k + 1)) [] = nextOut (runOut (bs.take k) []) x := by rw [take_snocB bs k x h e, runOut_snoc]
theorem runCodes_step (bs : List Bat) (k : Nat) (x : Bat) (h : k < bs.length) (e : batN bs k = x) : runCodes (bs.take (k + 1)) [] = runCodes (bs.take k) [] ++ [putCode (runOut (bs.take k) []) x] := by rw [take_snocB bs k x h e, runCodes_snoc]
set_option maxRecDepth 100000 in
set_option maxHeartbeats 4000000 in
theorem impl_ProducersRun (v : Value) (bs : List Bat) (w : World) (h : Bats w v bs) (hbs : bs.length ≤ 1000000000) : Calls Try.prog 11 #[v] w (RunRes w (runOut bs []) (runCodes bs [])) := by
  have hv := h
  obtain ⟨a, cap, rfl, hl, hm, hc⟩ := h
  unfold maxLen at hm
  clear hc
  have C1 : Hid (∀ W f u b, BatV W u b → Calls Try.prog 32 #[.agg (rollC f), u] W (WithRes W (withF f b) (withN f b))) := Lib.hid fun W f u b hu => impl_with f u b W hu
  have C2 : Hid (∀ W g, Calls Try.prog 33 #[.agg (rollC g)] W (NewT W (listOf g))) := Lib.hid fun W g => impl_producers g W
  have r0 := Roll.made w fun _ => Seat.zero
  have b0 := alloc_below' w (.cells (rollC fun _ => Seat.zero) 55)
  have hz := roll_zero
  go_enter Try.func11, Try.ntmps11
  go_wp2_with fail
  generalize w.alloc (.cells (rollC fun _ => Seat.zero) 55) = w0 at r0 b0 ⊢
  obtain ⟨A, hA⟩ : ∃ A, w.heap.size = A := ⟨_, rfl⟩
  rw [hA] at r0 ⊢
  have HA := Lib.hid hA
  clear hA hz
  have o0 := own_nil w0 (A + 1)
  go_loopw [5, 12] (fun u i wr => ∃ (k : Nat) (ot : List Trm) (cs : List Int), k ≤ bs.length ∧ i = .int .i64 k ∧ Roll wr A (seatsOf ot) ∧ Hid (ot = runOut (bs.take k) []) ∧ Hid (cs = runCodes (bs.take k) []) ∧ Own wr (A + 1) u cs ∧ Below w.heap.size w wr) (fun _ i _ => bs.length - (intOf i).toNat)
  case atStart => exact ⟨0, [], [], Nat.zero_le _, rfl, r0, Lib.hid rfl, Lib.hid rfl, o0, b0⟩
  case round =>
    clear r0 b0 o0
    obtain ⟨k, ot, cs, hk, rfl, rA, hot, hcs, own, bel⟩ := hrel
    have hcl : cs.length = k := by rw [hcs.out, runCodes_len, List.length_take]; omega
    have HCL := Lib.hid hcl
    by_cases hlt : k < bs.length
    · have hB := hv.below bel
      obtain ⟨b, off, cp, e, _⟩ := hB.form (by omega)
      simp only [Value.slice.injEq, true_and] at e
      obtain ⟨rfl, rfl⟩ := e
      obtain ⟨x, a1, c1, Hx, hbc⟩ := hB.parts k hlt
      have hbv := hbc.batV
      obtain ⟨q0, q1, q2, q3, q4, q5, hrec⟩ := id hbc
      have HX2 := Lib.hid hcl
      have hcb : cs.length ≤ 1000000000 := by omega
      clear hcl
      obtain ⟨packed, mark, prod, epoch, seq, recs⟩ := x
      simp only at q0 q1 q2 q3 q4 q5 hbv
      have ok : tsOk ot = true := by rw [hot.out]; exact runOut_ok _ tsOk_nil
      have hst := runOut_step bs k _ hlt Hx.out
      have hsc := runCodes_step bs k _ hlt Hx.out
      rw [← hot.out] at hst hsc
      rw [← hcs.out] at hsc
      have hN := withN_put (ts := ot) ⟨packed, mark, prod, epoch, seq, recs⟩ ok
      have hF := rollC_ext (withF_next (ts := ot) ⟨packed, mark, prod, epoch, seq, recs⟩ ok)
      rw [← hst] at hF
      rw [← hN] at hsc
      obtain ⟨f, hf⟩ : ∃ f, seatsOf ot = f := ⟨_, rfl⟩
      obtain ⟨F, hF2⟩ : ∃ F, withF f ⟨packed, mark, prod, epoch, seq, recs⟩ = F := ⟨_, rfl⟩
      obtain ⟨N, hN2⟩ : ∃ N, withN f ⟨packed, mark, prod, epoch, seq, recs⟩ = N := ⟨_, rfl⟩
      rw [hf, hN2] at hsc
      rw [hf, hF2] at hF
      rw [hf] at rA
      have HSC := Lib.hid hsc
      have HF := Lib.hid hF
      have D1 : Hid (∀ W u, BatV W u ⟨packed, mark, prod, epoch, seq, recs⟩ → Calls Try.prog 32 #[.agg (rollC f), u] W (WithRes W F N)) := Lib.hid fun W u hu => by rw [← hF2, ← hN2]; exact C1.out W f u _ hu
      obtain ⟨n, hn⟩ : ∃ n, recs.length = n := ⟨_, rfl⟩
      have hbl : n ≤ c1 ∧ c1 ≤ maxLen := by
        obtain ⟨a', c', e, h1, h2, _⟩ := hrec
        simp only [Value.slice.injEq] at e
        obtain ⟨_, e1, rfl⟩ := e
        simp only at h1
        exact ⟨by omega, h2⟩
      rw [hn] at q5 hbv
      have bX := alloc_below' wr (.cells #[.bool packed, .bool mark, .int .i64 prod, .int .i64 epoch, .int .i64 seq, .slice a1 n c1] 43)
      have xX := Blk.made wr #[.bool packed, .bool mark, .int .i64 prod, .int .i64 epoch, .int .i64 seq, .slice a1 n c1] 43
      have rA2 := rA.below bX
      have hb2 := hbv.below bX
      have own2 := own.below bX
      have B2 := Bstep bel bX
      clear hsc hF hF2 hN2 hf hN hst ok hbc hrec hn rA hbv own C1
      go_upto_region 6 with (fail)
      generalize wr.alloc (.cells #[.bool packed, .bool mark, .int .i64 prod, .int .i64 epoch, .int .i64 seq, .slice a1 n c1] 43) = w2 at xX rA2 hb2 own2 B2 ⊢
      obtain ⟨X, hX⟩ : ∃ X, wr.heap.size = X := ⟨_, rfl⟩
      rw [hX] at xX ⊢
      clear hX bX q0 q1 q2 q3 q4 q5 bel
      obtain ⟨c0, c1', c2, c3, c4, c5⟩ := xX.sixC
      refine wp_region_list ?_
      refine wpList_load_row rfl 55 _ rfl A rfl _ (rollC f) _ _ rA2 roll_array rfl (roll_size _) ?_
      go_wp2_with fail
      refine (D1.out w2 _ hb2).mono ?_
      rintro e w3 ⟨rfl, b3⟩
      have rA3 := rA2.below b3
      have own3 := own2.below b3
      have B3 := Bstep B2 b3
      have hA3 := rA3.lt
      clear rA2 hb2 own2 B2 b3 c0 c1' c2 c3 c4 c5 xX D1
      rename_i Kf hKf
      refine hKf _ _ ?_
      refine takeL (v := .tuple #[.agg (rollC F), .int .i64 N]) rfl rfl ?_
      refine takeL (v := .agg (rollC F)) rfl rfl ?_
      refine takeL (v := .int .i64 N) rfl rfl ?_
      refine wpList_alloc_roll rfl rfl ?_
      have bD := alloc_below' w3 (.cells (rollC fun _ => Seat.zero) 55)
      have rD := Roll.made w3 fun _ => Seat.zero
      have b4 := below_setRow bD w3.heap.size (Nat.le_refl _) (rollC F)
      refine wpList_store_row rfl 55 _ _ rfl w3.heap.size (rollC F) rfl rfl _ _ rD (roll_size _) (by rw [rollC_size, rollC_size]) (rollC_one _) ?_
      refine takeL (v := .int .i64 N) rfl rfl ?_
      have rD4 := rD.row F
      have rA4 := rA3.below b4
      have own4 := own3.below b4
      have B4 := Bstep B3 b4
      generalize (w3.alloc (.cells (rollC fun _ => Seat.zero) 55)).setRow w3.heap.size (rollC F) = w4 at rD4 rA4 own4 B4 ⊢
      obtain ⟨D, hD⟩ : ∃ D, w3.heap.size = D := ⟨_, rfl⟩
      rw [hD] at rD4 hA3 ⊢
      clear hD bD rD b4 rA3 own3 B3 hKf
      go_simp
      rename_i Kg hKg
      refine hKg _ _ ?_
      clear hKg
      have g5 := grown_row' w4 A (rollC F)
      have rA5 := rA4.row F
      have own5 : Own (w4.setRow A (rollC F)) (A + 1) u5 cs := own4.by (Nat.lt_succ_self A) g5
      have B5 := below_setRow B4 A (Nat.le_of_eq HA.out) (rollC F)
      go_upto_region 7 with (fail)
      refine wp_region_list ?_
      refine wpList_load_row rfl 55 _ rfl D rfl _ (rollC F) _ _ rD4 roll_array rfl (roll_size _) ?_
      refine wpList_store_row rfl 55 _ _ rfl A (rollC F) rfl rfl _ _ rA4 (roll_size _) (by rw [rollC_size, rollC_size]) (rollC_one _) ?_
      generalize w4.setRow A (rollC F) = w5 at rA5 own5 B5 ⊢
      clear rD4 rA4 own4 B4 g5
      go_simp
      rename_i Kg2 hKg2
      refine hKg2 _ _ ?_
      clear hKg2
      have hsz : A + 1 ≤ w5.heap.size := Nat.succ_le_of_lt rA5.lt
      go_wp2_with (at_builtin; refine wp_app1 rfl _ _ rfl (A + 1) u5 cs N rfl rfl own5 (by omega) hsz ?_; intro v6 w6 own6 g6 hv6)
      have hroll : Roll w6 A (seatsOf (runOut (bs.take (k + 1)) [])) := by
        have r6 : Roll w6 A F := rA5.eq (g6.block A rA5.lt (fun e => by have := own5.lt A e.symm; omega))
        unfold Roll at r6 ⊢
        rw [← HF.out]
        exact r6
      have B6 := B5.grown g6 B5.size (fun q hq => by have := own5.lt q hq; have := HA.out; omega)
      go_roundw
      case rel => exact ⟨k + 1, _, cs ++ [N], by omega, by go_num, hroll, Lib.hid rfl, Lib.hid HSC.out.symm, own6, B6⟩
      case measure => simp [intOf]; omega
    · obtain rfl : k = bs.length := by omega
      have hot2 := hot.out
      have hcs2 := hcs.out
      rw [List.take_length] at hot2 hcs2
      have ok : tsOk ot = true := by rw [hot2]; exact runOut_ok _ tsOk_nil
      have hls := listOf_seats ok
      have D2 := Lib.hid (C2.out wr (seatsOf ot))
      rw [hls] at D2
      have HO := Lib.hid hot2
      have HC := Lib.hid hcs2
      clear hot hcs hot2 hcs2 ok hls HCL hcl
      go_upto_region 10 with (fail)
      refine wp_region_list ?_
      refine wpList_load_row rfl 55 _ rfl A rfl _ (rollC (seatsOf ot)) _ _ rA roll_array rfl (roll_size _) ?_
      go_wp2_with fail
      refine D2.out.mono ?_
      rintro e w4 ⟨vv, rfl, own4, b4⟩
      go_wp2_with fail
      go_returns
      rw [← HO.out, ← HC.out]
      refine ⟨vv, u5, rfl, own4.base bel.size, (own.below b4).base (by have := HA.out; omega), ?_, Bstep bel b4⟩
      cases e : vv.ownBlock with
      | none => exact .inl rfl
      | some q => exact .inr fun e2 => by have h1 := (own4.lt q e).1; have h2 := own.lt2 q e2.symm; omega
--@spec
/-- 'append(s, n)', the number laid just before; where the new row lies -/
theorem wp_app1W {w : World} {ops : Array Oper} {rest : List Oper} {o : Oper} {a : Act} {Q : Exit → Act → World → Prop}
    (hg : o.guard = none) (s x : Operand) (hop : o.op = Op.call { callee := Callee.builtin Builtin.append, args := #[s, x], argTypes := #[25, 25] })
    (base : Nat) (v : Value) (xs : List Int) (n : Int) (H : Nat) (hH : w.heap.size = H) (hs : a.eval s = v) (hx : a.eval x = .slice (some ⟨H, 0, none⟩) 1 1)
    (hown : Own w base v xs) (hlen : xs.length < 1000000000) (hb : base ≤ w.heap.size)
    (hK : ∀ v' w', Own w' base v' (xs ++ [n]) → w.grownBy w' v.ownBlock → (v'.ownBlock = v.ownBlock ∨ ∃ q, v'.ownBlock = some q ∧ H < q) → wpList Try.prog ops Q rest (a.put o.dst v') w') :
    wpList Try.prog ops Q (o :: rest) a (w.alloc (.cells #[.int .i64 n] 3)) := by
  subst hH
  have bel := alloc_below' w (.cells #[.int .i64 n] 3)
  have es : (w.alloc (.cells #[.int .i64 n] 3)).heap.size = w.heap.size + 1 := by show (w.heap.push _).size = _; simp
  refine wp_appW hg s x hop base v _ xs [n] hs hx (hown.below bel) (lit1 w n) (by simp; omega) (Nat.le_trans hb bel.size) ?_
  intro v' w' h1 h2 h3
  refine hK v' w' h1 (grown_of_alloc h2 fun k hk => (hown.lt2 k hk)) ?_
  rcases h3 with h3 | h3
  · exact .inl h3
  · exact .inr ⟨_, h3, by omega⟩
set_option maxRecDepth 100000 in
set_option maxHeartbeats 4000000 in
theorem spec_ProducersRun (v : Value) (bs : List Bat) (w : World) (h : Bats w v bs) (hbs : bs.length ≤ 100000000) : Calls Try.prog 9 #[v] w (RunRes w (runOut bs []) (runCodes bs [])) := by
  have hv := h
  obtain ⟨a, cap, rfl, hl, hm, hc⟩ := h
  unfold maxLen at hm
  clear hc
  have C1 : Hid (∀ W u v ts b, Ts W u ts → BatV W v b → Calls Try.prog 30 #[u, v] W (PutRes W (putList ts b) (putCode ts b))) := Lib.hid fun W u v ts b hu hv => spec_ProducersPut u v ts b W hu hv
  have bE := alloc_below' w (.cells #[] 61)
  have oE := own_emptyT w w.heap.size (Nat.le_refl _)
  have es : (w.alloc (.cells #[] 61)).heap.size = w.heap.size + 1 := by show (w.heap.push _).size = _; simp
  have bE2 := alloc_below' (w.alloc (.cells #[] 61)) (.cells #[] 3)
  have oC := own_empty (w.alloc (.cells #[] 61)) w.heap.size bE.size
  have oE1 := oE.below bE2
  have B1 := Bstep bE bE2
  rw [es] at oC
  clear es oE bE bE2
  go_enter Try.func9, Try.ntmps9
  go_wp2_with fail
  generalize ((w.alloc (.cells #[] 61)).alloc (.cells #[] 3)) = w1 at oE1 oC B1 ⊢
  have ap : (Value.slice (some ⟨w.heap.size, 0, none⟩) 0 0).ownBlock = none ∨ (Value.slice (some ⟨w.heap.size, 0, none⟩) 0 0).ownBlock ≠ (Value.slice (some ⟨w.heap.size + 1, 0, none⟩) 0 0).ownBlock := .inr (by simp [Value.ownBlock])
  go_loopw [4, 5, 6] (fun u c i wr => ∃ (k : Nat) (ot : List Trm) (cs : List Int), k ≤ bs.length ∧ i = .int .i64 k ∧ Hid (ot = runOut (bs.take k) []) ∧ Hid (cs = runCodes (bs.take k) []) ∧ OwnT wr w.heap.size u ot ∧ Own wr w.heap.size c cs ∧ Hid (u.ownBlock = none ∨ u.ownBlock ≠ c.ownBlock) ∧ Below w.heap.size w wr) (fun _ _ i _ => bs.length - (intOf i).toNat)
  case atStart => exact ⟨0, [], [], Nat.zero_le _, rfl, Lib.hid rfl, Lib.hid rfl, oE1, oC, Lib.hid ap, B1⟩
  case round =>
    clear oE1 oC ap B1
    obtain ⟨k, ot, cs, hk, rfl, hot, hcs, own, ownC, hap, bel⟩ := hrel
    have hcl : cs.length = k := by rw [hcs.out, runCodes_len, List.length_take]; omega
    have hcb : cs.length ≤ 100000000 := by omega
    clear hcl
    by_cases hlt : k < bs.length
    · have hB := hv.below bel
      obtain ⟨b, off, cp, e, _⟩ := hB.form (by omega)
      simp only [Value.slice.injEq, true_and] at e
      obtain ⟨rfl, rfl⟩ := e
      obtain ⟨x, a1, c1, Hx, hbc⟩ := hB.parts k hlt
      have hbv := hbc.batV
      obtain ⟨q0, q1, q2, q3, q4, q5, hrec⟩ := id hbc
      have hst := runOut_step bs k _ hlt Hx.out
      have hsc := runCodes_step bs k _ hlt Hx.out
      rw [← hot.out] at hst hsc
      rw [← hcs.out] at hsc
      obtain ⟨N, hN⟩ : ∃ N, putCode ot x = N := ⟨_, rfl⟩
      obtain ⟨Ls, hLs⟩ : ∃ Ls, putList ot x = Ls := ⟨_, rfl⟩
      have hnx : nextOut ot x = if N = 5 then ot else Ls := by unfold nextOut; rw [hN, hLs]
      rw [hnx] at hst
      rw [hN] at hsc
      have D1 := Lib.hid (C1.out wr _ _ ot x own.ts hbv)
      rw [hN, hLs] at D1
      have HST := Lib.hid hst
      have HSC := Lib.hid hsc
      obtain ⟨packed, mark, prod, epoch, seq, recs⟩ := x
      simp only at q0 q1 q2 q3 q4 q5 D1
      have i0 : (0 : Int) ≤ (k : Int) := by omega
      have i1 : (k : Int) < (bs.length : Int) := by omega
      clear hst hsc hN hLs hnx hbc hrec hbv
      go_wp2_with fail
      refine D1.out.mono ?_
      rintro e w3 ⟨v7, rfl, own7, b3⟩
      have B3 := Bstep bel b3
      have own3 := own.below b3
      have ownC3 := ownC.below b3
      have hap7 : Hid (v7.ownBlock = none ∨ v7.ownBlock ≠ u5.ownBlock) := Lib.hid (by
        cases e : v7.ownBlock with
        | none => exact .inl rfl
        | some q => exact .inr fun e2 => by have h1 := (own7.lt q e).1; have h2 := ownC.lt2 q e2.symm; omega)
      have own7b := own7.base bel.size
      clear q0 q1 q2 q3 q4 q5 D1 b3 own ownC own7
      by_cases h5 : N = 5
      · have d5 : (N != 5) = false := by simp [h5]
        have hst := HST.out
        rw [if_pos h5] at hst
        have HST2 := Lib.hid hst
        clear hst HST h5 hap7 own7b
        go_wp2_with (at_builtin; refine wp_app1W rfl _ _ rfl w.heap.size u5 cs N w3.heap.size rfl rfl rfl ownC3 (by omega) B3.size ?_; intro v9 w9 own9 g9 h9)
        have o9 := own3.grown g9 hap.out
        have B9 := B3.grown g9 B3.size (fun q hq => ownC3.lt q hq)
        have ap9 : u4.ownBlock = none ∨ u4.ownBlock ≠ v9.ownBlock := by
          rcases h9 with h9 | ⟨q, h9, hq⟩
          · rw [h9]; exact hap.out
          · cases e : u4.ownBlock with
            | none => exact .inl rfl
            | some p => exact .inr fun e2 => by have := (own3.lt p e).2; rw [h9] at e2; simp only [Option.some.injEq] at e2; omega
        go_roundw
        case rel => exact ⟨k + 1, ot, cs ++ [N], by omega, by go_num, Lib.hid HST2.out.symm, Lib.hid HSC.out.symm, o9, own9, Lib.hid ap9, B9⟩
        case measure => simp [intOf]; omega
      · have d5 : (N != 5) = true := by simp [h5]
        have hst := HST.out
        rw [if_neg h5] at hst
        have HST2 := Lib.hid hst
        clear hst HST h5 hap own3
        go_wp2_with (at_builtin; refine wp_app1W rfl _ _ rfl w.heap.size u5 cs N w3.heap.size rfl rfl rfl ownC3 (by omega) B3.size ?_; intro v9 w9 own9 g9 h9)
        have o9 := own7b.grown g9 hap7.out
        have B9 := B3.grown g9 B3.size (fun q hq => ownC3.lt q hq)
        have ap9 : v7.ownBlock = none ∨ v7.ownBlock ≠ v9.ownBlock := by
          rcases h9 with h9 | ⟨q, h9, hq⟩
          · rw [h9]; exact hap7.out
          · cases e : v7.ownBlock with
            | none => exact .inl rfl
            | some p => exact .inr fun e2 => by have := (own7b.lt p e).2; rw [h9] at e2; simp only [Option.some.injEq] at e2; omega
        go_roundw
        case rel => exact ⟨k + 1, Ls, cs ++ [N], by omega, by go_num, Lib.hid HST2.out.symm, Lib.hid HSC.out.symm, o9, own9, Lib.hid ap9, B9⟩
        case measure => simp [intOf]; omega
    · obtain rfl : k = bs.length := by omega
      have hot2 := hot.out
      have hcs2 := hcs.out
      rw [List.take_length] at hot2 hcs2
      have HO := Lib.hid hot2
      have HC := Lib.hid hcs2
      clear hot hcs hot2 hcs2
      go_wp2_with fail
      go_returns
      rw [← HO.out, ← HC.out]
      exact ⟨u4, u5, rfl, own, ownC, hap.out, bel⟩
end Go.Proofs.Ytfapeppocfodpaa
