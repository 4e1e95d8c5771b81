/- Chapter 21: the law on the other producers. -/
import Derived.Test.YtlppnhkgadcgdaaK23
namespace Go.Proofs.Ytlppnhkgadcgdaa
open Go.ChangeShapes Go.WideShapes Go.ChangeAt Go.RowKit
set_option linter.unusedVariables false

/-- 'append(s, t)', the producer laid just before; where the new row lies -/
theorem wp_appT3 {w : World} {ops : Array Oper} {rest : List Oper} {o : Oper} {a : Act} {Q : Exit → Act → World → Prop}
    (hg : o.guard = none) (s x : Operand) (hop : o.op = Op.call { callee := Callee.builtin Builtin.append, args := #[s, x], argTypes := #[29, 29] })
    (base : Nat) (v : Value) (ts : List Trm) (n f z : Int) (H : Nat) (hH : w.heap.size = H) (hs : a.eval s = v) (hx : a.eval x = .slice (some ⟨H, 0, none⟩) 1 1)
    (hown : OwnT w base v ts) (hlen : ts.length < 100000000) (hb : base ≤ w.heap.size)
    (hK : ∀ g cap w', OwnT w' base (.slice (some ⟨g, 0, none⟩) (ts.length + 1) cap) (ts ++ [⟨n, f, z⟩]) → w.grownBy w' v.ownBlock → (v.ownBlock = some g ∨ H < g) → wpList Try.prog ops Q rest (a.put o.dst (.slice (some ⟨g, 0, none⟩) (ts.length + 1) cap)) w') :
    wpList Try.prog ops Q (o :: rest) a (w.alloc (.cells #[.int .i64 n, .int .i64 f, .int .i64 z] 42)) := by
  subst hH
  have hb' : Below w.heap.size w (w.alloc (.cells #[.int .i64 n, .int .i64 f, .int .i64 z] 42)) := (Below.refl _ _).alloc (Nat.le_refl _) _
  have blk := Blk.made w #[.int .i64 n, .int .i64 f, .int .i64 z] 42
  refine wp_appTs hg s x hop base v ts [⟨n, f, z⟩] ⟨w.heap.size, 0, none⟩ 1 hs hx (hown.below hb') ?_ (by simp) (by simp; omega) (by simp; omega) _ rfl ?_
  · intro i hi
    obtain rfl : i = 0 := by simp at hi; omega
    exact ⟨blk.cell 0, blk.cell 1, blk.cell 2⟩
  · intro g cap w' h2 h3 h4
    refine hK g cap w' h2 (grown_of_alloc h3 fun k hk => (hown.lt k hk).2) (h4.imp_right fun e => ?_)
    have : w.heap.size < (w.alloc (.cells #[.int .i64 n, .int .i64 f, .int .i64 z] 42)).heap.size := by show _ < (w.heap.push _).size; simp
    omega
theorem filter_take (ts : List Trm) (p : Int) (k : Nat) (hk : k < ts.length) : (ts.take (k + 1)).filter (fun t => decide (t.num ≠ p)) = (ts.take k).filter (fun t => decide (t.num ≠ p)) ++ (if (tAt ts k).num = p then [] else [tAt ts k]) := by
  rw [take_snocT ts k hk, List.filter_append]
  congr 1
  by_cases e : (tAt ts k).num = p
  · rw [if_pos e]; simp [e]
  · rw [if_neg e]; simp [e]
set_option maxHeartbeats 2000000 in
theorem law_FnPutOthers (w : World) (v : Value) (zs : List Int) (h : U8s w v zs) : Calls Try.prog 12 #[v] w (Yes w) := by
  have hU := h
  obtain ⟨a, cap, rfl, hl, hm, hc, hr⟩ := hU
  unfold maxLen at hm
  clear hc hr
  by_cases hlen : 1048576 < zs.length
  · have d0 : decide ((1048576 : Int) < (zs.length : Int)) = true := decide_eq_true (by omega)
    go_enter Try.func12, Try.ntmps12
    go_wp2_with fail
    go_ret
    exact ⟨rfl, Below.refl _ _⟩
  have d0 : decide ((1048576 : Int) < (zs.length : Int)) = false := decide_eq_false (by omega)
  have C0 := Lib.hid (spec_DrawProducersPut _ zs w h (by omega))
  clear h
  go_enter Try.func12, Try.ntmps12
  go_wp2_with fail
  refine C0.out.mono ?_
  rintro e w1 ⟨u, ts, b, vb, rfl, hT, hb, hl9, B1⟩
  obtain ⟨ra, rc, rfl, -, -, hrc⟩ := hb.parts
  have hT0 := hT
  obtain ⟨ua, uc, rfl, -, huc, -⟩ := hT0
  unfold maxLen at huc
  obtain ⟨packed, mark, prod, epoch, seq, recs⟩ := b
  simp only at hb ⊢
  clear C0
  have bX := alloc_below' w1 (.cells #[.bool packed, .bool mark, .int .i64 prod, .int .i64 epoch, .int .i64 seq, .slice ra recs.length rc] 33)
  have xX := Blk.made w1 #[.bool packed, .bool mark, .int .i64 prod, .int .i64 epoch, .int .i64 seq, .slice ra recs.length rc] 33
  go_wp2_with fail
  generalize w1.alloc (.cells #[.bool packed, .bool mark, .int .i64 prod, .int .i64 epoch, .int .i64 seq, .slice ra recs.length rc] 33) = w2 at bX xX ⊢
  obtain ⟨X, hX⟩ : ∃ X, w1.heap.size = X := ⟨_, rfl⟩
  have B2 := Bstep B1 bX
  have hT2 := hT.below bX
  have hb2 := hb.below bX
  have hwX : w.heap.size ≤ X := by rw [← hX]; exact B1.size
  rw [hX] at xX ⊢
  clear hX bX B1 hT hb
  have C1 : Hid (∀ W u v b, Ts W u ts → BatV W v b → Calls Try.prog 27 #[u, v] W (PutRes W (putList ts b) (putCode ts b))) := Lib.hid fun W u v b hu hv => impl_ProducersPut u v ts b W hu hv
  have C2 := Lib.hid (C1.out w2 _ _ _ hT2 hb2)
  have C3 : Hid (∀ W u v, Ts W u ts → BatV W v ⟨packed, mark, prod, epoch, seq, recs⟩ → Calls Try.prog 26 #[u, v] W (PutRes W (putList ts ⟨packed, mark, prod, epoch, seq, recs⟩) (putCode ts ⟨packed, mark, prod, epoch, seq, recs⟩))) := Lib.hid fun W u v hu hv => spec_ProducersPut u v ts _ W hu hv
  have HF : Hid (putCode ts ⟨packed, mark, prod, epoch, seq, recs⟩ = 0 → ((putList ts ⟨packed, mark, prod, epoch, seq, recs⟩).filter (fun t => decide (t.num ≠ prod)) = ts.filter (fun t => decide (t.num ≠ prod)) ∧ (putList ts ⟨packed, mark, prod, epoch, seq, recs⟩).length = (ts.filter (fun t => decide (t.num ≠ prod))).length + 1) ∧ (putList ts ⟨packed, mark, prod, epoch, seq, recs⟩).length ≤ 1048577) := Lib.hid fun h0 => ⟨put_others (b := ⟨packed, mark, prod, epoch, seq, recs⟩) h0, by
    have h1 : (putList ts ⟨packed, mark, prod, epoch, seq, recs⟩).length = (ts.filter (fun t => decide (t.num ≠ prod))).length + 1 := (put_others (b := ⟨packed, mark, prod, epoch, seq, recs⟩) h0).2
    have h2 := List.length_filter_le (fun t => decide (t.num ≠ prod)) ts
    omega⟩
  obtain ⟨N, hN⟩ : ∃ N, putCode ts ⟨packed, mark, prod, epoch, seq, recs⟩ = N := ⟨_, rfl⟩
  obtain ⟨Ls, hLs⟩ : ∃ Ls, putList ts ⟨packed, mark, prod, epoch, seq, recs⟩ = Ls := ⟨_, rfl⟩
  rw [hN, hLs] at C2 C3 HF
  clear hN hLs C1
  have C6 : Hid (∀ W u v ss, Ts W u ss → Ts W v ss → Calls Try.prog 32 #[u, v] W (Same W true)) := Lib.hid fun W u v ss hu hv => laws_sameProducers u v ss W hu hv
  have hNN : (N != N) = false := by simp
  have hNe : (N == N) = true := by simp
  (with_reducible refine C2.out.mono ?_)
  rintro e w3 ⟨v5, rfl, own5, b3⟩
  have B3 := Bstep B2 b3
  have x3 := xX.belowS b3
  have hT3 := hT2.below b3
  have hb3 := hb2.below b3
  clear xX B2 hT2 hb2 b3 C2
  obtain ⟨c0, c1, c2, c3, c4, c5⟩ := x3.sixC
  go_wp2_with fail
  (with_reducible refine (C3.out w3 _ _ hT3 hb3).mono ?_)
  rintro e w4 ⟨v7, rfl, own7, b4⟩
  have B4 := Bstep B3 b4
  have x4 := x3.belowS b4
  have hT4 := hT3.below b4
  have hb4 := hb3.below b4
  have o54 := own5.ts.below b4
  have o74 := own7.ts
  clear c0 c1 c2 c3 c4 c5 x3 B3 hT3 hb3 b4 C3 own5 own7
  go_wp2_with fail
  (with_reducible refine (C6.out w4 _ _ _ o54 o74).mono ?_)
  rintro e w5 ⟨rfl, b5⟩
  have B5 := Bstep B4 b5
  have x5 := x4.belowS b5
  have hT5 := hT4.below b5
  have hb5 := hb4.below b5
  have o55 := o54.below b5
  have o75 := o74.below b5
  clear x4 B4 hT4 hb4 b5 o54 o74
  by_cases h5 : N = 0
  rotate_left
  · have d5 : (N != 0) = true := by simp [h5]
    clear HF h5
    go_wp2_with fail
    (with_reducible refine (C6.out w5 _ _ _ o55 o75).mono ?_)
    rintro e w6 ⟨rfl, b6⟩
    go_wp2_with fail
    go_ret
    exact ⟨rfl, Bstep B5 b6⟩
  have d5 : (N != 0) = false := by simp [h5]
  obtain ⟨⟨hfil, hlen1⟩, hLl⟩ := HF.out h5
  have HFil := Lib.hid hfil
  have HLen := Lib.hid hlen1
  clear HF h5 hfil hlen1 o75
  obtain ⟨la, lc, hv5, -, hlc, -⟩ := id o55
  subst hv5
  unfold maxLen at hlc
  have bE := alloc_below' w5 (.cells #[] 42)
  have oE := own_emptyT w5 w5.heap.size (Nat.le_refl _)
  have es : (w5.alloc (.cells #[] 42)).heap.size = w5.heap.size + 1 := by show (w5.heap.push _).size = _; simp
  have bE2 := alloc_below' (w5.alloc (.cells #[] 42)) (.cells #[] 42)
  have oE2 := own_emptyT (w5.alloc (.cells #[] 42)) w5.heap.size bE.size
  rw [es] at oE2
  have oE1 := oE.below bE2
  have b56 := Bstep bE bE2
  clear es oE bE bE2
  go_upto_region 10 with (fail)
  generalize ((w5.alloc (.cells #[] 42)).alloc (.cells #[] 42)) = w6 at oE1 oE2 b56 ⊢
  obtain ⟨E, hE⟩ : ∃ E, w5.heap.size = E := ⟨_, rfl⟩
  have HE := Lib.hid hE
  have hwE : w.heap.size ≤ E := by rw [← hE]; exact B5.size
  have HT : Hid (∀ W, Below E w5 W → Ts W (.slice ua ts.length uc) ts ∧ Ts W (.slice la Ls.length lc) Ls ∧ Blk W X #[.bool packed, .bool mark, .int .i64 prod, .int .i64 epoch, .int .i64 seq, .slice ra recs.length rc] ∧ Below w.heap.size w W) := Lib.hid fun W hW => by
    rw [← hE] at hW
    exact ⟨hT5.below hW, o55.below hW, x5.belowS hW, Bstep B5 hW⟩
  rw [hE] at oE1 oE2 b56 ⊢
  have hlE := oE2.ts
  clear hE hT5 hb5 o55 x5 B5 hlE
  go_wp2_with fail
  go_loopw [9, 11] (fun u i wr => ∃ (k : Nat) (pre : List Trm), k ≤ ts.length ∧ i = .int .i64 k ∧ pre = (ts.take k).filter (fun t => decide (t.num ≠ prod)) ∧ OwnT wr E u pre ∧ OwnT wr E (.slice (some ⟨E + 1, 0, none⟩) 0 0) [] ∧ (∀ g, u.ownBlock = some g → g ≠ E + 1) ∧ Below E w5 wr) (fun _ i _ => ts.length - (intOf i).toNat)
  case atStart => exact ⟨0, [], Nat.zero_le _, rfl, by simp, oE1, oE2, (fun g hg => by simp [Value.ownBlock] at hg; omega), b56⟩
  case round =>
    clear oE1 oE2 b56
    obtain ⟨k, pre, hk, rfl, hpre, own, oC, hap, bel⟩ := hrel
    have HPre := Lib.hid hpre
    have hpl : pre.length ≤ 9 := by rw [hpre]; exact Nat.le_trans (List.length_filter_le _ _) (Nat.le_trans (List.length_take_le _ _) (by omega))
    clear hpre
    have HAp := Lib.hid hap
    clear hap
    obtain ⟨hT, hLs, xW, BW⟩ := HT.out wr bel
    by_cases hlt : k < ts.length
    · have hzz := hlt
      obtain ⟨b1, off, cp, e, -, -, -⟩ := hT.form (by omega)
      simp only [Value.slice.injEq, true_and] at e
      obtain ⟨rfl, rfl⟩ := e
      obtain ⟨q0, q1, q2⟩ := hT.cells k hlt
      have hft := filter_take ts prod k hlt
      rw [← HPre.out] at hft
      obtain ⟨t, ht⟩ : ∃ t, tAt ts k = t := ⟨_, rfl⟩
      rw [ht] at q0 q1 q2 hft
      have Ht := Lib.hid ht
      obtain ⟨x, y, z⟩ := t
      simp only at q0 q1 q2 hft
      clear ht
      have i0 : (0 : Int) ≤ (k : Int) := by omega
      have i1 : (k : Int) < (ts.length : Int) := by omega
      obtain ⟨y0, y1, y2, y3, y4, y5⟩ := xW.sixC
      by_cases e0 : x = prod
      · have dx : (x != prod) = false := by simp [e0]
        rw [if_pos e0, List.append_nil] at hft
        have HFt := Lib.hid hft
        clear e0 hft
        go_wp2_with fail
        go_quiet (fail)
        have bq := below_drewN (Below.refl wr.heap.size wr) nq
        have belq : Below E w5 (wr.drewN nq) := bel.trans (bq.mono (by have := bel.size; have := HE.out; omega))
        go_wp2_with fail
        go_roundw
        case rel => exact ⟨k + 1, pre, by omega, by go_num, HFt.out.symm, own.below bq, oC.below bq, HAp.out, belq⟩
        case measure => simp [intOf]; omega
      · have dx : (x != prod) = true := by simp [e0]
        rw [if_neg e0] at hft
        have HFt := Lib.hid hft
        clear e0 hft
        go_wp2_with fail
        go_quiet (fail)
        obtain ⟨wa, hwa⟩ : ∃ W, wr.drewN nq = W := ⟨_, rfl⟩
        rw [hwa]
        have bq := below_drewN (Below.refl wr.heap.size wr) nq
        rw [hwa] at bq
        have belq : Below E w5 wa := bel.trans (bq.mono (by have := bel.size; have := HE.out; omega))
        have ownq := own.below bq
        have oq := oC.below bq
        have hq := hT.below bq
        clear hwa q0 q1 q2 y0 y1 y2 y3 y4 y5
        obtain ⟨q0, q1, q2⟩ := hq.cells k hlt
        rw [Ht.out] at q0 q1 q2
        simp only at q0 q1 q2
        have hEs : E ≤ wa.heap.size := by have := belq.size; have := HE.out; omega
        go_wp2_with (at_builtin; refine wp_appT3 rfl _ _ rfl E u9 pre x y z wa.heap.size rfl rfl rfl ownq (by omega) hEs ?_; intro g8 cp8 w8 own8 gr8 hg8)
        have bel8 : Below E w5 w8 := by
          have h1 : Below w5.heap.size w5 wa := by rw [HE.out]; exact belq
          have h2 := below_row h1 ownq (Nat.le_of_eq HE.out) gr8
          rw [HE.out] at h2
          exact h2
        have o8 := oq.grown gr8 (.inr fun e => HAp.out (E + 1) e.symm rfl)
        have hap8 : ∀ g, (Value.slice (some ⟨g8, 0, none⟩) (pre.length + 1) cp8).ownBlock = some g → g ≠ E + 1 := fun g hg => by
          have e3 : g8 = g := by simpa [Value.ownBlock] using hg
          have hl := (oq.lt (E + 1) rfl).2
          rcases hg8 with hg8 | hg8
          · exact HAp.out g (by rw [hg8, e3])
          · omega
        go_roundw
        case rel => exact ⟨k + 1, pre ++ [⟨x, y, z⟩], by omega, by go_num, HFt.out.symm, own8, o8, hap8, bel8⟩
        case measure => simp [intOf]; omega
    · obtain rfl : k = ts.length := by omega
      have hA := HPre.out
      rw [List.take_length] at hA
      have HA := Lib.hid hA
      clear hA HPre hT hLs xW BW
      obtain ⟨aa, ac, rfl⟩ := own.form'
      have aple : Hid ((Value.slice aa pre.length ac).ownBlock = none ∨ (Value.slice aa pre.length ac).ownBlock ≠ (Value.slice (some ⟨E + 1, 0, none⟩) 0 0).ownBlock) := Lib.hid (by
        cases e : (Value.slice aa pre.length ac).ownBlock with
        | none => exact .inl rfl
        | some q => exact .inr fun e2 => HAp.out q e (by simpa [Value.ownBlock] using e2))
      clear HAp
      go_wp2_with fail
      go_loopw [10, 12] (fun u i wr => ∃ (k : Nat) (prc : List Trm), k ≤ Ls.length ∧ i = .int .i64 k ∧ prc = (Ls.take k).filter (fun t => decide (t.num ≠ prod)) ∧ OwnT wr E u prc ∧ OwnT wr E (.slice aa pre.length ac) pre ∧ ((Value.slice aa pre.length ac).ownBlock = none ∨ (Value.slice aa pre.length ac).ownBlock ≠ u.ownBlock) ∧ Below E w5 wr) (fun _ i _ => Ls.length - (intOf i).toNat)
      case atStart => exact ⟨0, [], Nat.zero_le _, rfl, by simp, oC, own, aple.out, bel⟩
      case round =>
        clear own oC bel aple
        obtain ⟨k, prc, hk, rfl, hprc, own, oA, hap, bel⟩ := hrel
        have HPrc := Lib.hid hprc
        have hpl2 : prc.length ≤ 1048577 := by rw [hprc]; exact Nat.le_trans (List.length_filter_le _ _) (Nat.le_trans (List.length_take_le _ _) (by omega))
        clear hprc
        have HAp := Lib.hid hap
        clear hap
        obtain ⟨hT, hLs, xW, BW⟩ := HT.out wr bel
        by_cases hlt : k < Ls.length
        · have hzz := hlt
          obtain ⟨b1, off, cp, e, -, -, -⟩ := hLs.form (by omega)
          simp only [Value.slice.injEq, true_and] at e
          obtain ⟨rfl, rfl⟩ := e
          obtain ⟨q0, q1, q2⟩ := hLs.cells k hlt
          have hft := filter_take Ls prod k hlt
          rw [← HPrc.out] at hft
          obtain ⟨t, ht⟩ : ∃ t, tAt Ls k = t := ⟨_, rfl⟩
          rw [ht] at q0 q1 q2 hft
          have Ht := Lib.hid ht
          obtain ⟨x, y, z⟩ := t
          simp only at q0 q1 q2 hft
          clear ht
          have i0 : (0 : Int) ≤ (k : Int) := by omega
          have i1 : (k : Int) < (Ls.length : Int) := by omega
          obtain ⟨y0, y1, y2, y3, y4, y5⟩ := xW.sixC
          by_cases e0 : x = prod
          · have dx : (x != prod) = false := by simp [e0]
            rw [if_pos e0, List.append_nil] at hft
            have HFt := Lib.hid hft
            clear e0 hft
            go_wp2_with fail
            go_quiet (fail)
            have bq := below_drewN (Below.refl wr.heap.size wr) nq
            have belq : Below E w5 (wr.drewN nq) := bel.trans (bq.mono (by have := bel.size; have := HE.out; omega))
            go_wp2_with fail
            go_roundw
            case rel => exact ⟨k + 1, prc, by omega, by go_num, HFt.out.symm, own.below bq, oA.below bq, HAp.out, belq⟩
            case measure => simp [intOf]; omega
          · have dx : (x != prod) = true := by simp [e0]
            rw [if_neg e0] at hft
            have HFt := Lib.hid hft
            clear e0 hft
            go_wp2_with fail
            go_quiet (fail)
            obtain ⟨wa, hwa⟩ : ∃ W, wr.drewN nq = W := ⟨_, rfl⟩
            rw [hwa]
            have bq := below_drewN (Below.refl wr.heap.size wr) nq
            rw [hwa] at bq
            have belq : Below E w5 wa := bel.trans (bq.mono (by have := bel.size; have := HE.out; omega))
            have ownq := own.below bq
            have oq := oA.below bq
            have hq := hLs.below bq
            clear hwa q0 q1 q2 y0 y1 y2 y3 y4 y5
            obtain ⟨q0, q1, q2⟩ := hq.cells k hlt
            rw [Ht.out] at q0 q1 q2
            simp only at q0 q1 q2
            have hEs : E ≤ wa.heap.size := by have := belq.size; have := HE.out; omega
            go_wp2_with (at_builtin; refine wp_appT3 rfl _ _ rfl E u10 prc x y z wa.heap.size rfl rfl rfl ownq (by omega) hEs ?_; intro g8 cp8 w8 own8 gr8 hg8)
            have bel8 : Below E w5 w8 := by
              have h1 : Below w5.heap.size w5 wa := by rw [HE.out]; exact belq
              have h2 := below_row h1 ownq (Nat.le_of_eq HE.out) gr8
              rw [HE.out] at h2
              exact h2
            have o8 := oq.grown gr8 HAp.out
            have hap8 : (Value.slice aa pre.length ac).ownBlock = none ∨ (Value.slice aa pre.length ac).ownBlock ≠ (Value.slice (some ⟨g8, 0, none⟩) (prc.length + 1) cp8).ownBlock := by
              cases e : (Value.slice aa pre.length ac).ownBlock with
              | none => exact .inl rfl
              | some q =>
                refine .inr fun e2 => ?_
                have e3 : q = g8 := by simpa [Value.ownBlock] using e2
                have hl := (oq.lt q e).2
                rcases hg8 with hg8 | hg8
                · rcases HAp.out with h0 | h0
                  · rw [e] at h0; cases h0
                  · exact h0 (by rw [e, hg8, e3])
                · omega
            go_roundw
            case rel => exact ⟨k + 1, prc ++ [⟨x, y, z⟩], by omega, by go_num, HFt.out.symm, own8, o8, hap8, bel8⟩
            case measure => simp [intOf]; omega
        · obtain rfl : k = Ls.length := by omega
          have hC := HPrc.out
          rw [List.take_length, HFil.out, ← HA.out] at hC
          subst hC
          obtain ⟨ca, cc, rfl⟩ := own.form'
          have hlen2 := HLen.out
          rw [← HA.out] at hlen2
          have dsub : ((Ls.length : Int) - (prc.length : Int) == 1) = true := by rw [beq_iff_eq]; omega
          have hp9 : prc.length ≤ 9 := hpl
          clear HPrc HAp HA HFil HLen hlen2
          go_wp2_with fail
          (with_reducible refine (C6.out wr _ _ _ oA.ts own.ts).mono ?_)
          rintro e w9 ⟨rfl, b9⟩
          go_wp2_with fail
          go_ret
          exact ⟨rfl, Bstep BW b9⟩
end Go.Proofs.Ytlppnhkgadcgdaa
