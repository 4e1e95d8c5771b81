/- Chapter 23: a term begins. -/
import Derived.Test.YtddemgdclilgpaaW14c
import Derived.Deep.RegionLawGrows
namespace Go.Proofs.Ytddemgdclilgpaa
open Go.ChangeShapes Go.WideShapes Go.ChangeAt Go.RowKit
set_option linter.unusedVariables false

/-- 'append(s, u...)', u any row of terms, at an operation -/
theorem op_appAny {w : World} {o : Oper} {a : Act} {K : Act → World → Prop} {Q : Exit → Act → World → Prop}
    (s x : Operand) (hop : o.op = Op.call { callee := Callee.builtin Builtin.append, args := #[s, x], argTypes := #[23, 23] })
    (base : Nat) (v u : Value) (ts ss : List Trm) (hs : a.eval s = v) (hx : a.eval x = u) (hown : OwnT w base v ts) (hsrc : Ts w u ss) (hlen : ts.length + ss.length < 1000000000) (hb : base ≤ w.heap.size)
    (hK : ∀ v' w', OwnT w' base v' (ts ++ ss) → w.grownBy w' v.ownBlock → K (a.put o.dst v') w') :
    Oper.wp Try.prog o a w K Q := by
  obtain ⟨i0, hi, hz0, hz1, hz2⟩ := info_parts info_term
  have hsrc' := hsrc
  obtain ⟨ad, cap, rfl, hl, hm, hc⟩ := hsrc
  have fin : ∀ v' w', OwnT w' base v' (ts ++ ss) → w.grownBy w' v.ownBlock → (Builtin.append_ #[23, 23] o.type #[v, .slice ad ss.length cap]).run Try.prog w = .ok v' w' → Oper.wp Try.prog o a w K Q := fun v' w' h1 h2 hrun => by
    unfold Oper.wp execOp
    simp only [hop, resolve, invoke, builtin, Sem.run_bind, Sem.run_pure, Result.andThen_ok, List.map_toArray, List.map_cons, List.map_nil, hs, hx, hrun]
    exact hK v' w' h1 h2
  obtain ⟨xs, hr, hf⟩ := hown
  have hxl := hr.1
  cases ad with
  | none =>
    have h0 : ss = [] := by
      rcases Nat.eq_zero_or_pos ss.length with h | h
      · exact List.eq_nil_of_length_eq_zero h
      · obtain ⟨b, off, e, _⟩ := hc h; cases e
    subst h0
    exact fin v w (by rw [List.append_nil]; exact ⟨xs, hr, hf⟩) (World.grownBy.refl _ _) (run_append_none_any (P := Try.prog) (w := w) base 23 o.type 29 i0 2 Try.underlying23 hi v ts.length xs hr cap)
  | some ad =>
    have hnl : ((List.range (ss.length * 2)).map (rowT ss)).length = ss.length * 2 := by simp
    obtain ⟨v', w', hrun, r1, r2, _⟩ := run_append_own (P := Try.prog) w base 23 o.type 29 i0 _ 2 16 Try.underlying23 hi hz0 hz1 hz2 rfl (by decide) v ts.length xs hr ad ss.length cap ((List.range (ss.length * 2)).map (rowT ss)) hnl (by
      intro j u hj
      have hjl : j < ss.length * 2 := by
        rcases Nat.lt_or_ge j (ss.length * 2) with h | h
        · exact h
        · rw [List.getElem?_eq_none (by omega)] at hj; cases hj
      rw [List.getElem?_map, List.getElem?_range hjl] at hj
      simp only [Option.map_some, Option.some.injEq] at hj
      subst hj
      obtain ⟨b, off, e, hcell⟩ := hc (by omega)
      simp only [Option.some.injEq] at e
      subst e
      have q := hcell (j / 2) (by omega)
      rw [Addr.add_lit]
      rcases (show j = j / 2 * 2 ∨ j = j / 2 * 2 + 1 by omega) with e | e
      · have q1 := q.1
        rw [← e] at q1
        rw [q1]
        exact congrArg some (by rw [e, rowT_0, ← e])
      · have q2 := q.2
        rw [show off + j / 2 * 2 + 1 = off + j by omega] at q2
        rw [q2]
        exact congrArg some (by rw [e, rowT_1, ← e])) (by
      intro u hu
      obtain ⟨i, _, rfl⟩ := List.mem_map.1 hu
      unfold rowT twoV
      split <;> rfl) (by unfold maxLen; omega) (by omega) hb
    refine fin v' w' ⟨_, by rw [List.length_append]; exact r1, fun i hi => ?_⟩ r2 hrun
    rw [List.length_append] at hi
    by_cases hlt : i < ts.length * 2
    · rw [List.getElem?_append_left (by omega), hf i hlt]
      exact congrArg some (rowT_eq (by rw [tAt_app1 (by omega)]))
    · rw [List.getElem?_append_right (by omega), hxl, List.getElem?_map, List.getElem?_range (by omega)]
      simp only [Option.map_some, Option.some.injEq]
      have e2 : tAt (ts ++ ss) (i / 2) = tAt ss ((i - ts.length * 2) / 2) := by
        unfold tAt List.getD
        rw [List.getElem?_append_right (by omega), show i / 2 - ts.length = (i - ts.length * 2) / 2 by omega]
      unfold rowT
      rw [e2, show (i - ts.length * 2) % 2 = i % 2 by omega]
/-- the same, as a step of a region that draws; the facts are of an earlier world -/
theorem step_appAny {w0 w : World} {ops : Array Oper} {o : Oper} {a : Act} {K : Act → World → Prop} {Q : Exit → Act → World → Prop} {E : Prop}
    (hg : o.guard = none) (s x : Operand) (hop : o.op = Op.call { callee := Callee.builtin Builtin.append, args := #[s, x], argTypes := #[23, 23] })
    (base : Nat) (v u : Value) (ts ss : List Trm) (hs : a.eval s = v) (hx : a.eval x = u) (hbel : Below w0.heap.size w0 w) (hown : OwnT w0 base v ts) (hsrc : Ts w u ss) (hlen : ts.length + ss.length < 1000000000) (hb : base ≤ w0.heap.size)
    (hK : ∀ v' w', OwnT w' base v' (ts ++ ss) → w.grownBy w' v.ownBlock → K (a.put o.dst v') w') :
    if Region.wanted o (yielded ops a.tmps) = true then Oper.wp Try.prog o a w K Q else E := by
  have hw : Region.wanted o (yielded ops a.tmps) = true := by simp [Region.wanted, hg]
  rw [if_pos hw]
  exact op_appAny s x hop base v u ts ss hs hx (hown.below hbel) hsrc hlen (Nat.le_trans hb hbel.size) hK
theorem wp_appAny {w : World} {ops : Array Oper} {rest : List Oper} {o : Oper} {a : Act} {Q : Exit → Act → World → Prop}
    (hg : o.guard = none) (s x : Operand) (hop : o.op = Op.call { callee := Callee.builtin Builtin.append, args := #[s, x], argTypes := #[23, 23] })
    (base : Nat) (v u : Value) (ts ss : List Trm) (hs : a.eval s = v) (hx : a.eval x = u) (hown : OwnT w base v ts) (hsrc : Ts w u ss) (hlen : ts.length + ss.length < 1000000000) (hb : base ≤ w.heap.size)
    (hK : ∀ v' w', OwnT w' base v' (ts ++ ss) → w.grownBy w' v.ownBlock → wpList Try.prog ops Q rest (a.put o.dst v') w') :
    wpList Try.prog ops Q (o :: rest) a w :=
  wpList_plain hg fun _ hk => op_appAny s x hop base v u ts ss hs hx hown hsrc hlen hb fun v' w' h1 h2 => hk _ _ (hK v' w' h1 h2)
theorem OwnT.form' {w : World} {base : Nat} {v : Value} {ts : List Trm} (h : OwnT w base v ts) : ∃ a cap, v = .slice a ts.length cap := by
  obtain ⟨a, cap, rfl, _⟩ := h.ts
  exact ⟨a, cap, rfl⟩
/-- the term laid at a block -/
theorem blk_ts {w : World} {B : Nat} {x y : Int} (h : Blk w B #[.int .i64 x, .int .i64 y]) : Ts w (.slice (some ⟨B, 0, none⟩) 1 1) [⟨x, y⟩] :=
  ⟨_, 1, rfl, by simp, by unfold maxLen; omega, fun _ => ⟨B, 0, rfl, fun i hi => by
    obtain rfl : i = 0 := by simp at hi; omega
    exact ⟨h.cell 0, h.cell 1⟩⟩⟩
theorem NewT.mk' {w w' : World} {ts ss : List Trm} {ok b : Bool} {v : Value} {e : Ending} (he : e = .returned (.tuple #[v, .bool b])) (hb : ok = b) (hs : ts = ss) (own : OwnT w' w.heap.size v ss) (bel : Below w.heap.size w w') : NewT w ts ok e w' := by
  subst hb hs
  exact ⟨v, he, own, bel⟩
theorem putL_cases (ts : List Trm) (t : Trm) : (tsOk (ts ++ [t]) = true ∧ putL ts t = ts ++ [t]) ∨ (tsOk (ts ++ [t]) = false ∧ putL ts t = []) := by
  unfold putL
  cases e : tsOk (ts ++ [t]) with
  | true => exact .inl ⟨rfl, rfl⟩
  | false => exact .inr ⟨rfl, rfl⟩
set_option maxHeartbeats 1000000 in
theorem spec_TermsPut (v : Value) (ts : List Trm) (x y : Int) (w : World) (h : Ts w v ts) (hl8 : ts.length ≤ 10000000) : Calls Try.prog 18 #[v, .agg #[.int .i64 x, .int .i64 y]] w (NewT w (putL ts ⟨x, y⟩) (tsOk (ts ++ [⟨x, y⟩]))) := by
  have hv := h
  obtain ⟨a, cap, rfl, hl, hm, hc⟩ := h
  unfold maxLen at hm
  clear hc
  have HC := Lib.hid (putL_cases ts ⟨x, y⟩)
  have bX := alloc_below' w (.cells #[.int .i64 x, .int .i64 y] 29)
  have xX := Blk.made w #[.int .i64 x, .int .i64 y] 29
  go_enter Try.func18, Try.ntmps18
  go_upto_region 1 with (fail)
  generalize hwb : w.alloc (.cells #[.int .i64 x, .int .i64 y] 29) = wb at bX xX ⊢
  clear hwb
  obtain ⟨X, hX⟩ : ∃ X, w.heap.size = X := ⟨_, rfl⟩
  rw [hX] at xX ⊢
  have hvb := hv.below bX
  have HS : Hid (∀ W, Below wb.heap.size wb W → W.cell? ⟨X, 0, none⟩ = some (.int .i64 x) ∧ W.cell? ⟨X, 1, none⟩ = some (.int .i64 y)) := Lib.hid fun W hW => ⟨(xX.belowS hW).cell 0, (xX.belowS hW).cell 1⟩
  have bdr : Below wb.heap.size wb wb.drew := below_drewN (Below.refl _ _) 1
  have S1 := HS.out wb.drew bdr
  have bE := alloc_below' wb (.cells #[] 29)
  have bL := alloc_below' wb (.cells #[.int .i64 x, .int .i64 y] 29)
  have bEd : Below wb.heap.size wb (wb.alloc (.cells #[] 29)).drew := Bstep bE (below_drewN (Below.refl _ _) 1)
  have bLd : Below wb.heap.size wb (wb.alloc (.cells #[.int .i64 x, .int .i64 y] 29)).drew := Bstep bL (below_drewN (Below.refl _ _) 1)
  have bEL : Below (wb.alloc (.cells #[] 29)).heap.size (wb.alloc (.cells #[] 29)) ((wb.alloc (.cells #[] 29)).alloc (.cells #[.int .i64 x, .int .i64 y] 29)).drew := Bstep (alloc_below' _ _) (below_drewN (Below.refl _ _) 1)
  have bELd := Bstep bE bEL
  have bLE : Below wb.heap.size wb ((wb.alloc (.cells #[.int .i64 x, .int .i64 y] 29)).alloc (.cells #[] 29)).drew := Bstep (Bstep bL (alloc_below' _ _)) (below_drewN (Below.refl _ _) 1)
  have oE := own_emptyT wb wb.heap.size (Nat.le_refl _)
  have oLE : OwnT ((wb.alloc (.cells #[.int .i64 x, .int .i64 y] 29)).alloc (.cells #[] 29)) wb.heap.size (.slice (some ⟨wb.heap.size + 1, 0, none⟩) 0 0) [] := by
    have := own_emptyT (wb.alloc (.cells #[.int .i64 x, .int .i64 y] 29)) wb.heap.size (by simp)
    simpa using this
  have k1 := Blk.made wb #[.int .i64 x, .int .i64 y] 29
  have k2 : Blk ((wb.alloc (.cells #[] 29)).alloc (.cells #[.int .i64 x, .int .i64 y] 29)).drew (wb.heap.size + 1) #[.int .i64 x, .int .i64 y] := by
    have := Blk.made (wb.alloc (.cells #[] 29)) #[.int .i64 x, .int .i64 y] 29
    rw [show (wb.alloc (.cells #[] 29)).heap.size = wb.heap.size + 1 by simp] at this
    exact this.drew 1
  have k3 : Blk ((wb.alloc (.cells #[.int .i64 x, .int .i64 y] 29)).alloc (.cells #[] 29)).drew wb.heap.size #[.int .i64 x, .int .i64 y] := (k1.belowS (alloc_below' _ _)).drew 1
  have hE := hvb.below bEd
  have hEL := hvb.below bELd
  have hLE := hvb.below bLE
  have hn1 : ([] : List Trm).length + ts.length < 1000000000 := by simp; omega
  have hn2 : ts.length + [(⟨x, y⟩ : Trm)].length < 1000000000 := by simp; omega
  have hs1 : wb.heap.size ≤ (wb.alloc (.cells #[] 29)).heap.size := bE.size
  have hs2 : wb.heap.size ≤ ((wb.alloc (.cells #[.int .i64 x, .int .i64 y] 29)).alloc (.cells #[] 29)).heap.size := by simp; omega
  have d1 : ∀ W : World, Below W.heap.size W W.drew := fun W => below_drewN (Below.refl _ _) 1
  have HK : Hid (∀ (a b : Nat), a ≠ b → (Value.slice (some ⟨a, 0, none⟩) 0 0).ownBlock ≠ some b) := Lib.hid fun a b hab e => hab (by simpa [Value.ownBlock] using e)
  have HG : Hid (∀ (a : Nat), wb.heap.size ≤ a → ∀ k, (Value.slice (some ⟨a, 0, none⟩) 0 0).ownBlock = some k → wb.heap.size ≤ k) := Lib.hid fun a hab k e => by simp only [Value.ownBlock, Option.some.injEq] at e; omega
  clear hv
  go_region_held3 (fun W => W.cell? ⟨X, 0, none⟩ = some (.int .i64 x) ∧ W.cell? ⟨X, 1, none⟩ = some (.int .i64 y)) (first | with_reducible exact S1 | with_reducible exact HS.out _ bEd | with_reducible exact HS.out _ bLd | with_reducible exact HS.out _ bELd | with_reducible exact HS.out _ bLE | with_reducible exact HS.out _ b2 | with_reducible exact HS.out _ b2L | with_reducible exact HS.out _ b3 | go_keep)
    (first
      | ((with_reducible refine step_appAny (w0 := wb.alloc (.cells #[] 29)) rfl (.tmp 7) (.tmp 8) rfl wb.heap.size (.slice (some ⟨wb.heap.size, 0, none⟩) 0 0) (.slice a ts.length cap) [] ts rfl rfl (d1 _) oE hE hn1 hs1 ?_); intro v2 w2 own2 g2; have b2 := bEd.grown g2 bEd.size (HG.out _ (Nat.le_refl _)); have b2L := Bstep b2 (alloc_below' w2 (.cells #[.int .i64 x, .int .i64 y] 29)); have k5 := Blk.made w2 #[.int .i64 x, .int .i64 y] 29; rw [List.nil_append] at own2; have e2 := own2.form'; have hw2 := b2.size; have sA : True := trivial)
      | ((with_reducible refine step_appAny (w0 := wb.alloc (.cells #[] 29)) rfl (.tmp 7) (.tmp 8) rfl wb.heap.size (.slice (some ⟨wb.heap.size, 0, none⟩) 0 0) (.slice a ts.length cap) [] ts rfl rfl bEL oE hEL hn1 hs1 ?_); intro v2 w2 own2 g2; have b2 := bELd.grown g2 bELd.size (HG.out _ (Nat.le_refl _)); have k5 := k2.grown (HK.out _ _ (by omega)) g2; rw [List.nil_append] at own2; have e2 := own2.form'; have hw2 := b2.size)
      | ((with_reducible refine step_appAny (w0 := (wb.alloc (.cells #[.int .i64 x, .int .i64 y] 29)).alloc (.cells #[] 29)) rfl (.tmp 7) (.tmp 8) rfl wb.heap.size (.slice (some ⟨wb.heap.size + 1, 0, none⟩) 0 0) (.slice a ts.length cap) [] ts rfl rfl (d1 _) oLE hLE hn1 hs2 ?_); intro v2 w2 own2 g2; have b2 := bLE.grown g2 bLE.size (HG.out _ (by omega)); have k5 := k3.grown (HK.out _ _ (by omega)) g2; rw [List.nil_append] at own2; have e2 := own2.form'; have hw2 := b2.size)
      | ((with_reducible refine step_appAny (w0 := w2) rfl (.tmp 9) (.tmp 11) rfl wb.heap.size v2 (.slice (some ⟨w2.heap.size, 0, none⟩) 1 1) ts [⟨x, y⟩] rfl rfl (alloc_below' _ _) own2 (blk_ts k5) hn2 hw2 ?_); intro v3 w3 own3 g3; have b3 := b2L.grown g3 b2L.size (fun k hk => (own2.lt k hk).1))
      | ((with_reducible refine step_appAny (w0 := w2) rfl (.tmp 9) (.tmp 11) rfl wb.heap.size v2 (.slice (some ⟨wb.heap.size + 1, 0, none⟩) 1 1) ts [⟨x, y⟩] rfl rfl (Below.refl _ _) own2 (blk_ts k5) hn2 hw2 ?_); intro v3 w3 own3 g3; have b3 := b2.grown g3 b2.size (fun k hk => (own2.lt k hk).1))
      | ((with_reducible refine step_appAny (w0 := w2) rfl (.tmp 9) (.tmp 11) rfl wb.heap.size v2 (.slice (some ⟨wb.heap.size, 0, none⟩) 1 1) ts [⟨x, y⟩] rfl rfl (Below.refl _ _) own2 (blk_ts k5) hn2 hw2 ?_); intro v3 w3 own3 g3; have b3 := b2.grown g3 b2.size (fun k hk => (own2.lt k hk).1)))
  all_goals
    have B3 := Bstep bX b3
    have sX : w.heap.size ≤ wb.heap.size := bX.size
    have own4 := own3.base sX
    obtain ⟨us, hus⟩ : ∃ us, ts ++ [⟨x, y⟩] = us := ⟨_, rfl⟩
    rw [hus] at own3 own4 HC
    have HU := Lib.hid hus
    obtain ⟨a3, c3, rfl⟩ := own3.form'
    have C := Lib.hid (spec_TermsValid _ _ w3 own3.ts)
    clear k1 k2 k3 k5 oE oLE own2 g2 g3 hE hEL hLE b2 HK HG HS S1 bdr hus bE bL bEd bLd bEL bELd bLE hn1 hn2 hs1 hs2 d1 xX hvb e2
    rcases HC.out with ⟨e1, e2⟩ | ⟨e1, e2⟩
    · have E1 := Lib.hid e1
      have E2 := Lib.hid e2
      rw [e1] at C
      clear e1 e2
      go_wp2_with fail
      (with_reducible refine C.out.mono ?_)
      rintro e w4 ⟨rfl, b4⟩
      go_wp2_with fail
      go_ret2
      exact NewT.mk' rfl (by rw [HU.out]; exact E1.out) E2.out (own4.below b4) (Bstep B3 b4)
    · have E1 := Lib.hid e1
      have E2 := Lib.hid e2
      rw [e1] at C
      clear e1 e2
      go_wp2_with fail
      (with_reducible refine C.out.mono ?_)
      rintro e w4 ⟨rfl, b4⟩
      have b5 := alloc_below' w4 (.cells #[] 29)
      have B4 := Bstep B3 b4
      have sW : w.heap.size ≤ w4.heap.size := B4.size
      go_wp2_with fail
      go_ret2
      exact NewT.mk' rfl (by rw [HU.out]; exact E1.out) E2.out (own_emptyT w4 w.heap.size sW) (Bstep B4 b5)
/-- a term is appended to a full row of any make: all in new memory -/
theorem step_growT {w : World} {ops : Array Oper} {o : Oper} {a : Act} {K : Act → World → Prop} {Q : Exit → Act → World → Prop} {E : Prop}
    (hg : o.guard = none) (s x : Operand) (hop : o.op = Op.call { callee := Callee.builtin Builtin.append, args := #[s, x], argTypes := #[23, 23] })
    (ao : Option Addr) (ts : List Trm) (B : Nat) (p q : Int) (hs : a.eval s = .slice ao ts.length ts.length) (hx : a.eval x = .slice (some ⟨B, 0, none⟩) 1 1) (hsrc : Ts w (.slice ao ts.length ts.length) ts) (hn : ao = none → ts.length = 0)
    (hblk : Blk w B #[.int .i64 p, .int .i64 q]) (hlen : ts.length < 100000000)
    (hK : ∀ v' w', OwnT w' w.heap.size v' (ts ++ [⟨p, q⟩]) → w.grownBy w' none → K (a.put o.dst v') w') :
    if Region.wanted o (yielded ops a.tmps) = true then Oper.wp Try.prog o a w K Q else E := by
  obtain ⟨i0, hi, hz0, hz1, hz2⟩ := info_parts info_term
  have hol : ((List.range (ts.length * 2)).map (rowT ts)).length = ts.length * 2 := by simp
  refine step_append_grows hg s x 23 hop 29 i0 _ 2 16 Try.underlying23 hi hz0 hz1 hz2 rfl (by decide) ao ts.length ts.length ((List.range (ts.length * 2)).map (rowT ts)) hs (fun e => ⟨hn e, hn e⟩) hol ?_
    ⟨B, 0, none⟩ 1 1 [.int .i64 p, .int .i64 q] hx rfl ?_ ?_ (by omega) (by unfold maxLen; omega) (by omega) ?_
  · intro b hb j u hj
    subst hb
    have hjl : j < ts.length * 2 := by
      rcases Nat.lt_or_ge j (ts.length * 2) with h | h
      · exact h
      · rw [List.getElem?_eq_none (by omega)] at hj; cases hj
    rw [List.getElem?_map, List.getElem?_range hjl] at hj
    simp only [Option.map_some, Option.some.injEq] at hj
    subst hj
    obtain ⟨b', off, cp, e, _, _, hcell⟩ := hsrc.form (by omega)
    simp only [Value.slice.injEq, Option.some.injEq] at e
    obtain ⟨rfl, _⟩ := e
    have q := hcell (j / 2) (by omega)
    rw [Addr.add_lit]
    rcases (show j = j / 2 * 2 ∨ j = j / 2 * 2 + 1 by omega) with e | e
    · have q1 := q.1
      rw [← e] at q1
      rw [q1]
      exact congrArg some (by rw [e, rowT_0, ← e])
    · have q2 := q.2
      rw [show off + j / 2 * 2 + 1 = off + j by omega] at q2
      rw [q2]
      exact congrArg some (by rw [e, rowT_1, ← e])
  · intro j u hj
    match j, hj with
    | 0, hj => simp at hj; subst hj; exact hblk.cell 0
    | 1, hj => simp at hj; subst hj; exact hblk.cell 1
  · intro u hu
    simp only [List.mem_cons, List.not_mem_nil, or_false] at hu
    rcases hu with rfl | rfl <;> rfl
  · intro v' w' h1 h2
    refine hK v' w' ⟨_, by rw [List.length_append]; exact h1, fun i hi => ?_⟩ h2
    rw [List.length_append] at hi
    simp only [List.length_cons, List.length_nil] at hi
    by_cases hlt : i < ts.length * 2
    · rw [List.getElem?_append_left (by omega), List.getElem?_map, List.getElem?_range hlt]
      exact congrArg some (rowT_eq (by rw [tAt_app1 (by omega)]))
    · rw [List.getElem?_append_right (by omega), hol]
      have e2 : tAt (ts ++ [⟨p, q⟩]) (i / 2) = ⟨p, q⟩ := by rw [show i / 2 = ts.length by omega]; exact tAt_app2
      unfold rowT
      rw [e2]
      rcases (show i = ts.length * 2 ∨ i = ts.length * 2 + 1 by omega) with rfl | rfl
      · rw [Nat.sub_self, show ts.length * 2 % 2 = 0 by omega]; rfl
      · rw [show ts.length * 2 + 1 - ts.length * 2 = 1 by omega, show (ts.length * 2 + 1) % 2 = 1 by omega]; rfl
/-- a row that is nil or lies at an address -/
def Formed (v : Value) : Prop := v = .slice none 0 0 ∨ ∃ b off n cap, v = .slice (some ⟨b, off, none⟩) n cap
theorem OwnT.formed {w : World} {base : Nat} {v : Value} {ts : List Trm} (h : OwnT w base v ts) : Formed v := by
  obtain ⟨xs, hr, _⟩ := h
  rcases hr.2 with ⟨rfl, _⟩ | ⟨g, cap, cur, rfl, _⟩
  · exact .inl rfl
  · exact .inr ⟨g, 0, _, cap, rfl⟩
end Go.Proofs.Ytddemgdclilgpaa
