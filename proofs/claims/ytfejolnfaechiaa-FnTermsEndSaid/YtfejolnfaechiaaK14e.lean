/- Chapter 23: laws of ends, and of terms that are missing. -/
import Derived.Test.YtfejolnfaechiaaD14
import Derived.Test.YtfejolnfaechiaaW14e
import Derived.Test.YtfejolnfaechiaaT1
namespace Go.Proofs.Ytfejolnfaechiaa
open Go.ChangeShapes Go.WideShapes Go.ChangeAt Go.RowKit
set_option linter.unusedVariables false

set_option maxHeartbeats 1000000 in
theorem law_FnTermsEnd (w : World) (v : Value) (zs : List Int) (h : U8s w v zs) : Calls Try.prog 5 #[v] w (Yes w) := by
  have hU := h
  obtain ⟨a, cap, rfl, hl, hm, hc, hr⟩ := hU
  unfold maxLen at hm
  clear hc hr
  by_cases hlen : 1048576 < zs.length
  · go_enter Try.func5, Try.ntmps5
    go_wp2
    go_ret
    exact ⟨rfl, Below.refl _ _⟩
  · have C0 := Lib.hid (spec_DrawTermsEnd _ zs w h (by omega))
    clear h
    go_enter Try.func5, Try.ntmps5
    go_wp2_with fail
    refine C0.out.mono ?_
    rintro e w1 ⟨u, ts, n, en, rfl, own1, hT, ⟨n0, n1⟩, ⟨en0, en1⟩, B1⟩
    have C1 : Hid (∀ W u, Ts W u ts → Calls Try.prog 21 #[u, .int .i64 n, .int .i64 en] W (fun e w' => e = .returned (.int .i64 (endT ts n en)) ∧ Below W.heap.size W w')) := Lib.hid fun W u hu => spec_TermsEnd u ts n en W hu
    have C2 : Hid (∀ W u, Ts W u ts → Calls Try.prog 20 #[u, .int .i64 n, .int .i64 en] W (fun e w' => e = .returned (.int .i64 (endT ts n en)) ∧ Below W.heap.size W w')) := Lib.hid fun W u hu => impl_TermsEnd u ts n en W hu
    have HF : Hid (0 ≤ endT ts n en → ∃ i, i < ts.length ∧ (tAt ts i).num = n ∧ endT ts n en = endAtT ts i en ∧ (∀ j, j < i → (tAt ts j).num ≠ n) ∧ (tAt ts i).first < endAtT ts i en) := Lib.hid fun hp => by
      obtain ⟨g1, i, g2, g3, g4, g5⟩ := endT_pos hp
      exact ⟨i, g2, g3, g4, g5, (endAt_in g1 g2).1⟩
    obtain ⟨E, hE⟩ : ∃ E, endT ts n en = E := ⟨_, rfl⟩
    rw [hE] at C1 C2 HF
    have qE : (E != E) = false := by simp
    have qe : (E == E) = true := by simp
    have hT9 := hT.1
    clear hE C0 hT
    go_wp2_with fail
    refine (C2.out w1 u own1.ts).mono ?_
    rintro e w2 ⟨rfl, b2⟩
    have B2 := Bstep B1 b2
    have own2 := own1.below b2
    clear own1 b2 B1
    go_wp2_with fail
    refine (C1.out w2 u own2.ts).mono ?_
    rintro e w3 ⟨rfl, b3⟩
    have B3 := Bstep B2 b3
    have own3 := own2.below b3
    clear own2 b3 B2
    by_cases hp : E < 0
    · have d0 : decide (E < 0) = true := decide_eq_true hp
      go_wp2_with fail
      go_ret
      exact ⟨rfl, B3⟩
    · have d0 : decide (E < 0) = false := decide_eq_false hp
      obtain ⟨i, hi, g3, g4, g5, g6⟩ := HF.out (by omega)
      obtain ⟨g, cp, rfl⟩ := own3.form (by omega)
      have z1 := own3.ts.sizes.2
      unfold maxLen at z1
      have G5 := Lib.hid g5
      have G3 := Lib.hid g3
      have HEi : Hid (E = endAtT ts i en) := Lib.hid g4
      have HG6 : Hid ((tAt ts i).first < E) := Lib.hid (by rw [g4]; exact g6)
      clear g3 g4 g5 g6 HF
      go_wp2_with fail
      go_loop [8] (fun q => ∃ k : Nat, k ≤ i ∧ q = .int .i64 k) (fun q => ts.length - (intOf q).toNat)
      case atStart => exact ⟨0, Nat.zero_le _, rfl⟩
      case round =>
        obtain ⟨k, hk, rfl⟩ := hrel
        have hkl : k < ts.length := by omega
        obtain ⟨c0, c1, _, _⟩ := own3.cellsAt k hkl
        obtain ⟨⟨x, y⟩, Ht⟩ : ∃ t, Hid (tAt ts k = t) := ⟨_, Lib.hid rfl⟩
        rw [Ht.out] at c0 c1
        simp only at c0 c1
        have dk : decide ((k : Int) < (ts.length : Int)) = true := decide_eq_true (by omega)
        by_cases e : k = i
        · subst e
          have hxn : x = n := by have := G3.out; rw [Ht.out] at this; exact this
          have hq : (x == n) = true := by simp [hxn]
          clear hxn
          have hy : y < E := by have := HG6.out; rw [Ht.out] at this; exact this
          have dy : decide (y < E) = true := decide_eq_true hy
          by_cases hl2 : k + 1 < ts.length
          · have d1 : decide ((k : Int) + 1 < (ts.length : Int)) = true := decide_eq_true (by omega)
            have c2 := (own3.cellsAt (k + 1) hl2).2.1
            have e2 : (tAt ts (k + 1)).first = E := by have := HEi.out; unfold endAtT at this; rw [if_pos hl2] at this; exact this.symm
            rw [e2] at c2
            clear e2
            go_wp2_with fail
            go_ret
            exact ⟨rfl, B3⟩
          · have d1 : decide ((k : Int) + 1 < (ts.length : Int)) = false := decide_eq_false (by omega)
            have e2 : en = E := by have := HEi.out; unfold endAtT at this; rw [if_neg hl2] at this; exact this.symm
            have hq2 : (E == en) = true := by simp [e2]
            clear e2
            go_wp2_with fail
            go_ret
            exact ⟨rfl, B3⟩
        · have hq : (x == n) = false := by
            have := G5.out k (by omega)
            rw [Ht.out] at this
            rw [beq_eq_false_iff_ne]
            exact this
          clear c1
          go_wp2_with fail
          go_round
          case rel => exact ⟨k + 1, by omega, by go_num⟩
          case measure => simp [intOf]; omega
set_option maxHeartbeats 1000000 in
theorem law_FnTermsEndPut (w : World) (v : Value) (zs : List Int) (h : U8s w v zs) : Calls Try.prog 6 #[v] w (Yes w) := by
  have hU := h
  obtain ⟨a, cap, rfl, hl, hm, hc, hr⟩ := hU
  unfold maxLen at hm
  clear hc hr
  by_cases hlen : 1048576 < zs.length
  · go_enter Try.func6, Try.ntmps6
    go_wp2
    go_ret
    exact ⟨rfl, Below.refl _ _⟩
  · have C0 := Lib.hid (spec_DrawTermsEnd _ zs w h (by omega))
    clear h
    go_enter Try.func6, Try.ntmps6
    go_wp2_with fail
    refine C0.out.mono ?_
    rintro e w1 ⟨u, ts, n, en, rfl, own1, hT, ⟨n0, n1⟩, ⟨en0, en1⟩, B1⟩
    have C1 : Hid (∀ W u, Ts W u ts → Calls Try.prog 21 #[u, .int .i64 n, .int .i64 en] W (fun e w' => e = .returned (.int .i64 (endT ts n en)) ∧ Below W.heap.size W w')) := Lib.hid fun W u hu => spec_TermsEnd u ts n en W hu
    have C2 : Hid (∀ W u, Ts W u ts → Calls Try.prog 20 #[u, .int .i64 n, .int .i64 en] W (fun e w' => e = .returned (.int .i64 (endT ts n en)) ∧ Below W.heap.size W w')) := Lib.hid fun W u hu => impl_TermsEnd u ts n en W hu
    have HF : Hid (0 ≤ endT ts n en → _) := Lib.hid fun hp => end_put hp
    have hT9 := hT.1
    have C3 : Hid (∀ W u x y, Ts W u ts → Formed u → Calls Try.prog 15 #[u, .agg #[.int .i64 x, .int .i64 y]] W (NewT W (putL ts ⟨x, y⟩) (tsOk (ts ++ [⟨x, y⟩])))) := Lib.hid fun W u x y hu hf => impl_TermsPut u ts x y W hu hf (by omega)
    obtain ⟨E, hE⟩ : ∃ E, endT ts n en = E := ⟨_, rfl⟩
    rw [hE] at C1 C2 HF
    have qE : (E != E) = false := by simp
    have qe : (E == E) = true := by simp
    clear hE C0 hT
    go_wp2_with fail
    refine (C2.out w1 u own1.ts).mono ?_
    rintro e w2 ⟨rfl, b2⟩
    have B2 := Bstep B1 b2
    have own2 := own1.below b2
    clear own1 b2 B1
    go_wp2_with fail
    refine (C1.out w2 u own2.ts).mono ?_
    rintro e w3 ⟨rfl, b3⟩
    have B3 := Bstep B2 b3
    have own3 := own2.below b3
    clear own2 b3 B2
    by_cases hp : E < 0
    · have d0 : decide (E < 0) = true := decide_eq_true hp
      go_wp2_with fail
      go_ret
      exact ⟨rfl, B3⟩
    · have d0 : decide (E < 0) = false := decide_eq_false hp
      obtain ⟨hl0, ⟨x0, x1⟩, ⟨g0, g1⟩, hput⟩ := HF.out (by omega)
      clear HF
      obtain ⟨g, cp, rfl⟩ := own3.form hl0
      have z1 := own3.ts.sizes.2
      unfold maxLen at z1
      obtain ⟨c0, c1, _, _⟩ := own3.cellsAt (ts.length - 1) (by omega)
      have hfo := own3.formed
      obtain ⟨⟨x, y⟩, ht⟩ : ∃ t, tAt ts (ts.length - 1) = t := ⟨_, rfl⟩
      rw [ht] at c0 c1 x0 x1 hput
      simp only at c0 c1 x0 x1 hput
      have s1 : IntKind.i64.wrap ((ts.length : Int) - 1) = (ts.length : Int) - 1 := IntWalk.i64_in _ ⟨by omega, by omega⟩
      have n2 : ((ts.length : Int) - 1).toNat = ts.length - 1 := by omega
      have n3 : (1 : Int) ≤ (ts.length : Int) := by omega
      have n4 : (ts.length : Int) - 1 < (ts.length : Int) := by omega
      have HP := Lib.hid hput
      have C3' : Hid (∀ W, Ts W (.slice (some ⟨g, 0, none⟩) ts.length cp) ts → Calls Try.prog 15 #[.slice (some ⟨g, 0, none⟩) ts.length cp, .agg #[.int .i64 (x + 1), .int .i64 en]] W (NewT W (putL ts ⟨x + 1, en⟩) (tsOk (ts ++ [⟨x + 1, en⟩])))) := Lib.hid fun W hu => C3.out W _ (x + 1) en hu hfo
      have HC := Lib.hid (putL_cases ts ⟨x + 1, en⟩)
      have bX := alloc_below' w3 (.cells #[.int .i64 x, .int .i64 y] 25)
      have xX := Blk.made w3 #[.int .i64 x, .int .i64 y] 25
      clear hput ht C3 hfo
      obtain ⟨ob, hob⟩ : ∃ b, tsOk (ts ++ [⟨x + 1, en⟩]) = b := ⟨_, rfl⟩
      obtain ⟨xs, hxs⟩ : ∃ xs, putL ts ⟨x + 1, en⟩ = xs := ⟨_, rfl⟩
      rw [hob, hxs] at C3' HC
      rw [hob] at HP
      have Hob := Lib.hid hob
      clear hob hxs
      go_upto_region 9 with (fail)
      generalize hW4 : w3.alloc (.cells #[.int .i64 x, .int .i64 y] 25) = w4 at bX xX ⊢
      clear hW4 c0 c1
      have own4 := own3.below bX
      have B4 := Bstep B3 bX
      obtain ⟨X, hX⟩ : ∃ X, w3.heap.size = X := ⟨_, rfl⟩
      rw [hX] at xX ⊢
      clear hX own3 bX
      have k0 : w4.cell? ⟨X, 0, none⟩ = some (.int .i64 x) := xX.cell 0
      have k1 : w4.cell? ⟨X, 1, none⟩ = some (.int .i64 y) := xX.cell 1
      go_wp2_with fail
      refine (C3'.out w4 own4.ts).mono ?_
      rintro e w5 ⟨u5, rfl, own5, b5⟩
      have B5 := Bstep B4 b5
      have x5 := xX.belowS b5
      clear k0 k1 own4 xX b5 B4
      have k0 : w5.cell? ⟨X, 0, none⟩ = some (.int .i64 x) := x5.cell 0
      cases ob with
      | false =>
        go_wp2_with fail
        go_ret
        exact ⟨rfl, B5⟩
      | true =>
        rcases HC.out with ⟨_, hxs⟩ | ⟨hno, _⟩
        · have he := HP.out rfl
          have C6 := Lib.hid (impl_TermsEnd u5 xs x (en + 1) w5 own5.ts)
          rw [hxs, he] at C6
          have hqq : (en == en) = true := by simp
          clear HC HP he hxs
          go_wp2_with fail
          refine C6.out.mono ?_
          rintro e w6 ⟨rfl, b6⟩
          go_wp2_with fail
          go_ret
          exact ⟨rfl, Bstep B5 b6⟩
        · cases hno
set_option maxHeartbeats 2000000 in
theorem law_FnTermsPart (w : World) (v : Value) (zs : List Int) (h : U8s w v zs) (v' : Value) (zs' : List Int) (h' : U8s w v' zs') : Calls Try.prog 9 #[v, v'] w (Yes w) := by
  have hU := h
  obtain ⟨a, cap, rfl, hl, hm, hc, hr⟩ := hU
  obtain ⟨a', cap', rfl, hl', hm', hc', hr'⟩ := h'
  unfold maxLen at hm hm'
  clear hc hr hc' hr'
  by_cases hlen : 1048576 < zs.length
  · have d0 : decide ((1048576 : Int) < (zs.length : Int)) = true := decide_eq_true (by omega)
    go_enter Try.func9, Try.ntmps9
    go_wp2_with fail
    go_ret
    exact ⟨rfl, Below.refl _ _⟩
  have d0 : decide ((1048576 : Int) < (zs.length : Int)) = false := decide_eq_false (by omega)
  by_cases hlen' : 1048576 < zs'.length
  · have d0' : decide ((1048576 : Int) < (zs'.length : Int)) = true := decide_eq_true (by omega)
    go_enter Try.func9, Try.ntmps9
    go_wp2_with fail
    go_ret
    exact ⟨rfl, Below.refl _ _⟩
  have d0' : decide ((1048576 : Int) < (zs'.length : Int)) = false := decide_eq_false (by omega)
  have C0 := Lib.hid (spec_DrawTermsValid _ zs w h (by omega))
  clear h
  go_enter Try.func9, Try.ntmps9
  go_wp2_with fail
  refine C0.out.mono ?_
  rintro e w1 ⟨u, ts, rfl, own1, hT, B1⟩
  have C1 : Hid (∀ W u, Ts W u ts → Calls Try.prog 26 #[u] W (Same W (tsOk ts))) := Lib.hid fun W u hu => spec_TermsValid u ts W hu
  have C2 : Hid (∀ W u, Ts W u ts → Calls Try.prog 18 #[u] W (Same W (tsOk ts))) := Lib.hid fun W u hu => impl_TermsValid u ts W hu
  have HF : Hid (tsOk ts = true → ∀ k, k < ts.length → tsOk (ts.take k ++ ts.drop (k + 1)) = true ∧ tsOk (ts.take (k + 1) ++ ts.drop k) = false) := Lib.hid fun ok k hk => ⟨tsOk_less ok k, tsOk_twice hk⟩
  obtain ⟨b, hb⟩ : ∃ b, tsOk ts = b := ⟨_, rfl⟩
  rw [hb] at C1 C2 HF
  have hT9 := hT.1
  have qb : (b != b) = false := by simp
  have qe : (b == b) = true := by simp
  clear hb C0 hT
  go_wp2_with fail
  refine (C2.out w1 u own1.ts).mono ?_
  rintro e w2 ⟨rfl, b2⟩
  have B2 := Bstep B1 b2
  have own2 := own1.below b2
  clear own1 b2 B1
  go_wp2_with fail
  refine (C1.out w2 u own2.ts).mono ?_
  rintro e w3 ⟨rfl, b3⟩
  have B3 := Bstep B2 b3
  have own3 := own2.below b3
  clear own2 b3 B2
  obtain ⟨a1, c1, rfl⟩ := own3.form'
  cases b with
  | false =>
    go_wp2_with fail
    go_ret
    exact ⟨rfl, B3⟩
  | true =>
    by_cases h0 : ts.length = 0
    · have e0 : ((ts.length : Int) == 0) = true := by simp [h0]
      have e0n : (ts.length == 0) = true := by simp [h0]
      clear h0
      go_wp2_with fail
      go_ret
      exact ⟨rfl, B3⟩
    · have e0 : ((ts.length : Int) == 0) = false := by rw [beq_eq_false_iff_ne]; omega
      have e0n : (ts.length == 0) = false := by simp [h0]
      obtain ⟨M, hM⟩ : ∃ M, zs'.length = M := ⟨_, rfl⟩
      rw [hM] at hl' hlen' d0' ⊢
      obtain ⟨k, hk⟩ : ∃ k, M % ts.length = k := ⟨_, rfl⟩
      have kl : k < ts.length := by rw [← hk]; exact Nat.mod_lt _ (by omega)
      have t1 : (M : Int).tmod (ts.length : Int) = (k : Int) := by rw [← hk]; rfl
      have t2 : (M : Int) % (ts.length : Int) = (k : Int) := by rw [← hk]; rfl
      obtain ⟨F1, F2⟩ := HF.out rfl k kl
      have z1 := own3.ts.sizes.2
      unfold maxLen at z1
      have s1 : IntKind.i64.wrap ((k : Int) + 1) = (k : Int) + 1 := IntWalk.i64_in _ ⟨by omega, by omega⟩
      have hs1 : ∀ W, (Instr.slice 23 (.slice a1 ts.length c1) none (some (.int .i64 (k : Int))) none).run Try.prog W = .ok (.slice a1 k c1) W := fun W => run_uptoT own3.ts k (by omega) W
      have hs2 : ∀ W, (Instr.slice 23 (.slice a1 ts.length c1) none (some (.int .i64 ((k : Int) + 1))) none).run Try.prog W = .ok (.slice a1 (k + 1) c1) W := fun W => run_uptoT own3.ts (k + 1) (by omega) W
      obtain ⟨a2, c2, hs3, hp3⟩ := run_fromT own3.ts (k + 1) (by omega)
      obtain ⟨a3, c3, hs4, hp4⟩ := run_fromT own3.ts k (by omega)
      have hs3' : ∀ W, (Instr.slice 23 (.slice a1 ts.length c1) (some (.int .i64 ((k : Int) + 1))) none none).run Try.prog W = .ok (.slice a2 (ts.length - (k + 1)) c2) W := hs3
      clear hs3 HF hk hM
      go_upto_region 9 with (fail)
      have Lw3 := own3.ts
      have bE1 := alloc_below' w3 (.cells #[] 25)
      have bEd1 : Below w3.heap.size w3 (w3.alloc (.cells #[] 25)).drew := Bstep bE1 (below_drewN (Below.refl _ _) 1)
      have dd1 : Below (w3.alloc (.cells #[] 25)).heap.size (w3.alloc (.cells #[] 25)) (w3.alloc (.cells #[] 25)).drew := below_drewN (Below.refl _ _) 1
      have oE1 := own_emptyT w3 w3.heap.size (Nat.le_refl _)
      have lE1 := Lw3.below bEd1
      have hE1 := lE1.take k (by omega)
      have hs1 : w3.heap.size ≤ (w3.alloc (.cells #[] 25)).heap.size := bE1.size
      have HL1 : Hid (∀ W', (w3.alloc (.cells #[] 25)).drew.grownBy W' (Value.slice (some ⟨w3.heap.size, 0, none⟩) 0 0).ownBlock → Ts W' (.slice a1 ts.length c1) ts ∧ Below w3.heap.size w3 W') := Lib.hid fun W' g => ⟨lE1.grown g (fun h0 q e e2 => by have := Lw3.lt h0 q e2; simp only [Value.ownBlock, Option.some.injEq] at e; omega), bEd1.grown g bEd1.size (fun q e => by simp only [Value.ownBlock, Option.some.injEq] at e; omega)⟩
      have hn1 : ([] : List Trm).length + (ts.take k).length < 1000000000 := by rw [List.length_take]; simp; omega
      have hm1 : (ts.take k).length + (ts.drop (k + 1)).length < 1000000000 := by rw [List.length_take, List.length_drop]; omega
      go_region_law (first
        | ((with_reducible refine step_appAny (w0 := w3.alloc (.cells #[] 25)) rfl (.tmp 45) (.tmp 48) rfl w3.heap.size (.slice (some ⟨w3.heap.size, 0, none⟩) 0 0) (.slice a1 k c1) [] (ts.take k) rfl rfl dd1 oE1 hE1 hn1 hs1 ?_); intro v4 w4 ownw4 gw4; rw [List.nil_append] at ownw4; obtain ⟨Lw4, bw4⟩ := HL1.out w4 gw4; have Pw4 := hp3 w4 Lw4; have sw4 := bw4.size)
        | ((with_reducible refine step_appAny (w0 := w4) rfl (.tmp 49) (.tmp 53) rfl w3.heap.size v4 (.slice a2 (ts.length - (k + 1)) c2) (ts.take k) (ts.drop (k + 1)) rfl rfl (Below.refl _ _) ownw4 Pw4 hm1 sw4 ?_); intro v5 w5 ownw5 gw5))
      have Lw5 := Lw4.grown gw5 (fun h0 q e e2 => by have h1 := (ownw4.lt q e).1; have h2 := Lw3.lt h0 q e2; omega)
      have bw5 := bw4.grown gw5 bw4.size (fun q e => (ownw4.lt q e).1)
      clear bE1 bEd1 dd1 oE1 lE1 hE1 HL1 ownw4 gw4 Lw4 Pw4 sw4 bw4 gw5 hn1 hm1 hs1
      have B5 := Bstep B3 bw5
      clear B3 bw5 own3 hp3 hs3' hs1
      obtain ⟨us5, hus5⟩ : ∃ us, ts.take k ++ ts.drop (k + 1) = us := ⟨_, rfl⟩
      rw [hus5] at ownw5 F1
      clear hus5
      obtain ⟨a5, c5, rfl⟩ := ownw5.form'
      go_upto_region 10 with (fail)
      have bE2 := alloc_below' w5 (.cells #[] 25)
      have bEd2 : Below w5.heap.size w5 (w5.alloc (.cells #[] 25)).drew := Bstep bE2 (below_drewN (Below.refl _ _) 1)
      have dd2 : Below (w5.alloc (.cells #[] 25)).heap.size (w5.alloc (.cells #[] 25)) (w5.alloc (.cells #[] 25)).drew := below_drewN (Below.refl _ _) 1
      have oE2 := own_emptyT w5 w5.heap.size (Nat.le_refl _)
      have lE2 := Lw5.below bEd2
      have hE2 := lE2.take (k + 1) (by omega)
      have hs2 : w5.heap.size ≤ (w5.alloc (.cells #[] 25)).heap.size := bE2.size
      have HL2 : Hid (∀ W', (w5.alloc (.cells #[] 25)).drew.grownBy W' (Value.slice (some ⟨w5.heap.size, 0, none⟩) 0 0).ownBlock → Ts W' (.slice a1 ts.length c1) ts ∧ Below w5.heap.size w5 W') := Lib.hid fun W' g => ⟨lE2.grown g (fun h0 q e e2 => by have := Lw5.lt h0 q e2; simp only [Value.ownBlock, Option.some.injEq] at e; omega), bEd2.grown g bEd2.size (fun q e => by simp only [Value.ownBlock, Option.some.injEq] at e; omega)⟩
      have hn2 : ([] : List Trm).length + (ts.take (k + 1)).length < 1000000000 := by rw [List.length_take]; simp; omega
      have hm2 : (ts.take (k + 1)).length + (ts.drop k).length < 1000000000 := by rw [List.length_take, List.length_drop]; omega
      go_region_law (first
        | ((with_reducible refine step_appAny (w0 := w5.alloc (.cells #[] 25)) rfl (.tmp 55) (.tmp 59) rfl w5.heap.size (.slice (some ⟨w5.heap.size, 0, none⟩) 0 0) (.slice a1 (k + 1) c1) [] (ts.take (k + 1)) rfl rfl dd2 oE2 hE2 hn2 hs2 ?_); intro v6 w6 ownw6 gw6; rw [List.nil_append] at ownw6; obtain ⟨Lw6, bw6⟩ := HL2.out w6 gw6; have Pw6 := hp4 w6 Lw6; have sw6 := bw6.size)
        | ((with_reducible refine step_appAny (w0 := w6) rfl (.tmp 60) (.tmp 63) rfl w5.heap.size v6 (.slice a3 (ts.length - k) c3) (ts.take (k + 1)) (ts.drop k) rfl rfl (Below.refl _ _) ownw6 Pw6 hm2 sw6 ?_); intro v7 w7 ownw7 gw7))
      have Lw7 := Lw6.grown gw7 (fun h0 q e e2 => by have h1 := (ownw6.lt q e).1; have h2 := Lw5.lt h0 q e2; omega)
      have bw7 := bw6.grown gw7 bw6.size (fun q e => (ownw6.lt q e).1)
      clear bE2 bEd2 dd2 oE2 lE2 hE2 HL2 ownw6 gw6 Lw6 Pw6 sw6 bw6 gw7 hn2 hm2 hs2
      have B7 := Bstep B5 bw7
      have own57 := ownw5.below bw7
      have CX := Lib.hid (impl_TermsValid _ _ w7 own57.ts)
      rw [F1] at CX
      clear B5 hp4 hs4 hs2 ownw5
      obtain ⟨us7, hus7⟩ : ∃ us, ts.take (k + 1) ++ ts.drop k = us := ⟨_, rfl⟩
      rw [hus7] at ownw7 F2
      clear hus7
      obtain ⟨a7, c7, rfl⟩ := ownw7.form'
      go_wp2_with fail
      refine CX.out.mono ?_
      rintro e w8 ⟨rfl, b8⟩
      have CY := Lib.hid (impl_TermsValid _ _ w8 (ownw7.below b8).ts)
      rw [F2] at CY
      go_wp2_with fail
      refine CY.out.mono ?_
      rintro e w9 ⟨rfl, b9⟩
      go_wp2_with fail
      go_ret
      exact ⟨rfl, Bstep (Bstep B7 b8) b9⟩
end Go.Proofs.Ytfejolnfaechiaa
