/- Chapter 32: laws of the least offset, and of groups that are missing. -/
import Derived.Test.YtmhgddlkhbkbaaaD32
import Derived.Test.YtmhgddlkhbkbaaaT33
namespace Go.Proofs.Ytmhgddlkhbkbaaa
open Go.ChangeShapes Go.WideShapes Go.ChangeAt Go.RowKit
set_option linter.unusedVariables false

theorem leastI_facts (ts : List Trm) : (tsOk ts = false ∧ leastI ts = -1) ∨ (tsOk ts = true ∧ ((ts.length = 0 ∧ leastI ts = -1) ∨ (0 < ts.length ∧ 0 ≤ leastI ts ∧ (∀ j, j < ts.length → leastI ts ≤ (tAt ts j).next) ∧ ∃ j, j < ts.length ∧ (tAt ts j).next = leastI ts))) := by
  cases ok : tsOk ts with
  | false => exact .inl ⟨rfl, leastI_no ok⟩
  | true =>
    refine .inr ⟨rfl, ?_⟩
    rw [leastI_yes ok]
    rcases leastK_in ok ts.length (Nat.le_refl _) with ⟨h, h1⟩ | h
    · exact .inl ⟨h, h1⟩
    · exact .inr h
set_option maxHeartbeats 2000000 in
theorem law_FnGroupsPart (w : World) (v : Value) (zs : List Int) (h : U8s w v zs) (v' : Value) (zs' : List Int) (h' : U8s w v' zs') : Calls Try.prog 7 #[v, v'] w (Yes w) := by
  have hU := h
  obtain ⟨a, cap, rfl, hl, hm, hc, hr⟩ := hU
  obtain ⟨a', cap', rfl, hl', hm', hc', hr'⟩ := h'
  unfold maxLen at hm hm'
  clear hc hr hc' hr'
  by_cases hlen : 1048576 < zs.length
  · have d0 : decide ((1048576 : Int) < (zs.length : Int)) = true := decide_eq_true (by omega)
    go_enter Try.func7, Try.ntmps7
    go_wp2_with fail
    go_ret
    exact ⟨rfl, Below.refl _ _⟩
  have d0 : decide ((1048576 : Int) < (zs.length : Int)) = false := decide_eq_false (by omega)
  by_cases hlen' : 1048576 < zs'.length
  · have d0' : decide ((1048576 : Int) < (zs'.length : Int)) = true := decide_eq_true (by omega)
    go_enter Try.func7, Try.ntmps7
    go_wp2_with fail
    go_ret
    exact ⟨rfl, Below.refl _ _⟩
  have d0' : decide ((1048576 : Int) < (zs'.length : Int)) = false := decide_eq_false (by omega)
  have C0 := Lib.hid (spec_DrawGroupsValid _ zs w h (by omega))
  clear h
  go_enter Try.func7, Try.ntmps7
  go_wp2_with fail
  refine C0.out.mono ?_
  rintro e w1 ⟨u, ts, rfl, own1, hT, B1⟩
  have C1 : Hid (∀ W u, Ts W u ts → Calls Try.prog 19 #[u] W (Same W (tsOk ts))) := Lib.hid fun W u hu => spec_GroupsValid u ts W hu
  have C2 : Hid (∀ W u, Ts W u ts → Calls Try.prog 15 #[u] W (Same W (tsOk ts))) := Lib.hid fun W u hu => impl_GroupsValid u ts W hu
  have HF : Hid (tsOk ts = true → ∀ k, k < ts.length → tsOk (ts.take k ++ ts.drop (k + 1)) = true ∧ tsOk (ts.take (k + 1) ++ ts.drop k) = false) := Lib.hid fun ok k hk => ⟨tsOk_less ok k, tsOk_twice hk⟩
  obtain ⟨b, hb⟩ : ∃ b, tsOk ts = b := ⟨_, rfl⟩
  rw [hb] at C1 C2 HF
  have hT9 := hT.1
  have qb : (b != b) = false := by simp
  have qe : (b == b) = true := by simp
  clear hb C0 hT
  go_wp2_with fail
  refine (C2.out w1 u own1.ts).mono ?_
  rintro e w2 ⟨rfl, b2⟩
  have B2 := Bstep B1 b2
  have own2 := own1.below b2
  clear own1 b2 B1
  go_wp2_with fail
  refine (C1.out w2 u own2.ts).mono ?_
  rintro e w3 ⟨rfl, b3⟩
  have B3 := Bstep B2 b3
  have own3 := own2.below b3
  clear own2 b3 B2
  obtain ⟨a1, c1, rfl⟩ := own3.form'
  cases b with
  | false =>
    go_wp2_with fail
    go_ret
    exact ⟨rfl, B3⟩
  | true =>
    by_cases h0 : ts.length = 0
    · have e0 : ((ts.length : Int) == 0) = true := by simp [h0]
      have e0n : (ts.length == 0) = true := by simp [h0]
      clear h0
      go_wp2_with fail
      go_ret
      exact ⟨rfl, B3⟩
    · have e0 : ((ts.length : Int) == 0) = false := by rw [beq_eq_false_iff_ne]; omega
      have e0n : (ts.length == 0) = false := by simp [h0]
      obtain ⟨M, hM⟩ : ∃ M, zs'.length = M := ⟨_, rfl⟩
      rw [hM] at hl' hlen' d0' ⊢
      obtain ⟨k, hk⟩ : ∃ k, M % ts.length = k := ⟨_, rfl⟩
      have kl : k < ts.length := by rw [← hk]; exact Nat.mod_lt _ (by omega)
      have t1 : (M : Int).tmod (ts.length : Int) = (k : Int) := by rw [← hk]; rfl
      have t2 : (M : Int) % (ts.length : Int) = (k : Int) := by rw [← hk]; rfl
      obtain ⟨F1, F2⟩ := HF.out rfl k kl
      have z1 := own3.ts.sizes.2
      unfold maxLen at z1
      have s1 : IntKind.i64.wrap ((k : Int) + 1) = (k : Int) + 1 := IntWalk.i64_in _ ⟨by omega, by omega⟩
      have hs1 : ∀ W, (Instr.slice 23 (.slice a1 ts.length c1) none (some (.int .i64 (k : Int))) none).run Try.prog W = .ok (.slice a1 k c1) W := fun W => run_uptoT own3.ts k (by omega) W
      have hs2 : ∀ W, (Instr.slice 23 (.slice a1 ts.length c1) none (some (.int .i64 ((k : Int) + 1))) none).run Try.prog W = .ok (.slice a1 (k + 1) c1) W := fun W => run_uptoT own3.ts (k + 1) (by omega) W
      obtain ⟨a2, c2, hs3, hp3⟩ := run_fromT own3.ts (k + 1) (by omega)
      obtain ⟨a3, c3, hs4, hp4⟩ := run_fromT own3.ts k (by omega)
      have hs3' : ∀ W, (Instr.slice 23 (.slice a1 ts.length c1) (some (.int .i64 ((k : Int) + 1))) none none).run Try.prog W = .ok (.slice a2 (ts.length - (k + 1)) c2) W := hs3
      clear hs3 HF hk hM
      go_upto_region 9 with (fail)
      have Lw3 := own3.ts
      have bE1 := alloc_below' w3 (.cells #[] 25)
      have bEd1 : Below w3.heap.size w3 (w3.alloc (.cells #[] 25)).drew := Bstep bE1 (below_drewN (Below.refl _ _) 1)
      have dd1 : Below (w3.alloc (.cells #[] 25)).heap.size (w3.alloc (.cells #[] 25)) (w3.alloc (.cells #[] 25)).drew := below_drewN (Below.refl _ _) 1
      have oE1 := own_emptyT w3 w3.heap.size (Nat.le_refl _)
      have lE1 := Lw3.below bEd1
      have hE1 := lE1.take k (by omega)
      have hs1 : w3.heap.size ≤ (w3.alloc (.cells #[] 25)).heap.size := bE1.size
      have HL1 : Hid (∀ W', (w3.alloc (.cells #[] 25)).drew.grownBy W' (Value.slice (some ⟨w3.heap.size, 0, none⟩) 0 0).ownBlock → Ts W' (.slice a1 ts.length c1) ts ∧ Below w3.heap.size w3 W') := Lib.hid fun W' g => ⟨lE1.grown g (fun h0 q e e2 => by have := Lw3.lt h0 q e2; simp only [Value.ownBlock, Option.some.injEq] at e; omega), bEd1.grown g bEd1.size (fun q e => by simp only [Value.ownBlock, Option.some.injEq] at e; omega)⟩
      have hn1 : ([] : List Trm).length + (ts.take k).length < 1000000000 := by rw [List.length_take]; simp; omega
      have hm1 : (ts.take k).length + (ts.drop (k + 1)).length < 1000000000 := by rw [List.length_take, List.length_drop]; omega
      go_region_law (first
        | ((with_reducible refine step_appAny (w0 := w3.alloc (.cells #[] 25)) rfl (.tmp 45) (.tmp 48) rfl w3.heap.size (.slice (some ⟨w3.heap.size, 0, none⟩) 0 0) (.slice a1 k c1) [] (ts.take k) rfl rfl dd1 oE1 hE1 hn1 hs1 ?_); intro v4 w4 ownw4 gw4; rw [List.nil_append] at ownw4; obtain ⟨Lw4, bw4⟩ := HL1.out w4 gw4; have Pw4 := hp3 w4 Lw4; have sw4 := bw4.size)
        | ((with_reducible refine step_appAny (w0 := w4) rfl (.tmp 49) (.tmp 53) rfl w3.heap.size v4 (.slice a2 (ts.length - (k + 1)) c2) (ts.take k) (ts.drop (k + 1)) rfl rfl (Below.refl _ _) ownw4 Pw4 hm1 sw4 ?_); intro v5 w5 ownw5 gw5))
      have Lw5 := Lw4.grown gw5 (fun h0 q e e2 => by have h1 := (ownw4.lt q e).1; have h2 := Lw3.lt h0 q e2; omega)
      have bw5 := bw4.grown gw5 bw4.size (fun q e => (ownw4.lt q e).1)
      clear bE1 bEd1 dd1 oE1 lE1 hE1 HL1 ownw4 gw4 Lw4 Pw4 sw4 bw4 gw5 hn1 hm1 hs1
      have B5 := Bstep B3 bw5
      clear B3 bw5 own3 hp3 hs3' hs1
      obtain ⟨us5, hus5⟩ : ∃ us, ts.take k ++ ts.drop (k + 1) = us := ⟨_, rfl⟩
      rw [hus5] at ownw5 F1
      clear hus5
      obtain ⟨a5, c5, rfl⟩ := ownw5.form'
      go_upto_region 10 with (fail)
      have bE2 := alloc_below' w5 (.cells #[] 25)
      have bEd2 : Below w5.heap.size w5 (w5.alloc (.cells #[] 25)).drew := Bstep bE2 (below_drewN (Below.refl _ _) 1)
      have dd2 : Below (w5.alloc (.cells #[] 25)).heap.size (w5.alloc (.cells #[] 25)) (w5.alloc (.cells #[] 25)).drew := below_drewN (Below.refl _ _) 1
      have oE2 := own_emptyT w5 w5.heap.size (Nat.le_refl _)
      have lE2 := Lw5.below bEd2
      have hE2 := lE2.take (k + 1) (by omega)
      have hs2 : w5.heap.size ≤ (w5.alloc (.cells #[] 25)).heap.size := bE2.size
      have HL2 : Hid (∀ W', (w5.alloc (.cells #[] 25)).drew.grownBy W' (Value.slice (some ⟨w5.heap.size, 0, none⟩) 0 0).ownBlock → Ts W' (.slice a1 ts.length c1) ts ∧ Below w5.heap.size w5 W') := Lib.hid fun W' g => ⟨lE2.grown g (fun h0 q e e2 => by have := Lw5.lt h0 q e2; simp only [Value.ownBlock, Option.some.injEq] at e; omega), bEd2.grown g bEd2.size (fun q e => by simp only [Value.ownBlock, Option.some.injEq] at e; omega)⟩
      have hn2 : ([] : List Trm).length + (ts.take (k + 1)).length < 1000000000 := by rw [List.length_take]; simp; omega
      have hm2 : (ts.take (k + 1)).length + (ts.drop k).length < 1000000000 := by rw [List.length_take, List.length_drop]; omega
      go_region_law (first
        | ((with_reducible refine step_appAny (w0 := w5.alloc (.cells #[] 25)) rfl (.tmp 55) (.tmp 59) rfl w5.heap.size (.slice (some ⟨w5.heap.size, 0, none⟩) 0 0) (.slice a1 (k + 1) c1) [] (ts.take (k + 1)) rfl rfl dd2 oE2 hE2 hn2 hs2 ?_); intro v6 w6 ownw6 gw6; rw [List.nil_append] at ownw6; obtain ⟨Lw6, bw6⟩ := HL2.out w6 gw6; have Pw6 := hp4 w6 Lw6; have sw6 := bw6.size)
        | ((with_reducible refine step_appAny (w0 := w6) rfl (.tmp 60) (.tmp 63) rfl w5.heap.size v6 (.slice a3 (ts.length - k) c3) (ts.take (k + 1)) (ts.drop k) rfl rfl (Below.refl _ _) ownw6 Pw6 hm2 sw6 ?_); intro v7 w7 ownw7 gw7))
      have Lw7 := Lw6.grown gw7 (fun h0 q e e2 => by have h1 := (ownw6.lt q e).1; have h2 := Lw5.lt h0 q e2; omega)
      have bw7 := bw6.grown gw7 bw6.size (fun q e => (ownw6.lt q e).1)
      clear bE2 bEd2 dd2 oE2 lE2 hE2 HL2 ownw6 gw6 Lw6 Pw6 sw6 bw6 gw7 hn2 hm2 hs2
      have B7 := Bstep B5 bw7
      have own57 := ownw5.below bw7
      have CX := Lib.hid (impl_GroupsValid _ _ w7 own57.ts)
      rw [F1] at CX
      clear B5 hp4 hs4 hs2 ownw5
      obtain ⟨us7, hus7⟩ : ∃ us, ts.take (k + 1) ++ ts.drop k = us := ⟨_, rfl⟩
      rw [hus7] at ownw7 F2
      clear hus7
      obtain ⟨a7, c7, rfl⟩ := ownw7.form'
      go_wp2_with fail
      refine CX.out.mono ?_
      rintro e w8 ⟨rfl, b8⟩
      have CY := Lib.hid (impl_GroupsValid _ _ w8 (ownw7.below b8).ts)
      rw [F2] at CY
      go_wp2_with fail
      refine CY.out.mono ?_
      rintro e w9 ⟨rfl, b9⟩
      go_wp2_with fail
      go_ret
      exact ⟨rfl, Bstep (Bstep B7 b8) b9⟩
set_option maxHeartbeats 1000000 in
theorem law_FnGroupsLeast (w : World) (v : Value) (zs : List Int) (h : U8s w v zs) : Calls Try.prog 5 #[v] w (Yes w) := by
  have hU := h
  obtain ⟨a, cap, rfl, hl, hm, hc, hr⟩ := hU
  unfold maxLen at hm
  clear hc hr
  by_cases hlen : 1048576 < zs.length
  · have d0 : decide ((1048576 : Int) < (zs.length : Int)) = true := decide_eq_true (by omega)
    go_enter Try.func5, Try.ntmps5
    go_wp2_with fail
    go_ret
    exact ⟨rfl, Below.refl _ _⟩
  have d0 : decide ((1048576 : Int) < (zs.length : Int)) = false := decide_eq_false (by omega)
  have C0 := Lib.hid (spec_DrawGroupsLeast _ zs w h (by omega))
  clear h
  go_enter Try.func5, Try.ntmps5
  go_wp2_with fail
  refine C0.out.mono ?_
  rintro e w1 ⟨u, ts, rfl, own1, hT, B1⟩
  have C1 : Hid (∀ W u, Ts W u ts → Calls Try.prog 18 #[u] W (SameI W (leastI ts))) := Lib.hid fun W u hu => spec_GroupsLeast u ts W hu
  have C2 : Hid (∀ W u, Ts W u ts → Calls Try.prog 17 #[u] W (SameI W (leastI ts))) := Lib.hid fun W u hu => impl_GroupsLeast u ts W hu
  have HI := Lib.hid (leastI_facts ts)
  obtain ⟨m, hm'⟩ : ∃ m, leastI ts = m := ⟨_, rfl⟩
  rw [hm'] at C1 C2 HI
  have hT8 := hT.1
  have qb : (m != m) = false := by simp
  have qe : (m == m) = true := by simp
  clear hm' C0 hT
  go_wp2_with fail
  refine (C2.out w1 u own1.ts).mono ?_
  rintro e w2 ⟨rfl, b2⟩
  have B2 := Bstep B1 b2
  have own2 := own1.below b2
  clear own1 b2 B1
  go_wp2_with fail
  refine (C1.out w2 u own2.ts).mono ?_
  rintro e w3 ⟨rfl, b3⟩
  have B3 := Bstep B2 b3
  have own3 := own2.below b3
  clear own2 b3 B2
  obtain ⟨a1, c1, rfl⟩ := own3.form'
  by_cases hneg : m < 0
  · have dm : decide (m < 0) = true := decide_eq_true hneg
    go_wp2_with fail
    go_ret
    exact ⟨rfl, B3⟩
  have dm : decide (m < 0) = false := decide_eq_false hneg
  have HALL : Hid ((∀ j, j < ts.length → m ≤ (tAt ts j).next) ∧ ∃ j, j < ts.length ∧ (tAt ts j).next = m) := Lib.hid (by
    rcases HI.out with ⟨_, h⟩ | ⟨_, ⟨_, h⟩ | ⟨_, _, h⟩⟩
    · omega
    · omega
    · exact h)
  clear HI C1 C2
  go_wp2_with fail
  go_loop [6, 7] (fun s i => ∃ (k : Nat) (sb : Bool), k ≤ ts.length ∧ i = .int .i64 k ∧ s = .bool sb ∧ Hid (sb = false → ∀ j, j < k → (tAt ts j).next ≠ m)) (fun _ i => ts.length - (intOf i).toNat)
  case atStart => exact ⟨0, false, Nat.zero_le _, rfl, rfl, Lib.hid fun _ j hj => by omega⟩
  case round =>
    obtain ⟨k, sb, hk, rfl, rfl, hs⟩ := hrel
    by_cases hlt : k < ts.length
    · obtain ⟨b, off, cp, e, _, _, hcell⟩ := own3.ts.form (by omega)
      simp only [Value.slice.injEq, true_and] at e
      obtain ⟨rfl, rfl⟩ := e
      obtain ⟨x0, x1⟩ := hcell k hlt
      have hge := HALL.out.1 k hlt
      have HN : Hid (∀ n, (tAt ts k).next = n → n ≠ m → sb = false → ∀ j, j < k + 1 → (tAt ts j).next ≠ m) := Lib.hid fun n hn hne hsb j hj => by
        by_cases e : j = k
        · subst e; rw [hn]; exact hne
        · exact hs.out hsb j (by omega)
      obtain ⟨n, hn⟩ : ∃ n, (tAt ts k).next = n := ⟨_, rfl⟩
      rw [hn] at x1 hge
      have HN' := Lib.hid (HN.out n hn)
      clear hcell x0 hn HN
      have i0 : (0 : Int) ≤ (k : Int) := by omega
      have i1 : (k : Int) < (ts.length : Int) := by omega
      have dlt : decide (n < m) = false := decide_eq_false (by omega)
      cases sb with
      | true =>
        go_wp2_with fail
        go_round
        case rel => exact ⟨k + 1, true, by omega, by go_num, rfl, Lib.hid fun h => by cases h⟩
        case measure => simp [intOf]; omega
      | false =>
        by_cases q : n = m
        · have qn : (n == m) = true := by rw [beq_iff_eq]; exact q
          clear q
          go_wp2_with fail
          go_round
          case rel => exact ⟨k + 1, true, by omega, by go_num, rfl, Lib.hid fun h => by cases h⟩
          case measure => simp [intOf]; omega
        · have qn : (n == m) = false := by rw [beq_eq_false_iff_ne]; exact q
          have HR := Lib.hid (HN'.out q)
          clear q
          go_wp2_with fail
          go_round
          case rel => exact ⟨k + 1, false, by omega, by go_num, rfl, HR⟩
          case measure => simp [intOf]; omega
    · obtain rfl : k = ts.length := by omega
      obtain rfl : sb = true := by
        cases sb with
        | true => rfl
        | false => obtain ⟨j, hj, e⟩ := HALL.out.2; exact absurd e (hs.out rfl j hj)
      go_wp2_with fail
      go_ret
      exact ⟨rfl, B3⟩
set_option maxHeartbeats 1000000 in
theorem law_FnGroupsLeastNone (w : World) (v : Value) (zs : List Int) (h : U8s w v zs) : Calls Try.prog 6 #[v] w (Yes w) := by
  have hU := h
  obtain ⟨a, cap, rfl, hl, hm, hc, hr⟩ := hU
  unfold maxLen at hm
  clear hc hr
  by_cases hlen : 1048576 < zs.length
  · have d0 : decide ((1048576 : Int) < (zs.length : Int)) = true := decide_eq_true (by omega)
    go_enter Try.func6, Try.ntmps6
    go_wp2_with fail
    go_ret
    exact ⟨rfl, Below.refl _ _⟩
  have d0 : decide ((1048576 : Int) < (zs.length : Int)) = false := decide_eq_false (by omega)
  have C0 := Lib.hid (spec_DrawGroupsLeast _ zs w h (by omega))
  clear h
  go_enter Try.func6, Try.ntmps6
  go_wp2_with fail
  refine C0.out.mono ?_
  rintro e w1 ⟨u, ts, rfl, own1, hT, B1⟩
  have C1 : Hid (∀ W u, Ts W u ts → Calls Try.prog 18 #[u] W (SameI W (leastI ts))) := Lib.hid fun W u hu => spec_GroupsLeast u ts W hu
  have C2 : Hid (∀ W u, Ts W u ts → Calls Try.prog 17 #[u] W (SameI W (leastI ts))) := Lib.hid fun W u hu => impl_GroupsLeast u ts W hu
  have HI := Lib.hid (leastI_facts ts)
  obtain ⟨m, hm'⟩ : ∃ m, leastI ts = m := ⟨_, rfl⟩
  rw [hm'] at C1 C2 HI
  have hT8 := hT.1
  have qb : (m != m) = false := by simp
  have qe : (m == m) = true := by simp
  clear hm' C0 hT
  go_wp2_with fail
  refine (C2.out w1 u own1.ts).mono ?_
  rintro e w2 ⟨rfl, b2⟩
  have B2 := Bstep B1 b2
  have own2 := own1.below b2
  clear own1 b2 B1
  go_wp2_with fail
  refine (C1.out w2 u own2.ts).mono ?_
  rintro e w3 ⟨rfl, b3⟩
  have B3 := Bstep B2 b3
  have own3 := own2.below b3
  clear own2 b3 B2
  obtain ⟨a1, c1, rfl⟩ := own3.form'
  have C4 := Lib.hid (spec_GroupsValid _ ts w3 own3.ts)
  clear C1 C2
  rcases HI.out with ⟨h1, h2⟩ | ⟨h1, ⟨h2, h3⟩ | ⟨h2, h3, _⟩⟩
  · rw [h1] at C4
    clear h1 h2 HI
    go_wp2_with fail
    refine C4.out.mono ?_
    rintro e w4 ⟨rfl, b4⟩
    go_wp2_with fail
    go_ret
    exact ⟨rfl, Bstep B3 b4⟩
  · rw [h1] at C4
    have e0 : ((ts.length : Int) == 0) = true := by simp [h2]
    have em : (m == -1) = true := by rw [beq_iff_eq]; exact h3
    clear h1 h2 h3 HI
    go_wp2_with fail
    refine C4.out.mono ?_
    rintro e w4 ⟨rfl, b4⟩
    go_wp2_with fail
    go_ret
    exact ⟨rfl, Bstep B3 b4⟩
  · rw [h1] at C4
    have e0 : ((ts.length : Int) == 0) = false := by rw [beq_eq_false_iff_ne]; omega
    have em : (m == -1) = false := by rw [beq_eq_false_iff_ne]; omega
    clear h1 h2 h3 HI
    go_wp2_with fail
    refine C4.out.mono ?_
    rintro e w4 ⟨rfl, b4⟩
    go_wp2_with fail
    go_ret
    exact ⟨rfl, Bstep B3 b4⟩
end Go.Proofs.Ytmhgddlkhbkbaaa
