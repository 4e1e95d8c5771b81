/- Chapter 23: two rows of terms with their ends are drawn. -/
import Derived.Test.YtddemgdclilgpaaD14
import Derived.Test.YtddemgdclilgpaaT1
import Derived.RegionTactic
namespace Go.Proofs.Ytddemgdclilgpaa
open Go.ChangeShapes Go.WideShapes Go.ChangeAt Go.RowKit
set_option linter.unusedVariables false

theorem Ts.byB {w w' : World} {B : Nat} {v : Value} {ts : List Trm} (h : Ts w v ts) (hne : ∀ k, v.ownBlock = some k → k ≠ B) (hg : w.grownBy w' (some B)) : Ts w' v ts :=
  h.grown hg fun _ k e hk => by cases e; exact hne _ hk rfl
theorem TsB.take {ts : List Trm} (h : TsB ts) (k : Nat) : TsB (ts.take k) := by
  refine ⟨by rw [List.length_take]; have := h.1; omega, fun i hi => ?_⟩
  have hi' := hi
  rw [List.length_take] at hi'
  rw [tAt_take (by omega)]
  exact h.2 i (by omega)
theorem TsB.put {ts : List Trm} {x y : Int} (h : TsB ts) (h0 : 0 ≤ x) (h1 : x ≤ 1000) (h2 : 0 ≤ y) (h3 : y ≤ 1000) (ok : tsOk (ts ++ [⟨x, y⟩]) = true) : TsB (ts ++ [⟨x, y⟩]) :=
  ⟨by have := (tsOk_iff.1 ok).1; omega, FirstB.snoc h.2 h0 h1 h2 h3⟩

set_option maxHeartbeats 4000000 in
theorem spec_DrawTermsMeet (v : Value) (zs : List Int) (w : World) (h : U8s w v zs) (hs : zs.length ≤ 1048576) :
    Calls Try.prog 8 #[v] w fun e w' => ∃ u a ea v b eb, e = .returned (.tuple #[u, .int .i64 ea, v, .int .i64 eb]) ∧ Ts w' u a ∧ Ts w' v b ∧ a.length ≤ 9 ∧ b.length ≤ 9 ∧ Below w.heap.size w w' := by
  have C1 := Lib.hid (spec_l6Open v zs w h hs)
  go_enter Try.func8, Try.ntmps8
  go_wp2_with fail
  refine C1.out.mono ?_
  rintro e w1 ⟨B, rfl, hB, hR, bel⟩
  go_wp2_with fail
  refine (spec_l92Terms B 0 w1 hR (by omega)).mono ?_
  rintro e w2 ⟨u, ts, rfl, own2, hT, hR2, g2⟩
  have hB1 := hR.lt
  have B2 := below_of_grown bel hB g2
  have hw2 : w1.heap.size ≤ w2.heap.size := g2.size
  obtain ⟨a, cap, rfl⟩ := own2.form'
  have bE := alloc_below' w2 (.cells #[] 29)
  have own3 := own2.below bE
  have ownE : OwnT (w2.alloc (.cells #[] 29)) w2.heap.size (.slice (some ⟨w2.heap.size, 0, none⟩) 0 0) [] := own_emptyT w2 w2.heap.size (Nat.le_refl _)
  have hT9 := hT.1
  have hR3 := hR2.below bE
  have B3 := Bstep B2 bE
  have hw3 : w.heap.size ≤ w2.heap.size := B2.size
  have zc := own2.ts.sizes.2
  unfold maxLen at zc
  have neA : ∀ k, (Value.slice a ts.length cap).ownBlock = some k → k ≠ B := fun k hk => by have := (own2.lt k hk).1; omega
  have neA2 : (Value.slice a ts.length cap).ownBlock ≠ some w2.heap.size := fun e => by have := (own2.lt _ e).2; omega
  clear own2 g2 hR hR2 B2 C1
  have HQ : Hid (∀ v4 w4, OwnT w4 w2.heap.size v4 ([] ++ ts) → (w2.alloc (.cells #[] 29)).grownBy w4 (Value.slice (some ⟨w2.heap.size, 0, none⟩) 0 0).ownBlock →
      ∃ a4 c4, v4 = .slice a4 ts.length c4 ∧ OwnT w4 w2.heap.size (.slice a4 ts.length c4) ts ∧ Ts w4 (.slice a ts.length cap) ts ∧ Rd w4 B (0 + 40) ∧ Below w.heap.size w w4 ∧ (∀ k, (Value.slice a4 ts.length c4).ownBlock = some k → k ≠ B) ∧ ts.length ≤ c4 ∧ c4 ≤ 9223372036854775807) := Lib.hid fun v4 w4 o g => by
    rw [List.nil_append] at o
    obtain ⟨a4, c4, rfl⟩ := o.form'
    have z4 := o.ts.sizes.2
    unfold maxLen at z4
    exact ⟨a4, c4, rfl, o, (own3.grown g (.inr neA2)).ts, hR3.byT ownE (by omega) g, B3.grown g B3.size (fun k hk => by simp only [Value.ownBlock, Option.some.injEq] at hk; omega), fun k hk => by have := (o.lt k hk).1; omega, z4.1, z4.2⟩
  have HB1 := Lib.hid hB1
  by_cases h0 : 0 < ts.length
  · have d0 : decide ((0 : Int) < (ts.length : Int)) = true := decide_eq_true (by omega)
    have d0n : decide (0 < ts.length) = true := decide_eq_true h0
    go_wp2_with (refine wp_appAny rfl (.tmp 15) (.tmp 16) rfl w2.heap.size (.slice (some ⟨w2.heap.size, 0, none⟩) 0 0) (.slice a ts.length cap) [] ts rfl rfl ownE own3.ts (by simp; omega) bE.size ?_; intro v4 w4 ownv4 g4; obtain ⟨a4, c4, rfl, own4, tsA, hRd, BW, ne4, z41, z42⟩ := HQ.out v4 w4 ownv4 g4; clear ownv4 g4)
    refine (spec_pick B _ 3 w4 hRd (by omega) (by omega) (by omega)).mono ?_
    rintro e w5 ⟨k1, rfl, hk1, hR5, g5⟩
    have tsA5 := tsA.byB neA g5
    have own5 := own4.by (by omega) g5
    have BW5 := below_of_grown BW hB g5
    clear tsA hRd BW own4 g5 ownE own3 bE HQ hR3 B3
    by_cases k0 : 0 < k1
    · have d1 : decide ((0 : Int) < (k1 : Int)) = true := decide_eq_true (by omega)
      have d1n : decide (0 < k1) = true := decide_eq_true k0
      have s1 : IntKind.i64.wrap ((ts.length : Int) + 1) = (ts.length : Int) + 1 := IntWalk.i64_in _ ⟨by omega, by omega⟩
      go_wp2_with fail
      refine (spec_pick B _ ((ts.length : Int) + 1) w5 hR5 (by omega) (by omega) (by omega)).mono ?_
      rintro e w6 ⟨k2, rfl, hk2, hR6, g6⟩
      have tsA6 := tsA5.byB neA g6
      have own6 := own5.by (by omega) g6
      have BW6 := below_of_grown BW5 hB g6
      have hk2l : k2 ≤ ts.length := by omega
      have hs1 : ∀ W, (Instr.slice 23 (.slice a4 ts.length c4) none (some (.int .i64 (k2 : Int))) none).run Try.prog W = .ok (.slice a4 k2 c4) W := fun W => run_uptoT own6.ts k2 hk2l W
      have tk6 := own6.ts.take k2 hk2l
      have hTk := hT.take k2
      have hkl : (ts.take k2).length = k2 := by rw [List.length_take]; omega
      have ne4k : ∀ k, (Value.slice a4 k2 c4).ownBlock = some k → k ≠ B := fun k hk => ne4 k (by rw [← hk]; rcases a4 with _ | ⟨_, _, _ | _⟩ <;> rfl)
      clear tsA5 BW5 own5 g6 hR5 hk2
      go_wp2_with fail
      refine (spec_pick B _ 14 w6 hR6 (by omega) (by omega) (by omega)).mono ?_
      rintro e w7 ⟨x, rfl, hx, hR7, g7⟩
      have tsA7 := tsA6.byB neA g7
      have tk7 := tk6.byB ne4k g7
      have BW7 := below_of_grown BW6 hB g7
      clear tsA6 tk6 own6 BW6 g7 hR6
      go_wp2_with fail
      refine (spec_pick B _ 40 w7 hR7 (by omega) (by omega) (by omega)).mono ?_
      rintro e w8 ⟨y, rfl, hy, hR8, g8⟩
      have tsA8 := tsA7.byB neA g8
      have tk8 := tk7.byB ne4k g8
      have BW8 := below_of_grown BW7 hB g8
      clear tsA7 tk7 BW7 g8 hR7
      go_wp2_with fail
      have HB8 : B < w8.heap.size := hR8.lt
      refine (spec_TermsPut _ (ts.take k2) x y w8 tk8 (by omega)).mono ?_
      rintro e W ⟨vb, rfl, ownP, bP⟩
      have hRd := hR8.below bP
      have tsA := tsA8.below bP
      have BW := Bstep BW8 bP
      have tk9 := tk8.below bP
      obtain ⟨okb, hok⟩ : ∃ r, tsOk (ts.take k2 ++ [⟨(x : Int), (y : Int)⟩]) = r := ⟨_, rfl⟩
      rw [hok]
      cases okb with
      | true =>
        have hP : putL (ts.take k2) ⟨(x : Int), (y : Int)⟩ = ts.take k2 ++ [⟨(x : Int), (y : Int)⟩] := if_pos hok
        rw [hP] at ownP
        have tsB := ownP.ts
        have neB : ∀ k, vb.ownBlock = some k → k ≠ B := fun k hk => by have := (ownP.lt k hk).1; omega
        have hTb := hTk.put (x := (x : Int)) (y := (y : Int)) (by omega) (by omega) (by omega) (by omega) hok
        clear hP hok ownP bP tk9 tk8 tsA8 BW8 hR8 hTk hs1
        go_wp2_with fail
        refine (spec_l92End B _ _ ts W hRd (by omega) tsA hT neA).mono ?_
        rintro e w8 ⟨en, rfl, en0, en1, hR8, g8⟩
        have tsA8 := tsA.byB neA g8
        have tsB8 := tsB.byB neB g8
        have BE8 := below_of_grown BW hB g8
        clear tsA tsB BW g8 hRd
        go_wp2_with fail
        refine (spec_l92End B _ _ (ts.take k2 ++ [⟨(x : Int), (y : Int)⟩]) w8 hR8 (by omega) tsB8 hTb neB).mono ?_
        rintro e w9 ⟨en', rfl, en0', en1', hR9, g9⟩
        have tsA9 := tsA8.byB neA g9
        have tsB9 := tsB8.byB neB g9
        have BE9 := below_of_grown BE8 hB g9
        clear tsA8 tsB8 BE8 g9 hR8
        go_wp2_with fail
        refine bodyPost_ret (v := .tuple #[.slice a ts.length cap, .int .i64 en, vb, .int .i64 en']) (by simp [results, Try.results8, go_sem]) rfl ?_
        exact ⟨_, ts, en, _, (ts.take k2 ++ [⟨(x : Int), (y : Int)⟩]), en', rfl, tsA9, tsB9, hT.1, hTb.1, BE9⟩
      | false =>
        have tsB := tk9
        have neB := ne4k
        have hTb := hTk
        clear hok ownP bP tk9 tk8 tsA8 BW8 hR8 hTk hs1
        go_wp2_with fail
        refine (spec_l92End B _ _ ts W hRd (by omega) tsA hT neA).mono ?_
        rintro e w8 ⟨en, rfl, en0, en1, hR8, g8⟩
        have tsA8 := tsA.byB neA g8
        have tsB8 := tsB.byB neB g8
        have BE8 := below_of_grown BW hB g8
        clear tsA tsB BW g8 hRd
        go_wp2_with fail
        refine (spec_l92End B _ _ (ts.take k2) w8 hR8 (by omega) tsB8 hTb neB).mono ?_
        rintro e w9 ⟨en', rfl, en0', en1', hR9, g9⟩
        have tsA9 := tsA8.byB neA g9
        have tsB9 := tsB8.byB neB g9
        have BE9 := below_of_grown BE8 hB g9
        clear tsA8 tsB8 BE8 g9 hR8
        go_wp2_with fail
        refine bodyPost_ret (v := .tuple #[.slice a ts.length cap, .int .i64 en, (Value.slice a4 k2 c4), .int .i64 en']) (by simp [results, Try.results8, go_sem]) rfl ?_
        exact ⟨_, ts, en, _, (ts.take k2), en', rfl, tsA9, tsB9, hT.1, hTb.1, BE9⟩
    · have d1 : decide ((0 : Int) < (k1 : Int)) = false := decide_eq_false (by omega)
      have d1n : decide (0 < k1) = false := decide_eq_false k0
      go_wp2_with fail
      refine (spec_pick B _ 3 w5 hR5 (by omega) (by omega) (by omega)).mono ?_
      rintro e w6 ⟨k2, rfl, hk2, hR6, g6⟩
      have tsA6 := tsA5.byB neA g6
      have own6 := own5.by (by omega) g6
      have BW6 := below_of_grown BW5 hB g6
      clear tsA5 BW5 own5 g6 hR5 hk2
      by_cases q0 : k2 = 0
      · have e0 : ((k2 : Int) == 0) = true := by rw [beq_iff_eq]; omega
        clear q0
        go_wp2_with fail
        refine (spec_l92Terms B _ w6 hR6 (by omega)).mono ?_
        rintro e W ⟨vb, bs, rfl, ownb, hTb, hRd, g7⟩
        have tsA := tsA6.byB neA g7
        have BW := below_of_grown BW6 hB g7
        have tsB := ownb.ts
        have hB6 := hR6.lt
        have neB : ∀ k, vb.ownBlock = some k → k ≠ B := fun k hk => by have := (ownb.lt k hk).1; omega
        clear tsA6 BW6 own6 hR6 ownb g7 e0
        go_wp2_with fail
        refine (spec_l92End B _ _ ts W hRd (by omega) tsA hT neA).mono ?_
        rintro e w8 ⟨en, rfl, en0, en1, hR8, g8⟩
        have tsA8 := tsA.byB neA g8
        have tsB8 := tsB.byB neB g8
        have BE8 := below_of_grown BW hB g8
        clear tsA tsB BW g8 hRd
        go_wp2_with fail
        refine (spec_l92End B _ _ bs w8 hR8 (by omega) tsB8 hTb neB).mono ?_
        rintro e w9 ⟨en', rfl, en0', en1', hR9, g9⟩
        have tsA9 := tsA8.byB neA g9
        have tsB9 := tsB8.byB neB g9
        have BE9 := below_of_grown BE8 hB g9
        clear tsA8 tsB8 BE8 g9 hR8
        go_wp2_with fail
        refine bodyPost_ret (v := .tuple #[.slice a ts.length cap, .int .i64 en, vb, .int .i64 en']) (by simp [results, Try.results8, go_sem]) rfl ?_
        exact ⟨_, ts, en, _, bs, en', rfl, tsA9, tsB9, hT.1, hTb.1, BE9⟩
      · have e0 : ((k2 : Int) == 0) = false := by rw [beq_eq_false_iff_ne]; omega
        clear q0
        have hRd := hR6
        have tsA := tsA6
        have BW := BW6
        have tsB := own6.ts
        have neB := ne4
        have hTb := hT
        clear hR6 tsA6 BW6 own6
        go_wp2_with fail
        refine (spec_l92End B _ _ ts w6 hRd (by omega) tsA hT neA).mono ?_
        rintro e w8 ⟨en, rfl, en0, en1, hR8, g8⟩
        have tsA8 := tsA.byB neA g8
        have tsB8 := tsB.byB neB g8
        have BE8 := below_of_grown BW hB g8
        clear tsA tsB BW g8 hRd
        go_wp2_with fail
        refine (spec_l92End B _ _ ts w8 hR8 (by omega) tsB8 hTb neB).mono ?_
        rintro e w9 ⟨en', rfl, en0', en1', hR9, g9⟩
        have tsA9 := tsA8.byB neA g9
        have tsB9 := tsB8.byB neB g9
        have BE9 := below_of_grown BE8 hB g9
        clear tsA8 tsB8 BE8 g9 hR8
        go_wp2_with fail
        refine bodyPost_ret (v := .tuple #[.slice a ts.length cap, .int .i64 en, (Value.slice a4 ts.length c4), .int .i64 en']) (by simp [results, Try.results8, go_sem]) rfl ?_
        exact ⟨_, ts, en, _, ts, en', rfl, tsA9, tsB9, hT.1, hTb.1, BE9⟩
  · have d0 : decide ((0 : Int) < (ts.length : Int)) = false := decide_eq_false (by omega)
    have d0n : decide (0 < ts.length) = false := decide_eq_false h0
    go_wp2_with (refine wp_appAny rfl (.tmp 15) (.tmp 16) rfl w2.heap.size (.slice (some ⟨w2.heap.size, 0, none⟩) 0 0) (.slice a ts.length cap) [] ts rfl rfl ownE own3.ts (by simp; omega) bE.size ?_; intro v4 w4 ownv4 g4; obtain ⟨a4, c4, rfl, own4, tsA, hRd, BW, ne4, z41, z42⟩ := HQ.out v4 w4 ownv4 g4; clear ownv4 g4)
    refine (spec_pick B _ 3 w4 hRd (by omega) (by omega) (by omega)).mono ?_
    rintro e w6 ⟨k2, rfl, hk2, hR6, g6⟩
    have tsA6 := tsA.byB neA g6
    have own6 := own4.by (by omega) g6
    have BW6 := below_of_grown BW hB g6
    clear tsA BW own4 g6 hRd hk2
    by_cases q0 : k2 = 0
    · have e0 : ((k2 : Int) == 0) = true := by rw [beq_iff_eq]; omega
      clear q0
      go_wp2_with fail
      refine (spec_l92Terms B _ w6 hR6 (by omega)).mono ?_
      rintro e W ⟨vb, bs, rfl, ownb, hTb, hRd, g7⟩
      have tsA := tsA6.byB neA g7
      have BW := below_of_grown BW6 hB g7
      have tsB := ownb.ts
      have hB6 := hR6.lt
      have neB : ∀ k, vb.ownBlock = some k → k ≠ B := fun k hk => by have := (ownb.lt k hk).1; omega
      clear tsA6 BW6 own6 hR6 ownb g7 e0
      go_wp2_with fail
      refine (spec_l92End B _ _ ts W hRd (by omega) tsA hT neA).mono ?_
      rintro e w8 ⟨en, rfl, en0, en1, hR8, g8⟩
      have tsA8 := tsA.byB neA g8
      have tsB8 := tsB.byB neB g8
      have BE8 := below_of_grown BW hB g8
      clear tsA tsB BW g8 hRd
      go_wp2_with fail
      refine (spec_l92End B _ _ bs w8 hR8 (by omega) tsB8 hTb neB).mono ?_
      rintro e w9 ⟨en', rfl, en0', en1', hR9, g9⟩
      have tsA9 := tsA8.byB neA g9
      have tsB9 := tsB8.byB neB g9
      have BE9 := below_of_grown BE8 hB g9
      clear tsA8 tsB8 BE8 g9 hR8
      go_wp2_with fail
      refine bodyPost_ret (v := .tuple #[.slice a ts.length cap, .int .i64 en, vb, .int .i64 en']) (by simp [results, Try.results8, go_sem]) rfl ?_
      exact ⟨_, ts, en, _, bs, en', rfl, tsA9, tsB9, hT.1, hTb.1, BE9⟩
    · have e0 : ((k2 : Int) == 0) = false := by rw [beq_eq_false_iff_ne]; omega
      clear q0
      have hRd := hR6
      have tsA := tsA6
      have BW := BW6
      have tsB := own6.ts
      have neB := ne4
      have hTb := hT
      clear hR6 tsA6 BW6 own6
      go_wp2_with fail
      refine (spec_l92End B _ _ ts w6 hRd (by omega) tsA hT neA).mono ?_
      rintro e w8 ⟨en, rfl, en0, en1, hR8, g8⟩
      have tsA8 := tsA.byB neA g8
      have tsB8 := tsB.byB neB g8
      have BE8 := below_of_grown BW hB g8
      clear tsA tsB BW g8 hRd
      go_wp2_with fail
      refine (spec_l92End B _ _ ts w8 hR8 (by omega) tsB8 hTb neB).mono ?_
      rintro e w9 ⟨en', rfl, en0', en1', hR9, g9⟩
      have tsA9 := tsA8.byB neA g9
      have tsB9 := tsB8.byB neB g9
      have BE9 := below_of_grown BE8 hB g9
      clear tsA8 tsB8 BE8 g9 hR8
      go_wp2_with fail
      refine bodyPost_ret (v := .tuple #[.slice a ts.length cap, .int .i64 en, (Value.slice a4 ts.length c4), .int .i64 en']) (by simp [results, Try.results8, go_sem]) rfl ?_
      exact ⟨_, ts, en, _, ts, en', rfl, tsA9, tsB9, hT.1, hTb.1, BE9⟩
end Go.Proofs.Ytddemgdclilgpaa
