/- Chapter 11: a message is read, by the model. -/
import Derived.Test.YthlboonobepdaaaW11i
import Derived.Test.YthlboonobepdaaaW3d
import Derived.Test.YthlboonobepdaaaW2b
import Derived.Test.YthlboonobepdaaaB1
namespace Go.Proofs.Ythlboonobepdaaa
open Go.ChangeShapes Go.WideShapes Go.ChangeAt Go.RowKit
set_option linter.unusedVariables false

theorem rdM_none {xs : List Int} (h : tellM xs = none) : rdM xs = (Mes.zero, false) := by unfold rdM; rw [h]
theorem rdM_some {xs : List Int} {m : Mes} (h : tellM xs = some m) : rdM xs = if mOk m = true ∧ mBytes m = xs then (m, true) else (Mes.zero, false) := by unfold rdM; rw [h]
theorem same0 {xs ys : List Int} : sameAt xs 0 ys = true ∧ ys.length = xs.length ↔ ys = xs := by
  unfold sameAt
  simp only [Bool.and_eq_true, decide_eq_true_eq, beq_iff_eq, Nat.zero_add, List.drop_zero]
  constructor
  · rintro ⟨⟨h1, h2⟩, h3⟩
    rw [h3, List.take_length] at h2
    exact h2.symm
  · rintro rfl
    exact ⟨⟨Nat.le_refl _, List.take_length ..⟩, rfl⟩
set_option maxHeartbeats 16000000 in
theorem spec_OldFrom (v : Value) (xs : List Int) (w : World) (h : Ints w v xs) (hs : xs.length ≤ 1000000000000) : Calls Try.prog 19 #[v] w (OldOut w xs) := by
  obtain ⟨av0, cap, hvf, hl, hm, hc⟩ := id h
  have hvs : ∃ a cap, v = .slice a xs.length cap := ⟨_, _, hvf⟩
  unfold maxLen at hm
  have bz := alloc_below' w (.cells #[.int .i64 0, .bool false, .int .i64 0, .slice none 0 0, .slice none 0 0, .bool false, .bool false] 25)
  have xZ := Blk.made w #[.int .i64 0, .bool false, .int .i64 0, .slice none 0 0, .slice none 0 0, .bool false, .bool false] 25
  have C1 := Lib.hid (spec_l1Ok v xs _ (h.below bz))
  have HV0 := Lib.hid h
  clear hc hvf
  obtain ⟨va, vc, rfl⟩ := hvs
  have CF : Hid (∀ W, Below w.heap.size w W → okBs xs = true → ∀ (q m : Nat), 1 ≤ m → m ≤ 3 → q + m ≤ xs.length → Calls Try.prog 42 #[.slice va xs.length vc, .int .i64 (q : Int), .int .i64 (m : Int)] W fun e w' => e = .returned (.int .i64 (fromB ((xs.drop q).take m))) ∧ W = w') := Lib.hid fun W hW hb q m m1 m3 hq => spec_l2From _ xs q m W (h.below hW) hb m1 m3 hq
  have hcell : 8 ≤ xs.length → ∃ b off, va = some ⟨b, off, none⟩ ∧ ∀ W, Below w.heap.size w W → W.cell? ⟨b, off + 5, none⟩ = some (.int .i64 (xs.getD 5 0)) := fun h8 => by
    obtain ⟨a, cap, e, _, _, hc⟩ := id h
    simp only [Value.slice.injEq, true_and] at e
    obtain ⟨rfl, rfl⟩ := e
    obtain ⟨b, off, e2, hc2⟩ := hc (by omega)
    exact ⟨b, off, e2, fun W hW => (hW.cell (World.block_lt_of_cell? _ _ (hc2 5 (by omega)))).trans (hc2 5 (by omega))⟩
  have HCL := Lib.hid hcell
  obtain ⟨v, hvv⟩ : ∃ v, v = Value.slice va xs.length vc := ⟨_, rfl⟩
  clear hcell
  cases hok : okBs xs with
  | false =>
    rw [hok] at C1
    have HM : rdM xs = (Mes.zero, false) := rdM_none (by unfold tellM; rw [if_pos (.inl hok)])
    clear hok
    go_enter Try.func19, Try.ntmps19
    go_wp2_with fail
    refine C1.out.mono ?_
    rintro e w1 ⟨rfl, rfl⟩
    obtain ⟨Z, hZ⟩ : ∃ Z, w.heap.size = Z := ⟨_, rfl⟩
    generalize hWz : w.alloc (.cells #[.int .i64 0, .bool false, .int .i64 0, .slice none 0 0, .slice none 0 0, .bool false, .bool false] 25) = wz at bz xZ ⊢
    rw [hZ] at xZ ⊢
    have hwZ : w.heap.size ≤ Z := by omega
    clear hWz hZ
    obtain ⟨q0, q1, q2, q3, q4, q5, q6⟩ := xZ.seven?
    have fz := xZ.free
    go_wp2_with fail
    have box8 := xZ.sevenS (.int .i64 0) (.bool false) (.int .i64 0) (.slice none 0 0) (.slice none 0 0) (.bool false) (.bool false)
    have gR := seven_grown wz Z (.int .i64 0) (.bool false) (.int .i64 0) (.slice none 0 0) (.slice none 0 0) (.bool false) (.bool false)
    have bR := bel_seven bz hwZ (.int .i64 0) (.bool false) (.int .i64 0) (.slice none 0 0) (.slice none 0 0) (.bool false) (.bool false)
    generalize hWR : (((((((wz.setCell ⟨Z, 0, none⟩ (.int .i64 0)).setCell ⟨Z, 1, none⟩ (.bool false)).setCell ⟨Z, 2, none⟩ (.int .i64 0)).setCell ⟨Z, 3, none⟩ (.slice none 0 0)).setCell ⟨Z, 4, none⟩ (.slice none 0 0)).setCell ⟨Z, 5, none⟩ (.bool false)).setCell ⟨Z, 6, none⟩ (.bool false)) = WR at box8 gR bR ⊢
    clear q0 q1 q2 q3 q4 q5 q6 fz hWR
    obtain ⟨q0, q1, q2, q3, q4, q5, q6⟩ := box8.seven?
    refine bodyPost_ret (v := .tuple #[.agg #[.int .i64 0, .bool false, .int .i64 0, .slice none 0 0, .slice none 0 0, .bool false, .bool false], .bool false]) (by simp [results, Try.results19, go_sem, q0, q1, q2, q3, q4, q5, q6]) rfl ?_
    exact OldOut.mk HM rfl ⟨_, _, rfl, own_nil _ _, own_nil _ _, fun k hk => by simp [Value.ownBlock] at hk⟩ bR
  | true =>
  rw [hok] at C1
  by_cases h8 : xs.length < 8
  · have d8 : decide ((xs.length : Int) < 8) = true := decide_eq_true (by omega)
    have d8n : decide (xs.length < 8) = true := decide_eq_true h8
    have HM : rdM xs = (Mes.zero, false) := rdM_none (by unfold tellM; rw [if_pos (.inr (.inl h8))])
    clear h8
    go_enter Try.func19, Try.ntmps19
    go_wp2_with fail
    refine C1.out.mono ?_
    rintro e w1 ⟨rfl, rfl⟩
    obtain ⟨Z, hZ⟩ : ∃ Z, w.heap.size = Z := ⟨_, rfl⟩
    generalize hWz : w.alloc (.cells #[.int .i64 0, .bool false, .int .i64 0, .slice none 0 0, .slice none 0 0, .bool false, .bool false] 25) = wz at bz xZ ⊢
    rw [hZ] at xZ ⊢
    have hwZ : w.heap.size ≤ Z := by omega
    clear hWz hZ
    obtain ⟨q0, q1, q2, q3, q4, q5, q6⟩ := xZ.seven?
    have fz := xZ.free
    go_wp2_with fail
    have box8 := xZ.sevenS (.int .i64 0) (.bool false) (.int .i64 0) (.slice none 0 0) (.slice none 0 0) (.bool false) (.bool false)
    have gR := seven_grown wz Z (.int .i64 0) (.bool false) (.int .i64 0) (.slice none 0 0) (.slice none 0 0) (.bool false) (.bool false)
    have bR := bel_seven bz hwZ (.int .i64 0) (.bool false) (.int .i64 0) (.slice none 0 0) (.slice none 0 0) (.bool false) (.bool false)
    generalize hWR : (((((((wz.setCell ⟨Z, 0, none⟩ (.int .i64 0)).setCell ⟨Z, 1, none⟩ (.bool false)).setCell ⟨Z, 2, none⟩ (.int .i64 0)).setCell ⟨Z, 3, none⟩ (.slice none 0 0)).setCell ⟨Z, 4, none⟩ (.slice none 0 0)).setCell ⟨Z, 5, none⟩ (.bool false)).setCell ⟨Z, 6, none⟩ (.bool false)) = WR at box8 gR bR ⊢
    clear q0 q1 q2 q3 q4 q5 q6 fz hWR
    obtain ⟨q0, q1, q2, q3, q4, q5, q6⟩ := box8.seven?
    refine bodyPost_ret (v := .tuple #[.agg #[.int .i64 0, .bool false, .int .i64 0, .slice none 0 0, .slice none 0 0, .bool false, .bool false], .bool false]) (by simp [results, Try.results19, go_sem, q0, q1, q2, q3, q4, q5, q6]) rfl ?_
    exact OldOut.mk HM rfl ⟨_, _, rfl, own_nil _ _, own_nil _ _, fun k hk => by simp [Value.ownBlock] at hk⟩ bR
  have d8 : decide ((xs.length : Int) < 8) = false := decide_eq_false (by omega)
  have d8n : decide (xs.length < 8) = false := decide_eq_false h8
  have h8' : 8 ≤ xs.length := by omega
  obtain ⟨b, off, rfl, hc5⟩ := HCL.out h8'
  have HC5 := Lib.hid hc5
  obtain ⟨x5, ex5⟩ : ∃ x, xs.getD 5 0 = x := ⟨_, rfl⟩
  rw [ex5] at HC5
  have HX5 := Lib.hid ex5
  have i5 : (5 : Int) < (xs.length : Int) := by omega
  have HN0 : Hid (fromB ((xs.drop 0).take 3) = fromB (xs.take 3)) := Lib.hid rfl
  have CF0 := Lib.hid (fun W hW => CF.out W hW hok 0 3 (by omega) (by omega) (by omega))
  clear h8 hc5 ex5 hvv
  by_cases ht : x5 = 1
  · have e5' : (x5 == 1) = true := by rw [beq_iff_eq]; exact ht
    by_cases h11 : xs.length < 11
    · have d11 : decide ((xs.length : Int) < 11) = true := decide_eq_true (by omega)
      have d11n : decide (xs.length < 11) = true := decide_eq_true h11
      have HM : rdM xs = (Mes.zero, false) := rdM_none (by unfold tellM; rw [if_pos (.inr (.inr ⟨by rw [HX5.out]; exact ht, h11⟩))])
      clear h11 ht
      have c5 := HC5.out _ bz
      go_enter Try.func19, Try.ntmps19
      go_wp2_with fail
      refine C1.out.mono ?_
      rintro e w1 ⟨rfl, rfl⟩
      go_upto_region 2 with (fail)
      obtain ⟨Z, hZ⟩ : ∃ Z, w.heap.size = Z := ⟨_, rfl⟩
      clear c5 C1
      generalize hWz : w.alloc (.cells #[.int .i64 0, .bool false, .int .i64 0, .slice none 0 0, .slice none 0 0, .bool false, .bool false] 25) = wz at bz xZ ⊢
      rw [hZ] at xZ ⊢
      have hwZ : w.heap.size ≤ Z := by omega
      clear hWz hZ
      obtain ⟨q0, q1, q2, q3, q4, q5, q6⟩ := xZ.seven?
      have fz := xZ.free
      go_wp2_with fail
      have box8 := xZ.sevenS (.int .i64 0) (.bool false) (.int .i64 0) (.slice none 0 0) (.slice none 0 0) (.bool false) (.bool false)
      have gR := seven_grown wz Z (.int .i64 0) (.bool false) (.int .i64 0) (.slice none 0 0) (.slice none 0 0) (.bool false) (.bool false)
      have bR := bel_seven bz hwZ (.int .i64 0) (.bool false) (.int .i64 0) (.slice none 0 0) (.slice none 0 0) (.bool false) (.bool false)
      generalize hWR : (((((((wz.setCell ⟨Z, 0, none⟩ (.int .i64 0)).setCell ⟨Z, 1, none⟩ (.bool false)).setCell ⟨Z, 2, none⟩ (.int .i64 0)).setCell ⟨Z, 3, none⟩ (.slice none 0 0)).setCell ⟨Z, 4, none⟩ (.slice none 0 0)).setCell ⟨Z, 5, none⟩ (.bool false)).setCell ⟨Z, 6, none⟩ (.bool false)) = WR at box8 gR bR ⊢
      clear q0 q1 q2 q3 q4 q5 q6 fz hWR
      obtain ⟨q0, q1, q2, q3, q4, q5, q6⟩ := box8.seven?
      refine bodyPost_ret (v := .tuple #[.agg #[.int .i64 0, .bool false, .int .i64 0, .slice none 0 0, .slice none 0 0, .bool false, .bool false], .bool false]) (by simp [results, Try.results19, go_sem, q0, q1, q2, q3, q4, q5, q6]) rfl ?_
      exact OldOut.mk HM rfl ⟨_, _, rfl, own_nil _ _, own_nil _ _, fun k hk => by simp [Value.ownBlock] at hk⟩ bR
    have d11 : decide ((xs.length : Int) < 11) = false := decide_eq_false (by omega)
    have d11n : decide (xs.length < 11) = false := decide_eq_false h11
    have HC : Hid (¬ (okBs xs = false ∨ xs.length < 8 ∨ (xs.getD 5 0 = 1 ∧ xs.length < 11))) := Lib.hid (fun hh => by rcases hh with hh | hh | ⟨_, hh⟩; (· rw [hok] at hh; cases hh); (· omega); · omega)
    have HT5 : Hid (decide (xs.getD 5 0 = 1) = true) := Lib.hid (by rw [HX5.out]; exact decide_eq_true ht)
    have CF3 := Lib.hid (fun W hW => CF.out W hW hok 6 3 (by omega) (by omega) (by omega))
    have HN3 : Hid (fromB ((xs.drop 6).take 3) = fromB ((xs.drop 6).take 3)) := Lib.hid rfl
    clear ht h11
    have c5 := HC5.out _ bz
    go_enter Try.func19, Try.ntmps19
    go_wp2_with fail
    refine C1.out.mono ?_
    rintro e w1 ⟨rfl, rfl⟩
    go_wp2_with fail
    refine (CF0.out _ bz).mono ?_
    rintro e w1 ⟨rfl, rfl⟩
    obtain ⟨n0, hn0⟩ : ∃ n, fromB ((xs.drop 0).take 3) = n := ⟨_, rfl⟩
    have HN0 : Hid (fromB (xs.take 3) = n0) := Lib.hid hn0
    rw [hn0]
    clear hn0 CF0 C1 c5
    obtain ⟨Z, hZ⟩ : ∃ Z, w.heap.size = Z := ⟨_, rfl⟩
    generalize hWz : w.alloc (.cells #[.int .i64 0, .bool false, .int .i64 0, .slice none 0 0, .slice none 0 0, .bool false, .bool false] 25) = wz at bz xZ ⊢
    rw [hZ] at xZ ⊢
    have hwZ : w.heap.size ≤ Z := by omega
    have HZ := Lib.hid hZ
    clear hWz hZ
    have c5 := HC5.out _ bz
    have bx := alloc_below' wz (.cells #[.int .i64 n0, .bool true, .int .i64 0, .slice none 0 0, .slice none 0 0, .bool false, .bool false] 25)
    have xx := Blk.made wz #[.int .i64 n0, .bool true, .int .i64 0, .slice none 0 0, .slice none 0 0, .bool false, .bool false] 25
    have bx0 := alloc_below' wz (.cells #[.int .i64 n0, .bool false, .int .i64 0, .slice none 0 0, .slice none 0 0, .bool false, .bool false] 25)
    have c5x := HC5.out _ (Bstep bz bx0)
    go_upto_region 7 with (fail)
    clear c5 c5x bx0
    generalize hWx : wz.alloc (.cells #[.int .i64 n0, .bool true, .int .i64 0, .slice none 0 0, .slice none 0 0, .bool false, .bool false] 25) = wx at bx xx ⊢
    clear hWx
    obtain ⟨X, hX⟩ : ∃ X, wz.heap.size = X := ⟨_, rfl⟩
    rw [hX] at xx ⊢
    have hZl := xZ.lt
    have hZX2 : Z < X := by omega
    have hZX : Z ≠ X := by omega
    have hwX : w.heap.size ≤ X := by have := bz.size; omega
    have hwX1 : w.heap.size ≤ X + 1 := by omega
    have HX := Lib.hid hX
    have zx := xZ.belowS bx
    have Bx := Bstep bz bx
    clear bx xZ bz hX hZl
    go_wp2_with fail
    refine (CF3.out wx Bx).mono ?_
    rintro e w1 ⟨rfl, rfl⟩
    obtain ⟨n3, hn3⟩ : ∃ n, fromB ((xs.drop 6).take 3) = n := ⟨_, rfl⟩
    rw [hn3]
    clear HN3
    have HN3 := Lib.hid hn3
    clear hn3 CF3
    obtain ⟨e0, e1, e2, e3, e4, e5, e6⟩ := xx.seven?
    have fx := xx.free
    go_upto_region 9 with (fail)
    have x4 := xx.set 2 (.int .i64 n3)
    have g4 : wx.grownBy (wx.setCell ⟨X, 2, none⟩ (.int .i64 n3)) (some X) := set_grown _ _ _ _
    have z4 := zx.by hZX g4
    have B4 : Below w.heap.size w (wx.setCell ⟨X, 2, none⟩ (.int .i64 n3)) := Bx.setCell hwX _
    generalize hW4 : wx.setCell ⟨X, 2, none⟩ (.int .i64 n3) = w4 at x4 z4 B4 ⊢
    simp only [List.setIfInBounds_toArray, List.set_cons_zero, List.set_cons_succ] at x4
    clear hW4 g4 xx zx Bx e0 e1 e2 e3 e4 e5 e6 fx
    obtain ⟨h1, ks, d1, p, E1, hd1, hk1⟩ := getO_in hok 9
    have CP1 := Lib.hid (spec_l11Get _ xs 9 w4 (h.below B4) hok (by omega) hs)
    rw [E1] at CP1
    have HE1 := Lib.hid E1
    clear E1
    go_wp2_with fail
    refine CP1.out.mono ?_
    rintro e w5 ⟨u5, rfl, own5, b5⟩
    simp only at own5 ⊢
    have x5 := x4.belowS b5
    have z5 := z4.belowS b5
    have B5 := Bstep B4 b5
    have hX4 : X + 1 ≤ w4.heap.size := x4.lt
    obtain ⟨a1, c1, rfl⟩ := AppRes.lenOf own5
    clear x4 z4 B4 b5 CP1
    cases p with
    | false =>
      have HM : rdM xs = (Mes.zero, false) := rdM_none (by unfold tellM; rw [if_neg HC.out]; simp only [HT5.out, if_true, Bool.false_eq_true, if_false, HE1.out, false_and])
      obtain ⟨q0, q1, q2, q3, q4, q5, q6⟩ := z5.seven?
      have fz := z5.free
      go_wp2_with fail
      have box8 := z5.sevenS (.int .i64 0) (.bool false) (.int .i64 0) (.slice none 0 0) (.slice none 0 0) (.bool false) (.bool false)
      have gR := seven_grown w5 Z (.int .i64 0) (.bool false) (.int .i64 0) (.slice none 0 0) (.slice none 0 0) (.bool false) (.bool false)
      have bR := bel_seven B5 hwZ (.int .i64 0) (.bool false) (.int .i64 0) (.slice none 0 0) (.slice none 0 0) (.bool false) (.bool false)
      generalize hWR : (((((((w5.setCell ⟨Z, 0, none⟩ (.int .i64 0)).setCell ⟨Z, 1, none⟩ (.bool false)).setCell ⟨Z, 2, none⟩ (.int .i64 0)).setCell ⟨Z, 3, none⟩ (.slice none 0 0)).setCell ⟨Z, 4, none⟩ (.slice none 0 0)).setCell ⟨Z, 5, none⟩ (.bool false)).setCell ⟨Z, 6, none⟩ (.bool false)) = WR at box8 gR bR ⊢
      clear q0 q1 q2 q3 q4 q5 q6 fz hWR
      obtain ⟨q0, q1, q2, q3, q4, q5, q6⟩ := box8.seven?
      refine bodyPost_ret (v := .tuple #[.agg #[.int .i64 0, .bool false, .int .i64 0, .slice none 0 0, .slice none 0 0, .bool false, .bool false], .bool false]) (by simp [results, Try.results19, go_sem, q0, q1, q2, q3, q4, q5, q6]) rfl ?_
      exact OldOut.mk HM rfl ⟨_, _, rfl, own_nil _ _, own_nil _ _, fun k hk => by simp [Value.ownBlock] at hk⟩ bR
    | true =>
      obtain ⟨h2, vs, d2, q, E2, hd2, hk2⟩ := getO_in hok d1
      have CP2 := Lib.hid (spec_l11Get _ xs d1 w5 (h.below B5) hok (by omega) hs)
      rw [E2] at CP2
      have HE2 := Lib.hid E2
      clear E2
      go_wp2_with fail
      refine CP2.out.mono ?_
      rintro e w7 ⟨u7, rfl, own7, b7⟩
      simp only at own7 ⊢
      have x7 := x5.belowS b7
      have z7 := z5.belowS b7
      have B7 := Bstep B5 b7
      have o57 := (own5.base hX4).below b7
      have apart := own5.apart own7
      have hX5 : X + 1 ≤ w5.heap.size := x5.lt
      have o77 := own7.base hX5
      obtain ⟨a2, c2, rfl⟩ := AppRes.lenOf own7
      clear x5 z5 B5 b7 CP2 own5 own7
      obtain ⟨e0, e1, e2, e3, e4, e5, e6⟩ := x7.seven?
      have fx := x7.free
      go_upto_region 17 with (fail)
      have x8 := (((x7.set 5 (.bool h1)).set 3 (.slice a1 ks.length c1)).set 6 (.bool (!h2))).set 4 (.slice a2 vs.length c2)
      have g8 : w7.grownBy ((((w7.setCell ⟨X, 5, none⟩ (.bool h1)).setCell ⟨X, 3, none⟩ (.slice a1 ks.length c1)).setCell ⟨X, 6, none⟩ (.bool (!h2))).setCell ⟨X, 4, none⟩ (.slice a2 vs.length c2)) (some X) := grown_trans (grown_trans (grown_trans (set_grown _ _ _ _) (set_grown _ _ _ _)) (set_grown _ _ _ _)) (set_grown _ _ _ _)
      have z8 := z7.by hZX g8
      have o58 := o57.by (Nat.lt_succ_self X) g8
      have o78 := o77.by (Nat.lt_succ_self X) g8
      have B8 : Below w.heap.size w ((((w7.setCell ⟨X, 5, none⟩ (.bool h1)).setCell ⟨X, 3, none⟩ (.slice a1 ks.length c1)).setCell ⟨X, 6, none⟩ (.bool (!h2))).setCell ⟨X, 4, none⟩ (.slice a2 vs.length c2)) := (((B7.setCell hwX _).setCell hwX _).setCell hwX _).setCell hwX _
      generalize hW8 : ((((w7.setCell ⟨X, 5, none⟩ (.bool h1)).setCell ⟨X, 3, none⟩ (.slice a1 ks.length c1)).setCell ⟨X, 6, none⟩ (.bool (!h2))).setCell ⟨X, 4, none⟩ (.slice a2 vs.length c2)) = w8 at x8 z8 o58 o78 B8 ⊢
      simp only [List.setIfInBounds_toArray, List.set_cons_zero, List.set_cons_succ] at x8
      clear hW8 g8 x7 z7 B7 o57 o77 e0 e1 e2 e3 e4 e5 e6 fx
      cases q with
      | false =>
        have HM : rdM xs = (Mes.zero, false) := rdM_none (by unfold tellM; rw [if_neg HC.out]; simp only [HT5.out, if_true, Bool.false_eq_true, if_false, HE1.out, HE2.out, and_false])
        obtain ⟨q0, q1, q2, q3, q4, q5, q6⟩ := z8.seven?
        have fz := z8.free
        go_wp2_with fail
        have box8 := z8.sevenS (.int .i64 0) (.bool false) (.int .i64 0) (.slice none 0 0) (.slice none 0 0) (.bool false) (.bool false)
        have gR := seven_grown w8 Z (.int .i64 0) (.bool false) (.int .i64 0) (.slice none 0 0) (.slice none 0 0) (.bool false) (.bool false)
        have bR := bel_seven B8 hwZ (.int .i64 0) (.bool false) (.int .i64 0) (.slice none 0 0) (.slice none 0 0) (.bool false) (.bool false)
        generalize hWR : (((((((w8.setCell ⟨Z, 0, none⟩ (.int .i64 0)).setCell ⟨Z, 1, none⟩ (.bool false)).setCell ⟨Z, 2, none⟩ (.int .i64 0)).setCell ⟨Z, 3, none⟩ (.slice none 0 0)).setCell ⟨Z, 4, none⟩ (.slice none 0 0)).setCell ⟨Z, 5, none⟩ (.bool false)).setCell ⟨Z, 6, none⟩ (.bool false)) = WR at box8 gR bR ⊢
        clear q0 q1 q2 q3 q4 q5 q6 fz hWR
        obtain ⟨q0, q1, q2, q3, q4, q5, q6⟩ := box8.seven?
        refine bodyPost_ret (v := .tuple #[.agg #[.int .i64 0, .bool false, .int .i64 0, .slice none 0 0, .slice none 0 0, .bool false, .bool false], .bool false]) (by simp [results, Try.results19, go_sem, q0, q1, q2, q3, q4, q5, q6]) rfl ?_
        exact OldOut.mk HM rfl ⟨_, _, rfl, own_nil _ _, own_nil _ _, fun k hk => by simp [Value.ownBlock] at hk⟩ bR
      | true =>
        have HTM : Hid (tellM xs = some ⟨n0, true, n3, ks, vs, h1, !h2⟩) := Lib.hid (by unfold tellM; rw [if_neg HC.out]; simp only [HT5.out, if_true, HE1.out, HE2.out, and_self, HN0.out, HN3.out])
        have HRS := Lib.hid (rdM_some HTM.out)
        have hmv : ∀ W, Below w8.heap.size w8 W → MesV W (.agg #[.int .i64 n0, .bool true, .int .i64 n3, .slice a1 ks.length c1, .slice a2 vs.length c2, .bool h1, .bool (!h2)]) ⟨n0, true, n3, ks, vs, h1, !h2⟩ := fun W hW => ⟨_, _, rfl, (o58.below hW).ints, (o78.below hW).ints⟩
        have CV := Lib.hid (spec_OldValid _ ⟨n0, true, n3, ks, vs, h1, !h2⟩ w8 (hmv w8 (Below.refl _ _)) (by simp only; omega) (by simp only; omega))
        have CBy : Hid (mOk ⟨n0, true, n3, ks, vs, h1, !h2⟩ = true → ∀ W, Below w8.heap.size w8 W → Calls Try.prog 38 #[.agg #[.int .i64 n0, .bool true, .int .i64 n3, .slice a1 ks.length c1, .slice a2 vs.length c2, .bool h1, .bool (!h2)]] W (NewInts1 W (mBytes ⟨n0, true, n3, ks, vs, h1, !h2⟩))) := Lib.hid fun hm W hW => spec_l11Bytes _ _ W (hmv W hW) hm
        have HBL : Hid (mOk ⟨n0, true, n3, ks, vs, h1, !h2⟩ = true → (mBytes ⟨n0, true, n3, ks, vs, h1, !h2⟩).length ≤ 100) := Lib.hid fun hm => by have h1 := mBytes_len hm; obtain ⟨⟨_, _, p1, p2⟩, _⟩ := mOk_iff.1 hm; have q1 := (partOk_iff.1 p1).2.2; have q2 := (partOk_iff.1 p2).2.2; simp only at q1 q2 h1; split at h1 <;> omega
        obtain ⟨ok, hmo⟩ : ∃ ok, mOk ⟨n0, true, n3, ks, vs, h1, !h2⟩ = ok := ⟨_, rfl⟩
        rw [hmo] at CV CBy HBL HRS
        have HV := Lib.hid hmv
        clear hmo hmv
        obtain ⟨e0, e1, e2, e3, e4, e5, e6⟩ := x8.seven?
        cases ok with
        | false =>
          have HM : rdM xs = (Mes.zero, false) := by rw [HRS.out, if_neg (fun h => by cases h.1)]
          go_wp2_with fail
          refine CV.out.mono ?_
          rintro e w9 ⟨rfl, b9⟩
          have z9 := z8.belowS b9
          have B9 := Bstep B8 b9
          obtain ⟨q0, q1, q2, q3, q4, q5, q6⟩ := z9.seven?
          have fz := z9.free
          go_wp2_with fail
          have box8 := z9.sevenS (.int .i64 0) (.bool false) (.int .i64 0) (.slice none 0 0) (.slice none 0 0) (.bool false) (.bool false)
          have gR := seven_grown w9 Z (.int .i64 0) (.bool false) (.int .i64 0) (.slice none 0 0) (.slice none 0 0) (.bool false) (.bool false)
          have bR := bel_seven B9 hwZ (.int .i64 0) (.bool false) (.int .i64 0) (.slice none 0 0) (.slice none 0 0) (.bool false) (.bool false)
          generalize hWR : (((((((w9.setCell ⟨Z, 0, none⟩ (.int .i64 0)).setCell ⟨Z, 1, none⟩ (.bool false)).setCell ⟨Z, 2, none⟩ (.int .i64 0)).setCell ⟨Z, 3, none⟩ (.slice none 0 0)).setCell ⟨Z, 4, none⟩ (.slice none 0 0)).setCell ⟨Z, 5, none⟩ (.bool false)).setCell ⟨Z, 6, none⟩ (.bool false)) = WR at box8 gR bR ⊢
          clear q0 q1 q2 q3 q4 q5 q6 fz hWR
          obtain ⟨q0, q1, q2, q3, q4, q5, q6⟩ := box8.seven?
          refine bodyPost_ret (v := .tuple #[.agg #[.int .i64 0, .bool false, .int .i64 0, .slice none 0 0, .slice none 0 0, .bool false, .bool false], .bool false]) (by simp [results, Try.results19, go_sem, q0, q1, q2, q3, q4, q5, q6]) rfl ?_
          exact OldOut.mk HM rfl ⟨_, _, rfl, own_nil _ _, own_nil _ _, fun k hk => by simp [Value.ownBlock] at hk⟩ bR
        | true =>
          have CB1 := Lib.hid (CBy.out rfl)
          have hbl := HBL.out rfl
          obtain ⟨Bm, hBm⟩ : ∃ Bm, mBytes ⟨n0, true, n3, ks, vs, h1, !h2⟩ = Bm := ⟨_, rfl⟩
          rw [hBm] at CB1 hbl HRS
          have CS : Hid (∀ W u, Below w8.heap.size w8 W → Ints W u Bm → Calls Try.prog 44 #[.slice (some ⟨b, off, none⟩) xs.length vc, .int .i64 0, u] W (SaysB (sameAt xs 0 Bm) W)) := Lib.hid fun W u hW hu => spec_l3Same _ u xs Bm 0 W (h.below (Bstep B8 hW)) hu (by omega) hs (by omega)
          have HSM := Lib.hid (same0 (xs := xs) (ys := Bm))
          obtain ⟨sm, hsm⟩ : ∃ sm, sameAt xs 0 Bm = sm := ⟨_, rfl⟩
          rw [hsm] at CS HSM
          clear hBm hsm CBy HBL
          go_wp2_with fail
          refine CV.out.mono ?_
          rintro e w9 ⟨rfl, b9⟩
          have x9 := x8.belowS b9
          clear e0 e1 e2 e3 e4 e5 e6
          obtain ⟨e0, e1, e2, e3, e4, e5, e6⟩ := x9.seven?
          go_wp2_with fail
          refine (CB1.out w9 b9).mono ?_
          rintro e w10 ⟨u10, rfl, own10, b10⟩
          have b810 := Bstep b9 b10
          obtain ⟨a10, c10, rfl⟩ := AppRes.lenOf own10
          go_wp2_with fail
          refine (CS.out w10 _ b810 own10.ints).mono ?_
          rintro e w11 ⟨rfl, b11⟩
          have b811 := Bstep b810 b11
          have x11 := x8.belowS b811
          have z11 := z8.belowS b811
          have B11 := Bstep B8 b811
          clear e0 e1 e2 e3 e4 e5 e6 x9 own10 b10 b11 b810 b9
          cases sm with
          | false =>
            have HM : rdM xs = (Mes.zero, false) := by rw [HRS.out, if_neg (fun h => by have := (HSM.out.2 h.2).1; cases this)]
            obtain ⟨q0, q1, q2, q3, q4, q5, q6⟩ := z11.seven?
            have fz := z11.free
            go_wp2_with fail
            have box8 := z11.sevenS (.int .i64 0) (.bool false) (.int .i64 0) (.slice none 0 0) (.slice none 0 0) (.bool false) (.bool false)
            have gR := seven_grown w11 Z (.int .i64 0) (.bool false) (.int .i64 0) (.slice none 0 0) (.slice none 0 0) (.bool false) (.bool false)
            have bR := bel_seven B11 hwZ (.int .i64 0) (.bool false) (.int .i64 0) (.slice none 0 0) (.slice none 0 0) (.bool false) (.bool false)
            generalize hWR : (((((((w11.setCell ⟨Z, 0, none⟩ (.int .i64 0)).setCell ⟨Z, 1, none⟩ (.bool false)).setCell ⟨Z, 2, none⟩ (.int .i64 0)).setCell ⟨Z, 3, none⟩ (.slice none 0 0)).setCell ⟨Z, 4, none⟩ (.slice none 0 0)).setCell ⟨Z, 5, none⟩ (.bool false)).setCell ⟨Z, 6, none⟩ (.bool false)) = WR at box8 gR bR ⊢
            clear q0 q1 q2 q3 q4 q5 q6 fz hWR
            obtain ⟨q0, q1, q2, q3, q4, q5, q6⟩ := box8.seven?
            refine bodyPost_ret (v := .tuple #[.agg #[.int .i64 0, .bool false, .int .i64 0, .slice none 0 0, .slice none 0 0, .bool false, .bool false], .bool false]) (by simp [results, Try.results19, go_sem, q0, q1, q2, q3, q4, q5, q6]) rfl ?_
            exact OldOut.mk HM rfl ⟨_, _, rfl, own_nil _ _, own_nil _ _, fun k hk => by simp [Value.ownBlock] at hk⟩ bR
          | true =>
            obtain ⟨e0, e1, e2, e3, e4, e5, e6⟩ := x11.seven?
            go_wp2_with fail
            refine (CB1.out w11 b811).mono ?_
            rintro e w12 ⟨u12, rfl, own12, b12⟩
            obtain ⟨a12, c12, rfl⟩ := AppRes.lenOf own12
            have x12 := x11.belowS b12
            have z12 := z11.belowS b12
            have B12 := Bstep B11 b12
            have o5c := o58.below (Bstep b811 b12)
            have o7c := o78.below (Bstep b811 b12)
            clear e0 e1 e2 e3 e4 e5 e6 x11 z11 B11 own12
            by_cases hll : Bm.length = xs.length
            · have eL : ((Bm.length : Int) != (xs.length : Int)) = false := by rw [bne_eq_false_iff_eq]; omega
              have eLn : (Bm.length != xs.length) = false := by rw [bne_eq_false_iff_eq]; exact hll
              have HM : rdM xs = (⟨n0, true, n3, ks, vs, h1, !h2⟩, true) := by rw [HRS.out, if_pos ⟨by first | rfl | trivial, HSM.out.1 ⟨by first | rfl | trivial, hll⟩⟩]
              obtain ⟨e0, e1, e2, e3, e4, e5, e6⟩ := x12.seven?
              clear hll
              obtain ⟨q0, q1, q2, q3, q4, q5, q6⟩ := z12.seven?
              have fz := z12.free
              go_wp2_with fail
              have box8 := z12.sevenS (.int .i64 n0) (.bool true) (.int .i64 n3) (.slice a1 ks.length c1) (.slice a2 vs.length c2) (.bool h1) (.bool (!h2))
              have gR := seven_grown w12 Z (.int .i64 n0) (.bool true) (.int .i64 n3) (.slice a1 ks.length c1) (.slice a2 vs.length c2) (.bool h1) (.bool (!h2))
              have bR := bel_seven B12 hwZ (.int .i64 n0) (.bool true) (.int .i64 n3) (.slice a1 ks.length c1) (.slice a2 vs.length c2) (.bool h1) (.bool (!h2))
              generalize hWR : (((((((w12.setCell ⟨Z, 0, none⟩ (.int .i64 n0)).setCell ⟨Z, 1, none⟩ (.bool true)).setCell ⟨Z, 2, none⟩ (.int .i64 n3)).setCell ⟨Z, 3, none⟩ (.slice a1 ks.length c1)).setCell ⟨Z, 4, none⟩ (.slice a2 vs.length c2)).setCell ⟨Z, 5, none⟩ (.bool h1)).setCell ⟨Z, 6, none⟩ (.bool (!h2))) = WR at box8 gR bR ⊢
              clear q0 q1 q2 q3 q4 q5 q6 fz hWR
              obtain ⟨q0, q1, q2, q3, q4, q5, q6⟩ := box8.seven?
              refine bodyPost_ret (v := .tuple #[.agg #[.int .i64 n0, .bool true, .int .i64 n3, .slice a1 ks.length c1, .slice a2 vs.length c2, .bool h1, .bool (!h2)], .bool true]) (by simp [results, Try.results19, go_sem, q0, q1, q2, q3, q4, q5, q6]) rfl ?_
              exact OldOut.mk HM rfl ⟨_, _, rfl, (o5c.by (show Z < X + 1 by omega) gR).base hwX1, (o7c.by (show Z < X + 1 by omega) gR).base hwX1, apart⟩ bR
            · have eL : ((Bm.length : Int) != (xs.length : Int)) = true := by rw [bne_iff_ne]; omega
              have eLn : (Bm.length != xs.length) = true := by rw [bne_iff_ne]; exact hll
              have HM : rdM xs = (Mes.zero, false) := by rw [HRS.out, if_neg (fun h => hll (by rw [h.2]))]
              clear hll
              obtain ⟨q0, q1, q2, q3, q4, q5, q6⟩ := z12.seven?
              have fz := z12.free
              go_wp2_with fail
              have box8 := z12.sevenS (.int .i64 0) (.bool false) (.int .i64 0) (.slice none 0 0) (.slice none 0 0) (.bool false) (.bool false)
              have gR := seven_grown w12 Z (.int .i64 0) (.bool false) (.int .i64 0) (.slice none 0 0) (.slice none 0 0) (.bool false) (.bool false)
              have bR := bel_seven B12 hwZ (.int .i64 0) (.bool false) (.int .i64 0) (.slice none 0 0) (.slice none 0 0) (.bool false) (.bool false)
              generalize hWR : (((((((w12.setCell ⟨Z, 0, none⟩ (.int .i64 0)).setCell ⟨Z, 1, none⟩ (.bool false)).setCell ⟨Z, 2, none⟩ (.int .i64 0)).setCell ⟨Z, 3, none⟩ (.slice none 0 0)).setCell ⟨Z, 4, none⟩ (.slice none 0 0)).setCell ⟨Z, 5, none⟩ (.bool false)).setCell ⟨Z, 6, none⟩ (.bool false)) = WR at box8 gR bR ⊢
              clear q0 q1 q2 q3 q4 q5 q6 fz hWR
              obtain ⟨q0, q1, q2, q3, q4, q5, q6⟩ := box8.seven?
              refine bodyPost_ret (v := .tuple #[.agg #[.int .i64 0, .bool false, .int .i64 0, .slice none 0 0, .slice none 0 0, .bool false, .bool false], .bool false]) (by simp [results, Try.results19, go_sem, q0, q1, q2, q3, q4, q5, q6]) rfl ?_
              exact OldOut.mk HM rfl ⟨_, _, rfl, own_nil _ _, own_nil _ _, fun k hk => by simp [Value.ownBlock] at hk⟩ bR
  · have e5' : (x5 == 1) = false := by rw [beq_eq_false_iff_ne]; exact ht
    have HC : Hid (¬ (okBs xs = false ∨ xs.length < 8 ∨ (xs.getD 5 0 = 1 ∧ xs.length < 11))) := Lib.hid (fun hh => by rcases hh with hh | hh | ⟨hh, _⟩; (· rw [hok] at hh; cases hh); (· omega); · rw [HX5.out] at hh; exact ht hh)
    have HT5 : Hid (decide (xs.getD 5 0 = 1) = false) := Lib.hid (by rw [HX5.out]; exact decide_eq_false ht)
    clear ht
    have c5 := HC5.out _ bz
    go_enter Try.func19, Try.ntmps19
    go_wp2_with fail
    refine C1.out.mono ?_
    rintro e w1 ⟨rfl, rfl⟩
    go_wp2_with fail
    refine (CF0.out _ bz).mono ?_
    rintro e w1 ⟨rfl, rfl⟩
    obtain ⟨n0, hn0⟩ : ∃ n, fromB ((xs.drop 0).take 3) = n := ⟨_, rfl⟩
    have HN0 : Hid (fromB (xs.take 3) = n0) := Lib.hid hn0
    rw [hn0]
    clear hn0 CF0 C1 c5
    obtain ⟨Z, hZ⟩ : ∃ Z, w.heap.size = Z := ⟨_, rfl⟩
    generalize hWz : w.alloc (.cells #[.int .i64 0, .bool false, .int .i64 0, .slice none 0 0, .slice none 0 0, .bool false, .bool false] 25) = wz at bz xZ ⊢
    rw [hZ] at xZ ⊢
    have hwZ : w.heap.size ≤ Z := by omega
    have HZ := Lib.hid hZ
    clear hWz hZ
    have c5 := HC5.out _ bz
    have bx := alloc_below' wz (.cells #[.int .i64 n0, .bool false, .int .i64 0, .slice none 0 0, .slice none 0 0, .bool false, .bool false] 25)
    have xx := Blk.made wz #[.int .i64 n0, .bool false, .int .i64 0, .slice none 0 0, .slice none 0 0, .bool false, .bool false] 25
    have bx0 := alloc_below' wz (.cells #[.int .i64 n0, .bool false, .int .i64 0, .slice none 0 0, .slice none 0 0, .bool false, .bool false] 25)
    have c5x := HC5.out _ (Bstep bz bx0)
    go_upto_region 9 with (fail)
    clear c5 c5x bx0
    generalize hWx : wz.alloc (.cells #[.int .i64 n0, .bool false, .int .i64 0, .slice none 0 0, .slice none 0 0, .bool false, .bool false] 25) = wx at bx xx ⊢
    clear hWx
    obtain ⟨X, hX⟩ : ∃ X, wz.heap.size = X := ⟨_, rfl⟩
    rw [hX] at xx ⊢
    have hZl := xZ.lt
    have hZX2 : Z < X := by omega
    have hZX : Z ≠ X := by omega
    have hwX : w.heap.size ≤ X := by have := bz.size; omega
    have hwX1 : w.heap.size ≤ X + 1 := by omega
    have HX := Lib.hid hX
    have zx := xZ.belowS bx
    have Bx := Bstep bz bx
    clear bx xZ bz hX hZl
    have x4 := xx
    have z4 := zx
    have B4 := Bx
    clear xx zx Bx
    obtain ⟨w4, hw4⟩ : ∃ w4, wx = w4 := ⟨_, rfl⟩
    subst hw4
    obtain ⟨h1, ks, d1, p, E1, hd1, hk1⟩ := getO_in hok 6
    have CP1 := Lib.hid (spec_l11Get _ xs 6 wx (h.below B4) hok (by omega) hs)
    rw [E1] at CP1
    have HE1 := Lib.hid E1
    clear E1
    go_wp2_with fail
    refine CP1.out.mono ?_
    rintro e w5 ⟨u5, rfl, own5, b5⟩
    simp only at own5 ⊢
    have x5 := x4.belowS b5
    have z5 := z4.belowS b5
    have B5 := Bstep B4 b5
    have hX4 : X + 1 ≤ wx.heap.size := x4.lt
    obtain ⟨a1, c1, rfl⟩ := AppRes.lenOf own5
    clear x4 z4 B4 b5 CP1
    cases p with
    | false =>
      have HM : rdM xs = (Mes.zero, false) := rdM_none (by unfold tellM; rw [if_neg HC.out]; simp only [HT5.out, Bool.false_eq_true, if_false, HE1.out, false_and])
      obtain ⟨q0, q1, q2, q3, q4, q5, q6⟩ := z5.seven?
      have fz := z5.free
      go_wp2_with fail
      have box8 := z5.sevenS (.int .i64 0) (.bool false) (.int .i64 0) (.slice none 0 0) (.slice none 0 0) (.bool false) (.bool false)
      have gR := seven_grown w5 Z (.int .i64 0) (.bool false) (.int .i64 0) (.slice none 0 0) (.slice none 0 0) (.bool false) (.bool false)
      have bR := bel_seven B5 hwZ (.int .i64 0) (.bool false) (.int .i64 0) (.slice none 0 0) (.slice none 0 0) (.bool false) (.bool false)
      generalize hWR : (((((((w5.setCell ⟨Z, 0, none⟩ (.int .i64 0)).setCell ⟨Z, 1, none⟩ (.bool false)).setCell ⟨Z, 2, none⟩ (.int .i64 0)).setCell ⟨Z, 3, none⟩ (.slice none 0 0)).setCell ⟨Z, 4, none⟩ (.slice none 0 0)).setCell ⟨Z, 5, none⟩ (.bool false)).setCell ⟨Z, 6, none⟩ (.bool false)) = WR at box8 gR bR ⊢
      clear q0 q1 q2 q3 q4 q5 q6 fz hWR
      obtain ⟨q0, q1, q2, q3, q4, q5, q6⟩ := box8.seven?
      refine bodyPost_ret (v := .tuple #[.agg #[.int .i64 0, .bool false, .int .i64 0, .slice none 0 0, .slice none 0 0, .bool false, .bool false], .bool false]) (by simp [results, Try.results19, go_sem, q0, q1, q2, q3, q4, q5, q6]) rfl ?_
      exact OldOut.mk HM rfl ⟨_, _, rfl, own_nil _ _, own_nil _ _, fun k hk => by simp [Value.ownBlock] at hk⟩ bR
    | true =>
      obtain ⟨h2, vs, d2, q, E2, hd2, hk2⟩ := getO_in hok d1
      have CP2 := Lib.hid (spec_l11Get _ xs d1 w5 (h.below B5) hok (by omega) hs)
      rw [E2] at CP2
      have HE2 := Lib.hid E2
      clear E2
      go_wp2_with fail
      refine CP2.out.mono ?_
      rintro e w7 ⟨u7, rfl, own7, b7⟩
      simp only at own7 ⊢
      have x7 := x5.belowS b7
      have z7 := z5.belowS b7
      have B7 := Bstep B5 b7
      have o57 := (own5.base hX4).below b7
      have apart := own5.apart own7
      have hX5 : X + 1 ≤ w5.heap.size := x5.lt
      have o77 := own7.base hX5
      obtain ⟨a2, c2, rfl⟩ := AppRes.lenOf own7
      clear x5 z5 B5 b7 CP2 own5 own7
      obtain ⟨e0, e1, e2, e3, e4, e5, e6⟩ := x7.seven?
      have fx := x7.free
      go_upto_region 17 with (fail)
      have x8 := (((x7.set 5 (.bool h1)).set 3 (.slice a1 ks.length c1)).set 6 (.bool (!h2))).set 4 (.slice a2 vs.length c2)
      have g8 : w7.grownBy ((((w7.setCell ⟨X, 5, none⟩ (.bool h1)).setCell ⟨X, 3, none⟩ (.slice a1 ks.length c1)).setCell ⟨X, 6, none⟩ (.bool (!h2))).setCell ⟨X, 4, none⟩ (.slice a2 vs.length c2)) (some X) := grown_trans (grown_trans (grown_trans (set_grown _ _ _ _) (set_grown _ _ _ _)) (set_grown _ _ _ _)) (set_grown _ _ _ _)
      have z8 := z7.by hZX g8
      have o58 := o57.by (Nat.lt_succ_self X) g8
      have o78 := o77.by (Nat.lt_succ_self X) g8
      have B8 : Below w.heap.size w ((((w7.setCell ⟨X, 5, none⟩ (.bool h1)).setCell ⟨X, 3, none⟩ (.slice a1 ks.length c1)).setCell ⟨X, 6, none⟩ (.bool (!h2))).setCell ⟨X, 4, none⟩ (.slice a2 vs.length c2)) := (((B7.setCell hwX _).setCell hwX _).setCell hwX _).setCell hwX _
      generalize hW8 : ((((w7.setCell ⟨X, 5, none⟩ (.bool h1)).setCell ⟨X, 3, none⟩ (.slice a1 ks.length c1)).setCell ⟨X, 6, none⟩ (.bool (!h2))).setCell ⟨X, 4, none⟩ (.slice a2 vs.length c2)) = w8 at x8 z8 o58 o78 B8 ⊢
      simp only [List.setIfInBounds_toArray, List.set_cons_zero, List.set_cons_succ] at x8
      clear hW8 g8 x7 z7 B7 o57 o77 e0 e1 e2 e3 e4 e5 e6 fx
      cases q with
      | false =>
        have HM : rdM xs = (Mes.zero, false) := rdM_none (by unfold tellM; rw [if_neg HC.out]; simp only [HT5.out, Bool.false_eq_true, if_false, HE1.out, HE2.out, and_false])
        obtain ⟨q0, q1, q2, q3, q4, q5, q6⟩ := z8.seven?
        have fz := z8.free
        go_wp2_with fail
        have box8 := z8.sevenS (.int .i64 0) (.bool false) (.int .i64 0) (.slice none 0 0) (.slice none 0 0) (.bool false) (.bool false)
        have gR := seven_grown w8 Z (.int .i64 0) (.bool false) (.int .i64 0) (.slice none 0 0) (.slice none 0 0) (.bool false) (.bool false)
        have bR := bel_seven B8 hwZ (.int .i64 0) (.bool false) (.int .i64 0) (.slice none 0 0) (.slice none 0 0) (.bool false) (.bool false)
        generalize hWR : (((((((w8.setCell ⟨Z, 0, none⟩ (.int .i64 0)).setCell ⟨Z, 1, none⟩ (.bool false)).setCell ⟨Z, 2, none⟩ (.int .i64 0)).setCell ⟨Z, 3, none⟩ (.slice none 0 0)).setCell ⟨Z, 4, none⟩ (.slice none 0 0)).setCell ⟨Z, 5, none⟩ (.bool false)).setCell ⟨Z, 6, none⟩ (.bool false)) = WR at box8 gR bR ⊢
        clear q0 q1 q2 q3 q4 q5 q6 fz hWR
        obtain ⟨q0, q1, q2, q3, q4, q5, q6⟩ := box8.seven?
        refine bodyPost_ret (v := .tuple #[.agg #[.int .i64 0, .bool false, .int .i64 0, .slice none 0 0, .slice none 0 0, .bool false, .bool false], .bool false]) (by simp [results, Try.results19, go_sem, q0, q1, q2, q3, q4, q5, q6]) rfl ?_
        exact OldOut.mk HM rfl ⟨_, _, rfl, own_nil _ _, own_nil _ _, fun k hk => by simp [Value.ownBlock] at hk⟩ bR
      | true =>
        have HTM : Hid (tellM xs = some ⟨n0, false, 0, ks, vs, h1, !h2⟩) := Lib.hid (by unfold tellM; rw [if_neg HC.out]; simp only [HT5.out, if_true, Bool.false_eq_true, if_false, HE1.out, HE2.out, and_self, HN0.out])
        have HRS := Lib.hid (rdM_some HTM.out)
        have hmv : ∀ W, Below w8.heap.size w8 W → MesV W (.agg #[.int .i64 n0, .bool false, .int .i64 0, .slice a1 ks.length c1, .slice a2 vs.length c2, .bool h1, .bool (!h2)]) ⟨n0, false, 0, ks, vs, h1, !h2⟩ := fun W hW => ⟨_, _, rfl, (o58.below hW).ints, (o78.below hW).ints⟩
        have CV := Lib.hid (spec_OldValid _ ⟨n0, false, 0, ks, vs, h1, !h2⟩ w8 (hmv w8 (Below.refl _ _)) (by simp only; omega) (by simp only; omega))
        have CBy : Hid (mOk ⟨n0, false, 0, ks, vs, h1, !h2⟩ = true → ∀ W, Below w8.heap.size w8 W → Calls Try.prog 38 #[.agg #[.int .i64 n0, .bool false, .int .i64 0, .slice a1 ks.length c1, .slice a2 vs.length c2, .bool h1, .bool (!h2)]] W (NewInts1 W (mBytes ⟨n0, false, 0, ks, vs, h1, !h2⟩))) := Lib.hid fun hm W hW => spec_l11Bytes _ _ W (hmv W hW) hm
        have HBL : Hid (mOk ⟨n0, false, 0, ks, vs, h1, !h2⟩ = true → (mBytes ⟨n0, false, 0, ks, vs, h1, !h2⟩).length ≤ 100) := Lib.hid fun hm => by have h1 := mBytes_len hm; obtain ⟨⟨_, _, p1, p2⟩, _⟩ := mOk_iff.1 hm; have q1 := (partOk_iff.1 p1).2.2; have q2 := (partOk_iff.1 p2).2.2; simp only at q1 q2 h1; split at h1 <;> omega
        obtain ⟨ok, hmo⟩ : ∃ ok, mOk ⟨n0, false, 0, ks, vs, h1, !h2⟩ = ok := ⟨_, rfl⟩
        rw [hmo] at CV CBy HBL HRS
        have HV := Lib.hid hmv
        clear hmo hmv
        obtain ⟨e0, e1, e2, e3, e4, e5, e6⟩ := x8.seven?
        cases ok with
        | false =>
          have HM : rdM xs = (Mes.zero, false) := by rw [HRS.out, if_neg (fun h => by cases h.1)]
          go_wp2_with fail
          refine CV.out.mono ?_
          rintro e w9 ⟨rfl, b9⟩
          have z9 := z8.belowS b9
          have B9 := Bstep B8 b9
          obtain ⟨q0, q1, q2, q3, q4, q5, q6⟩ := z9.seven?
          have fz := z9.free
          go_wp2_with fail
          have box8 := z9.sevenS (.int .i64 0) (.bool false) (.int .i64 0) (.slice none 0 0) (.slice none 0 0) (.bool false) (.bool false)
          have gR := seven_grown w9 Z (.int .i64 0) (.bool false) (.int .i64 0) (.slice none 0 0) (.slice none 0 0) (.bool false) (.bool false)
          have bR := bel_seven B9 hwZ (.int .i64 0) (.bool false) (.int .i64 0) (.slice none 0 0) (.slice none 0 0) (.bool false) (.bool false)
          generalize hWR : (((((((w9.setCell ⟨Z, 0, none⟩ (.int .i64 0)).setCell ⟨Z, 1, none⟩ (.bool false)).setCell ⟨Z, 2, none⟩ (.int .i64 0)).setCell ⟨Z, 3, none⟩ (.slice none 0 0)).setCell ⟨Z, 4, none⟩ (.slice none 0 0)).setCell ⟨Z, 5, none⟩ (.bool false)).setCell ⟨Z, 6, none⟩ (.bool false)) = WR at box8 gR bR ⊢
          clear q0 q1 q2 q3 q4 q5 q6 fz hWR
          obtain ⟨q0, q1, q2, q3, q4, q5, q6⟩ := box8.seven?
          refine bodyPost_ret (v := .tuple #[.agg #[.int .i64 0, .bool false, .int .i64 0, .slice none 0 0, .slice none 0 0, .bool false, .bool false], .bool false]) (by simp [results, Try.results19, go_sem, q0, q1, q2, q3, q4, q5, q6]) rfl ?_
          exact OldOut.mk HM rfl ⟨_, _, rfl, own_nil _ _, own_nil _ _, fun k hk => by simp [Value.ownBlock] at hk⟩ bR
        | true =>
          have CB1 := Lib.hid (CBy.out rfl)
          have hbl := HBL.out rfl
          obtain ⟨Bm, hBm⟩ : ∃ Bm, mBytes ⟨n0, false, 0, ks, vs, h1, !h2⟩ = Bm := ⟨_, rfl⟩
          rw [hBm] at CB1 hbl HRS
          have CS : Hid (∀ W u, Below w8.heap.size w8 W → Ints W u Bm → Calls Try.prog 44 #[.slice (some ⟨b, off, none⟩) xs.length vc, .int .i64 0, u] W (SaysB (sameAt xs 0 Bm) W)) := Lib.hid fun W u hW hu => spec_l3Same _ u xs Bm 0 W (h.below (Bstep B8 hW)) hu (by omega) hs (by omega)
          have HSM := Lib.hid (same0 (xs := xs) (ys := Bm))
          obtain ⟨sm, hsm⟩ : ∃ sm, sameAt xs 0 Bm = sm := ⟨_, rfl⟩
          rw [hsm] at CS HSM
          clear hBm hsm CBy HBL
          go_wp2_with fail
          refine CV.out.mono ?_
          rintro e w9 ⟨rfl, b9⟩
          have x9 := x8.belowS b9
          clear e0 e1 e2 e3 e4 e5 e6
          obtain ⟨e0, e1, e2, e3, e4, e5, e6⟩ := x9.seven?
          go_wp2_with fail
          refine (CB1.out w9 b9).mono ?_
          rintro e w10 ⟨u10, rfl, own10, b10⟩
          have b810 := Bstep b9 b10
          obtain ⟨a10, c10, rfl⟩ := AppRes.lenOf own10
          go_wp2_with fail
          refine (CS.out w10 _ b810 own10.ints).mono ?_
          rintro e w11 ⟨rfl, b11⟩
          have b811 := Bstep b810 b11
          have x11 := x8.belowS b811
          have z11 := z8.belowS b811
          have B11 := Bstep B8 b811
          clear e0 e1 e2 e3 e4 e5 e6 x9 own10 b10 b11 b810 b9
          cases sm with
          | false =>
            have HM : rdM xs = (Mes.zero, false) := by rw [HRS.out, if_neg (fun h => by have := (HSM.out.2 h.2).1; cases this)]
            obtain ⟨q0, q1, q2, q3, q4, q5, q6⟩ := z11.seven?
            have fz := z11.free
            go_wp2_with fail
            have box8 := z11.sevenS (.int .i64 0) (.bool false) (.int .i64 0) (.slice none 0 0) (.slice none 0 0) (.bool false) (.bool false)
            have gR := seven_grown w11 Z (.int .i64 0) (.bool false) (.int .i64 0) (.slice none 0 0) (.slice none 0 0) (.bool false) (.bool false)
            have bR := bel_seven B11 hwZ (.int .i64 0) (.bool false) (.int .i64 0) (.slice none 0 0) (.slice none 0 0) (.bool false) (.bool false)
            generalize hWR : (((((((w11.setCell ⟨Z, 0, none⟩ (.int .i64 0)).setCell ⟨Z, 1, none⟩ (.bool false)).setCell ⟨Z, 2, none⟩ (.int .i64 0)).setCell ⟨Z, 3, none⟩ (.slice none 0 0)).setCell ⟨Z, 4, none⟩ (.slice none 0 0)).setCell ⟨Z, 5, none⟩ (.bool false)).setCell ⟨Z, 6, none⟩ (.bool false)) = WR at box8 gR bR ⊢
            clear q0 q1 q2 q3 q4 q5 q6 fz hWR
            obtain ⟨q0, q1, q2, q3, q4, q5, q6⟩ := box8.seven?
            refine bodyPost_ret (v := .tuple #[.agg #[.int .i64 0, .bool false, .int .i64 0, .slice none 0 0, .slice none 0 0, .bool false, .bool false], .bool false]) (by simp [results, Try.results19, go_sem, q0, q1, q2, q3, q4, q5, q6]) rfl ?_
            exact OldOut.mk HM rfl ⟨_, _, rfl, own_nil _ _, own_nil _ _, fun k hk => by simp [Value.ownBlock] at hk⟩ bR
          | true =>
            obtain ⟨e0, e1, e2, e3, e4, e5, e6⟩ := x11.seven?
            go_wp2_with fail
            refine (CB1.out w11 b811).mono ?_
            rintro e w12 ⟨u12, rfl, own12, b12⟩
            obtain ⟨a12, c12, rfl⟩ := AppRes.lenOf own12
            have x12 := x11.belowS b12
            have z12 := z11.belowS b12
            have B12 := Bstep B11 b12
            have o5c := o58.below (Bstep b811 b12)
            have o7c := o78.below (Bstep b811 b12)
            clear e0 e1 e2 e3 e4 e5 e6 x11 z11 B11 own12
            by_cases hll : Bm.length = xs.length
            · have eL : ((Bm.length : Int) != (xs.length : Int)) = false := by rw [bne_eq_false_iff_eq]; omega
              have eLn : (Bm.length != xs.length) = false := by rw [bne_eq_false_iff_eq]; exact hll
              have HM : rdM xs = (⟨n0, false, 0, ks, vs, h1, !h2⟩, true) := by rw [HRS.out, if_pos ⟨by first | rfl | trivial, HSM.out.1 ⟨by first | rfl | trivial, hll⟩⟩]
              obtain ⟨e0, e1, e2, e3, e4, e5, e6⟩ := x12.seven?
              clear hll
              obtain ⟨q0, q1, q2, q3, q4, q5, q6⟩ := z12.seven?
              have fz := z12.free
              go_wp2_with fail
              have box8 := z12.sevenS (.int .i64 n0) (.bool false) (.int .i64 0) (.slice a1 ks.length c1) (.slice a2 vs.length c2) (.bool h1) (.bool (!h2))
              have gR := seven_grown w12 Z (.int .i64 n0) (.bool false) (.int .i64 0) (.slice a1 ks.length c1) (.slice a2 vs.length c2) (.bool h1) (.bool (!h2))
              have bR := bel_seven B12 hwZ (.int .i64 n0) (.bool false) (.int .i64 0) (.slice a1 ks.length c1) (.slice a2 vs.length c2) (.bool h1) (.bool (!h2))
              generalize hWR : (((((((w12.setCell ⟨Z, 0, none⟩ (.int .i64 n0)).setCell ⟨Z, 1, none⟩ (.bool false)).setCell ⟨Z, 2, none⟩ (.int .i64 0)).setCell ⟨Z, 3, none⟩ (.slice a1 ks.length c1)).setCell ⟨Z, 4, none⟩ (.slice a2 vs.length c2)).setCell ⟨Z, 5, none⟩ (.bool h1)).setCell ⟨Z, 6, none⟩ (.bool (!h2))) = WR at box8 gR bR ⊢
              clear q0 q1 q2 q3 q4 q5 q6 fz hWR
              obtain ⟨q0, q1, q2, q3, q4, q5, q6⟩ := box8.seven?
              refine bodyPost_ret (v := .tuple #[.agg #[.int .i64 n0, .bool false, .int .i64 0, .slice a1 ks.length c1, .slice a2 vs.length c2, .bool h1, .bool (!h2)], .bool true]) (by simp [results, Try.results19, go_sem, q0, q1, q2, q3, q4, q5, q6]) rfl ?_
              exact OldOut.mk HM rfl ⟨_, _, rfl, (o5c.by (show Z < X + 1 by omega) gR).base hwX1, (o7c.by (show Z < X + 1 by omega) gR).base hwX1, apart⟩ bR
            · have eL : ((Bm.length : Int) != (xs.length : Int)) = true := by rw [bne_iff_ne]; omega
              have eLn : (Bm.length != xs.length) = true := by rw [bne_iff_ne]; exact hll
              have HM : rdM xs = (Mes.zero, false) := by rw [HRS.out, if_neg (fun h => hll (by rw [h.2]))]
              clear hll
              obtain ⟨q0, q1, q2, q3, q4, q5, q6⟩ := z12.seven?
              have fz := z12.free
              go_wp2_with fail
              have box8 := z12.sevenS (.int .i64 0) (.bool false) (.int .i64 0) (.slice none 0 0) (.slice none 0 0) (.bool false) (.bool false)
              have gR := seven_grown w12 Z (.int .i64 0) (.bool false) (.int .i64 0) (.slice none 0 0) (.slice none 0 0) (.bool false) (.bool false)
              have bR := bel_seven B12 hwZ (.int .i64 0) (.bool false) (.int .i64 0) (.slice none 0 0) (.slice none 0 0) (.bool false) (.bool false)
              generalize hWR : (((((((w12.setCell ⟨Z, 0, none⟩ (.int .i64 0)).setCell ⟨Z, 1, none⟩ (.bool false)).setCell ⟨Z, 2, none⟩ (.int .i64 0)).setCell ⟨Z, 3, none⟩ (.slice none 0 0)).setCell ⟨Z, 4, none⟩ (.slice none 0 0)).setCell ⟨Z, 5, none⟩ (.bool false)).setCell ⟨Z, 6, none⟩ (.bool false)) = WR at box8 gR bR ⊢
              clear q0 q1 q2 q3 q4 q5 q6 fz hWR
              obtain ⟨q0, q1, q2, q3, q4, q5, q6⟩ := box8.seven?
              refine bodyPost_ret (v := .tuple #[.agg #[.int .i64 0, .bool false, .int .i64 0, .slice none 0 0, .slice none 0 0, .bool false, .bool false], .bool false]) (by simp [results, Try.results19, go_sem, q0, q1, q2, q3, q4, q5, q6]) rfl ?_
              exact OldOut.mk HM rfl ⟨_, _, rfl, own_nil _ _, own_nil _ _, fun k hk => by simp [Value.ownBlock] at hk⟩ bR
end Go.Proofs.Ythlboonobepdaaa
