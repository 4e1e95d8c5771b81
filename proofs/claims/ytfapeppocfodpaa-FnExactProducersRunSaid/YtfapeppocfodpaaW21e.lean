/- Chapter 21: a batch is taken. -/
import Derived.Test.YtfapeppocfodpaaW21d
import Derived.Test.YtfapeppocfodpaaW21c
namespace Go.Proofs.Ytfapeppocfodpaa
open Go.ChangeShapes Go.WideShapes Go.ChangeAt Go.RowKit
set_option linter.unusedVariables false

/-- the seats and the number when a batch is taken -/
def putSeat (f : Nat → Seat) (b : Bat) : Nat → Seat := seatPut f b.prod.toNat ⟨true, b.epoch, b.seq + b.recs.length⟩
def withN (f : Nat → Seat) (b : Bat) : Int := if checkF f b = 0 then (if tsOk (listOf (putSeat f b)) = true then 0 else 5) else checkF f b
def withF (f : Nat → Seat) (b : Bat) : Nat → Seat := if checkF f b = 0 then (if tsOk (listOf (putSeat f b)) = true then putSeat f b else f) else f
def WithRes (w : World) (f : Nat → Seat) (N : Int) (e : Ending) (w' : World) : Prop := e = .returned (.tuple #[.agg (rollC f), .int .i64 N]) ∧ Below w.heap.size w w'
theorem run_rollCells {w : World} {R : Nat} {f : Nat → Seat} (h : Roll w R f) : (loadCellsFrom ⟨R, 0, none⟩ 0 765 #[]).run Try.prog w = .ok (rollC f) w := by
  have := run_loadCells_list (P := Try.prog) w ⟨R, 0, none⟩ (rollC f).toList (fun j v hv => by
    have hadd : (⟨R, 0, none⟩ : Addr).add j = ⟨R, j, none⟩ := by unfold Addr.add; split <;> simp_all
    rw [hadd, cell_of_row _ _ j _ _ (0, 0) h]
    simpa using hv)
  have e : (rollC f).toList.length = 765 := by rw [Array.length_toList, rollC_size]
  rw [e] at this
  simpa [loadCells] using this
set_option maxHeartbeats 2000000 in
theorem impl_with (f : Nat → Seat) (v : Value) (b : Bat) (w : World) (h : BatV w v b) : Calls Try.prog 32 #[.agg (rollC f), v] w (WithRes w (withF f b) (withN f b)) := by
  have C1 : Hid (∀ W, Below w.heap.size w W → Calls Try.prog 55 #[.agg (rollC f), v] W (SaysC (checkF f b) W)) := Lib.hid fun W hW => impl_check f v b W (h.below hW)
  have C2 : Hid (∀ W g, Calls Try.prog 33 #[.agg (rollC g)] W (NewT W (listOf g))) := Lib.hid fun W g => impl_producers g W
  have C3 : Hid (∀ W u ts, Ts W u ts → Calls Try.prog 24 #[u] W (Same W (tsOk ts))) := Lib.hid fun W u ts hu => impl_ProducersValid u ts W hu
  obtain ⟨a, cap, rfl, hr, hl, hm⟩ := h.parts
  clear hr
  obtain ⟨n, hn⟩ : ∃ n, b.recs.length = n := ⟨_, rfl⟩
  obtain ⟨packed, mark, prod, epoch, seq, recs⟩ := b
  have HV : Hid (batOk ⟨packed, mark, prod, epoch, seq, recs⟩ = true → (0 ≤ prod ∧ prod ≤ 255) ∧ (0 ≤ seq ∧ seq ≤ 9999) ∧ n ≤ 6) := Lib.hid fun hb => ⟨⟨(batOk_prod hb).1, (batOk_prod hb).2.1⟩, (batOk_prod hb).2.2.2.2, by have := (batOk_iff.1 hb).1.2; simp only at hn this; omega⟩
  have HC : Hid (checkF f ⟨packed, mark, prod, epoch, seq, recs⟩ = 0 → batOk ⟨packed, mark, prod, epoch, seq, recs⟩ = true ∧ prod ≠ 255) := Lib.hid fun e => by
    unfold checkF at e
    split at e
    · rename_i hb
      refine ⟨hb, fun e2 => ?_⟩
      rw [if_pos e2] at e
      omega
    · omega
  obtain ⟨F, hF⟩ : ∃ F, withF f ⟨packed, mark, prod, epoch, seq, recs⟩ = F := ⟨_, rfl⟩
  obtain ⟨M, hM⟩ : ∃ M, withN f ⟨packed, mark, prod, epoch, seq, recs⟩ = M := ⟨_, rfl⟩
  obtain ⟨N, hN⟩ : ∃ N, checkF f ⟨packed, mark, prod, epoch, seq, recs⟩ = N := ⟨_, rfl⟩
  rw [hF, hM]
  unfold withF at hF
  unfold withN at hM
  rw [hN] at C1 HC hF hM
  simp only at hn
  unfold putSeat at hF hM
  simp only at hF hM
  rw [hn] at hF hM
  simp only at C1 hl ⊢
  rw [hn] at C1 hl ⊢
  have HF := Lib.hid hF
  have HM := Lib.hid hM
  clear hn hN hF hM h
  have b0 := Bstep (Bstep (alloc_below' w (.cells (rollC f) 55)) (alloc_below' _ (.cells #[.bool packed, .bool mark, .int .i64 prod, .int .i64 epoch, .int .i64 seq, .slice a n cap] 43))) (alloc_below' _ (.cells (rollC fun _ => Seat.zero) 55))
  have rR := ((Roll.made w f).below (alloc_below' _ (.cells #[.bool packed, .bool mark, .int .i64 prod, .int .i64 epoch, .int .i64 seq, .slice a n cap] 43))).below (alloc_below' _ (.cells (rollC fun _ => Seat.zero) 55))
  have xB := (Blk.made (w.alloc (.cells (rollC f) 55)) #[.bool packed, .bool mark, .int .i64 prod, .int .i64 epoch, .int .i64 seq, .slice a n cap] 43).belowS (alloc_below' _ (.cells (rollC fun _ => Seat.zero) 55))
  have rZ := Roll.made ((w.alloc (.cells (rollC f) 55)).alloc (.cells #[.bool packed, .bool mark, .int .i64 prod, .int .i64 epoch, .int .i64 seq, .slice a n cap] 43)) fun _ => Seat.zero
  have es : ∀ (W : World) (o : Obj), (W.alloc o).heap.size = W.heap.size + 1 := fun W o => by show (W.heap.push _).size = _; simp
  rw [es] at xB
  rw [es, es] at rZ
  clear es
  have hz := roll_zero
  go_enter Try.func32, Try.ntmps32
  go_upto_region 1 with (fail)
  generalize (((w.alloc (.cells (rollC f) 55)).alloc (.cells #[.bool packed, .bool mark, .int .i64 prod, .int .i64 epoch, .int .i64 seq, .slice a n cap] 43)).alloc (.cells (rollC fun _ => Seat.zero) 55)) = w0 at b0 rR xB rZ ⊢
  obtain ⟨R, hR⟩ : ∃ R, w.heap.size = R := ⟨_, rfl⟩
  rw [hR] at rR xB rZ ⊢
  have HR := Lib.hid hR
  clear hR hz
  obtain ⟨c0, c1, c2, c3, c4, c5⟩ := xB.sixC
  refine wp_region_list ?_
  refine wpList_load_row rfl 55 _ rfl R rfl _ (rollC f) _ _ rR roll_array rfl (roll_size _) ?_
  go_wp2_with fail
  refine (C1.out w0 b0).mono ?_
  rintro e w1 ⟨rfl, b1⟩
  have B1 := Bstep b0 b1
  have rR1 := rR.below b1
  have xB1 := xB.belowS b1
  have rZ1 := rZ.below b1
  clear c0 c1 c2 c3 c4 c5 rR xB rZ b0 b1 C1
  by_cases h0 : N = 0
  rotate_left
  · have d0 : (N != 0) = true := by simp [h0]
    have H0 := Lib.hid h0
    clear h0
    go_upto_region 3 with (fail)
    refine wp_region_list ?_
    refine wpList_load_row rfl 55 _ rfl R rfl _ (rollC f) _ _ rR1 roll_array rfl (roll_size _) ?_
    refine takeL (v := .int .i64 N) rfl rfl ?_
    refine wpList_store_row rfl 55 _ _ rfl (R + 1 + 1) (rollC f) rfl rfl _ _ rZ1 (roll_size _) (by rw [rollC_size, rollC_size]) (rollC_one _) ?_
    refine takeL (v := .int .i64 N) rfl rfl ?_
    have q := rZ1.row f
    have B3 := below_setRow B1 (R + 1 + 1) (by have := HR.out; omega) (rollC f)
    generalize w1.setRow (R + 1 + 1) (rollC f) = w3 at q B3 ⊢
    go_simp
    rename_i Kf hKf
    refine hKf _ _ (wp_ret ?_)
    have e1 := HF.out
    have e2 := HM.out
    rw [if_neg H0.out] at e1 e2
    subst e1 e2
    exact ⟨rfl, _, results_roll rfl _ _ (R + 1 + 1) _ rfl q, rfl, B3⟩
  · subst h0
    have d0 : ((0 : Int) != 0) = false := rfl
    have e1 := HF.out
    have e2 := HM.out
    rw [if_pos rfl] at e1 e2
    have HF1 := Lib.hid e1
    have HM1 := Lib.hid e2
    clear e1 e2 HF HM
    obtain ⟨x, hx⟩ : ∃ x : Nat, prod = (x : Int) := ⟨prod.toNat, by have := HV.out (HC.out rfl).1; omega⟩
    have hx1 : x < 255 := by have := HV.out (HC.out rfl).1; have := (HC.out rfl).2; omega
    have hs0 : 0 ≤ seq := (HV.out (HC.out rfl).1).2.1.1
    have hs1 : seq ≤ 9999 := (HV.out (HC.out rfl).1).2.1.2
    have hn1 : n ≤ 6 := (HV.out (HC.out rfl).1).2.2
    clear HV HC
    subst hx
    rw [Int.toNat_natCast] at HF1 HM1
    go_upto_region 4 with (fail)
    refine wp_region_list ?_
    refine wpList_load_row rfl 55 _ rfl R rfl _ (rollC f) _ _ rR1 roll_array rfl (roll_size _) ?_
    refine wpList_alloc_roll rfl rfl ?_
    have bA := alloc_below' w1 (.cells (rollC fun _ => Seat.zero) 55)
    have rA := Roll.made w1 fun _ => Seat.zero
    have gA := grown_row' (w1.alloc (.cells (rollC fun _ => Seat.zero) 55)) w1.heap.size (rollC f)
    have hlR := rR1.lt
    have hlX := xB1.lt
    have hlZ := rZ1.lt
    have rR2 := (rR1.below bA).by (by omega) gA
    have xB2 := (xB1.belowS bA).by (by omega) gA
    have rZ2 := (rZ1.below bA).by (by omega) gA
    have rA2 := rA.row f
    have B2 := below_setRow (Bstep B1 bA) w1.heap.size B1.size (rollC f)
    refine wpList_store_row rfl 55 _ _ rfl w1.heap.size (rollC f) rfl rfl _ _ rA (roll_size _) (by rw [rollC_size, rollC_size]) (rollC_one _) ?_
    generalize (w1.alloc (.cells (rollC fun _ => Seat.zero) 55)).setRow w1.heap.size (rollC f) = w2 at rR2 xB2 rZ2 rA2 B2 ⊢
    obtain ⟨A, hA⟩ : ∃ A, w1.heap.size = A := ⟨_, rfl⟩
    have hRA : w.heap.size ≤ A := by have := B1.size; omega
    rw [hA] at rA2 hlR hlX hlZ ⊢
    clear hA bA rA gA rR1 xB1 rZ1 B1
    obtain ⟨c0, c1, c2, c3, c4, c5⟩ := xB2.sixC
    obtain ⟨o0, o1, o2⟩ := rA2.cells hx1
    have f0 := rA2.free (x * 3)
    have f1 := rA2.free (x * 3 + 1)
    have f2 := rA2.free (x * 3 + 2)
    have st := rA2.set hx1 ⟨true, epoch, seq + (n : Int)⟩
    have e3 : ∀ b, b ≠ A → (((w2.setCell ⟨A, x * 3, none⟩ (.bool true)).setCell ⟨A, x * 3 + 1, none⟩ (.int .i64 epoch)).setCell ⟨A, x * 3 + 2, none⟩ (.int .i64 (seq + (n : Int)))).heap[b]? = w2.heap[b]? := fun b hb => by
      rw [Below.heap_setCell _ _ _ _ hb, Below.heap_setCell _ _ _ _ hb, Below.heap_setCell _ _ _ _ hb]
    have rR3 := rR2.eq (e3 R (by omega))
    have rZ3 := rZ2.eq (e3 (R + 1 + 1) (by omega))
    have B3 : Below w.heap.size w (((w2.setCell ⟨A, x * 3, none⟩ (.bool true)).setCell ⟨A, x * 3 + 1, none⟩ (.int .i64 epoch)).setCell ⟨A, x * 3 + 2, none⟩ (.int .i64 (seq + (n : Int)))) :=
      ((B2.setCell (p := ⟨A, x * 3, none⟩) hRA _).setCell (p := ⟨A, x * 3 + 1, none⟩) hRA _).setCell (p := ⟨A, x * 3 + 2, none⟩) hRA _
    obtain ⟨old0, ho0⟩ : ∃ u, w2.cell? ⟨A, x * 3, none⟩ = some u := ⟨_, o0⟩
    obtain ⟨old1, ho1⟩ : ∃ u, w2.cell? ⟨A, x * 3 + 1, none⟩ = some u := ⟨_, o1⟩
    obtain ⟨old2, ho2⟩ : ∃ u, w2.cell? ⟨A, x * 3 + 2, none⟩ = some u := ⟨_, o2⟩
    have i0 : (0 : Int) ≤ (x : Int) := by omega
    have i1 : (x : Int) < 255 := by omega
    clear o0 o1 o2 e3 rR2 rZ2 B2 rA2 xB2
    go_upto_region 6 with (fail)
    generalize (((w2.setCell ⟨A, x * 3, none⟩ (.bool true)).setCell ⟨A, x * 3 + 1, none⟩ (.int .i64 epoch)).setCell ⟨A, x * 3 + 2, none⟩ (.int .i64 (seq + (n : Int)))) = w3 at st rR3 rZ3 B3 ⊢
    obtain ⟨g, hg⟩ : ∃ g, seatPut f x ⟨true, epoch, seq + (n : Int)⟩ = g := ⟨_, rfl⟩
    rw [hg] at st HF1 HM1
    clear hg ho0 ho1 ho2 f0 f1 f2 c0 c1 c2 c3 c4 c5
    refine wp_region_list ?_
    refine wpList_load_row rfl 55 _ rfl A rfl _ (rollC g) _ _ st roll_array rfl (roll_size _) ?_
    go_wp2_with fail
    refine (C2.out w3 g).mono ?_
    rintro e w4 ⟨u, rfl, own, b4⟩
    have B4 := Bstep B3 b4
    have st4 := st.below b4
    have rR4 := rR3.below b4
    have rZ4 := rZ3.below b4
    clear st rR3 rZ3 B3 b4
    go_wp2_with fail
    refine (C3.out w4 u _ own.ts).mono ?_
    rintro e w5 ⟨rfl, b5⟩
    have B5 := Bstep B4 b5
    have st5 := st4.below b5
    have rR5 := rR4.below b5
    have rZ5 := rZ4.below b5
    clear st4 rR4 rZ4 B4 b5 own
    obtain ⟨tv, htv⟩ : ∃ tv, tsOk (listOf g) = tv := ⟨_, rfl⟩
    rw [htv] at HF1 HM1 ⊢
    clear htv
    cases tv with
    | false =>
      go_upto_region 7 with (fail)
      refine wp_region_list ?_
      refine wpList_load_row rfl 55 _ rfl R rfl _ (rollC f) _ _ rR5 roll_array rfl (roll_size _) ?_
      refine wpList_store_row rfl 55 _ _ rfl (R + 1 + 1) (rollC f) rfl rfl _ _ rZ5 (roll_size _) (by rw [rollC_size, rollC_size]) (rollC_one _) ?_
      refine takeL (v := .int .i64 5) rfl rfl ?_
      have q := rZ5.row f
      have B6 := below_setRow B5 (R + 1 + 1) (by have := HR.out; omega) (rollC f)
      generalize w5.setRow (R + 1 + 1) (rollC f) = w6 at q B6 ⊢
      go_simp
      rename_i Kf hKf
      refine hKf _ _ (wp_ret ?_)
      have e1 := HF1.out
      have e2 := HM1.out
      rw [if_neg (by decide)] at e1 e2
      subst e1 e2
      exact ⟨rfl, _, results_roll rfl _ _ (R + 1 + 1) _ rfl q, rfl, B6⟩
    | true =>
      go_upto_region 8 with (fail)
      refine wp_region_list ?_
      refine wpList_load_row rfl 55 _ rfl A rfl _ (rollC g) _ _ st5 roll_array rfl (roll_size _) ?_
      refine wpList_store_row rfl 55 _ _ rfl (R + 1 + 1) (rollC g) rfl rfl _ _ rZ5 (roll_size _) (by rw [rollC_size, rollC_size]) (rollC_one _) ?_
      refine takeL (v := .int .i64 0) rfl rfl ?_
      have q := rZ5.row g
      have B6 := below_setRow B5 (R + 1 + 1) (by have := HR.out; omega) (rollC g)
      generalize w5.setRow (R + 1 + 1) (rollC g) = w6 at q B6 ⊢
      go_simp
      rename_i Kf hKf
      refine hKf _ _ (wp_ret ?_)
      have e1 := HF1.out
      have e2 := HM1.out
      rw [if_pos trivial] at e1 e2
      subst e1 e2
      exact ⟨rfl, _, results_roll rfl _ _ (R + 1 + 1) _ rfl q, rfl, B6⟩
end Go.Proofs.Ytfapeppocfodpaa
