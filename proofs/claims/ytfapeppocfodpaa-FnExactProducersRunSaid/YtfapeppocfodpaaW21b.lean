/- Chapter 21: whether a batch follows, as the program and as the model tell it. -/
import Derived.Test.YtfapeppocfodpaaW21
import Derived.Test.YtfapeppocfodpaaW12b
namespace Go.Proofs.Ytfapeppocfodpaa
open Go.ChangeShapes Go.WideShapes Go.ChangeAt Go.RowKit
set_option linter.unusedVariables false

/-- the cells that the last region of the check reads -/
def CheckS (W : World) (B C : Nat) (u0 u1 : Value) (k : Bool) (x y : Int) : Prop :=
  W.cell? ⟨B, 3, none⟩ = some u0 ∧ W.cell? ⟨B, 4, none⟩ = some u1 ∧ W.cell? ⟨C, 0, none⟩ = some (.bool k) ∧ W.cell? ⟨C, 1, none⟩ = some (.int .i64 x) ∧ W.cell? ⟨C, 2, none⟩ = some (.int .i64 y)
set_option maxHeartbeats 2000000 in
theorem impl_check (f : Nat → Seat) (v : Value) (b : Bat) (w : World) (h : BatV w v b) : Calls Try.prog 55 #[.agg (rollC f), v] w (SaysC (checkF f b) w) := by
  have C1 : Hid (∀ W, Below w.heap.size w W → Calls Try.prog 61 #[v] W (SaysB (batOk b) W)) := Lib.hid fun W hW => impl_BatchValid v b W (h.below hW)
  obtain ⟨a, cap, rfl, hr, hl, hm⟩ := h.parts
  have HV : Hid (batOk b = true → 0 ≤ b.prod ∧ b.prod ≤ 255) := Lib.hid fun hb => ⟨(batOk_prod hb).1, (batOk_prod hb).2.1⟩
  obtain ⟨N, hN⟩ : ∃ N, checkF f b = N := ⟨_, rfl⟩
  rw [hN]
  unfold checkF at hN
  obtain ⟨packed, mark, prod, epoch, seq, recs⟩ := b
  simp only at C1 hl hm hr HV hN ⊢
  obtain ⟨ok, hok⟩ : ∃ ok, batOk ⟨packed, mark, prod, epoch, seq, recs⟩ = ok := ⟨_, rfl⟩
  rw [hok] at C1 HV hN
  have HN : Hid ((if ok = true then (if prod = 255 then 4 else (if epoch < (f prod.toNat).epoch then 3 else cmpN seq (nextIn (f prod.toNat) epoch))) else 5) = N) := Lib.hid hN
  clear hok h hr hN
  obtain ⟨n, hn⟩ : ∃ n, recs.length = n := ⟨_, rfl⟩
  rw [hn] at C1 hl ⊢
  clear hn
  have r0 := (Roll.made w f).below (alloc_below' _ (.cells #[.bool packed, .bool mark, .int .i64 prod, .int .i64 epoch, .int .i64 seq, .slice a n cap] 43))
  have x0 := Blk.made (w.alloc (.cells (rollC f) 55)) #[.bool packed, .bool mark, .int .i64 prod, .int .i64 epoch, .int .i64 seq, .slice a n cap] 43
  have es : (w.alloc (.cells (rollC f) 55)).heap.size = w.heap.size + 1 := by show (w.heap.push _).size = _; simp
  rw [es] at x0
  have b0 := Bstep (alloc_below' w (.cells (rollC f) 55)) (alloc_below' _ (.cells #[.bool packed, .bool mark, .int .i64 prod, .int .i64 epoch, .int .i64 seq, .slice a n cap] 43))
  clear es
  go_enter Try.func55, Try.ntmps55
  go_wp2_with fail
  generalize ((w.alloc (.cells (rollC f) 55)).alloc (.cells #[.bool packed, .bool mark, .int .i64 prod, .int .i64 epoch, .int .i64 seq, .slice a n cap] 43)) = w0 at r0 x0 b0 ⊢
  obtain ⟨R, hR⟩ : ∃ R, w.heap.size = R := ⟨_, rfl⟩
  rw [hR] at r0 x0 ⊢
  clear hR
  refine (C1.out w0 b0).mono ?_
  rintro e w1 ⟨rfl, b1⟩
  have r1 := r0.below b1
  have x1 := x0.belowS b1
  have B1 := Bstep b0 b1
  clear r0 x0 b0 b1 C1
  obtain ⟨c0, c1, c2, c3, c4, c5⟩ := x1.sixC
  cases ok with
  | false =>
    go_wp2_with fail
    go_ret
    exact ⟨ret_int (by rw [← HN.out]; rfl), B1⟩
  | true =>
  by_cases h4 : prod = 255
  · have d4 : (prod == 255) = true := by rw [beq_iff_eq]; exact h4
    have H4 := Lib.hid h4
    clear h4
    go_wp2_with fail
    go_ret
    exact ⟨ret_int (by rw [← HN.out]; simp [H4.out]), B1⟩
  · have d4 : (prod == 255) = false := by rw [beq_eq_false_iff_ne]; exact h4
    obtain ⟨x, hx⟩ : ∃ x : Nat, prod = (x : Int) := ⟨prod.toNat, by have := HV.out rfl; omega⟩
    have hx1 : x < 255 := by have := HV.out rfl; omega
    subst hx
    have HN2 := HN.out
    rw [if_pos rfl, if_neg h4, Int.toNat_natCast] at HN2
    clear HN HV h4
    have HN := Lib.hid HN2
    clear HN2
    obtain ⟨q0, q1, q2⟩ := r1.cells hx1
    obtain ⟨s, hs⟩ : ∃ s, f x = s := ⟨_, rfl⟩
    rw [hs] at q0 q1 q2 HN
    clear hs
    obtain ⟨k, y, z⟩ := s
    simp only at q0 q1 q2 HN
    have i0 : (0 : Int) ≤ (x : Int) := by omega
    have i1 : (x : Int) < 255 := by omega
    go_upto_region 6 with (fail)
    have xC := Blk.made w1 #[.bool k, .int .i64 y, .int .i64 z] 53
    have bC := alloc_below' w1 (.cells #[.bool k, .int .i64 y, .int .i64 z] 53)
    have x2 := x1.belowS bC
    have B2 := Bstep B1 bC
    have hlt := x1.lt
    generalize w1.alloc (.cells #[.bool k, .int .i64 y, .int .i64 z] 53) = w2 at xC x2 B2 ⊢
    obtain ⟨C, hC⟩ : ∃ C, w1.heap.size = C := ⟨_, rfl⟩
    rw [hC] at xC hlt ⊢
    clear hC bC r1 q0 q1 q2 c0 c1 c2 c3 c4 c5 x1 B1
    obtain ⟨c0, c1, c2, c3, c4, c5⟩ := x2.sixC
    have s0 := xC.cell 0
    have s1 := xC.cell 1
    have s2 := xC.cell 2
    by_cases h3 : epoch < y
    · have d3 : decide (epoch < y) = true := decide_eq_true h3
      have H3 := Lib.hid h3
      clear h3
      go_wp2_with fail
      go_ret
      exact ⟨ret_int (by rw [← HN.out, if_pos H3.out]), B2⟩
    · have d3 : decide (epoch < y) = false := decide_eq_false h3
      have HN3 := HN.out
      rw [if_neg h3] at HN3
      clear h3 HN
      have HS : Hid (∀ W, Below w2.heap.size w2 W → CheckS W (R + 1) C (.int .i64 epoch) (.int .i64 seq) k y z) := Lib.hid fun W hW =>
        have t := x2.belowS hW
        have u := xC.belowS hW
        ⟨t.cell 3, t.cell 4, u.cell 0, u.cell 1, u.cell 2⟩
      have bdr : Below w2.heap.size w2 w2.drew := below_drewN (Below.refl _ _) 1
      have D1 : Hid (∀ W, Calls Try.prog 70 #[.agg #[.bool k, .int .i64 y, .int .i64 z], .int .i64 epoch] W (SaysC (nextIn ⟨k, y, z⟩ epoch) W)) := Lib.hid fun W => impl_nextIn k y z epoch W
      obtain ⟨nx, hnx⟩ : ∃ nx, nextIn ⟨k, y, z⟩ epoch = nx := ⟨_, rfl⟩
      rw [hnx] at D1 HN3
      clear hnx
      have D2 : Hid (∀ W, Calls Try.prog 69 #[.int .i64 seq, .int .i64 nx] W (SaysC (cmpN seq nx) W)) := Lib.hid fun W => impl_compared seq nx W
      obtain ⟨N2, hN2⟩ : ∃ N2, cmpN seq nx = N2 := ⟨_, rfl⟩
      rw [hN2] at D2 HN3
      clear hN2
      subst HN3
      go_upto_region 8 with (fail)
      have S1 := HS.out _ bdr
      unfold CheckS at S1
      go_region_held3 (fun W => W.cell? ⟨R + 1, 3, none⟩ = some (.int .i64 epoch) ∧ W.cell? ⟨R + 1, 4, none⟩ = some (.int .i64 seq) ∧ W.cell? ⟨C, 0, none⟩ = some (.bool k) ∧ W.cell? ⟨C, 1, none⟩ = some (.int .i64 y) ∧ W.cell? ⟨C, 2, none⟩ = some (.int .i64 z))
        (first | with_reducible exact S1 | exact HS.out _ (Bstep bdr b8) | exact HS.out _ (Bstep (Bstep bdr b8) b9) | go_keep)
        (first | (go_at_call 70; ((with_reducible refine (D1.out _).mono ?_); rintro e w8 ⟨rfl, b8⟩))
               | (go_at_call 69; ((with_reducible refine (D2.out _).mono ?_); rintro e w9 ⟨rfl, b9⟩)))
      have B9 := Bstep B2 (Bstep (Bstep bdr b8) b9)
      go_wp2_with fail
      go_ret
      exact ⟨rfl, B9⟩

/-- the place of a producer -/
def AtRes (ts : List Trm) (id : Int) (w : World) (e : Ending) (w' : World) : Prop :=
  ∃ N : Int, e = .returned (.int .i64 N) ∧ w = w' ∧ ((∃ i : Nat, i < ts.length ∧ N = (i : Int) ∧ (tAt ts i).num = id) ∨ (N = -1 ∧ ∀ j, j < ts.length → (tAt ts j).num ≠ id))
theorem spec_l21At (v : Value) (ts : List Trm) (id : Int) (w : World) (h : Ts w v ts) : Calls Try.prog 84 #[v, .int .i64 id] w (AtRes ts id w) := by
  have hv := h
  obtain ⟨a, cap, rfl, hl, hm, hc⟩ := h
  unfold maxLen at hm
  clear hc
  go_enter Try.func84, Try.ntmps84
  go_wp2_with fail
  go_loop [5] (fun i => ∃ k : Nat, k ≤ ts.length ∧ i = .int .i64 k ∧ ∀ j, j < k → (tAt ts j).num ≠ id) (fun i => ts.length - (intOf i).toNat)
  case atStart => exact ⟨0, Nat.zero_le _, rfl, fun j hj => by omega⟩
  case round =>
    obtain ⟨k, hk, rfl, hrel⟩ := hrel
    have HREL := Lib.hid hrel
    clear hrel
    by_cases hlt : k < ts.length
    · obtain ⟨b, off, cp, e, _, _, hcell⟩ := hv.form (by omega)
      simp only [Value.slice.injEq, true_and] at e
      obtain ⟨rfl, rfl⟩ := e
      obtain ⟨c0, _, _⟩ := hcell k hlt
      clear hcell
      by_cases he : (tAt ts k).num = id
      · have d0 : ((tAt ts k).num == id) = true := by rw [beq_iff_eq]; exact he
        have HE := Lib.hid he
        clear he
        go_wp2_with fail
        go_ret
        exact ⟨_, rfl, rfl, .inl ⟨k, hlt, rfl, HE.out⟩⟩
      · have d0 : ((tAt ts k).num == id) = false := by rw [beq_eq_false_iff_ne]; exact he
        have HE := Lib.hid he
        clear he
        go_wp2_with fail
        go_round
        case rel => exact ⟨k + 1, by omega, by go_num, fun j hj => if q : j < k then HREL.out j q else by rw [show j = k by omega]; exact HE.out⟩
        case measure => simp [intOf]; omega
    · obtain rfl : k = ts.length := by omega
      go_wp2_with fail
      go_ret
      exact ⟨_, rfl, rfl, .inr ⟨rfl, HREL.out⟩⟩
end Go.Proofs.Ytfapeppocfodpaa
