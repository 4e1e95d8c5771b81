/- Chapter 23: where a term ends. -/
import Derived.Test.YtfejolnfaechiaaW14c
namespace Go.Proofs.Ytfejolnfaechiaa
open Go.ChangeShapes Go.WideShapes Go.ChangeAt Go.RowKit
set_option linter.unusedVariables false

theorem impl_begin (x y : Int) (w : World) : Calls Try.prog 61 #[.agg #[.int .i64 x, .int .i64 y]] w fun e w' => e = .returned (.int .i64 y) ∧ Below w.heap.size w w' := by
  have bA := alloc_below' w (.cells #[.int .i64 x, .int .i64 y] 25)
  go_enter Try.func61, Try.ntmps61
  go_wp2_with fail
  go_ret
  exact ⟨rfl, bA⟩

theorem impl_endAt (v : Value) (ts : List Trm) (i : Nat) (en : Int) (w : World) (h : Ts w v ts) (hi : i < ts.length) : Calls Try.prog 40 #[v, .int .i64 (i : Int), .int .i64 en] w fun e w' => e = .returned (.int .i64 (endAtT ts i en)) ∧ Below w.heap.size w w' := by
  have hv := h
  obtain ⟨a, cap, rfl, hl, hm, hc⟩ := h
  unfold maxLen at hm
  clear hc
  have s1 : IntKind.i64.wrap ((i : Int) + 1) = (i : Int) + 1 := IntWalk.i64_in _ ⟨by omega, by omega⟩
  by_cases hlt : i + 1 < ts.length
  · obtain ⟨b, off, cp, e, _, _, hcell⟩ := hv.form (by omega)
    simp only [Value.slice.injEq, true_and] at e
    obtain ⟨rfl, rfl⟩ := e
    obtain ⟨c0, c1⟩ := hcell (i + 1) hlt
    have E : endAtT ts i en = (tAt ts (i + 1)).first := by unfold endAtT; rw [if_pos hlt]
    rw [E]
    clear hcell
    have C1 := Lib.hid (impl_begin (tAt ts (i + 1)).num (tAt ts (i + 1)).first w)
    go_enter Try.func40, Try.ntmps40
    go_wp2_with fail
    (with_reducible refine C1.out.mono ?_)
    rintro e w2 ⟨rfl, b2⟩
    go_wp2_with fail
    go_ret
    exact ⟨rfl, b2⟩
  · have E : endAtT ts i en = en := by unfold endAtT; rw [if_neg hlt]
    rw [E]
    go_enter Try.func40, Try.ntmps40
    go_wp2_with fail
    go_ret
    exact ⟨rfl, Below.refl _ _⟩
theorem impl_TermsEnd (v : Value) (ts : List Trm) (n en : Int) (w : World) (h : Ts w v ts) : Calls Try.prog 20 #[v, .int .i64 n, .int .i64 en] w fun e w' => e = .returned (.int .i64 (endT ts n en)) ∧ Below w.heap.size w w' := by
  have C1 := Lib.hid (impl_isEnd v ts en w h)
  have hv := h
  have E0 : endOk ts en = false → endT ts n en = -1 := endT_bad
  have E1 : endOk ts en = true → ∀ i, i < ts.length → (tAt ts i).num = n → (∀ j, j < i → (tAt ts j).num ≠ n) → endT ts n en = endAtT ts i en := fun h i hi hn hb => endT_yes h hi hn hb
  obtain ⟨a, cap, rfl, hl, hm, hc⟩ := h
  unfold maxLen at hm
  clear hc
  obtain ⟨ok, hok⟩ : ∃ ok, endOk ts en = ok := ⟨_, rfl⟩
  rw [hok] at C1 E0 E1
  clear hok
  cases ok with
  | false =>
    rw [E0 rfl]
    clear E0 E1
    go_enter Try.func20, Try.ntmps20
    go_wp2_with fail
    (with_reducible refine C1.out.mono ?_)
    rintro e w1 ⟨rfl, b1⟩
    go_wp2_with fail
    go_ret
    exact ⟨rfl, b1⟩
  | true =>
    have H1 := Lib.hid (E1 rfl)
    clear E0 E1
    go_enter Try.func20, Try.ntmps20
    go_wp2_with fail
    (with_reducible refine C1.out.mono ?_)
    rintro e w1 ⟨rfl, B1⟩
    clear C1
    go_wp2_with fail
    go_loopw [15] (fun i wr => ∃ k : Nat, k ≤ ts.length ∧ i = .int .i64 k ∧ (∀ j, j < k → (tAt ts j).num ≠ n) ∧ Below w.heap.size w wr) (fun i _ => ts.length - (intOf i).toNat)
    case atStart => exact ⟨0, Nat.zero_le _, rfl, fun j hj => by omega, B1⟩
    case round =>
      clear B1
      obtain ⟨k, hk, rfl, hrel, bel⟩ := hrel
      by_cases hlt : k < ts.length
      · have C2 : Hid (∀ W, Below w.heap.size w W → Calls Try.prog 40 #[.slice a ts.length cap, .int .i64 (k : Int), .int .i64 en] W fun e w' => e = .returned (.int .i64 (endAtT ts k en)) ∧ Below W.heap.size W w') := Lib.hid fun W hW => impl_endAt _ ts k en W (hv.below hW) hlt
        obtain ⟨b, off, cp, e, _, _, hcell⟩ := (hv.below bel).form (by omega)
        simp only [Value.slice.injEq, true_and] at e
        obtain ⟨rfl, rfl⟩ := e
        obtain ⟨c0, c1⟩ := hcell k hlt
        obtain ⟨⟨x, y⟩, Ht⟩ : ∃ t, Hid (tAt ts k = t) := ⟨_, Lib.hid rfl⟩
        rw [Ht.out] at c0 c1
        simp only at c0 c1
        clear hcell
        have bX := alloc_below' wr (.cells #[.int .i64 x, .int .i64 y] 25)
        have BX := Bstep bel bX
        by_cases hx : x = n
        · have hq : (x == n) = true := by simp [hx]
          have HE : Hid (endT ts n en = endAtT ts k en) := Lib.hid (H1.out k hlt (by rw [Ht.out]; exact hx) hrel)
          clear hx
          go_wp2_with fail
          (with_reducible refine (C2.out _ BX).mono ?_)
          rintro e w2 ⟨rfl, b2⟩
          go_wp2_with fail
          go_ret
          exact ⟨ret_int HE.out.symm, Bstep BX b2⟩
        · have hq : (x == n) = false := by simp [hx]
          have H2 : ∀ j, j < k + 1 → (tAt ts j).num ≠ n := fun j hj => by
            by_cases e : j = k
            · rw [e, Ht.out]; exact hx
            · exact hrel j (by omega)
          clear hx
          go_wp2_with fail
          go_roundw
          case rel => exact ⟨k + 1, by omega, by go_num, H2, BX⟩
          case measure => simp [intOf]; omega
      · go_wp2_with fail
        go_ret
        exact ⟨ret_int (endT_no fun j hj => hrel j (by omega)).symm, bel⟩
end Go.Proofs.Ytfejolnfaechiaa
