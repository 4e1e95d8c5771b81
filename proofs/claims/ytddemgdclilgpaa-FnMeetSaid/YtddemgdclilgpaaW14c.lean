/- Chapter 23: ends and cuts. -/
import Derived.Test.YtddemgdclilgpaaW14b
namespace Go.Proofs.Ytddemgdclilgpaa
open Go.ChangeShapes Go.WideShapes Go.ChangeAt Go.RowKit
set_option linter.unusedVariables false

theorem findN_lt_dec (ts : List Trm) (n : Int) : (findN ts n < ts.length ∧ atI ts n = (findN ts n : Int)) ∨ (¬ findN ts n < ts.length ∧ atI ts n = -1) := by
  unfold atI
  by_cases h : findN ts n < ts.length
  · exact .inl ⟨h, by rw [if_pos h]⟩
  · exact .inr ⟨h, by rw [if_neg h]⟩
/-- a row in new memory, and whether it is one -/
def NewT (w : World) (ts : List Trm) (ok : Bool) (e : Ending) (w' : World) : Prop :=
  ∃ v, e = .returned (.tuple #[v, .bool ok]) ∧ OwnT w' w.heap.size v ts ∧ Below w.heap.size w w'
theorem impl_TermsCut (v : Value) (ts : List Trm) (o : Int) (w : World) (h : Ts w v ts) : Calls Try.prog 11 #[v, .int .i64 o] w (NewT w (cutL ts o) (tsOk ts)) := by
  have C1 := Lib.hid (impl_TermsValid v ts w h)
  have hv := h
  have h8 : tsOk ts = true → ts.length ≤ 8 := fun q => (tsOk_iff.1 q).1
  obtain ⟨a, cap, rfl, hl, hm, hc⟩ := h
  unfold maxLen at hm
  clear hc
  have E : cutL ts o = if tsOk ts = true then cutF ts o else [] := rfl
  rw [E]
  clear E
  obtain ⟨ok, hok⟩ : ∃ ok, tsOk ts = ok := ⟨_, rfl⟩
  rw [hok] at C1 h8 ⊢
  clear hok
  cases ok with
  | false =>
    clear h8
    go_enter Try.func11, Try.ntmps11
    go_wp2_with fail
    (with_reducible refine C1.out.mono ?_)
    rintro e w1 ⟨rfl, b1⟩
    go_wp2_with fail
    go_ret2
    exact ⟨_, rfl, own_nilT _ _, b1⟩
  | true =>
    have h8' := h8 rfl
    clear h8
    go_enter Try.func11, Try.ntmps11
    go_wp2_with fail
    (with_reducible refine C1.out.mono ?_)
    rintro e w1 ⟨rfl, B1⟩
    have own1 := own_nilT w1 w.heap.size
    clear C1
    go_wp2_with fail
    go_loopw [6, 14] (fun u i wr => ∃ k : Nat, k ≤ ts.length ∧ i = .int .i64 k ∧ OwnT wr w.heap.size u (cutF (ts.take k) o) ∧ Below w.heap.size w wr) (fun _ i _ => ts.length - (intOf i).toNat)
    case atStart => exact ⟨0, Nat.zero_le _, rfl, by simpa [cutF] using own1, B1⟩
    case round =>
      clear own1 B1
      obtain ⟨k, hk, rfl, hown, bel⟩ := hrel
      by_cases hlt : k < ts.length
      · obtain ⟨b, off, cp, e, _, _, hcell⟩ := (hv.below bel).form (by omega)
        simp only [Value.slice.injEq, true_and] at e
        obtain ⟨rfl, rfl⟩ := e
        obtain ⟨c0, c1⟩ := hcell k hlt
        have hsn : cutF (ts.take (k + 1)) o = if (tAt ts k).first < o then cutF (ts.take k) o ++ [tAt ts k] else cutF (ts.take k) o := by rw [take_snocT ts k hlt, cutF_snoc]
        have hlen : (cutF (ts.take k) o).length ≤ 8 := Nat.le_trans (cutF_len _ _) (by rw [List.length_take]; omega)
        obtain ⟨⟨x, y⟩, ht⟩ : ∃ t, tAt ts k = t := ⟨_, rfl⟩
        rw [ht] at c0 c1 hsn
        simp only at c0 c1 hsn
        have HSN := Lib.hid hsn
        obtain ⟨cur, hcur⟩ : ∃ c, cutF (ts.take k) o = c := ⟨_, rfl⟩
        rw [hcur] at hown HSN hlen
        clear hcell ht hsn hcur
        have bX := alloc_below' wr (.cells #[.int .i64 x, .int .i64 y] 29)
        have ownX := hown.below bX
        have BX := Bstep bel bX
        by_cases hy : y < o
        · have d1 : decide (y < o) = true := decide_eq_true hy
          have HN : Hid (cutF (ts.take (k + 1)) o = cur ++ [⟨x, y⟩]) := Lib.hid (by rw [HSN.out, if_pos hy])
          clear HSN
          go_wp2_with (at_builtin; refine wp_appT rfl _ _ rfl w.heap.size u6 cur x y (wr.heap.size + 1) (by simp) rfl rfl ownX (by omega) BX.size ?_; intro g cp2 w3 own3 g3)
          have B3 := grown_alloc_below w.heap.size (Nat.le_refl _) BX.size ownX g3
          go_roundw
          case rel => exact ⟨k + 1, by omega, by go_num, by rw [HN.out]; exact own3, BX.trans B3⟩
          case measure => simp [intOf]; omega
        · have d1 : decide (y < o) = false := decide_eq_false hy
          have HN : Hid (cutF (ts.take (k + 1)) o = cur) := Lib.hid (by rw [HSN.out, if_neg hy])
          clear HSN
          go_wp2_with fail
          go_roundw
          case rel => exact ⟨k + 1, by omega, by go_num, by rw [HN.out]; exact ownX, BX⟩
          case measure => simp [intOf]; omega
      · obtain rfl : k = ts.length := by omega
        rw [List.take_length] at hown
        go_wp2_with fail
        go_ret2
        exact ⟨_, rfl, by simpa using hown, bel⟩
theorem impl_isEnd (v : Value) (ts : List Trm) (en : Int) (w : World) (h : Ts w v ts) : Calls Try.prog 20 #[v, .int .i64 en] w (Same w (endOk ts en)) := by
  have hv := h
  obtain ⟨a, cap, rfl, hl, hm, hc⟩ := h
  unfold maxLen at hm
  clear hc
  have C1 := Lib.hid (impl_TermsValid _ ts w hv)
  have E : endOk ts en = (tsOk ts && (decide (0 ≤ en) && decide (en ≤ 100000) && (decide (ts.length = 0) || decide ((tAt ts (ts.length - 1)).first < en)))) := rfl
  rw [E]
  clear E
  obtain ⟨r1, hr1⟩ : ∃ rb, tsOk ts = rb := ⟨_, rfl⟩
  rw [hr1] at C1 ⊢
  clear hr1
  cases r1 with
  | false =>
    go_enter Try.func20, Try.ntmps20
    go_wp2_with fail
    (with_reducible refine C1.out.mono ?_)
    rintro e w2 ⟨rfl, b2⟩
    go_wp2_with fail
    go_ret
    exact ⟨rfl, b2⟩
  | true =>
  by_cases g0 : 0 ≤ en
  · have e0 : decide (en < 0) = false := decide_eq_false (by omega)
    rw [decide_eq_true g0]
    by_cases g1 : en ≤ 100000
    · have e1 : decide (100000 < en) = false := decide_eq_false (by omega)
      rw [decide_eq_true g1]
      by_cases h0 : ts.length = 0
      · have d0 : ((ts.length : Int) == 0) = true := by simp [h0]
        have d0n : (ts.length == 0) = true := by simp [h0]
        rw [decide_eq_true h0]
        clear h0
        go_enter Try.func20, Try.ntmps20
        go_wp2_with fail
        (with_reducible refine C1.out.mono ?_)
        rintro e w2 ⟨rfl, b2⟩
        go_wp2_with fail
        go_ret
        exact ⟨rfl, b2⟩
      · have d0 : ((ts.length : Int) == 0) = false := by rw [beq_eq_false_iff_ne]; omega
        have d0n : (ts.length == 0) = false := by simp [h0]
        rw [decide_eq_false h0]
        obtain ⟨b, off, cp, e, _, _, hcell⟩ := hv.form (by omega)
        simp only [Value.slice.injEq, true_and] at e
        obtain ⟨rfl, rfl⟩ := e
        have c0 := (hcell (ts.length - 1) (by omega)).2
        clear hcell
        obtain ⟨f, hf⟩ : ∃ f, (tAt ts (ts.length - 1)).first = f := ⟨_, rfl⟩
        rw [hf] at c0 ⊢
        have s1 : IntKind.i64.wrap ((ts.length : Int) - 1) = (ts.length : Int) - 1 := IntWalk.i64_in _ ⟨by omega, by omega⟩
        have n1 : ((ts.length : Int) - 1).toNat = ts.length - 1 := by omega
        have n2 : (1 : Int) ≤ (ts.length : Int) := by omega
        clear hf
        by_cases hlo : f < en
        · have d1 : decide (f < en) = true := decide_eq_true hlo
          rw [d1]
          go_enter Try.func20, Try.ntmps20
          go_wp2_with fail
          (with_reducible refine C1.out.mono ?_)
          rintro e w2 ⟨rfl, b2⟩
          have c2 := (b2.cell (World.block_lt_of_cell? _ _ c0)).trans c0
          go_wp2_with fail
          go_ret
          exact ⟨rfl, b2⟩
        · have d1 : decide (f < en) = false := decide_eq_false hlo
          rw [d1]
          go_enter Try.func20, Try.ntmps20
          go_wp2_with fail
          (with_reducible refine C1.out.mono ?_)
          rintro e w2 ⟨rfl, b2⟩
          have c2 := (b2.cell (World.block_lt_of_cell? _ _ c0)).trans c0
          go_wp2_with fail
          go_ret
          exact ⟨rfl, b2⟩
    · have e1 : decide (100000 < en) = true := decide_eq_true (by omega)
      rw [decide_eq_false g1]
      go_enter Try.func20, Try.ntmps20
      go_wp2_with fail
      (with_reducible refine C1.out.mono ?_)
      rintro e w2 ⟨rfl, b2⟩
      go_wp2_with fail
      go_ret
      exact ⟨rfl, b2⟩
  · have e0 : decide (en < 0) = true := decide_eq_true (by omega)
    rw [decide_eq_false g0]
    go_enter Try.func20, Try.ntmps20
    go_wp2_with fail
    (with_reducible refine C1.out.mono ?_)
    rintro e w2 ⟨rfl, b2⟩
    go_wp2_with fail
    go_ret
    exact ⟨rfl, b2⟩
end Go.Proofs.Ytddemgdclilgpaa
