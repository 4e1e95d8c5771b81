/- Chapter 2: what the functions that read numbers without a sign answer. -/
import Derived.Test.YthlboonobepdaaaW2
namespace Go.Proofs.Ythlboonobepdaaa
open Go.ChangeShapes Go.WideShapes Go.ChangeAt Go.RowKit
set_option linter.unusedVariables false

/-- what IntFrom answers -/
def okF (xs : List Int) (k many : Int) : Bool := decide (1 ≤ many) && decide (many ≤ 3) && okBs xs && decide (0 ≤ k) && decide (k ≤ (xs.length : Int) - many)
def numF (xs : List Int) (k many : Int) : Int := if okF xs k many = true then fromB ((xs.drop k.toNat).take many.toNat) else 0
theorem numF_no {xs : List Int} {k many : Int} (h : okF xs k many = false) : numF xs k many = 0 := by unfold numF; rw [h]; rfl
theorem numF_yes {xs : List Int} {k many : Int} (h : okF xs k many = true) : numF xs k many = fromB ((xs.drop k.toNat).take many.toNat) := if_pos h
theorem okF_size {xs : List Int} {k many : Int} (h : many < 1 ∨ 3 < many) : okF xs k many = false := by
  unfold okF
  rcases h with h | h
  · rw [decide_eq_false (show ¬ 1 ≤ many by omega)]; rfl
  · rw [decide_eq_false (show ¬ many ≤ 3 by omega)]; simp
theorem okF_bytes {xs : List Int} {k many : Int} (h : okBs xs = false) : okF xs k many = false := by unfold okF; rw [h]; simp
theorem okF_neg {xs : List Int} {k many : Int} (h : k < 0) : okF xs k many = false := by unfold okF; rw [decide_eq_false (show ¬ 0 ≤ k by omega)]; simp
theorem okF_end {xs : List Int} {k many : Int} (h : (xs.length : Int) - many < k) : okF xs k many = false := by unfold okF; rw [decide_eq_false (show ¬ k ≤ (xs.length : Int) - many by omega)]; simp
theorem okF_mk {xs : List Int} {k many : Int} (h1 : 1 ≤ many) (h2 : many ≤ 3) (hb : okBs xs = true) (h3 : 0 ≤ k) (h4 : k ≤ (xs.length : Int) - many) : okF xs k many = true := by
  unfold okF; rw [decide_eq_true h1, decide_eq_true h2, hb, decide_eq_true h3, decide_eq_true h4]; rfl
theorem okF_yes {xs : List Int} {k many : Int} (h : okF xs k many = true) : ∃ q m : Nat, k = (q : Int) ∧ many = (m : Int) ∧ 1 ≤ m ∧ m ≤ 3 ∧ q + m ≤ xs.length ∧ okBs xs = true := by
  unfold okF at h
  simp only [Bool.and_eq_true, decide_eq_true_eq] at h
  exact ⟨k.toNat, many.toNat, by omega, by omega, by omega, by omega, by omega, h.1.1.2⟩

def GotRes (x : Int) (b : Bool) (w : World) (e : Ending) (w' : World) : Prop := e = .returned (.tuple #[.int .i64 x, .bool b]) ∧ w = w'

theorem or8 (y b : Int) (hy : 0 ≤ y) (hy1 : y ≤ 16777215) (hb : 0 ≤ b) (hb1 : b ≤ 255) : bits .or .i64 (y * 256) b = 256 * y + b := by
  have h := bits_join .i64 62 (by decide) wraps_i64 8 (y * 256) b (by omega) (by omega) (by omega) hb (by omega) (by omega)
  rw [h]; omega

theorem impl_IntFrom (v : Value) (xs : List Int) (k many : Int) (w : World) (h : Ints w v xs) (hk : I64 k) (hm : I64 many) :
    Calls Try.prog 66 #[v, .int .i64 k, .int .i64 many] w (GotRes (numF xs k many) (okF xs k many) w) := by
  have C1 := Lib.hid (impl_isIntSize many w hm)
  have C2 := Lib.hid (impl_areBytes v xs w h)
  obtain ⟨hk0, hk1⟩ := hk
  obtain ⟨hm0, hm1⟩ := hm
  by_cases hin : 1 ≤ many ∧ many ≤ 3
  · obtain ⟨m1, m3⟩ := hin
    rw [sizeB_yes m1 m3] at C1
    cases hok : okBs xs with
    | false =>
      rw [okF_bytes hok, numF_no (okF_bytes hok)]
      rw [hok] at C2
      clear hok
      go_enter Try.func66, Try.ntmps66
      go_wp2_with fail
      refine C1.out.mono ?_
      rintro e w1 ⟨rfl, rfl⟩
      go_wp2_with fail
      refine C2.out.mono ?_
      rintro e w1 ⟨rfl, rfl⟩
      go_wp2_with fail
      go_ret2
      exact ⟨rfl, rfl⟩
    | true =>
      rw [hok] at C2
      have hv := h
      obtain ⟨a, cap, rfl, hl, hmx, hc⟩ := h
      unfold maxLen at hmx
      by_cases hneg : k < 0
      · rw [okF_neg hneg, numF_no (okF_neg hneg)]
        clear hok hc hv
        go_enter Try.func66, Try.ntmps66
        go_wp2_with fail
        refine C1.out.mono ?_
        rintro e w1 ⟨rfl, rfl⟩
        go_wp2_with fail
        refine C2.out.mono ?_
        rintro e w1 ⟨rfl, rfl⟩
        go_wp2_with fail
        go_ret2
        exact ⟨rfl, rfl⟩
      · have d0 : decide (k < 0) = false := decide_eq_false hneg
        by_cases hend : (xs.length : Int) - many < k
        · have d1 : decide ((xs.length : Int) - many < k) = true := decide_eq_true hend
          rw [okF_end hend, numF_no (okF_end hend)]
          clear hok hc hv
          go_enter Try.func66, Try.ntmps66
          go_wp2_with fail
          refine C1.out.mono ?_
          rintro e w1 ⟨rfl, rfl⟩
          go_wp2_with fail
          refine C2.out.mono ?_
          rintro e w1 ⟨rfl, rfl⟩
          go_wp2_with fail
          go_ret2
          exact ⟨rfl, rfl⟩
        · have d1 : decide ((xs.length : Int) - many < k) = false := decide_eq_false hend
          have hyes := okF_mk m1 m3 hok (show 0 ≤ k by omega) (show k ≤ (xs.length : Int) - many by omega)
          obtain ⟨q, rfl⟩ := Int.eq_ofNat_of_zero_le (show 0 ≤ k by omega)
          obtain ⟨m, rfl⟩ := Int.eq_ofNat_of_zero_le (show 0 ≤ many by omega)
          rw [numF_yes hyes, hyes, Int.toNat_natCast, Int.toNat_natCast]
          obtain ⟨b, off, rfl, hcell⟩ := hc (by omega)
          have hpart := (hv.drop q (by omega)).take m (by omega)
          have hpok := okBs_take (okBs_drop hok q) m
          have hplen : ((xs.drop q).take m).length = m := by rw [List.length_take, List.length_drop]; omega
          have hne : ¬ cap = q := by omega
          have hle : q + m ≤ cap := by omega
          obtain ⟨ys, hys⟩ : ∃ ys, (xs.drop q).take m = ys := ⟨_, rfl⟩
          rw [hys] at hpart hpok hplen ⊢
          have hcy : ∀ i, i < m → w.cell? ⟨b, off + q + i, none⟩ = some (.int .i64 (ys.getD i 0)) := by
            obtain ⟨a', cap', e, _, _, hc'⟩ := hpart
            simp only [Value.slice.injEq] at e
            obtain ⟨rfl, _, rfl⟩ := e
            intro i hi
            obtain ⟨b', off', e, hcell'⟩ := hc' (by omega)
            simp only [Option.some.injEq, Addr.mk.injEq, and_true] at e
            obtain ⟨rfl, rfl⟩ := e
            exact hcell' i (by omega)
          have hb : ∀ j, j ≤ m → 0 ≤ fromB (ys.take j) ∧ fromB (ys.take j) ≤ 16777215 := fun j hj => by
            have := fromB_bound (ys.take j) (okBs_take hpok j) (by rw [List.length_take]; omega)
            omega
          have Hplen := Lib.hid hplen
          have Hcy := Lib.hid hcy
          have Hb := Lib.hid hb
          have Hok := Lib.hid hpok
          clear hcell hc hv hok hyes hys hpart hpok hplen hcy hb
          go_enter Try.func66, Try.ntmps66
          go_wp2_with fail
          refine C1.out.mono ?_
          rintro e w1 ⟨rfl, rfl⟩
          go_wp2_with fail
          refine C2.out.mono ?_
          rintro e w1 ⟨rfl, rfl⟩
          go_wp2_with fail
          go_loop [8, 38] (fun y i => ∃ j : Nat, j ≤ m ∧ i = .int .i64 j ∧ y = .int .i64 (fromB (ys.take j))) (fun _ i => m - (intOf i).toNat)
          case atStart => exact ⟨0, Nat.zero_le _, rfl, by simp [fromB]⟩
          case round =>
            obtain ⟨j, hj, rfl, rfl⟩ := hrel
            obtain ⟨y0, y1⟩ := Hb.out j hj
            by_cases hlt : j < m
            · have hx := Hcy.out j hlt
              have hxb := okBs_at Hok.out j (by have := Hplen.out; omega)
              obtain ⟨x, ex⟩ : ∃ x, ys.getD j 0 = x := ⟨_, rfl⟩
              rw [ex] at hx hxb
              have hsn := fromB_snoc (ys.take j) x
              rw [← take_snoc0 ys j (by have := Hplen.out; omega) x ex] at hsn
              obtain ⟨y, ey⟩ : ∃ y, fromB (ys.take j) = y := ⟨_, rfl⟩
              rw [ey] at hsn y0 y1 ⊢
              have ho := or8 y x y0 y1 hxb.1 hxb.2
              have Hsn := Lib.hid hsn
              obtain ⟨x0, x1⟩ := hxb
              clear hsn ex ey
              go_wp2
              go_round
              case rel => exact ⟨j + 1, by omega, by go_num, by rw [Hsn.out]⟩
              case measure => simp [intOf]; omega
            · obtain rfl : j = m := by omega
              have e : fromB (ys.take j) = fromB ys := by rw [List.take_of_length_le (by have := Hplen.out; omega)]
              rw [e]
              clear e y0 y1
              go_wp2
              go_ret2
              exact ⟨rfl, rfl⟩
  · have hC1 : sizeB many = false := sizeB_no (by omega)
    have hok : okF xs k many = false := okF_size (by omega)
    rw [hC1] at C1
    rw [hok, numF_no hok]
    clear hin hC1 hok
    go_enter Try.func66, Try.ntmps66
    go_wp2_with fail
    refine C1.out.mono ?_
    rintro e w1 ⟨rfl, rfl⟩
    go_wp2_with fail
    go_ret2
    exact ⟨rfl, rfl⟩

theorem spec_l2From (v : Value) (xs : List Int) (q m : Nat) (w : World) (h : Ints w v xs) (hb : okBs xs = true) (h1 : 1 ≤ m) (h3 : m ≤ 3) (hq : q + m ≤ xs.length) :
    Calls Try.prog 42 #[v, .int .i64 (q : Int), .int .i64 (m : Int)] w fun e w' => e = .returned (.int .i64 (fromB ((xs.drop q).take m))) ∧ w = w' := by
  obtain ⟨a, cap, rfl, hl, hmx, hc⟩ := h
  unfold maxLen at hmx
  obtain ⟨b, off, rfl, hcell⟩ := hc (by omega)
  have hL : ((xs.drop q).take m).length = m := by rw [List.length_take, List.length_drop]; omega
  have hg : ∀ j, j < m → ((xs.drop q).take m).getD j 0 = xs.getD (q + j) 0 := fun j hj => by simp [List.getD, hj]
  have hok := okBs_take (okBs_drop hb q) m
  have hbb : ∀ j, j ≤ m → 0 ≤ fromB (((xs.drop q).take m).take j) ∧ fromB (((xs.drop q).take m).take j) ≤ 16777215 := fun j hj => by
    have := fromB_bound (((xs.drop q).take m).take j) (okBs_take hok j) (by rw [List.length_take]; omega)
    omega
  obtain ⟨ys, hys⟩ : ∃ ys, (xs.drop q).take m = ys := ⟨_, rfl⟩
  rw [hys] at hL hg hok hbb ⊢
  have Hc := Lib.hid hcell
  have HL := Lib.hid hL
  have Hg := Lib.hid hg
  have Hok := Lib.hid hok
  have Hb := Lib.hid hbb
  clear hc hcell hL hg hok hbb hys hb
  go_enter Try.func42, Try.ntmps42
  go_wp2
  go_loop [7, 8] (fun y i => ∃ j : Nat, j ≤ m ∧ i = .int .i64 ((q + j : Nat) : Int) ∧ y = .int .i64 (fromB (ys.take j))) (fun _ i => q + m - (intOf i).toNat)
  case atStart => exact ⟨0, Nat.zero_le _, rfl, by simp [fromB]⟩
  case round =>
    obtain ⟨j, hj, rfl, rfl⟩ := hrel
    obtain ⟨y0, y1⟩ := Hb.out j hj
    by_cases hlt : j < m
    · have hx := Hc.out (q + j) (by omega)
      have hxb := okBs_at Hok.out j (by have := HL.out; omega)
      rw [← Hg.out j hlt] at hx
      obtain ⟨x, ex⟩ : ∃ x, ys.getD j 0 = x := ⟨_, rfl⟩
      rw [ex] at hx hxb
      have hsn := fromB_snoc (ys.take j) x
      rw [← take_snoc0 ys j (by have := HL.out; omega) x ex] at hsn
      obtain ⟨y, ey⟩ : ∃ y, fromB (ys.take j) = y := ⟨_, rfl⟩
      rw [ey] at hsn y0 y1 ⊢
      have Hsn := Lib.hid hsn
      obtain ⟨x0, x1⟩ := hxb
      obtain ⟨i, hi⟩ : ∃ i, q + j = i := ⟨_, rfl⟩
      rw [hi] at hx ⊢
      have i0 : i < xs.length := by omega
      have i1 : (i : Int) < (q : Int) + (m : Int) := by omega
      have d0 : decide ((i : Int) < (q : Int) + (m : Int)) = true := decide_eq_true i1
      have Hi := Lib.hid hi
      clear hsn ex ey hi
      go_wp2
      go_round
      case rel => exact ⟨j + 1, by omega, by have := Hi.out; go_num, by rw [Hsn.out]⟩
      case measure => have := Hi.out; simp [intOf]; omega
    · obtain rfl : j = m := by omega
      have e : fromB (ys.take j) = fromB ys := by rw [List.take_of_length_le (by have := HL.out; omega)]
      rw [e]
      clear e y0 y1
      go_wp2
      go_ret
      exact ⟨rfl, rfl⟩

end Go.Proofs.Ythlboonobepdaaa
