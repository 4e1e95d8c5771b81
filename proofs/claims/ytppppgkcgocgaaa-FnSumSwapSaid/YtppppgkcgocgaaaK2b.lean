/- Chapter 2: the laws that draw numbers and bytes. -/
import Derived.Test.YtppppgkcgocgaaaK2
import Derived.Test.YtppppgkcgocgaaaD2
namespace Go.Proofs.Ytppppgkcgocgaaa
open Go.ChangeShapes Go.WideShapes Go.ChangeAt Go.RowKit
set_option linter.unusedVariables false

theorem hid_eq {α : Type} (x : α) : ∃ y, x = y := ⟨x, rfl⟩
theorem law_FnInt (w : World) (v : Value) (zs : List Int) (h : U8s w v zs) : Calls Try.prog 3 #[v] w (Yes w) := by
  have hv := h
  obtain ⟨a, cap, rfl, hl, hm, hc, hr⟩ := h
  clear hc hr
  unfold maxLen at hm
  by_cases hbig : 1048576 < zs.length
  · go_enter Try.func3, Try.ntmps3
    go_wp2
    go_ret
    exact ⟨rfl, Below.refl _ _⟩
  have D1 := Lib.hid (spec_DrawIntBytes _ zs w hv (by omega))
  clear hv
  go_enter Try.func3, Try.ntmps3
  go_wp2_with fail
  refine D1.out.mono ?_
  rintro e w1 ⟨n, many, rfl, n0, n1, m0, m1, bel⟩
  have C2 : Hid (∀ w, Calls Try.prog 17 #[.int .i64 n, .int .i64 many] w (NewInts w (intB n many) (okI n many))) := fun w => impl_IntBytes n many w ⟨by omega, by omega⟩ ⟨by omega, by omega⟩
  have C3 : Hid (∀ w, Calls Try.prog 18 #[.int .i64 n, .int .i64 many] w (NewInts w (intB n many) (okI n many))) := fun w => spec_IntBytes n many w ⟨by omega, by omega⟩ ⟨by omega, by omega⟩
  cases hok : okI n many with
  | false =>
    rw [hok, intB_no hok] at C2 C3
    have he := beq_self []
    clear hok
    go_wp2_with fail
    refine (C2.out _).mono ?_
    rintro e w2 ⟨v1, rfl, own1, bel1⟩
    go_wp2_with fail
    refine (C3.out _).mono ?_
    rintro e w3 ⟨v2, rfl, own2, bel2⟩
    go_wp2_with fail
    refine (laws_sameInts v1 v2 [] [] w3 (own1.ints.below bel2) own2.ints).mono ?_
    rintro e w4 ⟨rfl, bel3⟩
    go_wp2_with fail
    refine (laws_sameInts v1 v2 [] [] w4 ((own1.ints.below bel2).below bel3) (own2.ints.below bel3)).mono ?_
    rintro e w5 ⟨rfl, bel4⟩
    go_wp2_with fail
    go_ret
    exact ⟨rfl, Bstep (Bstep (Bstep (Bstep bel bel1) bel2) bel3) bel4⟩
  | true =>
    obtain ⟨m, rfl, h1, h3⟩ := okI_many hok
    obtain ⟨_, _, n2, n3⟩ := okI_yes hok
    have hp := pow256_le m h3
    rw [hok, intB_yes hok, Int.toNat_natCast] at C2 C3
    have hL := sfx_len m n
    have he := beq_self (sfx m n)
    have hy := okF_mk (xs := sfx m n) (k := 0) (many := (m : Int)) (by omega) (by omega) (sfx_ok m n) (by omega) (by omega)
    have hnum := numF_yes hy
    rw [Int.toNat_natCast, show (0 : Int).toNat = 0 from rfl, List.drop_zero, List.take_of_length_le (by omega), fromB_sfx m n n2 h3 n3] at hnum
    obtain ⟨xs, hx⟩ := hid_eq (sfx m n)
    rw [hx] at C2 C3 hL he hy hnum
    have HL := Lib.hid hL
    have HY := Lib.hid hy
    have HN := Lib.hid hnum
    have q2 : (n == n) = true := by simp
    have q3 : ((m : Int) == (m : Int)) = true := by simp
    clear hok hL hy hnum hx
    go_wp2_with fail
    refine (C2.out _).mono ?_
    rintro e w2 ⟨v1, rfl, own1, bel1⟩
    go_wp2_with fail
    refine (C3.out _).mono ?_
    rintro e w3 ⟨v2, rfl, own2, bel2⟩
    go_wp2_with fail
    refine (laws_sameInts v1 v2 xs xs w3 (own1.ints.below bel2) own2.ints).mono ?_
    rintro e w4 ⟨rfl, bel3⟩
    have B3 := Bstep (Bstep (Bstep bel bel1) bel2) bel3
    have i3 := (own1.ints.below bel2).below bel3
    have C4 := Lib.hid (impl_IntFrom v1 xs 0 (m : Int) w4 i3 ⟨by omega, by omega⟩ ⟨by omega, by omega⟩)
    rw [HY.out, HN.out] at C4
    obtain ⟨a1, cap1, rfl, hi1⟩ := own1.ints
    rw [HL.out] at C4
    rw [HL.out]
    go_wp2_with fail
    refine C4.out.mono ?_
    rintro e w5 ⟨rfl, rfl⟩
    go_wp2_with fail
    go_ret
    exact ⟨rfl, B3⟩
theorem law_FnIntOrder (w : World) (v : Value) (zs : List Int) (h : U8s w v zs) : Calls Try.prog 4 #[v] w (Yes w) := by
  have hv := h
  obtain ⟨a, cap, rfl, hl, hm, hc, hr⟩ := h
  clear hc hr
  unfold maxLen at hm
  by_cases hbig : 1048576 < zs.length
  · go_enter Try.func4, Try.ntmps4
    go_wp2
    go_ret
    exact ⟨rfl, Below.refl _ _⟩
  have D1 := Lib.hid (spec_DrawIntBytes _ zs w hv (by omega))
  clear hv
  go_enter Try.func4, Try.ntmps4
  go_wp2_with fail
  refine D1.out.mono ?_
  rintro e w1 ⟨n, many, rfl, n0, n1, m0, m1, bel⟩
  have C2 : Hid (∀ w, Calls Try.prog 17 #[.int .i64 n, .int .i64 many] w (NewInts w (intB n many) (okI n many))) := fun w => impl_IntBytes n many w ⟨by omega, by omega⟩ ⟨by omega, by omega⟩
  have C3 : Hid (∀ w, Calls Try.prog 18 #[.int .i64 n, .int .i64 many] w (NewInts w (intB n many) (okI n many))) := fun w => spec_IntBytes n many w ⟨by omega, by omega⟩ ⟨by omega, by omega⟩
  cases hok : okI n many with
  | false =>
    rw [hok, intB_no hok] at C2 C3
    have he := beq_self []
    clear hok
    go_wp2_with fail
    refine (C2.out _).mono ?_
    rintro e w2 ⟨v1, rfl, own1, bel1⟩
    go_wp2_with fail
    refine (C3.out _).mono ?_
    rintro e w3 ⟨v2, rfl, own2, bel2⟩
    go_wp2_with fail
    refine (laws_sameInts v1 v2 [] [] w3 (own1.ints.below bel2) own2.ints).mono ?_
    rintro e w4 ⟨rfl, bel3⟩
    go_wp2_with fail
    refine (laws_sameInts v1 v2 [] [] w4 ((own1.ints.below bel2).below bel3) (own2.ints.below bel3)).mono ?_
    rintro e w5 ⟨rfl, bel4⟩
    go_wp2_with fail
    go_ret
    exact ⟨rfl, Bstep (Bstep (Bstep (Bstep bel bel1) bel2) bel3) bel4⟩
  | true =>
    obtain ⟨m, rfl, h1, h3⟩ := okI_many hok
    obtain ⟨_, _, n2, n3⟩ := okI_yes hok
    have hp := pow256_le m h3
    rw [hok, intB_yes hok, Int.toNat_natCast] at C2 C3
    have hL := sfx_len m n
    have he := beq_self (sfx m n)
    have hhead : ∃ p : Int, (p = 1 ∨ p = 256 ∨ p = 65536) ∧ (sfx m n).getD 0 0 = n / p ∧ ((m = 1 ∧ p = 1) ∨ (m = 2 ∧ p = 256) ∨ (m = 3 ∧ p = 65536)) := by
      obtain rfl | rfl | rfl : m = 1 ∨ m = 2 ∨ m = 3 := by omega
      · exact ⟨1, .inl rfl, by simp [sfx]; omega, .inl ⟨rfl, rfl⟩⟩
      · exact ⟨256, .inr (.inl rfl), by simp [sfx]; omega, .inr (.inl ⟨rfl, rfl⟩)⟩
      · exact ⟨65536, .inr (.inr rfl), by simp [sfx]; omega, .inr (.inr ⟨rfl, rfl⟩)⟩
    obtain ⟨p, hp1, hhd, hmp⟩ := hhead
    obtain ⟨xs, hx⟩ := hid_eq (sfx m n)
    rw [hx] at C2 C3 hL he hhd
    have HL := Lib.hid hL
    have HD := Lib.hid hhd
    clear hok hL hhd hx
    go_wp2_with fail
    refine (C2.out _).mono ?_
    rintro e w2 ⟨v1, rfl, own1, bel1⟩
    go_wp2_with fail
    refine (C3.out _).mono ?_
    rintro e w3 ⟨v2, rfl, own2, bel2⟩
    go_wp2_with fail
    refine (laws_sameInts v1 v2 xs xs w3 (own1.ints.below bel2) own2.ints).mono ?_
    rintro e w4 ⟨rfl, bel3⟩
    have B3 := Bstep (Bstep (Bstep bel bel1) bel2) bel3
    have i3 := (own1.ints.below bel2).below bel3
    obtain ⟨a1, cap1, rfl, hl1, hm1, hc1⟩ := i3
    unfold maxLen at hm1
    obtain ⟨b1, off1, rfl, hcell⟩ := hc1 (by have := HL.out; omega)
    have hx0 := hcell 0 (by have := HL.out; omega)
    rw [HD.out, Nat.add_zero] at hx0
    clear hcell hc1
    have hlen0 : 0 < xs.length := by have := HL.out; omega
    have hlen1 : (0 : Int) < (xs.length : Int) := by omega
    rcases hmp with ⟨rfl, rfl⟩ | ⟨rfl, rfl⟩ | ⟨rfl, rfl⟩
    · rw [Int.ediv_one] at hx0
      have q2 : (n == n) = true := by simp
      have t1 : n.tdiv 1 = n := Int.tdiv_one n
      go_wp2_with fail
      refine wp_loop_rounds 4 ?_
      repeat (rw [rounds_succ]; go_wp2_with fail)
      go_quiet (fail)
      go_wp2_with fail
      go_ret
      exact ⟨rfl, below_drewN B3 _⟩
    all_goals
      go_wp2_with fail
      refine wp_loop_rounds 4 ?_
      repeat (rw [rounds_succ]; go_wp2_with fail)
    · obtain ⟨q, hq⟩ := hid_eq (n / 256)
      have q0 : 0 ≤ q ∧ q ≤ 16777215 := by omega
      have q2 : (q == wrap64 q) = true := by rw [IntWalk.wrap64_in q ⟨by omega, by omega⟩]; simp
      have t1 : n.tdiv 256 = q := by rw [Int.tdiv_eq_ediv_of_nonneg n2]; exact hq
      rw [hq] at hx0
      clear hq
      go_quiet (fail)
      go_wp2_with fail
      go_ret
      exact ⟨rfl, below_drewN B3 _⟩
    · obtain ⟨q, hq⟩ := hid_eq (n / 65536)
      have q0 : 0 ≤ q ∧ q ≤ 16777215 := by omega
      have q2 : (q == wrap64 q) = true := by rw [IntWalk.wrap64_in q ⟨by omega, by omega⟩]; simp
      have t1 : n.tdiv 65536 = q := by rw [Int.tdiv_eq_ediv_of_nonneg n2]; exact hq
      rw [hq] at hx0
      clear hq
      go_quiet (fail)
      go_wp2_with fail
      go_ret
      exact ⟨rfl, below_drewN B3 _⟩
theorem law_FnIntMost (w : World) (v : Value) (zs : List Int) (h : U8s w v zs) : Calls Try.prog 11 #[v] w (Yes w) := by
  have hv := h
  obtain ⟨a, cap, rfl, hl, hm, hc, hr⟩ := h
  clear hc hr
  unfold maxLen at hm
  by_cases hbig : 1048576 < zs.length
  · go_enter Try.func11, Try.ntmps11
    go_wp2
    go_ret
    exact ⟨rfl, Below.refl _ _⟩
  have D1 := Lib.hid (spec_DrawIntBytes _ zs w hv (by omega))
  clear hv
  go_enter Try.func11, Try.ntmps11
  go_wp2_with fail
  refine D1.out.mono ?_
  rintro e w1 ⟨n, many, rfl, n0, n1, m0, m1, bel⟩
  have C2 : Hid (∀ w, Calls Try.prog 17 #[.int .i64 n, .int .i64 many] w (NewInts w (intB n many) (okI n many))) := fun w => impl_IntBytes n many w ⟨by omega, by omega⟩ ⟨by omega, by omega⟩
  have C3 : Hid (∀ w, Calls Try.prog 18 #[.int .i64 n, .int .i64 many] w (NewInts w (intB n many) (okI n many))) := fun w => spec_IntBytes n many w ⟨by omega, by omega⟩ ⟨by omega, by omega⟩
  cases hok : okI n many with
  | false =>
    rw [hok, intB_no hok] at C2 C3
    have he := beq_self []
    clear hok
    go_wp2_with fail
    refine (C2.out _).mono ?_
    rintro e w2 ⟨v1, rfl, own1, bel1⟩
    go_wp2_with fail
    refine (C3.out _).mono ?_
    rintro e w3 ⟨v2, rfl, own2, bel2⟩
    go_wp2_with fail
    refine (laws_sameInts v1 v2 [] [] w3 (own1.ints.below bel2) own2.ints).mono ?_
    rintro e w4 ⟨rfl, bel3⟩
    go_wp2_with fail
    refine (laws_sameInts v1 v2 [] [] w4 ((own1.ints.below bel2).below bel3) (own2.ints.below bel3)).mono ?_
    rintro e w5 ⟨rfl, bel4⟩
    go_wp2_with fail
    go_ret
    exact ⟨rfl, Bstep (Bstep (Bstep (Bstep bel bel1) bel2) bel3) bel4⟩
  | true =>
    obtain ⟨m, rfl, h1, h3⟩ := okI_many hok
    obtain ⟨_, _, n2, n3⟩ := okI_yes hok
    have hp := pow256_le m h3
    rw [hok, intB_yes hok, Int.toNat_natCast] at C2 C3
    have hL := sfx_len m n
    have he := beq_self (sfx m n)
    have hmost : okI (256 ^ m - 1) (m : Int) = true ∧ intB (256 ^ m - 1) (m : Int) = List.replicate m 255 ∧ okI (256 ^ m) (m : Int) = false := by
      obtain rfl | rfl | rfl : m = 1 ∨ m = 2 ∨ m = 3 := by omega
      all_goals exact ⟨by decide, by decide, by decide⟩
    obtain ⟨g1, g2, g3⟩ := hmost
    have hp0 : (0 : Int) ≤ 256 ^ m := Int.pow_nonneg (by omega)
    obtain ⟨P, hP⟩ := hid_eq ((256 : Int) ^ m)
    have hpow : ∀ j : Nat, j < m → (256 : Int) ^ j ≤ 65536 := fun j hj => by
      match j, (show j ≤ 2 by omega) with
      | 0, _ => decide
      | 1, _ => decide
      | 2, _ => decide
    have Hpow := Lib.hid hpow
    have HP := Lib.hid hP
    clear hpow
    rw [hP] at g1 g2 g3 hp hp0
    have C4 : Hid (∀ w, Calls Try.prog 17 #[.int .i64 (P - 1), .int .i64 (m : Int)] w (NewInts w (List.replicate m 255) true)) := fun w => by
      have := impl_IntBytes (P - 1) (m : Int) w ⟨by omega, by omega⟩ ⟨by omega, by omega⟩
      rwa [g1, g2] at this
    have C5 : Hid (∀ w, Calls Try.prog 17 #[.int .i64 P, .int .i64 (m : Int)] w (NewInts w [] false)) := fun w => by
      have := impl_IntBytes P (m : Int) w ⟨by omega, by omega⟩ ⟨by omega, by omega⟩
      rwa [g3, intB_no g3] at this
    obtain ⟨xs, hx⟩ := hid_eq (sfx m n)
    rw [hx] at C2 C3 hL he
    clear hok hL hx g1 g2 g3 hP n3
    go_wp2_with fail
    refine (C2.out _).mono ?_
    rintro e w2 ⟨v1, rfl, own1, bel1⟩
    go_wp2_with fail
    refine (C3.out _).mono ?_
    rintro e w3 ⟨v2, rfl, own2, bel2⟩
    go_wp2_with fail
    refine (laws_sameInts v1 v2 xs xs w3 (own1.ints.below bel2) own2.ints).mono ?_
    rintro e w4 ⟨rfl, bel3⟩
    have B3 := Bstep (Bstep (Bstep bel bel1) bel2) bel3
    have i3 := (own1.ints.below bel2).below bel3
    go_wp2_with fail
    go_loop [9, 10] (fun p i => ∃ (j : Nat) (y : Int), j ≤ m ∧ i = .int .i64 j ∧ p = .int .i64 y ∧ y = 256 ^ j) (fun _ i => m - (intOf i).toNat)
    case atStart => exact ⟨0, 1, Nat.zero_le _, rfl, rfl, rfl⟩
    case round =>
      obtain ⟨j, y, hj, rfl, rfl, hy⟩ := hrel
      have y0 : 0 ≤ y := by rw [hy]; exact Int.pow_nonneg (by omega)
      by_cases hlt : j < m
      · have y1 : y ≤ 65536 := by rw [hy]; exact Hpow.out j hlt
        have Hy := Lib.hid hy
        clear hy
        go_wp2_with fail
        go_round
        case rel => exact ⟨j + 1, 256 * y, by omega, by go_num, rfl, by rw [Hy.out, Int.pow_succ, Int.mul_comm]⟩
        case measure => simp [intOf]; omega
      obtain rfl : j = m := by omega
      rw [HP.out] at hy
      subst hy
      go_wp2_with fail
      refine (C4.out _).mono ?_
      rintro e w5 ⟨v3, rfl, own3, bel4⟩
      go_wp2_with fail
      refine (C5.out _).mono ?_
      rintro e w6 ⟨v4, rfl, own4, bel5⟩
      have i6 := own3.ints.below bel5
      obtain ⟨a3, cap3, rfl, hl3, hm3, hc3⟩ := i6
      rw [List.length_replicate] at hl3 hc3
      unfold maxLen at hm3
      obtain ⟨b3, off3, rfl, hcell⟩ := hc3 (by omega)
      rw [List.length_replicate]
      have Hc := Lib.hid hcell
      have hj1 : 1 ≤ j := h1
      have B5 := Bstep (Bstep B3 bel4) bel5
      clear hcell hc3
      go_wp2_with fail
      go_loop [15] (fun i => ∃ q : Nat, q ≤ j ∧ i = .int .i64 q) (fun i => j - (intOf i).toNat)
      case atStart => exact ⟨0, Nat.zero_le _, rfl⟩
      case round =>
        obtain ⟨q, hq, rfl⟩ := hrel
        by_cases hlt : q < j
        · have hx := Hc.out q hlt
          rw [show (List.replicate j (255 : Int)).getD q 0 = 255 by simp [List.getD, hlt]] at hx
          go_wp2
          go_round
          case rel => exact ⟨q + 1, by omega, by go_num⟩
          case measure => simp [intOf]; omega
        · obtain rfl : q = j := by omega
          go_wp2
          go_ret
          exact ⟨rfl, B5⟩
theorem law_FnIntFrom (w : World) (v : Value) (zs : List Int) (h : U8s w v zs) : Calls Try.prog 5 #[v] w (Yes w) := by
  have hv := h
  obtain ⟨a, cap, rfl, hl, hm, hc, hr⟩ := h
  clear hc hr
  unfold maxLen at hm
  by_cases hbig : 1048576 < zs.length
  · go_enter Try.func5, Try.ntmps5
    go_wp2
    go_ret
    exact ⟨rfl, Below.refl _ _⟩
  have D1 := Lib.hid (spec_DrawIntFrom _ zs w hv (by omega))
  clear hv
  go_enter Try.func5, Try.ntmps5
  go_wp2_with fail
  refine D1.out.mono ?_
  rintro e w1 ⟨u, xs, k, many, rfl, iu, xl, k0, k1, m0, m1, bel⟩
  have C2 := Lib.hid (impl_IntFrom u xs k many w1 iu ⟨by omega, by omega⟩ ⟨by omega, by omega⟩)
  have C3 := Lib.hid (spec_IntFrom u xs k many w1 iu ⟨by omega, by omega⟩ ⟨by omega, by omega⟩)
  cases hok : okF xs k many with
  | false =>
    rw [hok, numF_no hok] at C2 C3
    clear hok
    go_wp2_with fail
    refine C2.out.mono ?_
    rintro e w2 ⟨rfl, rfl⟩
    go_wp2_with fail
    refine C3.out.mono ?_
    rintro e w2 ⟨rfl, rfl⟩
    go_wp2_with fail
    go_ret
    exact ⟨rfl, bel⟩
  | true =>
    obtain ⟨q, m, rfl, rfl, h1, h3, hqm, hxb⟩ := okF_yes hok
    rw [hok, numF_yes hok, Int.toNat_natCast, Int.toNat_natCast] at C2 C3
    have hpb := okBs_take (okBs_drop hxb q) m
    have hpl : ((xs.drop q).take m).length = m := by rw [List.length_take, List.length_drop]; omega
    have hb := fromB_bound _ hpb (by omega)
    rw [hpl] at hb
    have hok2 := okI_mk h1 h3 hb.1 hb.2.1
    have hB2 := intB_yes hok2
    have hsf := sfx_fromB _ hpb (by omega)
    rw [hpl] at hsf
    rw [Int.toNat_natCast, hsf] at hB2
    have C4 : Hid (∀ w, Calls Try.prog 17 #[.int .i64 (fromB ((xs.drop q).take m)), .int .i64 (m : Int)] w (NewInts w ((xs.drop q).take m) true)) := fun w => by
      have := impl_IntBytes (fromB ((xs.drop q).take m)) (m : Int) w ⟨by omega, by omega⟩ ⟨by omega, by omega⟩
      rwa [hok2, hB2] at this
    obtain ⟨a1, cap1, rfl, hl1, hm1, hc1⟩ := id iu
    unfold maxLen at hm1
    obtain ⟨b1, off1, rfl, hcell⟩ := hc1 (by omega)
    have idr := (iu.drop q (by omega)).take m (by omega)
    have he := beq_self ((xs.drop q).take m)
    obtain ⟨ys, hys⟩ := hid_eq ((xs.drop q).take m)
    rw [hys] at C2 C3 C4 idr he
    obtain ⟨n, hn⟩ := hid_eq (fromB ys)
    rw [hn] at C2 C3 C4
    have hcap : ¬ cap1 = q := by omega
    have q1 : (n != n) = false := by simp
    clear hok hpb hpl hb hok2 hB2 hsf hys hn hc1 hcell
    go_wp2_with fail
    refine C2.out.mono ?_
    rintro e w2 ⟨rfl, rfl⟩
    go_wp2_with fail
    refine C3.out.mono ?_
    rintro e w2 ⟨rfl, rfl⟩
    go_wp2_with fail
    refine (C4.out _).mono ?_
    rintro e w3 ⟨v3, rfl, own3, bel3⟩
    go_wp2_with fail
    refine (laws_sameInts v3 _ ys ys w3 own3.ints (idr.below bel3)).mono ?_
    rintro e w4 ⟨rfl, bel4⟩
    go_wp2_with fail
    go_ret
    exact ⟨rfl, Bstep (Bstep bel bel3) bel4⟩
theorem law_FnIntFromNot (w : World) (v : Value) (zs : List Int) (h : U8s w v zs) : Calls Try.prog 6 #[v] w (Yes w) := by
  have hv := h
  obtain ⟨a, cap, rfl, hl, hm, hc, hr⟩ := h
  clear hc hr
  unfold maxLen at hm
  by_cases hbig : 1048576 < zs.length
  · go_enter Try.func6, Try.ntmps6
    go_wp2
    go_ret
    exact ⟨rfl, Below.refl _ _⟩
  have D1 := Lib.hid (spec_DrawIntFrom _ zs w hv (by omega))
  clear hv
  go_enter Try.func6, Try.ntmps6
  go_wp2_with fail
  refine D1.out.mono ?_
  rintro e w1 ⟨u, xs, k, many, rfl, iu, xl, k0, k1, m0, m1, bel⟩
  have C2 := Lib.hid (impl_IntFrom u xs k many w1 iu ⟨by omega, by omega⟩ ⟨by omega, by omega⟩)
  have C3 := Lib.hid (spec_IntFrom u xs k many w1 iu ⟨by omega, by omega⟩ ⟨by omega, by omega⟩)
  cases hok : okF xs k many with
  | false =>
    rw [hok, numF_no hok] at C2 C3
    clear hok
    go_wp2_with fail
    refine C2.out.mono ?_
    rintro e w2 ⟨rfl, rfl⟩
    go_wp2_with fail
    refine C3.out.mono ?_
    rintro e w2 ⟨rfl, rfl⟩
    go_wp2_with fail
    go_ret
    exact ⟨rfl, bel⟩
  | true =>
    obtain ⟨q, m, rfl, rfl, h1, h3, hqm, hxb⟩ := okF_yes hok
    rw [hok, numF_yes hok, Int.toNat_natCast, Int.toNat_natCast] at C2 C3
    have f1 : okF xs (xs.length : Int) (m : Int) = false := okF_end (by omega)
    have f2 : okF xs ((xs.length : Int) - 1) 2 = false := okF_end (by omega)
    have C4 := Lib.hid (impl_IntFrom u xs (xs.length : Int) (m : Int) w1 iu ⟨by omega, by omega⟩ ⟨by omega, by omega⟩)
    have C5 := Lib.hid (impl_IntFrom u xs ((xs.length : Int) - 1) 2 w1 iu ⟨by omega, by omega⟩ ⟨by omega, by omega⟩)
    rw [f1, numF_no f1] at C4
    rw [f2, numF_no f2] at C5
    obtain ⟨a1, cap1, rfl, hl1, hm1, hc1⟩ := id iu
    unfold maxLen at hm1
    obtain ⟨n, hn⟩ := hid_eq (fromB ((xs.drop q).take m))
    rw [hn] at C2 C3
    have q1 : (n != n) = false := by simp
    clear hok hn hc1 f1 f2 hxb
    go_wp2_with fail
    refine C2.out.mono ?_
    rintro e w2 ⟨rfl, rfl⟩
    go_wp2_with fail
    refine C3.out.mono ?_
    rintro e w2 ⟨rfl, rfl⟩
    go_wp2_with fail
    refine C4.out.mono ?_
    rintro e w2 ⟨rfl, rfl⟩
    go_wp2_with fail
    refine C5.out.mono ?_
    rintro e w2 ⟨rfl, rfl⟩
    go_wp2_with fail
    go_ret
    exact ⟨rfl, bel⟩
theorem law_FnSum (w : World) (v : Value) (zs : List Int) (h : U8s w v zs) : Calls Try.prog 7 #[v] w (Yes w) := by
  have hv := h
  obtain ⟨a, cap, rfl, hl, hm, hc, hr⟩ := h
  clear hc hr
  unfold maxLen at hm
  by_cases hbig : 1048576 < zs.length
  · go_enter Try.func7, Try.ntmps7
    go_wp2
    go_ret
    exact ⟨rfl, Below.refl _ _⟩
  have D1 := Lib.hid (spec_DrawSumOf _ zs w hv (by omega))
  clear hv
  go_enter Try.func7, Try.ntmps7
  go_wp2_with fail
  refine D1.out.mono ?_
  rintro e w1 ⟨u, xs, rfl, hform, iu, xl, bel⟩
  clear hform
  have C2 := Lib.hid (impl_SumOf u xs w1 iu)
  have C3 := Lib.hid (spec_SumOf u xs w1 iu)
  cases hok : okBs xs with
  | false =>
    rw [sumV_no hok] at C2 C3
    clear hok
    go_wp2_with fail
    refine C2.out.mono ?_
    rintro e w2 ⟨rfl, rfl⟩
    go_wp2_with fail
    refine C3.out.mono ?_
    rintro e w2 ⟨rfl, rfl⟩
    go_wp2_with fail
    go_ret
    exact ⟨rfl, bel⟩
  | true =>
    rw [sumV_yes hok] at C2 C3
    have hb := sumB_bound xs
    have C4 : Hid (∀ v w, Ints w v [] → Calls Try.prog 24 #[v] w fun e w' => e = .returned (.int .i64 1) ∧ w = w') := fun v w h => impl_SumOf v [] w h
    obtain ⟨n, hn⟩ := hid_eq (sumB xs)
    rw [hn] at C2 C3 hb
    obtain ⟨hb0, hb1⟩ := hb
    have q1 : (n != n) = false := by simp
    have i0 : Ints (w1.alloc (.cells #[] 3)) (.slice (some ⟨w1.heap.size, 0, none⟩) 0 0) [] := (own_empty w1 w1.heap.size (Nat.le_refl _)).ints
    clear hok hn
    go_wp2_with fail
    refine C2.out.mono ?_
    rintro e w2 ⟨rfl, rfl⟩
    go_wp2_with fail
    refine C3.out.mono ?_
    rintro e w2 ⟨rfl, rfl⟩
    go_wp2_with fail
    refine (C4.out _ _ i0).mono ?_
    rintro e w2 ⟨rfl, rfl⟩
    go_wp2_with fail
    go_ret
    exact ⟨rfl, Bstep bel (alloc_below _ _)⟩
end Go.Proofs.Ytppppgkcgocgaaa
