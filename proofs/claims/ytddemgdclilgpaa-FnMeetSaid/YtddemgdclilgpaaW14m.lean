/- Chapter 23: how far two rows of terms agree, by the model. -/
import Derived.Test.YtddemgdclilgpaaW14c
namespace Go.Proofs.Ytddemgdclilgpaa
open Go.ChangeShapes Go.WideShapes Go.ChangeAt Go.RowKit
set_option linter.unusedVariables false

theorem meetF_succ (a : List Trm) (ea : Int) (b : List Trm) (eb : Int) (k : Nat) : meetF a ea b eb (k + 1) = if comT a b k = true then meetV a ea b eb k else meetF a ea b eb k := rfl
theorem comT_none {a b : List Trm} {k : Nat} (h : ¬ findN b (tAt a k).num < b.length) : comT a b k = false := by
  unfold comT
  rw [decide_eq_false h]
  rfl
theorem comT_some {a b : List Trm} {k : Nat} (h : findN b (tAt a k).num < b.length) : comT a b k = decide ((tAt b (findN b (tAt a k).num)).first = (tAt a k).first) := by
  unfold comT
  rw [decide_eq_true h]
  rfl
set_option maxHeartbeats 2000000 in
theorem spec_TermsMeet (v u : Value) (a b : List Trm) (ea eb : Int) (w : World) (h : Ts w v a) (g : Ts w u b) : Calls Try.prog 10 #[v, .int .i64 ea, u, .int .i64 eb] w fun e w' => e = .returned (.int .i64 (meetI a ea b eb)) ∧ Below w.heap.size w w' := by
  have hv := h
  have hu := g
  have C1 := Lib.hid (spec_l23Ok v a ea w h)
  have C2 : Hid (∀ W, Below w.heap.size w W → Calls Try.prog 24 #[u, .int .i64 eb] W (Same W (endOk b eb))) := Lib.hid fun W hW => spec_l23Ok u b eb W (hu.below hW)
  have E0 : (endOk a ea && endOk b eb) = false → meetI a ea b eb = -1 := meetI_bad
  have E1 : endOk a ea = true → endOk b eb = true → meetI a ea b eb = meetF a ea b eb a.length := fun h k => meetI_yes h k
  obtain ⟨aa, ca, rfl, hl, hm, hc⟩ := h
  obtain ⟨ab, cb, rfl, hl', hm', hc'⟩ := g
  unfold maxLen at hm hm'
  clear hc hc'
  obtain ⟨r1, hr1⟩ : ∃ r, endOk a ea = r := ⟨_, rfl⟩
  obtain ⟨r2, hr2⟩ : ∃ r, endOk b eb = r := ⟨_, rfl⟩
  rw [hr1] at C1 E0 E1
  rw [hr2] at C2 E0 E1
  clear hr1 hr2
  cases r1 with
  | false =>
    rw [E0 rfl]
    clear E0 E1
    go_enter Try.func10, Try.ntmps10
    go_wp2_with fail
    (with_reducible refine C1.out.mono ?_)
    rintro e w1 ⟨rfl, b1⟩
    go_wp2_with fail
    go_ret
    exact ⟨rfl, b1⟩
  | true =>
  cases r2 with
  | false =>
    rw [E0 rfl]
    clear E0 E1
    go_enter Try.func10, Try.ntmps10
    go_wp2_with fail
    (with_reducible refine C1.out.mono ?_)
    rintro e w1 ⟨rfl, b1⟩
    go_wp2_with fail
    (with_reducible refine (C2.out w1 b1).mono ?_)
    rintro e w2 ⟨rfl, b2⟩
    go_wp2_with fail
    go_ret
    exact ⟨rfl, Bstep b1 b2⟩
  | true =>
    have HE := Lib.hid (E1 rfl rfl)
    clear E0 E1
    go_enter Try.func10, Try.ntmps10
    go_wp2_with fail
    (with_reducible refine C1.out.mono ?_)
    rintro e w1 ⟨rfl, b1⟩
    go_wp2_with fail
    (with_reducible refine (C2.out w1 b1).mono ?_)
    rintro e w2 ⟨rfl, b2⟩
    have B2 := Bstep b1 b2
    clear C1 C2 b1 b2
    go_wp2_with fail
    go_loopw [9, 10] (fun q i wr => ∃ k : Nat, k ≤ a.length ∧ i = .int .i64 k ∧ q = .int .i64 (meetF a ea b eb k) ∧ Below w.heap.size w wr) (fun _ i _ => a.length - (intOf i).toNat)
    case atStart => exact ⟨0, Nat.zero_le _, rfl, rfl, B2⟩
    case round =>
      clear B2
      obtain ⟨k, hk, rfl, rfl, bel⟩ := hrel
      by_cases hlt : k < a.length
      · obtain ⟨g1, off1, cp, e, _, _, hcell⟩ := (hv.below bel).form (by omega)
        simp only [Value.slice.injEq, true_and] at e
        obtain ⟨rfl, rfl⟩ := e
        have hub := hu.below bel
        obtain ⟨c0, c1⟩ := hcell k hlt
        have HS := Lib.hid (meetF_succ a ea b eb k)
        have C3 := Lib.hid (spec_l23At _ b (tAt a k).num wr hub)
        have C4 : Hid (∀ W, Below w.heap.size w W → Calls Try.prog 26 #[.slice (some ⟨g1, off1, none⟩) a.length ca, .int .i64 (k : Int), .int .i64 ea] W fun e w' => e = .returned (.int .i64 (endAtT a k ea)) ∧ W = w') := Lib.hid fun W hW => spec_l23End _ a k ea W (hv.below hW) hlt
        have C5 : Hid (∀ j, j < b.length → ∀ W, Below w.heap.size w W → Calls Try.prog 26 #[.slice ab b.length cb, .int .i64 (j : Int), .int .i64 eb] W fun e w' => e = .returned (.int .i64 (endAtT b j eb)) ∧ W = w') := Lib.hid fun j hj W hW => spec_l23End _ b j eb W (hu.below hW) hj
        have hmv : meetV a ea b eb k = min (endAtT a k ea) (endAtT b (findN b (tAt a k).num) eb) := rfl
        have HN := Lib.hid (fun h => comT_none (a := a) (b := b) (k := k) h)
        have HY := Lib.hid (fun h => comT_some (a := a) (b := b) (k := k) h)
        have HA := Lib.hid (findN_lt_dec b (tAt a k).num)
        obtain ⟨mf, hmf⟩ : ∃ x, meetF a ea b eb k = x := ⟨_, rfl⟩
        obtain ⟨mv, hmv'⟩ : ∃ x, meetV a ea b eb k = x := ⟨_, rfl⟩
        rw [hmf, hmv'] at HS
        rw [hmv'] at hmv
        obtain ⟨⟨x, y⟩, Ht⟩ : ∃ t, Hid (tAt a k = t) := ⟨_, Lib.hid rfl⟩
        rw [Ht.out] at c0 c1 C3 HN HY HA hmv
        simp only at c0 c1 C3 HN HY HA hmv
        obtain ⟨at_, hat⟩ : ∃ z, atI b x = z := ⟨_, rfl⟩
        obtain ⟨f, hf⟩ : ∃ z, findN b x = z := ⟨_, rfl⟩
        rw [hat] at C3 HA
        rw [hf] at HA HN HY hmv
        rw [hmf]
        clear hcell hat hf hmf hmv'
        rcases HA.out with ⟨hf, rfl⟩ | ⟨hf, rfl⟩
        · obtain ⟨g2, off2, cp2, e, _, _, hcell2⟩ := hub.form (by omega)
          simp only [Value.slice.injEq, true_and] at e
          obtain ⟨rfl, rfl⟩ := e
          have c2 := (hcell2 f hf).2
          obtain ⟨z, hz⟩ : ∃ z, (tAt b f).first = z := ⟨_, rfl⟩
          have hcom := HY.out hf
          rw [hz] at c2 hcom
          clear hcell2 hz HA HN HY
          have i0 : (0 : Int) ≤ (f : Int) := by omega
          have i1 : (f : Int) < (b.length : Int) := by omega
          have i2 : (0 : Int) ≤ (k : Int) := by omega
          have i3 : (k : Int) < (a.length : Int) := by omega
          have d0 : decide ((0 : Int) ≤ (f : Int)) = true := decide_eq_true i0
          by_cases hzy : z = y
          · have hq : (z == y) = true := by simp [hzy]
            have C5' := Lib.hid (C5.out f hf)
            have HS1 : Hid (meetF a ea b eb (k + 1) = mv) := Lib.hid (by rw [HS.out, hcom, decide_eq_true hzy]; rfl)
            clear hcom hzy HS C5
            obtain ⟨e1, he1⟩ : ∃ z, endAtT a k ea = z := ⟨_, rfl⟩
            obtain ⟨e2, he2⟩ : ∃ z, endAtT b f eb = z := ⟨_, rfl⟩
            rw [he1] at C4 hmv
            rw [he2] at C5' hmv
            clear he1 he2
            go_wp2_with fail
            (with_reducible refine C3.out.mono ?_)
            rintro e w3 ⟨rfl, rfl⟩
            go_wp2_with fail
            go_quiet (fail)
            go_wp2_with fail
            (with_reducible refine (C4.out _ (below_drewN bel _)).mono ?_)
            rintro e w4 ⟨rfl, rfl⟩
            go_wp2_with fail
            (with_reducible refine (C5'.out _ (below_drewN bel _)).mono ?_)
            rintro e w5 ⟨rfl, rfl⟩
            by_cases hle : e1 ≤ e2
            · have hmin : min e1 e2 = e1 := by omega
              have HV : Hid (mv = e1) := Lib.hid (by rw [hmv]; exact hmin)
              have dle : decide (e1 ≤ e2) = true := decide_eq_true hle
              have dlt : decide (e2 < e1) = false := decide_eq_false (by omega)
              clear hmv
              go_wp2_with fail
              go_roundw
              case rel => exact ⟨k + 1, by omega, by go_num, by rw [HS1.out, HV.out], below_drewN bel _⟩
              case measure => simp [intOf]; omega
            · have hmin : min e1 e2 = e2 := by omega
              have HV : Hid (mv = e2) := Lib.hid (by rw [hmv]; exact hmin)
              have dle : decide (e1 ≤ e2) = false := decide_eq_false hle
              have dlt : decide (e2 < e1) = true := decide_eq_true (by omega)
              clear hmv
              go_wp2_with fail
              go_roundw
              case rel => exact ⟨k + 1, by omega, by go_num, by rw [HS1.out, HV.out], below_drewN bel _⟩
              case measure => simp [intOf]; omega
          · have hq : (z == y) = false := by simp [hzy]
            have HS1 : Hid (meetF a ea b eb (k + 1) = mf) := Lib.hid (by rw [HS.out, hcom, decide_eq_false hzy]; rfl)
            clear hcom hzy HS C5 C4 hmv
            go_wp2_with fail
            (with_reducible refine C3.out.mono ?_)
            rintro e w3 ⟨rfl, rfl⟩
            go_wp2_with fail
            go_quiet (fail)
            go_wp2_with fail
            go_roundw
            case rel => exact ⟨k + 1, by omega, by go_num, by rw [HS1.out], below_drewN bel _⟩
            case measure => simp [intOf]; omega
        · have hcom := HN.out hf
          have HS1 : Hid (meetF a ea b eb (k + 1) = mf) := Lib.hid (by rw [HS.out, hcom]; rfl)
          have d0 : decide ((0 : Int) ≤ -1) = false := rfl
          clear hcom HS C5 C4 hmv HA HN HY
          go_wp2_with fail
          (with_reducible refine C3.out.mono ?_)
          rintro e w3 ⟨rfl, rfl⟩
          go_wp2_with fail
          go_quiet (fail)
          go_wp2_with fail
          go_roundw
          case rel => exact ⟨k + 1, by omega, by go_num, by rw [HS1.out], below_drewN bel _⟩
          case measure => simp [intOf]; omega
      · obtain rfl : k = a.length := by omega
        go_wp2_with fail
        go_ret
        exact ⟨ret_int HE.out.symm, bel⟩
end Go.Proofs.Ytddemgdclilgpaa
