/- Chapter 4: how the model undoes packed forms. -/
import Derived.Test.YtkdikdkeaomobaaW4
namespace Go.Proofs.Ytkdikdkeaomobaa
open Go.ChangeShapes Go.WideShapes Go.ChangeAt Go.RowKit
set_option linter.unusedVariables false

theorem drop_cons0 (xs : List Int) (k : Nat) (h : k < xs.length) : xs.drop k = xs.getD k 0 :: xs.drop (k + 1) := by
  rw [List.drop_eq_getElem_cons h, getD_in _ _ h]

set_option maxHeartbeats 4000000 in
set_option maxRecDepth 100000 in
theorem spec_l4Unpack (v : Value) (form : List Int) (w : World) (h : Ints w v form) (hok : okBs form = true) (hfl : form.length ≤ 2000000) :
    Calls Try.prog 38 #[v] w (NewInts w ((unpackP form).getD []) (unpackP form).isSome) := by
  have hU : unpackG (form.drop 0) [] = unpackP form := by rw [List.drop_zero]; rfl
  obtain ⟨R, hR⟩ : ∃ R, unpackP form = R := ⟨_, rfl⟩
  rw [hR] at hU ⊢
  obtain ⟨r1, hr1⟩ : ∃ r, R.getD [] = r := ⟨_, rfl⟩
  obtain ⟨r2, hr2⟩ : ∃ r, R.isSome = r := ⟨_, rfl⟩
  rw [hr1, hr2]
  have E1 := Lib.hid hr1
  have E2 := Lib.hid hr2
  have HU := Lib.hid hU
  have HOK := Lib.hid hok
  have C0 : Hid (∀ (n lo hi : Int) (wn : World), Calls Try.prog 42 #[.int .i64 n, .int .i64 lo, .int .i64 hi] wn fun e w' => e = .returned (.bool (inR n lo hi)) ∧ wn = w') := fun n lo hi wn => spec_l6In n lo hi wn
  clear hR hU hr1 hr2 hok
  have hv := h
  obtain ⟨a, cap, rfl, l1, m1, c0⟩ := h
  unfold maxLen at m1
  have HC := Lib.hid c0
  have own0 := own_empty w w.heap.size (Nat.le_refl _)
  have b0 := alloc_below' w (.cells #[] 3)
  clear c0
  go_enter Try.func38, Try.ntmps38
  go_wp2_with fail
  go_loopw [4, 5] (fun r i wr => ∃ (k : Nat) (cur : List Int), i = .int .i64 k ∧ k ≤ form.length ∧ cur.length ≤ 200 ∧ Own wr w.heap.size r cur ∧ Hid (unpackG (form.drop k) cur = R) ∧ Below w.heap.size w wr) (fun _ i _ => form.length - (intOf i).toNat)
  case atStart => exact ⟨0, [], rfl, Nat.zero_le _, by simp, own0, HU, b0⟩
  case round =>
    obtain ⟨k, cur, rfl, hk, hcl, hown, hu, hbel⟩ := hrel
    by_cases hlt : k < form.length
    · obtain ⟨b, off, rfl, hcell0⟩ := HC.out (by omega)
      have hbl := World.block_lt_of_cell? w _ (hcell0 k hlt)
      have keepc : ∀ W, Below w.heap.size w W → ∀ i, i < form.length → W.cell? ⟨b, off + i, none⟩ = some (.int .i64 (form.getD i 0)) := fun W hW i hi => (hW.cell (p := ⟨b, off + i, none⟩) hbl).trans (hcell0 i hi)
      have KC := Lib.hid keepc
      have hx := keepc wr hbel k hlt
      have hd := drop_cons0 form k hlt
      have hokd := okBs_drop HOK.out k
      have hup := unpackG_piece (form := form.drop k) (out := cur) (by rw [hd]; simp)
      rw [hu.out] at hup
      rw [hd] at hokd hup
      obtain ⟨x, ex⟩ : ∃ x, form.getD k 0 = x := ⟨_, rfl⟩
      rw [ex] at hx hokd hup
      obtain ⟨⟨x0, x1⟩, hok2⟩ := okB_cons.1 hokd
      obtain ⟨p, rfl⟩ := Int.eq_ofNat_of_zero_le x0
      have hrl : (form.drop (k + 1)).length = form.length - (k + 1) := List.length_drop
      have hsz := hbel.size
      have hown2 := hown
      obtain ⟨a3, cap3, rfl, l3, m3, _⟩ := hown.ints
      unfold maxLen at m3
      unfold pieceP at hup
      simp only at hup
      clear keepc hcell0 hd hokd hown hu ex
      by_cases hp : (p : Int) < 64
      · rw [if_pos hp, Int.toNat_natCast] at hup
        have d0 : decide ((p : Int) < 64) = true := decide_eq_true hp
        by_cases hr : (form.drop (k + 1)).length < p + 1
        · rw [if_pos hr] at hup
          simp only at hup
          have d1 : decide ((form.length : Int) ≤ (k : Int) + ((p : Int) + 1)) = true := decide_eq_true (by omega)
          have F1 : Hid (r1 = []) := Lib.hid (by rw [← E1.out, hup]; rfl)
          have F2 : Hid (r2 = false) := Lib.hid (by rw [← E2.out, hup]; rfl)
          clear hup hr hrl E1 E2
          go_wp2_with fail
          go_ret2
          rw [F1.out, F2.out]
          exact ⟨_, rfl, own_empty wr _ hsz, Bstep hbel (alloc_below' _ _)⟩
        · rw [if_neg hr] at hup
          have d1 : decide ((form.length : Int) ≤ (k : Int) + ((p : Int) + 1)) = false := decide_eq_false (by omega)
          obtain ⟨us, hs, is⟩ := run_part hv (k + 1) (p + 1) (by omega)
          have hs' : ∀ W, (Instr.slice 23 (.slice (some ⟨b, off, none⟩) form.length cap) (some (.int .i64 ((k : Int) + 1))) (some (.int .i64 ((k : Int) + 1 + ((p : Int) + 1)))) none).run Try.prog W = .ok us W := hs
          have is2 := is wr (hv.below hbel)
          have hdd : form.drop (k + (p + 2)) = (form.drop (k + 1)).drop (p + 1) := by rw [List.drop_drop]; congr 1; omega
          have hdd2 : (form.getD k 0 :: form.drop (k + 1)).drop (p + 2) = form.drop (k + (p + 2)) := by rw [hdd]; rfl
          have hyl : ((form.drop (k + 1)).take (p + 1)).length ≤ 64 := by rw [List.length_take]; omega
          obtain ⟨ys, hys⟩ : ∃ ys, (form.drop (k + 1)).take (p + 1) = ys := ⟨_, rfl⟩
          rw [hys] at is2 hup hyl
          have hdd3 : ((p : Int) :: form.drop (k + 1)).drop (p + 2) = form.drop (k + (p + 2)) := by rw [hdd]; rfl
          simp only [hdd3] at hup
          have hkp : k + (p + 2) ≤ form.length := by omega
          by_cases hbig : 200 < (cur ++ ys).length
          · rw [if_pos hbig] at hup
            have F1 : Hid (r1 = []) := Lib.hid (by rw [← E1.out, hup]; rfl)
            have F2 : Hid (r2 = false) := Lib.hid (by rw [← E2.out, hup]; rfl)
            obtain ⟨zs, hzs⟩ : ∃ zs, cur ++ ys = zs := ⟨_, rfl⟩
            rw [hzs] at hbig
            have d5 : decide ((200 : Int) < (zs.length : Int)) = true := decide_eq_true (by omega)
            have d6 : decide (200 < zs.length) = true := decide_eq_true hbig
            have HZ := Lib.hid hzs
            clear hup hr hrl E1 E2 hs is hys hdd hdd2 hdd3 hzs
            go_wp2_with (at_builtin; refine wp_appI rfl _ _ rfl w.heap.size (.slice a3 cur.length cap3) us cur ys rfl rfl hown2 is2 (by omega) hsz ?_; intro v2 w2 own2 g2; have b2 := hbel.grown g2 hsz hown2.lt; rw [HZ.out] at own2; obtain ⟨a4, cap4, rfl, l4, m4, _⟩ := own2.ints; unfold maxLen at m4)
            go_ret2
            rw [F1.out, F2.out]
            exact ⟨_, rfl, own_empty w2 _ b2.size, Bstep b2 (alloc_below' _ _)⟩
          · rw [if_neg hbig] at hup
            have HUP := Lib.hid hup
            obtain ⟨zs, hzs⟩ : ∃ zs, cur ++ ys = zs := ⟨_, rfl⟩
            rw [hzs] at hbig
            have d5 : decide ((200 : Int) < (zs.length : Int)) = false := decide_eq_false (by omega)
            have d6 : decide (200 < zs.length) = false := decide_eq_false hbig
            have HZ := Lib.hid hzs
            clear hup hr hrl hs is hys hdd hdd2 hdd3 hzs
            go_wp2_with (at_builtin; refine wp_appI rfl _ _ rfl w.heap.size (.slice a3 cur.length cap3) us cur ys rfl rfl hown2 is2 (by omega) hsz ?_; intro v2 w2 own2 g2; have b2 := hbel.grown g2 hsz hown2.lt; rw [HZ.out] at own2; obtain ⟨a4, cap4, rfl, l4, m4, _⟩ := own2.ints; unfold maxLen at m4)
            go_roundw
            case rel => exact ⟨k + (p + 2), zs, by rw [show ((k + (p + 2) : Nat) : Int) = (k : Int) + 1 + ((p : Int) + 1) by omega], hkp, by omega, own2, Lib.hid (by rw [← HZ.out]; exact HUP.out.symm), b2⟩
            case measure => simp [intOf]; omega
      · rw [if_neg hp] at hup
        have d0 : decide ((p : Int) < 64) = false := decide_eq_false hp
        by_cases hq : (p : Int) < 128
        · rw [if_pos hq] at hup
          have d1 : decide ((p : Int) < 128) = true := decide_eq_true hq
          by_cases hend : k + 1 = form.length
          · have hnil : form.drop (k + 1) = [] := List.drop_eq_nil_of_le (by omega)
            rw [hnil] at hup
            simp only at hup
            have d2 : decide ((k : Int) + 1 < (form.length : Int)) = false := decide_eq_false (by omega)
            have F1 : Hid (r1 = []) := Lib.hid (by rw [← E1.out, hup]; rfl)
            have F2 : Hid (r2 = false) := Lib.hid (by rw [← E2.out, hup]; rfl)
            clear hup hrl E1 E2 hnil hend
            go_wp2_with fail
            go_ret2
            rw [F1.out, F2.out]
            exact ⟨_, rfl, own_empty wr _ hsz, Bstep hbel (alloc_below' _ _)⟩
          · have hlt2 : k + 1 < form.length := by omega
            have d2 : decide ((k : Int) + 1 < (form.length : Int)) = true := decide_eq_true (by omega)
            have hd2 := drop_cons0 form (k + 1) hlt2
            rw [hd2] at hup hok2
            obtain ⟨y, ey⟩ : ∃ y, form.getD (k + 1) 0 = y := ⟨_, rfl⟩
            rw [ey] at hup hok2
            have hy := (okB_cons.1 hok2).1
            obtain ⟨y, rfl⟩ := Int.eq_ofNat_of_zero_le hy.1
            simp only at hup
            have KY : Hid (∀ W, Below w.heap.size w W → W.cell? ⟨b, off + (k + 1), none⟩ = some (.int .i64 (y : Int))) := Lib.hid fun W hW => (KC.out W hW (k + 1) hlt2).trans (by rw [ey])
            have KX : Hid (∀ W, Below w.heap.size w W → W.cell? ⟨b, off + k, none⟩ = some (.int .i64 (p : Int))) := Lib.hid fun W hW => (hW.cell (p := ⟨b, off + k, none⟩) hbl).trans ((hbel.cell (p := ⟨b, off + k, none⟩) hbl).symm.trans hx)
            have hy2 := KY.out wr hbel
            have C1 := Lib.hid (C0.out (y : Int) 1 (cur.length : Int) wr)
            by_cases hy0 : (y : Int) < 1
            · rw [if_pos hy0] at hup
              rw [inR_lo hy0] at C1
              have F1 : Hid (r1 = []) := Lib.hid (by rw [← E1.out, hup]; rfl)
              have F2 : Hid (r2 = false) := Lib.hid (by rw [← E2.out, hup]; rfl)
              clear hup hrl E1 E2 hd2 hend ey hok2
              go_wp2_with fail
              refine C1.out.mono ?_
              rintro e w2 ⟨rfl, rfl⟩
              go_wp2_with fail
              go_ret2
              rw [F1.out, F2.out]
              exact ⟨_, rfl, own_empty wr _ hsz, Bstep hbel (alloc_below' _ _)⟩
            · rw [if_neg hy0] at hup
              by_cases hy1 : (cur.length : Int) < (y : Int)
              · rw [if_pos hy1] at hup
                rw [inR_hi hy1] at C1
                have F1 : Hid (r1 = []) := Lib.hid (by rw [← E1.out, hup]; rfl)
                have F2 : Hid (r2 = false) := Lib.hid (by rw [← E2.out, hup]; rfl)
                clear hup hrl E1 E2 hd2 hend ey hok2
                go_wp2_with fail
                refine C1.out.mono ?_
                rintro e w2 ⟨rfl, rfl⟩
                go_wp2_with fail
                go_ret2
                rw [F1.out, F2.out]
                exact ⟨_, rfl, own_empty wr _ hsz, Bstep hbel (alloc_below' _ _)⟩
              · rw [if_neg hy1] at hup
                rw [inR_yes (by omega) (by omega)] at C1
                obtain ⟨q, hq2⟩ : ∃ q : Nat, ((p : Int) - 61).toNat = q := ⟨_, rfl⟩
                have hqe : (p : Int) - 61 = (q : Int) := by omega
                have hq66 : q ≤ 66 := by omega
                rw [hq2, Int.toNat_natCast] at hup
                simp only at hup
                have hdd3 : ((p : Int) :: (y : Int) :: form.drop (k + 1 + 1)).drop 2 = form.drop (k + 2) := rfl
                rw [hdd3] at hup
                obtain ⟨R2, hR2⟩ : ∃ R2, repF q cur y = R2 := ⟨_, rfl⟩
                rw [hR2] at hup
                have HUP := Lib.hid hup
                have HQ := Lib.hid hqe
                have HR2 := Lib.hid hR2
                have hR2l : R2.length = cur.length + q := by rw [← hR2, repF_len]
                have HL2 := Lib.hid hR2l
                clear hup hrl hd2 hend ey hok2 hq2 hqe hdd3 hR2 hR2l hx hy2
                have hx := KX.out wr hbel
                have hy2 := KY.out wr hbel
                go_wp2_with fail
                refine C1.out.mono ?_
                rintro e w2 ⟨rfl, rfl⟩
                go_wp2_with fail
                obtain ⟨wo, rfl⟩ : ∃ wo : World, wo = wr := ⟨_, rfl⟩
                go_loopw [4, 7] (fun r i wq => ∃ (j : Nat) (cur2 : List Int), i = .int .i64 j ∧ j ≤ q ∧ cur2.length = cur.length + j ∧ Own wq w.heap.size r cur2 ∧ Hid (repF (q - j) cur2 y = R2) ∧ Below w.heap.size w wq) (fun _ i _ => q - (intOf i).toNat)
                case atStart => exact ⟨0, cur, rfl, Nat.zero_le _, rfl, hown2, HR2, hbel⟩
                case round =>
                  obtain ⟨j, cur2, rfl, hj, hcl2, hown3, hrep, hbel3⟩ := hrel
                  have hsz3 := hbel3.size
                  have hpq := HQ.out
                  have hx3 := KX.out _ hbel3
                  have hy3 := KY.out _ hbel3
                  clear hx hy2
                  by_cases hjq : j < q
                  · have d7 : decide ((j : Int) < (p : Int) - 61) = true := decide_eq_true (by omega)
                    obtain ⟨g, capg, rfl⟩ := hown3.form (by omega)
                    have hcell := hown3.ints.cell (cur2.length - y) (by omega)
                    rw [Nat.zero_add] at hcell
                    obtain ⟨m, hm⟩ : ∃ m, cur2.length - y = m := ⟨_, rfl⟩
                    obtain ⟨z, hz⟩ : ∃ z, cur2.getD (cur2.length - y) 0 = z := ⟨_, rfl⟩
                    rw [hm] at hz
                    rw [hm, hz] at hcell
                    have hss := hown3.ints.sizes
                    have hs2 := hss.2.1
                    have hs3 := hss.2.2
                    unfold maxLen at hs3
                    have s2 : (cur2.length : Int) - (y : Int) = (m : Int) := by omega
                    have q1 : (m : Int) < (cur2.length : Int) := by omega
                    have q2 : (0 : Int) ≤ (m : Int) := by omega
                    have HZ := Lib.hid hz
                    have HM := Lib.hid hm
                    have HC2 := Lib.hid hcl2
                    have hc2 : cur2.length ≤ 20000 := by omega
                    clear hz hm hcl2 hss hpq
                    go_wp2_with (at_builtin; refine wp_app1 rfl _ _ rfl w.heap.size (.slice (some ⟨g, 0, none⟩) cur2.length capg) cur2 _ rfl rfl hown3 (by omega) hsz3 ?_; intro v4 w4 own4 g4 hv4)
                    go_roundw
                    case rel =>
                      refine ⟨j + 1, cur2 ++ [z], by go_num, by omega, by rw [List.length_append, List.length_singleton, HC2.out]; omega, own4, ?_, hbel3.grown g4 hsz3 hown3.lt⟩
                      have hr := hrep.out
                      rw [show q - j = (q - (j + 1)) + 1 by omega] at hr
                      unfold repF at hr
                      rw [HM.out, HZ.out] at hr
                      exact hr
                    case measure => simp [intOf]; omega
                  · obtain rfl : j = q := by omega
                    have d7 : decide ((j : Int) < (p : Int) - 61) = false := decide_eq_false (by omega)
                    have hr := hrep.out
                    rw [Nat.sub_self] at hr
                    have e : cur2 = R2 := hr
                    clear hr hrep HR2 hcl2 hpq
                    subst e
                    have hl2 := HL2.out
                    obtain ⟨a5, cap5, rfl, l5, m5, _⟩ := hown3.ints
                    unfold maxLen at m5
                    have hk2 : k + 2 ≤ form.length := by omega
                    by_cases hbig : 200 < cur2.length
                    · have hup := HUP.out
                      rw [if_pos hbig] at hup
                      have F1 : Hid (r1 = []) := Lib.hid (by rw [← E1.out, hup]; rfl)
                      have F2 : Hid (r2 = false) := Lib.hid (by rw [← E2.out, hup]; rfl)
                      have d5 : decide ((200 : Int) < (cur2.length : Int)) = true := decide_eq_true (by omega)
                      have d6 : decide (200 < cur2.length) = true := decide_eq_true hbig
                      clear hup E1 E2 hl2
                      go_wp2_with fail
                      go_ret2
                      rw [F1.out, F2.out]
                      exact ⟨_, rfl, own_empty _ _ hsz3, Bstep hbel3 (alloc_below' _ _)⟩
                    · have hup := HUP.out
                      rw [if_neg hbig] at hup
                      have HUP2 := Lib.hid hup
                      have d5 : decide ((200 : Int) < (cur2.length : Int)) = false := decide_eq_false (by omega)
                      have d6 : decide (200 < cur2.length) = false := decide_eq_false hbig
                      clear hup hl2
                      go_wp2_with fail
                      go_roundw
                      case rel => exact ⟨k + 2, cur2, by go_num, hk2, by omega, hown3, Lib.hid HUP2.out.symm, hbel3⟩
                      case measure => simp [intOf]; omega
        · rw [if_neg hq] at hup
          simp only at hup
          have d1 : decide ((p : Int) < 128) = false := decide_eq_false hq
          have F1 : Hid (r1 = []) := Lib.hid (by rw [← E1.out, hup]; rfl)
          have F2 : Hid (r2 = false) := Lib.hid (by rw [← E2.out, hup]; rfl)
          clear hup hrl E1 E2
          go_wp2_with fail
          go_ret2
          rw [F1.out, F2.out]
          exact ⟨_, rfl, own_empty wr _ hsz, Bstep hbel (alloc_below' _ _)⟩
    · obtain rfl : k = form.length := by omega
      have hu2 := hu.out
      rw [List.drop_length, unpackG_nil] at hu2
      have F1 : Hid (r1 = cur) := Lib.hid (by rw [← E1.out, ← hu2]; rfl)
      have F2 : Hid (r2 = true) := Lib.hid (by rw [← E2.out, ← hu2]; rfl)
      clear hu2 E1 E2
      go_wp2_with fail
      go_ret2
      rw [F1.out, F2.out]
      exact ⟨_, rfl, hown, hbel⟩
theorem spec_UnpackBytes (v : Value) (form : List Int) (w : World) (h : Ints w v form) (hfl : form.length ≤ 2000000) :
    Calls Try.prog 19 #[v] w (NewInts w (unpL form) (unpB form)) := by
  have C1 := Lib.hid (spec_l1Ok v form w h)
  cases hok : okBs form with
  | false =>
    rw [hok] at C1
    rw [show unpL form = [] by unfold unpL; rw [hok]; rfl, show unpB form = false by unfold unpB; rw [hok]; rfl]
    clear hok
    go_enter Try.func19, Try.ntmps19
    go_wp2_with fail
    refine C1.out.mono ?_
    rintro e w1 ⟨rfl, rfl⟩
    go_wp2_with fail
    go_ret2
    exact ⟨_, rfl, own_empty w _ (Nat.le_refl _), alloc_below' _ _⟩
  | true =>
    have C2' := spec_l4Unpack v form w h hok hfl
    rw [hok] at C1
    rw [show unpL form = (unpackP form).getD [] by unfold unpL unpI; rw [hok]; rfl, show unpB form = (unpackP form).isSome by unfold unpB; rw [hok]; rfl]
    obtain ⟨r1, hr1⟩ : ∃ r, (unpackP form).getD [] = r := ⟨_, rfl⟩
    obtain ⟨r2, hr2⟩ : ∃ r, (unpackP form).isSome = r := ⟨_, rfl⟩
    rw [hr1, hr2] at C2' ⊢
    have C2 := Lib.hid C2'
    clear hok hr1 hr2 C2'
    go_enter Try.func19, Try.ntmps19
    go_wp2_with fail
    refine C1.out.mono ?_
    rintro e w1 ⟨rfl, rfl⟩
    go_wp2_with fail
    refine C2.out.mono ?_
    rintro e w2 ⟨u, rfl, own, bel⟩
    go_wp2_with fail
    go_ret2
    exact ⟨_, rfl, own, bel⟩
end Go.Proofs.Ytkdikdkeaomobaa
