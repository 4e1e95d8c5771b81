/- Chapter 4: the program packs. -/
import Derived.Test.YtkdikdkeaomobaaW4h
import Derived.Test.YtkdikdkeaomobaaW4j
namespace Go.Proofs.Ytkdikdkeaomobaa
open Go.ChangeShapes Go.WideShapes Go.ChangeAt Go.RowKit
set_option linter.unusedVariables false

theorem fits_of_ok {xs : List Int} (h : okBs xs = true) : Fits xs := fun i => by
  obtain ⟨h0, h1⟩ := okB_getD h i
  have hmin : IntKind.i64.min ≤ 0 := by decide
  have hmax : (255 : Int) ≤ IntKind.i64.max := by decide
  unfold Lit.wf
  simp only [Bool.and_eq_true, decide_eq_true_eq]
  exact ⟨Int.le_trans hmin h0, Int.le_trans h1 hmax⟩
theorem Own.keptP {w w' : World} {base b : Nat} {r : Value} {xs : List Int} (h : Own w base r xs) (hk : KeptP w w' b r) (hb : r.ownBlock ≠ some b) : Own w' base r xs := by
  refine ⟨h.1, ?_⟩
  have hlt := h.lt2
  rcases h.2 with h0 | ⟨g, cap, cur, e, hg, h1, rest⟩
  · exact .inl h0
  · have e1 : r.ownBlock = some g := by rw [e]; rfl
    exact .inr ⟨g, cap, cur, e, hg, (hk.2.2.2.2 g (hlt g e1) (.inr ⟨e1, fun e2 => hb (by rw [e1, e2])⟩)).trans h1, rest⟩
theorem Below.keptP {n b : Nat} {w a c : World} {r : Value} (h : Below n w a) (hk : KeptP a c b r) (hb : n ≤ b) (hn : n ≤ a.heap.size) : Below n w c :=
  ⟨hk.1.trans h.os, hk.2.1.trans h.tape, hk.2.2.1.trans h.output, Nat.le_trans h.size hk.2.2.2.1, fun k hlt => (hk.2.2.2.2 k (Nat.lt_of_lt_of_le hlt hn) (.inl (by omega))).trans (h.block k hlt)⟩
theorem drop_take_more (xs : List Int) {t j : Nat} (ht : t ≤ j) (hj : j < xs.length) : (xs.drop t).take (j - t) ++ [xs.getD j 0] = (xs.drop t).take (j + 1 - t) := by
  rw [show j + 1 - t = (j - t) + 1 by omega, List.take_add_one]
  congr 1
  rw [List.getElem?_drop, show t + (j - t) = j by omega, List.getElem?_eq_getElem hj]
  simp [List.getD, hj]
theorem Plc.moveG {w w' : World} {b n : Nat} {xs : List Int} {r r' : Value} (h : Plc w b xs n r) (hg : w.grownBy w' r.ownBlock) (hm : Moved w r r') (hb : r.ownBlock ≠ some b) : Plc w' b xs n r' := by
  have hlt := h.lt
  obtain ⟨es, clock, hbk, h1, h2, h3, h4, h5, h6⟩ := h
  refine ⟨es, clock, (hg.block b hlt fun e => hb e.symm).trans hbk, h1, h2, fun x hx => ?_, h4, h5, fun x hx k hk e => ?_⟩
  · obtain ⟨q, e, ho⟩ := h3 x hx
    refine ⟨q, e, ho.grown hg ?_⟩
    cases ex : x.val.ownBlock with
    | none => exact .inl rfl
    | some k => exact .inr fun e2 => h6 x hx k e2.symm ex
  · rcases hm with h | h
    · exact h6 x hx k (h ▸ hk) e
    · obtain ⟨q, _, ho⟩ := h3 x hx
      have h8 := ho.lt2 k e
      have h9 := h k hk
      omega
theorem Moved.ne {w : World} {b : Nat} {r r' : Value} (h : Moved w r r') (hr : r.ownBlock ≠ some b) (hb : b < w.heap.size) : r'.ownBlock ≠ some b := fun e => by
  rcases h with h | h
  · exact hr (h ▸ e)
  · have := h b e
    omega
set_option maxHeartbeats 4000000 in
theorem impl_PackBytes (v : Value) (xs : List Int) (w : World) (h : Ints w v xs) (hfl : xs.length ≤ 2000000) :
    Calls Try.prog 14 #[v] w (NewInts w (pckL xs) (pckB xs)) := by
  by_cases hl : xs.length ≤ 200
  · have d1 : decide ((200 : Int) < (xs.length : Int)) = false := decide_eq_false (by omega)
    have C1 := Lib.hid (impl_areBytes v xs w h)
    cases hok : okBs xs with
    | false =>
      rw [hok] at C1
      have e1 : pckB xs = false := by unfold pckB; rw [hok]; rfl
      rw [show pckL xs = [] by unfold pckL; rw [e1]; rfl, e1]
      obtain ⟨a, cap, rfl, l1, m1, c0⟩ := h
      clear hok e1 c0
      go_enter Try.func14, Try.ntmps14
      go_wp2_with fail
      refine C1.out.mono ?_
      rintro e w1 ⟨rfl, rfl⟩
      go_wp2_with fail
      go_ret2
      exact ⟨_, rfl, own_nil w _, Below.refl _ _⟩
    | true =>
      have hf := fits_of_ok hok
      rw [hok] at C1
      have e1 : pckB xs = true := pckB_iff.2 ⟨hok, hl⟩
      rw [show pckL xs = packP xs by unfold pckL; rw [e1]; rfl, e1]
      obtain ⟨R, hR⟩ : ∃ R, packP xs = R := ⟨_, rfl⟩
      have hRl : R.length ≤ 210 := by rw [← hR]; have := packP_len xs; omega
      rw [hR]
      have H0 : Hid ([] ++ packF xs (xs.length - 0) 0 ((xs.drop 0).take (0 - 0)) = R) := Lib.hid (by simpa [packP] using hR)
      have HR := Lib.hid hRl
      have HV : Hid (∀ W : World, Below w.heap.size w W → Ints W v xs) := Lib.hid fun W hW => h.below hW
      have hv := h
      obtain ⟨a, cap, rfl, l1, m1, c0⟩ := h
      unfold maxLen at m1
      have own0 : Own ((w.alloc (.cells #[] 3)).alloc (.map #[] 0)) w.heap.size (.slice (some ⟨w.heap.size, 0, none⟩) 0 0) [] := (own_empty w _ (Nat.le_refl _)).below (alloc_below' _ _)
      have hs1 : (w.alloc (.cells #[] 3)).heap.size = w.heap.size + 1 := by simp
      have P0 := Plc.made (w.alloc (.cells #[] 3)) xs (.slice (some ⟨w.heap.size, 0, none⟩) 0 0)
      rw [hs1] at P0
      have b0 := Bstep (alloc_below' w (.cells #[] 3)) (alloc_below' _ (.map #[] 0))
      clear hR hok e1 c0 hs1
      go_enter Try.func14, Try.ntmps14
      go_wp2_with fail
      refine C1.out.mono ?_
      rintro e w1 ⟨rfl, rfl⟩
      clear C1
      have hmk : (Instr.makeMap 37 none).run Try.prog (w.alloc (.cells #[] 3)) = .ok (.map (some (w.heap.size + 1))) ((w.alloc (.cells #[] 3)).alloc (.map #[] 0)) := by rw [show w.heap.size + 1 = (w.alloc (.cells #[] 3)).heap.size by simp]; rfl
      go_wp2_with fail
      clear hmk
      go_loopw [4, 6, 7] (fun r t i wr => ∃ (tn j : Nat) (cur : List Int), t = .int .i64 tn ∧ i = .int .i64 j ∧ tn ≤ j ∧ j ≤ xs.length ∧ Own wr w.heap.size r cur ∧ r.ownBlock ≠ some (w.heap.size + 1) ∧ Plc wr (w.heap.size + 1) xs j r ∧ Hid (cur ++ packF xs (xs.length - j) j ((xs.drop tn).take (j - tn)) = R) ∧ Below w.heap.size w wr) (fun _ _ i _ => xs.length - (intOf i).toNat)
      case atStart => exact ⟨0, 0, [], rfl, rfl, Nat.le_refl _, Nat.zero_le _, own0, by simp [Value.ownBlock], P0, H0, b0⟩
      case round =>
        clear own0 P0 H0 b0
        obtain ⟨tn, j, cur, rfl, rfl, htj, hj, hor, hrb, hP, heq, hbel⟩ := hrel
        have hcl : cur.length ≤ 210 := by have h1 := HR.out; rw [← heq.out, List.length_append] at h1; omega
        by_cases hlt : j < xs.length
        · have dj : decide ((j : Int) < (xs.length : Int)) = true := decide_eq_true (by omega)
          have hq := heq.out
          rw [show xs.length - j = (xs.length - (j + 1)) + 1 by omega] at hq
          unfold packF at hq
          rw [if_pos hlt, show min j 200 = j by omega] at hq
          have D1' := impl_longestMatch (w.heap.size + 1) j _ u4 xs wr (HV.out wr hbel) hP hf (by omega) hj
          rcases lng_best xs j with ⟨hL, hlg⟩ | ⟨hL, hlg⟩
          · rw [if_pos hL, drop_take_more xs htj hlt] at hq
            rw [hlg] at D1'
            have D1 := Lib.hid D1'
            have HQ := Lib.hid hq
            clear hL hlg hq D1' heq
            go_wp2_with fail
            refine D1.out.mono ?_
            rintro e w2 ⟨rfl, b2⟩
            have hor2 := hor.below b2
            have hP2 := hP.below b2
            have hbel2 := Bstep hbel b2
            have D2 := Lib.hid (impl_add (w.heap.size + 1) j _ u4 xs w2 (HV.out w2 hbel2) hP2 hf (by omega) hj hor2.lt2)
            have hs2 := hbel2.size
            clear hor hP hbel D1 b2
            go_wp2_with fail
            refine D2.out.mono ?_
            rintro e w3 ⟨rfl, P3, k3⟩
            have hor3 := hor2.keptP k3 hrb
            have hbel3 := Below.keptP hbel2 k3 (by omega) hs2
            go_wp2_with fail
            go_roundw
            case rel => exact ⟨tn, j + 1, cur, rfl, by go_num, by omega, by omega, hor3, hrb, P3, HQ, hbel3⟩
            case measure => simp [intOf]; omega
          · rw [if_neg (by omega)] at hq
            rw [hlg] at D1'
            obtain ⟨q1, q2, q3⟩ := bestB_le xs j j
            obtain ⟨⟨L, Bk⟩, hLB⟩ : ∃ g, bestB xs j j = g := ⟨_, rfl⟩
            rw [hLB] at D1' hq q1 q2 q3 hL
            simp only at hq q1 q2 q3 hL
            have e1 : ((61 + L : Nat) : Int) = (L : Int) + 61 := by omega
            rw [e1, packF_more xs (xs.length - (j + 1)) (xs.length - (j + L)) (j + L) [] (by omega) (by omega)] at hq
            have hpl : ((xs.drop tn).take (j - tn)).length ≤ 200 := by rw [List.length_take]; omega
            obtain ⟨us, hs, is⟩ := run_part hv tn (j - tn) (by omega)
            have hs' : ∀ W, (Instr.slice 23 (.slice a xs.length cap) (some (.int .i64 (tn : Int))) (some (.int .i64 (j : Int))) none).run Try.prog W = .ok us W := fun W => by
              have := hs W
              rwa [show (tn : Int) + ((j - tn : Nat) : Int) = (j : Int) by omega] at this
            obtain ⟨pend, hpe⟩ : ∃ pend, (xs.drop tn).take (j - tn) = pend := ⟨_, rfl⟩
            rw [hpe] at hq hpl
            have IS : Hid (∀ W, Ints W (.slice a xs.length cap) xs → Ints W us pend) := Lib.hid fun W hW => by rw [← hpe]; exact is W hW
            have D1 := Lib.hid D1'
            have HQ := Lib.hid hq
            have dL : ((L : Int) == 0) = false := by rw [beq_eq_false_iff_ne]; omega
            have hpp : (plainP pend).length ≤ 300 := by rw [plainP_len]; omega
            clear hlg hq D1' heq hLB e1 hs is hpe
            go_wp2_with fail
            refine D1.out.mono ?_
            rintro e w2 ⟨rfl, b2⟩
            have hor2 := hor.below b2
            have hP2 := hP.below b2
            have hbel2 := Bstep hbel b2
            have hs2 := hbel2.size
            have hb2 := hP2.lt
            have D3 := Lib.hid (impl_withPlain2 u4 us cur pend w.heap.size w2 hor2 (fun W hW => IS.out W (HV.out W (hbel2.trans hW))) hs2 (by omega) (by omega))
            clear hor hP hbel D1 b2
            go_wp2_with fail
            refine D3.out.mono ?_
            rintro e w3 ⟨v3, rfl, own3, g3, mv3⟩
            have P3 := hP2.moveG g3 mv3 hrb
            have hr3 := mv3.ne hrb hb2
            have hbel3 := hbel2.grown g3 hs2 hor2.lt
            have bl := alloc_below' w3 (.cells #[.int .i64 ((L : Int) + 61), .int .i64 (Bk : Int)] 3)
            have own4 := own3.below bl
            have P4 := P3.below bl
            have hbel4 := Bstep hbel3 bl
            have hs4 := hbel4.size
            have hb4 := P4.lt
            obtain ⟨pl, hpl2⟩ : ∃ pl, plainP pend = pl := ⟨_, rfl⟩
            rw [hpl2] at own4 hpp
            have HP := Lib.hid hpl2
            clear hor2 hP2 hbel2 D3 own3 g3 mv3 P3 bl hbel3 hpl2 hb2 hs2
            go_wp2_with (at_builtin; refine wp_appW rfl _ _ rfl w.heap.size v3 _ (cur ++ pl) [(L : Int) + 61, (Bk : Int)] rfl rfl own4 (lit2 w3 _ _) (by simp; omega) hs4 ?_; intro v5 w5 own5 g5 at5)
            have P5 := P4.moveG g5 (Moved.at at5) hr3
            have hr5 := (Moved.at at5).ne hr3 hb4
            have hbel5 := hbel4.grown g5 hs4 own4.lt
            obtain ⟨cur5, hc5⟩ : ∃ cur5, cur ++ pl ++ [(L : Int) + 61, (Bk : Int)] = cur5 := ⟨_, rfl⟩
            rw [hc5] at own5
            have HC5 := Lib.hid hc5
            clear P4 g5 at5 hbel4 own4 hs4 hb4 hr3 hc5
            go_loopw [7, 51] (fun i m ws => ∃ q : Nat, m = .int .i64 q ∧ q ≤ L ∧ i = .int .i64 ((j : Int) + (q : Int)) ∧ Own ws w.heap.size v5 cur5 ∧ Plc ws (w.heap.size + 1) xs (j + q) v5 ∧ Below w.heap.size w ws) (fun _ m _ => L - (intOf m).toNat)
            case atStart => exact ⟨0, rfl, Nat.zero_le _, by simp, own5, P5, hbel5⟩
            case round =>
              clear own5 P5 hbel5
              obtain ⟨q, rfl, hqL, rfl, hor6, P6, hbel6⟩ := hrel
              by_cases hlq : q < L
              · have dq : decide ((q : Int) < (L : Int)) = true := decide_eq_true (by omega)
                have D2' := impl_add (w.heap.size + 1) (j + q) _ v5 xs wr (HV.out wr hbel6) P6 hf (by omega) (by omega) hor6.lt2
                rw [show ((j + q : Nat) : Int) = (j : Int) + (q : Int) by omega] at D2'
                have D2 := Lib.hid D2'
                have hs6 := hbel6.size
                clear D2'
                go_wp2_with fail
                refine D2.out.mono ?_
                rintro e w7 ⟨rfl, P7, k7⟩
                have hor7 := hor6.keptP k7 hr5
                have hbel7 := Below.keptP hbel6 k7 (by omega) hs6
                go_wp2_with fail
                go_roundw
                case rel => exact ⟨q + 1, by go_num, by omega, by go_num, hor7, P7, hbel7⟩
                case measure => simp [intOf]; omega
              · have dq : decide ((q : Int) < (L : Int)) = false := decide_eq_false (by omega)
                have hqe : q = L := by omega
                have HQL := Lib.hid hqe
                clear hqe
                go_wp2_with fail
                go_roundw
                case rel =>
                  refine ⟨j + L, j + L, cur5, by have := HQL.out; subst this; go_num, by have := HQL.out; subst this; go_num, Nat.le_refl _, by omega, hor6, hr5, by have := HQL.out; subst this; exact P6, ?_, hbel6⟩
                  have hh := HQ.out
                  rw [HP.out] at hh
                  unfold Hid
                  rw [← hh, ← HC5.out, Nat.sub_self, List.take_zero]
                  simp
                case measure => have := HQL.out; simp [intOf]; omega
        · have hje : j = xs.length := by omega
          have hq := heq.out
          rw [hje, Nat.sub_self] at hq
          have hq2 : cur ++ plainP ((xs.drop tn).take (xs.length - tn)) = R := hq
          rw [List.take_of_length_le (by rw [List.length_drop]; omega)] at hq2
          have dj : decide ((j : Int) < (xs.length : Int)) = false := decide_eq_false (by omega)
          obtain ⟨a2, cap2, hs, is⟩ := run_from hv tn (by omega)
          have IS := Lib.hid is
          have hs2 := hbel.size
          have hdl : (xs.drop tn).length ≤ 1000 := by rw [List.length_drop]; omega
          have D3' := impl_withPlain2 u4 (.slice a2 (xs.length - tn) cap2) cur (xs.drop tn) w.heap.size wr hor (fun W hW => IS.out W (HV.out W (hbel.trans hW))) hs2 (by omega) hdl
          rw [hq2] at D3'
          have D3 := Lib.hid D3'
          clear hq hq2 heq is D3' hje hdl
          go_wp2_with fail
          refine D3.out.mono ?_
          rintro e w3 ⟨v3, rfl, own3, g3, mv3⟩
          have hbel3 := hbel.grown g3 hs2 hor.lt
          go_wp2_with fail
          go_ret2
          exact ⟨_, rfl, own3, hbel3⟩
  · have e1 : pckB xs = false := by unfold pckB; rw [decide_eq_false hl]; simp
    rw [show pckL xs = [] by unfold pckL; rw [e1]; rfl, e1]
    have d1 : decide ((200 : Int) < (xs.length : Int)) = true := decide_eq_true (by omega)
    obtain ⟨a, cap, rfl, l1, m1, c0⟩ := h
    unfold maxLen at m1
    clear e1 c0
    go_enter Try.func14, Try.ntmps14
    go_wp2_with fail
    go_ret2
    exact ⟨_, rfl, own_nil w _, Below.refl _ _⟩
end Go.Proofs.Ytkdikdkeaomobaa
