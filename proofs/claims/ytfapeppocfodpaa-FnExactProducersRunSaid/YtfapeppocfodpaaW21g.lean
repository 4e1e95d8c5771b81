/- Chapter 21: a producer is put into a row; producers take a batch as the model says. -/
import Derived.Test.YtfapeppocfodpaaW21f
import Derived.Test.YtfapeppocfodpaaW21c
namespace Go.Proofs.Ytfapeppocfodpaa
open Go.ChangeShapes Go.WideShapes Go.ChangeAt Go.RowKit
set_option linter.unusedVariables false

theorem putR_drop (p : Trm) (ts : List Trm) (k : Nat) (hk : k < ts.length) (d : Bool) : putR p (ts.drop k) d = (if d = false ∧ p.num ≤ (tAt ts k).num then [p] else []) ++ (if (tAt ts k).num = p.num then [] else [tAt ts k]) ++ putR p (ts.drop (k + 1)) (d || decide (p.num ≤ (tAt ts k).num)) := by
  rw [List.drop_eq_getElem_cons hk, tAt_in hk]
  rfl
set_option maxRecDepth 100000 in
set_option maxHeartbeats 4000000 in
theorem spec_l21Put (v : Value) (ts : List Trm) (p : Trm) (w : World) (h : Ts w v ts) (hts : ts.length ≤ 1000) : Calls Try.prog 52 #[v, .agg #[.int .i64 p.num, .int .i64 p.first, .int .i64 p.third]] w (NewT w (putR p ts false)) := by
  obtain ⟨pn, pf, pt⟩ := p
  have hv := h
  obtain ⟨a, cap, rfl, hl, hm, hc⟩ := h
  unfold maxLen at hm
  clear hc
  have HD : Hid (∀ k, k < ts.length → ∀ d, putR ⟨pn, pf, pt⟩ (ts.drop k) d = (if d = false ∧ pn ≤ (tAt ts k).num then [⟨pn, pf, pt⟩] else []) ++ (if (tAt ts k).num = pn then [] else [tAt ts k]) ++ putR ⟨pn, pf, pt⟩ (ts.drop (k + 1)) (d || decide (pn ≤ (tAt ts k).num))) := Lib.hid fun k hk d => putR_drop ⟨pn, pf, pt⟩ ts k hk d
  have HE : Hid (∀ d, putR ⟨pn, pf, pt⟩ (ts.drop ts.length) d = if d = true then [] else [⟨pn, pf, pt⟩]) := Lib.hid fun d => by rw [List.drop_length]; rfl
  simp only
  have xP := Blk.made w #[.int .i64 pn, .int .i64 pf, .int .i64 pt] 61
  have bP := alloc_below' w (.cells #[.int .i64 pn, .int .i64 pf, .int .i64 pt] 61)
  have own0 := own_emptyT (w.alloc (.cells #[.int .i64 pn, .int .i64 pf, .int .i64 pt] 61)) (w.heap.size + 1) (by show _ ≤ (w.heap.push _).size; simp)
  have bE := alloc_below' (w.alloc (.cells #[.int .i64 pn, .int .i64 pf, .int .i64 pt] 61)) (.cells #[] 61)
  have xP1 := xP.belowS bE
  have B1 := Bstep bP bE
  have es : (w.alloc (.cells #[.int .i64 pn, .int .i64 pf, .int .i64 pt] 61)).heap.size = w.heap.size + 1 := by show (w.heap.push _).size = _; simp
  rw [es] at own0
  clear xP bP bE es
  obtain ⟨tgt, htgt⟩ : ∃ L, putR ⟨pn, pf, pt⟩ ts false = L := ⟨_, rfl⟩
  rw [htgt]
  have Hs : Hid ([] ++ putR ⟨pn, pf, pt⟩ (ts.drop 0) false = tgt) := Lib.hid (by rw [List.drop_zero, List.nil_append, htgt])
  clear htgt
  go_enter Try.func52, Try.ntmps52
  go_wp2_with fail
  generalize ((w.alloc (.cells #[.int .i64 pn, .int .i64 pf, .int .i64 pt] 61)).alloc (.cells #[] 61)) = w1 at own0 xP1 B1 ⊢
  obtain ⟨X, hX⟩ : ∃ X, w.heap.size = X := ⟨_, rfl⟩
  rw [hX] at xP1 own0 ⊢
  have HX := Lib.hid hX
  clear hX
  go_loopw [5, 6, 7] (fun u dn i wr => ∃ (k : Nat) (d : Bool) (pre : List Trm), k ≤ ts.length ∧ i = .int .i64 k ∧ dn = .bool d ∧ pre.length ≤ 2 * k ∧ OwnT wr (X + 1) u pre ∧ Hid (pre ++ putR ⟨pn, pf, pt⟩ (ts.drop k) d = tgt) ∧ Blk wr X #[.int .i64 pn, .int .i64 pf, .int .i64 pt] ∧ Below w.heap.size w wr) (fun _ _ i _ => ts.length - (intOf i).toNat)
  case atStart => exact ⟨0, false, [], Nat.zero_le _, rfl, rfl, by simp, own0, Hs, xP1, B1⟩
  case round =>
    clear own0 Hs xP1 B1
    obtain ⟨k, d, pre, hk, rfl, rfl, hpl, own_wr, hT, xP_wr, bel_wr⟩ := hrel
    have hsz := Nat.succ_le_of_lt xP_wr.lt
    have p0 := xP_wr.cell 0
    have p1 := xP_wr.cell 1
    have p2 := xP_wr.cell 2
    by_cases hlt : k < ts.length
    · obtain ⟨b, off, cp, e, -, -, -⟩ := (hv.below bel_wr).form (by omega)
      simp only [Value.slice.injEq, true_and] at e
      obtain ⟨rfl, rfl⟩ := e
      obtain ⟨c0, c1, c2⟩ := (hv.below bel_wr).cells k hlt
      have hd := HD.out k hlt d
      obtain ⟨t, ht⟩ : ∃ t, tAt ts k = t := ⟨_, rfl⟩
      rw [ht] at c0 c1 c2 hd
      obtain ⟨x, y, z⟩ := t
      simp only at c0 c1 c2 hd
      have Ht := Lib.hid ht
      have hT2 := hT.out
      rw [hd] at hT2
      have HT := Lib.hid hT2
      clear hT hT2 hd ht
      have i0 : (0 : Int) ≤ (k : Int) := by omega
      have i1 : (k : Int) < (ts.length : Int) := by omega
      by_cases heq : x = pn
      · have hzz := hlt
        have deq : (x != pn) = false := by simp [heq]
        have Heq := Lib.hid heq
        clear heq
        cases d with
        | true =>
          have hq := HT.out
          rw [if_neg (by simp), Bool.true_or] at hq
          rw [if_pos Heq.out] at hq
          have HQ := Lib.hid hq
          clear hq HT
          go_wp2_with fail
          go_quiet (fail)
          obtain ⟨wa, hwa⟩ : ∃ W, wr.drewN nq = W := ⟨_, rfl⟩
          rw [hwa]
          have bq := below_drewN (Below.refl wr.heap.size wr) nq
          rw [hwa] at bq
          have own_wa := own_wr.below bq
          have bel_wa := Bstep bel_wr bq
          have xP_wa := xP_wr.belowS bq
          have ht_wa := hv.below bel_wa
          clear hwa own_wr bel_wr xP_wr bq c0 c1 c2 p0 p1 p2
          obtain ⟨c0, c1, c2⟩ := ht_wa.cells k hlt
          rw [Ht.out] at c0 c1 c2
          simp only at c0 c1 c2
          have p0 := xP_wa.cell 0
          have p1 := xP_wa.cell 1
          have p2 := xP_wa.cell 2
          have hsz := Nat.succ_le_of_lt xP_wa.lt
          clear ht_wa
          go_wp2_with fail
          go_quiet (fail)
          obtain ⟨wc, hwc⟩ : ∃ W, wa.drewN nq = W := ⟨_, rfl⟩
          rw [hwc]
          have bq := below_drewN (Below.refl wa.heap.size wa) nq
          rw [hwc] at bq
          have own_wc := own_wa.below bq
          have bel_wc := Bstep bel_wa bq
          have xP_wc := xP_wa.belowS bq
          have ht_wc := hv.below bel_wc
          clear hwc own_wa bel_wa xP_wa bq c0 c1 c2 p0 p1 p2
          obtain ⟨c0, c1, c2⟩ := ht_wc.cells k hlt
          rw [Ht.out] at c0 c1 c2
          simp only at c0 c1 c2
          have p0 := xP_wc.cell 0
          have p1 := xP_wc.cell 1
          have p2 := xP_wc.cell 2
          have hsz := Nat.succ_le_of_lt xP_wc.lt
          clear ht_wc
          go_wp2_with fail
          go_roundw
          case rel => exact ⟨k + 1, true, pre, by omega, by go_num, rfl, by first | omega | (simp only [List.length_append, List.length_cons, List.length_nil]; omega), own_wc, Lib.hid (by have := HQ.out; simpa using this), xP_wc, bel_wc⟩
          case measure => simp [intOf]; omega
        | false =>
          by_cases hle : pn ≤ x
          · have dle : decide (pn ≤ x) = true := decide_eq_true hle
            have Hle := Lib.hid hle
            clear hle
            have hq := HT.out
            rw [if_pos ⟨rfl, Hle.out⟩, Bool.false_or, decide_eq_true Hle.out] at hq
            rw [if_pos Heq.out] at hq
            have HQ := Lib.hid hq
            clear hq HT
            go_wp2_with fail
            go_quiet (fail)
            obtain ⟨wa, hwa⟩ : ∃ W, wr.drewN nq = W := ⟨_, rfl⟩
            rw [hwa]
            have bq := below_drewN (Below.refl wr.heap.size wr) nq
            rw [hwa] at bq
            have own_wa := own_wr.below bq
            have bel_wa := Bstep bel_wr bq
            have xP_wa := xP_wr.belowS bq
            have ht_wa := hv.below bel_wa
            clear hwa own_wr bel_wr xP_wr bq c0 c1 c2 p0 p1 p2
            obtain ⟨c0, c1, c2⟩ := ht_wa.cells k hlt
            rw [Ht.out] at c0 c1 c2
            simp only at c0 c1 c2
            have p0 := xP_wa.cell 0
            have p1 := xP_wa.cell 1
            have p2 := xP_wa.cell 2
            have hsz := Nat.succ_le_of_lt xP_wa.lt
            clear ht_wa
            go_wp2_with (at_builtin; refine wp_appT rfl _ _ rfl (X + 1) u5 pre pn pf pt wa.heap.size rfl rfl rfl own_wa (by first | omega | (simp only [List.length_append, List.length_cons, List.length_nil]; omega)) hsz ?_; intro gwb cpwb wb own_wb grwb)
            have bel_wb := below_row bel_wa own_wa (show w.heap.size ≤ X + 1 by have := HX.out; omega) grwb
            have xP_wb := xP_wa.grown (fun e => by have := (own_wa.lt _ e).1; omega) grwb
            clear own_wa bel_wa xP_wa grwb hsz c0 c1 c2 p0 p1 p2
            obtain ⟨c0, c1, c2⟩ := (hv.below bel_wb).cells k hlt
            rw [Ht.out] at c0 c1 c2
            simp only at c0 c1 c2
            have p0 := xP_wb.cell 0
            have p1 := xP_wb.cell 1
            have p2 := xP_wb.cell 2
            have hsz := Nat.succ_le_of_lt xP_wb.lt
            go_quiet (fail)
            obtain ⟨wc, hwc⟩ : ∃ W, wb.drewN nq = W := ⟨_, rfl⟩
            rw [hwc]
            have bq := below_drewN (Below.refl wb.heap.size wb) nq
            rw [hwc] at bq
            have own_wc := own_wb.below bq
            have bel_wc := Bstep bel_wb bq
            have xP_wc := xP_wb.belowS bq
            have ht_wc := hv.below bel_wc
            clear hwc own_wb bel_wb xP_wb bq c0 c1 c2 p0 p1 p2
            obtain ⟨c0, c1, c2⟩ := ht_wc.cells k hlt
            rw [Ht.out] at c0 c1 c2
            simp only at c0 c1 c2
            have p0 := xP_wc.cell 0
            have p1 := xP_wc.cell 1
            have p2 := xP_wc.cell 2
            have hsz := Nat.succ_le_of_lt xP_wc.lt
            clear ht_wc
            go_wp2_with fail
            go_roundw
            case rel => exact ⟨k + 1, true, (pre ++ [⟨pn, pf, pt⟩]), by omega, by go_num, rfl, by first | omega | (simp only [List.length_append, List.length_cons, List.length_nil]; omega), own_wc, Lib.hid (by have := HQ.out; simpa using this), xP_wc, bel_wc⟩
            case measure => simp [intOf]; omega
          · have := Heq.out
            exact absurd (Int.le_of_eq this.symm) hle
      · have hzz := hlt
        have deq : (x != pn) = true := by simp [heq]
        have Heq := Lib.hid heq
        clear heq
        cases d with
        | true =>
          have hq := HT.out
          rw [if_neg (by simp), Bool.true_or] at hq
          rw [if_neg Heq.out] at hq
          have HQ := Lib.hid hq
          clear hq HT
          go_wp2_with fail
          go_quiet (fail)
          obtain ⟨wa, hwa⟩ : ∃ W, wr.drewN nq = W := ⟨_, rfl⟩
          rw [hwa]
          have bq := below_drewN (Below.refl wr.heap.size wr) nq
          rw [hwa] at bq
          have own_wa := own_wr.below bq
          have bel_wa := Bstep bel_wr bq
          have xP_wa := xP_wr.belowS bq
          have ht_wa := hv.below bel_wa
          clear hwa own_wr bel_wr xP_wr bq c0 c1 c2 p0 p1 p2
          obtain ⟨c0, c1, c2⟩ := ht_wa.cells k hlt
          rw [Ht.out] at c0 c1 c2
          simp only at c0 c1 c2
          have p0 := xP_wa.cell 0
          have p1 := xP_wa.cell 1
          have p2 := xP_wa.cell 2
          have hsz := Nat.succ_le_of_lt xP_wa.lt
          clear ht_wa
          go_wp2_with fail
          go_quiet (fail)
          obtain ⟨wc, hwc⟩ : ∃ W, wa.drewN nq = W := ⟨_, rfl⟩
          rw [hwc]
          have bq := below_drewN (Below.refl wa.heap.size wa) nq
          rw [hwc] at bq
          have own_wc := own_wa.below bq
          have bel_wc := Bstep bel_wa bq
          have xP_wc := xP_wa.belowS bq
          have ht_wc := hv.below bel_wc
          clear hwc own_wa bel_wa xP_wa bq c0 c1 c2 p0 p1 p2
          obtain ⟨c0, c1, c2⟩ := ht_wc.cells k hlt
          rw [Ht.out] at c0 c1 c2
          simp only at c0 c1 c2
          have p0 := xP_wc.cell 0
          have p1 := xP_wc.cell 1
          have p2 := xP_wc.cell 2
          have hsz := Nat.succ_le_of_lt xP_wc.lt
          clear ht_wc
          go_wp2_with (at_builtin; refine wp_appT rfl _ _ rfl (X + 1) u5 pre x y z wc.heap.size rfl rfl rfl own_wc (by first | omega | (simp only [List.length_append, List.length_cons, List.length_nil]; omega)) hsz ?_; intro gwd cpwd wd own_wd grwd)
          have bel_wd := below_row bel_wc own_wc (show w.heap.size ≤ X + 1 by have := HX.out; omega) grwd
          have xP_wd := xP_wc.grown (fun e => by have := (own_wc.lt _ e).1; omega) grwd
          clear own_wc bel_wc xP_wc grwd hsz c0 c1 c2 p0 p1 p2
          go_roundw
          case rel => exact ⟨k + 1, true, (pre ++ [⟨x, y, z⟩]), by omega, by go_num, rfl, by first | omega | (simp only [List.length_append, List.length_cons, List.length_nil]; omega), own_wd, Lib.hid (by have := HQ.out; simpa using this), xP_wd, bel_wd⟩
          case measure => simp [intOf]; omega
        | false =>
          by_cases hle : pn ≤ x
          · have dle : decide (pn ≤ x) = true := decide_eq_true hle
            have Hle := Lib.hid hle
            clear hle
            have hq := HT.out
            rw [if_pos ⟨rfl, Hle.out⟩, Bool.false_or, decide_eq_true Hle.out] at hq
            rw [if_neg Heq.out] at hq
            have HQ := Lib.hid hq
            clear hq HT
            go_wp2_with fail
            go_quiet (fail)
            obtain ⟨wa, hwa⟩ : ∃ W, wr.drewN nq = W := ⟨_, rfl⟩
            rw [hwa]
            have bq := below_drewN (Below.refl wr.heap.size wr) nq
            rw [hwa] at bq
            have own_wa := own_wr.below bq
            have bel_wa := Bstep bel_wr bq
            have xP_wa := xP_wr.belowS bq
            have ht_wa := hv.below bel_wa
            clear hwa own_wr bel_wr xP_wr bq c0 c1 c2 p0 p1 p2
            obtain ⟨c0, c1, c2⟩ := ht_wa.cells k hlt
            rw [Ht.out] at c0 c1 c2
            simp only at c0 c1 c2
            have p0 := xP_wa.cell 0
            have p1 := xP_wa.cell 1
            have p2 := xP_wa.cell 2
            have hsz := Nat.succ_le_of_lt xP_wa.lt
            clear ht_wa
            go_wp2_with (at_builtin; refine wp_appT rfl _ _ rfl (X + 1) u5 pre pn pf pt wa.heap.size rfl rfl rfl own_wa (by first | omega | (simp only [List.length_append, List.length_cons, List.length_nil]; omega)) hsz ?_; intro gwb cpwb wb own_wb grwb)
            have bel_wb := below_row bel_wa own_wa (show w.heap.size ≤ X + 1 by have := HX.out; omega) grwb
            have xP_wb := xP_wa.grown (fun e => by have := (own_wa.lt _ e).1; omega) grwb
            clear own_wa bel_wa xP_wa grwb hsz c0 c1 c2 p0 p1 p2
            obtain ⟨c0, c1, c2⟩ := (hv.below bel_wb).cells k hlt
            rw [Ht.out] at c0 c1 c2
            simp only at c0 c1 c2
            have p0 := xP_wb.cell 0
            have p1 := xP_wb.cell 1
            have p2 := xP_wb.cell 2
            have hsz := Nat.succ_le_of_lt xP_wb.lt
            go_quiet (fail)
            obtain ⟨wc, hwc⟩ : ∃ W, wb.drewN nq = W := ⟨_, rfl⟩
            rw [hwc]
            have bq := below_drewN (Below.refl wb.heap.size wb) nq
            rw [hwc] at bq
            have own_wc := own_wb.below bq
            have bel_wc := Bstep bel_wb bq
            have xP_wc := xP_wb.belowS bq
            have ht_wc := hv.below bel_wc
            clear hwc own_wb bel_wb xP_wb bq c0 c1 c2 p0 p1 p2
            obtain ⟨c0, c1, c2⟩ := ht_wc.cells k hlt
            rw [Ht.out] at c0 c1 c2
            simp only at c0 c1 c2
            have p0 := xP_wc.cell 0
            have p1 := xP_wc.cell 1
            have p2 := xP_wc.cell 2
            have hsz := Nat.succ_le_of_lt xP_wc.lt
            clear ht_wc
            go_wp2_with (at_builtin; refine wp_appT rfl _ _ rfl (X + 1) (.slice (some ⟨gwb, 0, none⟩) (pre.length + 1) cpwb) (pre ++ [⟨pn, pf, pt⟩]) x y z wc.heap.size rfl rfl rfl own_wc (by first | omega | (simp only [List.length_append, List.length_cons, List.length_nil]; omega)) hsz ?_; intro gwd cpwd wd own_wd grwd)
            have bel_wd := below_row bel_wc own_wc (show w.heap.size ≤ X + 1 by have := HX.out; omega) grwd
            have xP_wd := xP_wc.grown (fun e => by have := (own_wc.lt _ e).1; omega) grwd
            clear own_wc bel_wc xP_wc grwd hsz c0 c1 c2 p0 p1 p2
            rw [show (pre ++ [(⟨pn, pf, pt⟩ : Trm)]).length = pre.length + 1 by simp] at own_wd
            go_roundw
            case rel => exact ⟨k + 1, true, ((pre ++ [⟨pn, pf, pt⟩]) ++ [⟨x, y, z⟩]), by omega, by go_num, rfl, by first | omega | (simp only [List.length_append, List.length_cons, List.length_nil]; omega), own_wd, Lib.hid (by have := HQ.out; simpa using this), xP_wd, bel_wd⟩
            case measure => simp [intOf]; omega
          · have dle : decide (pn ≤ x) = false := decide_eq_false hle
            have Hle := Lib.hid hle
            clear hle
            have hq := HT.out
            rw [if_neg (fun q => absurd q.2 (by have := Hle.out; omega)), Bool.false_or, decide_eq_false (by have := Hle.out; omega)] at hq
            rw [if_neg Heq.out] at hq
            have HQ := Lib.hid hq
            clear hq HT
            go_wp2_with fail
            go_quiet (fail)
            obtain ⟨wa, hwa⟩ : ∃ W, wr.drewN nq = W := ⟨_, rfl⟩
            rw [hwa]
            have bq := below_drewN (Below.refl wr.heap.size wr) nq
            rw [hwa] at bq
            have own_wa := own_wr.below bq
            have bel_wa := Bstep bel_wr bq
            have xP_wa := xP_wr.belowS bq
            have ht_wa := hv.below bel_wa
            clear hwa own_wr bel_wr xP_wr bq c0 c1 c2 p0 p1 p2
            obtain ⟨c0, c1, c2⟩ := ht_wa.cells k hlt
            rw [Ht.out] at c0 c1 c2
            simp only at c0 c1 c2
            have p0 := xP_wa.cell 0
            have p1 := xP_wa.cell 1
            have p2 := xP_wa.cell 2
            have hsz := Nat.succ_le_of_lt xP_wa.lt
            clear ht_wa
            go_wp2_with fail
            go_quiet (fail)
            obtain ⟨wc, hwc⟩ : ∃ W, wa.drewN nq = W := ⟨_, rfl⟩
            rw [hwc]
            have bq := below_drewN (Below.refl wa.heap.size wa) nq
            rw [hwc] at bq
            have own_wc := own_wa.below bq
            have bel_wc := Bstep bel_wa bq
            have xP_wc := xP_wa.belowS bq
            have ht_wc := hv.below bel_wc
            clear hwc own_wa bel_wa xP_wa bq c0 c1 c2 p0 p1 p2
            obtain ⟨c0, c1, c2⟩ := ht_wc.cells k hlt
            rw [Ht.out] at c0 c1 c2
            simp only at c0 c1 c2
            have p0 := xP_wc.cell 0
            have p1 := xP_wc.cell 1
            have p2 := xP_wc.cell 2
            have hsz := Nat.succ_le_of_lt xP_wc.lt
            clear ht_wc
            go_wp2_with (at_builtin; refine wp_appT rfl _ _ rfl (X + 1) u5 pre x y z wc.heap.size rfl rfl rfl own_wc (by first | omega | (simp only [List.length_append, List.length_cons, List.length_nil]; omega)) hsz ?_; intro gwd cpwd wd own_wd grwd)
            have bel_wd := below_row bel_wc own_wc (show w.heap.size ≤ X + 1 by have := HX.out; omega) grwd
            have xP_wd := xP_wc.grown (fun e => by have := (own_wc.lt _ e).1; omega) grwd
            clear own_wc bel_wc xP_wc grwd hsz c0 c1 c2 p0 p1 p2
            go_roundw
            case rel => exact ⟨k + 1, false, (pre ++ [⟨x, y, z⟩]), by omega, by go_num, rfl, by first | omega | (simp only [List.length_append, List.length_cons, List.length_nil]; omega), own_wd, Lib.hid (by have := HQ.out; simpa using this), xP_wd, bel_wd⟩
            case measure => simp [intOf]; omega
    · obtain rfl : k = ts.length := by omega
      have hq := hT.out
      rw [HE.out] at hq
      have HQ := Lib.hid hq
      clear hq hT
      cases d with
      | true =>
        go_wp2_with fail
        go_ret
        have e : pre = tgt := by have := HQ.out; simpa using this
        rw [← e]
        exact ⟨_, rfl, own_wr.base (by have := HX.out; omega), bel_wr⟩
      | false =>
        go_wp2_with (at_builtin; refine wp_appT rfl _ _ rfl (X + 1) u5 pre pn pf pt wr.heap.size rfl rfl rfl own_wr (by omega) hsz ?_; intro gwb cpwb wb own_wb grwb)
        have bel_wb := below_row bel_wr own_wr (show w.heap.size ≤ X + 1 by have := HX.out; omega) grwb
        go_ret
        have e : pre ++ [⟨pn, pf, pt⟩] = tgt := by have := HQ.out; simpa using this
        rw [← e]
        exact ⟨_, rfl, own_wb.base (by have := HX.out; omega), bel_wb⟩
end Go.Proofs.Ytfapeppocfodpaa
