/- Chapter 11: bytes are drawn; laws of reading. -/
import Derived.Test.YthlboonobepdaaaK11e
import Derived.Test.YthlboonobepdaaaW11j
namespace Go.Proofs.Ythlboonobepdaaa
open Go.ChangeShapes Go.WideShapes Go.ChangeAt Go.RowKit
set_option linter.unusedVariables false

/-- bytes that a law draws -/
def DrawnBs (w : World) (e : Ending) (w' : World) : Prop := ∃ (v : Value) (xs : List Int), e = .returned v ∧ Ints w' v xs ∧ xs.length ≤ 60 ∧ Below w.heap.size w w'
set_option maxHeartbeats 1000000 in
theorem spec_DrawOldFrom (v : Value) (zs : List Int) (w : World) (h : U8s w v zs) (hs : zs.length ≤ 1048576) :
    Calls Try.prog 18 #[v] w (DrawnBs w) := by
  have C1 := Lib.hid (spec_l6Open v zs w h hs)
  go_enter Try.func18, Try.ntmps18
  go_wp2_with fail
  refine C1.out.mono ?_
  rintro e w1 ⟨B, rfl, hB, hR, bel⟩
  go_wp2_with fail
  refine (spec_pick B _ 60 w1 hR (by omega) (by omega) (by omega)).mono ?_
  rintro e w2 ⟨k, rfl, hk, hR2, g2⟩
  have bel2 := below_of_grown bel hB g2
  clear hk bel g2 hR
  go_wp2_with fail
  refine (spec_l91Old B _ _ w2 hR2 (by omega)).mono ?_
  rintro e w3 ⟨m, u, rfl, own, l1, l2, hR3, g3⟩
  have bel3 := below_of_grown bel2 hB g3
  have C2 := Lib.hid (spec_OldBytes u m w3 own.mesV (by omega) (by omega))
  have hlen := mBi_len m
  have hge : Hid (mOk m = true → 8 ≤ (mBi m).length) := Lib.hid fun h => by
    have := mBytes_len h
    rw [mBi_yes h]
    split at this <;> omega
  obtain ⟨kv, vv, rfl, _, _⟩ := own
  obtain ⟨bs, hbs⟩ : ∃ bs, mBi m = bs := ⟨_, rfl⟩
  obtain ⟨b, hb⟩ : ∃ b, mOk m = b := ⟨_, rfl⟩
  rw [hbs] at C2 hlen hge
  rw [hb] at C2 hge
  have hB3 := hR3.lt
  clear hbs hb l1 l2 bel2 g3 hR2
  go_wp2_with fail
  refine C2.out.mono ?_
  rintro e w4 ⟨bv, rfl, ownb, b4⟩
  have bel4 := Bstep bel3 b4
  have hR4 := hR3.below b4
  clear bel3 hR3 b4 C2
  cases b with
  | false =>
    go_wp2_with fail
    go_returns
    have hb := heap_alloc_new w4 (.cells #[.int .i64 0, .int .i64 0, .int .i64 1, .int .i64 0, .int .i64 0, .int .i64 0, .int .i64 255, .int .i64 255] 3)
    exact ⟨_, [0, 0, 1, 0, 0, 0, 255, 255], rfl, ⟨_, 8, rfl, by simp, by unfold maxLen; omega, fun _ => ⟨_, 0, rfl, fun i hi => by rw [Nat.zero_add]; exact lit_cell [0, 0, 1, 0, 0, 0, 255, 255] hb i hi⟩⟩, by simp, Bstep bel4 (alloc_below' _ _)⟩
  | true =>
    have h8 := hge.out rfl
    clear hge
    obtain ⟨g, cap, rfl⟩ := ownb.form (by omega)
    go_wp2_with fail
    refine (spec_pick B _ _ w4 hR4 (by omega) (by omega) (by omega)).mono ?_
    rintro e w5 ⟨i, rfl, hi, hR5, g5⟩
    have own5 := ownb.by hB3 g5
    have bel5 := below_of_grown bel4 hB g5
    have hi2 : i < bs.length := by omega
    clear ownb bel4 g5 hR4 hi
    go_wp2_with fail
    refine (spec_pick B _ 6 w5 hR5 (by omega) (by omega) (by omega)).mono ?_
    rintro e w6 ⟨q, rfl, hq, hR6, g6⟩
    have own6 := own5.by hB3 g6
    have bel6 := below_of_grown bel5 hB g6
    clear own5 bel5 g6 hR5 hq
    by_cases q0 : q = 0
    · have e0 : ((q : Int) == 0) = true := by rw [beq_iff_eq]; omega
      go_wp2_with fail
      refine (spec_pick B _ 256 w6 hR6 (by omega) (by omega) (by omega)).mono ?_
      rintro e w7 ⟨y, rfl, hy, hR7, g7⟩
      have own7 := own6.by hB3 g7
      have bel7 := below_of_grown bel6 hB g7
      have hg3 := own7.lt g rfl
      have hs3 : w.heap.size ≤ g := by omega
      obtain ⟨⟨old, hc⟩, hf, hnew, hgr⟩ := own7.store rfl i hi2 (y : Int)
      have bel8 : Below w.heap.size w (w7.setCell ⟨g, i, none⟩ (.int .i64 (y : Int))) := bel7.setCell hs3 _
      clear hgr own7 own6 bel6 bel7
      go_wp2_with fail
      go_returns
      exact ⟨_, _, rfl, hnew.ints, by rw [List.length_set]; omega, bel8⟩
    · have e0 : ((q : Int) == 0) = false := by rw [beq_eq_false_iff_ne]; omega
      by_cases q1 : q = 1
      · have e1 : ((q : Int) == 1) = true := by rw [beq_iff_eq]; omega
        obtain ⟨_, _, e9, hl12, hm12, _⟩ := own6.ints
        simp only [Value.slice.injEq] at e9
        obtain ⟨rfl, _, rfl⟩ := e9
        unfold maxLen at hm12
        go_wp2_with fail
        go_returns
        exact ⟨_, bs.take i, rfl, own6.ints.take i (by omega), by rw [List.length_take]; omega, bel6⟩
      · have e1 : ((q : Int) == 1) = false := by rw [beq_eq_false_iff_ne]; omega
        go_wp2_with fail
        go_returns
        exact ⟨_, bs, rfl, own6.ints, by omega, bel6⟩
/-- what the reading of a message's bytes answers -/
def MOut (w : World) (m : Mes) (b : Bool) (e : Ending) (w' : World) : Prop := ∃ v, e = .returned (.tuple #[v, .bool b]) ∧ MesOwn w' w.heap.size v m ∧ Below w.heap.size w w'
theorem OldOut.as {w w' : World} {xs : List Int} {m : Mes} {b : Bool} {e : Ending} (h : OldOut w xs e w') (hg : rdM xs = (m, b)) : MOut w m b e w' := by
  obtain ⟨v, h1, h2, h3⟩ := h
  rw [hg] at h1 h2
  exact ⟨v, h1, h2, h3⟩
set_option maxHeartbeats 4000000 in
theorem law_FnOldFrom (w : World) (v : Value) (zs : List Int) (h : U8s w v zs) : Calls Try.prog 6 #[v] w (Yes w) := by
  have hU := h
  obtain ⟨a, cap, rfl, hl, hm, hc, hr⟩ := hU
  unfold maxLen at hm
  clear hc hr
  by_cases hlen : 1048576 < zs.length
  · have d0 : decide ((1048576 : Int) < (zs.length : Int)) = true := decide_eq_true (by omega)
    go_enter Try.func6, Try.ntmps6
    go_wp2_with fail
    go_ret
    exact ⟨rfl, Below.refl _ _⟩
  have d0 : decide ((1048576 : Int) < (zs.length : Int)) = false := decide_eq_false (by omega)
  have C0 := Lib.hid (spec_DrawOldFrom _ zs w h (by omega))
  clear h
  go_enter Try.func6, Try.ntmps6
  go_wp2_with fail
  refine C0.out.mono ?_
  rintro e w1 ⟨u, xs, rfl, hu, hxl, B1⟩
  obtain ⟨ax, cx, rfl, hxc, hxm, _⟩ := id hu
  unfold maxLen at hxm
  obtain ⟨⟨m, b⟩, hg⟩ : ∃ g, rdM xs = g := ⟨_, rfl⟩
  have HY : Hid (b = true → mOk m = true ∧ mBytes m = xs) := Lib.hid fun h => rdM_yes (by rw [hg, h])
  have C1 : Hid (∀ W u, Ints W u xs → Calls Try.prog 16 #[u] W (MOut W m b)) := Lib.hid fun W u hu => (impl_OldFrom u xs W hu).mono fun e w' h => h.as hg
  have C2 : Hid (∀ W u, Ints W u xs → Calls Try.prog 19 #[u] W (MOut W m b)) := Lib.hid fun W u hu => (spec_OldFrom u xs W hu (by omega)).mono fun e w' h => h.as hg
  have qb : (b != b) = false := by simp
  have qe : (b == b) = true := by simp
  clear hg C0
  obtain ⟨off, timed, time, key, val, hk, miss⟩ := m
  go_wp2_with fail
  refine (C1.out w1 _ hu).mono ?_
  rintro e w2 ⟨v1, rfl, own1, b2⟩
  obtain ⟨kv, vv, rfl, o1, o2, _⟩ := own1
  simp only at o1 o2
  obtain ⟨a1, k1, rfl⟩ := AppRes.lenOf o1
  obtain ⟨a2, k2, rfl⟩ := AppRes.lenOf o2
  have i1 := o1.ints
  have i2 := o2.ints
  have bN := alloc_below' w2 (.cells #[.int .i64 off, .bool timed, .int .i64 time, .slice a1 key.length k1, .slice a2 val.length k2, .bool hk, .bool miss] 25)
  have xN := Blk.made w2 #[.int .i64 off, .bool timed, .int .i64 time, .slice a1 key.length k1, .slice a2 val.length k2, .bool hk, .bool miss] 25
  clear o1 o2
  go_upto_region 5 with (fail)
  generalize hWn : w2.alloc (.cells #[.int .i64 off, .bool timed, .int .i64 time, .slice a1 key.length k1, .slice a2 val.length k2, .bool hk, .bool miss] 25) = w3 at bN xN ⊢
  clear hWn
  have B3 := Bstep (Bstep B1 b2) bN
  have u3 := (hu.below b2).below bN
  have i13 := i1.below bN
  have i23 := i2.below bN
  clear b2 bN i1 i2 B1 hu
  go_wp2_with fail
  refine (C2.out w3 _ u3).mono ?_
  rintro e w4 ⟨v2, rfl, own2, b4⟩
  obtain ⟨kv, vv, rfl, o3, o4, _⟩ := own2
  simp only at o3 o4
  obtain ⟨a3, k3, rfl⟩ := AppRes.lenOf o3
  obtain ⟨a4, k4, rfl⟩ := AppRes.lenOf o4
  have i3 := o3.ints
  have i4 := o4.ints
  have bM := alloc_below' w4 (.cells #[.int .i64 off, .bool timed, .int .i64 time, .slice a3 key.length k3, .slice a4 val.length k4, .bool hk, .bool miss] 25)
  have xM := Blk.made w4 #[.int .i64 off, .bool timed, .int .i64 time, .slice a3 key.length k3, .slice a4 val.length k4, .bool hk, .bool miss] 25
  clear o3 o4 C2
  go_upto_region 6 with (fail)
  generalize hWn : w4.alloc (.cells #[.int .i64 off, .bool timed, .int .i64 time, .slice a3 key.length k3, .slice a4 val.length k4, .bool hk, .bool miss] 25) = w5 at bM xM ⊢
  clear hWn
  have B5 := Bstep (Bstep B3 b4) bM
  have u5 := (u3.below b4).below bM
  have i15 := (i13.below b4).below bM
  have i25 := (i23.below b4).below bM
  have i35 := i3.below bM
  have i45 := i4.below bM
  have xN5 := (xN.belowS b4).belowS bM
  clear b4 bM i13 i23 i3 i4 B3 u3 xN
  have CS : Hid (∀ W, Below w5.heap.size w5 W → Calls Try.prog 17 #[.agg #[.int .i64 off, .bool timed, .int .i64 time, .slice a1 key.length k1, .slice a2 val.length k2, .bool hk, .bool miss], .agg #[.int .i64 off, .bool timed, .int .i64 time, .slice a3 key.length k3, .slice a4 val.length k4, .bool hk, .bool miss]] W (Same W true)) := Lib.hid fun W hW => laws_sameOld _ _ ⟨off, timed, time, key, val, hk, miss⟩ W ⟨_, _, rfl, i15.below hW, i25.below hW⟩ ⟨_, _, rfl, i35.below hW, i45.below hW⟩
  obtain ⟨c0, c1, c2, c3, c4, c5, c6⟩ := xN5.seven?
  obtain ⟨d1, d2, d3, d4, d5, d6, d7⟩ := xM.seven?
  go_wp2_with fail
  refine (CS.out w5 (Below.refl _ _)).mono ?_
  rintro e w6 ⟨rfl, b6⟩
  have xN6 := xN5.belowS b6
  have xM6 := xM.belowS b6
  have B6 := Bstep B5 b6
  have u6 := u5.below b6
  have i16 := i15.below b6
  have i26 := i25.below b6
  clear c0 c1 c2 c3 c4 c5 c6 d1 d2 d3 d4 d5 d6 d7 xN5 xM B5 u5 i15 i25 i35 i45
  obtain ⟨c0, c1, c2, c3, c4, c5, c6⟩ := xN6.seven?
  obtain ⟨d1, d2, d3, d4, d5, d6, d7⟩ := xM6.seven?
  cases b with
  | false =>
    go_wp2_with fail
    refine (CS.out w6 b6).mono ?_
    rintro e w7 ⟨rfl, b7⟩
    go_wp2_with fail
    go_ret
    exact ⟨rfl, Bstep B6 b7⟩
  | true =>
    obtain ⟨hok, hbx⟩ := HY.out rfl
    have HOK := Lib.hid hok
    have HBX := Lib.hid hbx
    clear HY d1 d2 d3 d4 d5 d6 d7 CS hok hbx xM6 b6
    have hl1 : key.length ≤ 12 ∧ val.length ≤ 12 := by
      obtain ⟨⟨_, _, p1, p2⟩, _⟩ := mOk_iff.1 HOK.out
      exact ⟨(partOk_iff.1 p1).2.2, (partOk_iff.1 p2).2.2⟩
    have hXB : mBi ⟨off, timed, time, key, val, hk, miss⟩ = xs := by rw [mBi_yes HOK.out]; exact HBX.out
    have CB := impl_OldBytes (.agg #[.int .i64 off, .bool timed, .int .i64 time, .slice a1 key.length k1, .slice a2 val.length k2, .bool hk, .bool miss]) ⟨off, timed, time, key, val, hk, miss⟩ w6 ⟨_, _, rfl, i16, i26⟩ (by simp only; omega) (by simp only; omega)
    rw [hXB, HOK.out] at CB
    have CB := Lib.hid CB
    have CV : Hid (∀ W, Below w6.heap.size w6 W → Calls Try.prog 20 #[.agg #[.int .i64 off, .bool timed, .int .i64 time, .slice a1 key.length k1, .slice a2 val.length k2, .bool hk, .bool miss]] W (Same W true)) := Lib.hid fun W hW => by
      have := impl_OldValid (.agg #[.int .i64 off, .bool timed, .int .i64 time, .slice a1 key.length k1, .slice a2 val.length k2, .bool hk, .bool miss]) ⟨off, timed, time, key, val, hk, miss⟩ W ⟨_, _, rfl, i16.below hW, i26.below hW⟩ (by simp only; omega) (by simp only; omega)
      rwa [HOK.out] at this
    clear hXB hl1
    go_wp2_with fail
    refine CB.out.mono ?_
    rintro e w7 ⟨v7, rfl, own7, b7⟩
    have xN7 := xN6.belowS b7
    have B7 := Bstep B6 b7
    have u7 := u6.below b7
    have own7i := own7.ints
    obtain ⟨a7, k7, rfl⟩ := AppRes.lenOf own7
    clear c0 c1 c2 c3 c4 c5 c6 xN6 B6 u6 i16 i26 own7
    obtain ⟨c0, c1, c2, c3, c4, c5, c6⟩ := xN7.seven?
    go_wp2_with fail
    refine (CV.out w7 b7).mono ?_
    rintro e w8 ⟨rfl, b8⟩
    have C5 := laws_sameInts _ _ xs xs w8 (own7i.below b8) (u7.below b8)
    rw [beq_self] at C5
    have C5 := Lib.hid C5
    have B8 := Bstep B7 b8
    clear c0 c1 c2 c3 c4 c5 c6 xN7 B7 u7 own7i b8 CV
    go_wp2_with fail
    refine C5.out.mono ?_
    rintro e w9 ⟨rfl, b9⟩
    go_wp2_with fail
    go_ret
    exact ⟨rfl, Bstep B8 b9⟩
set_option maxHeartbeats 4000000 in
theorem law_FnOldTorn (w : World) (v : Value) (zs : List Int) (h : U8s w v zs) : Calls Try.prog 7 #[v] w (Yes w) := by
  have hU := h
  obtain ⟨a, cap, rfl, hl, hm, hc, hr⟩ := hU
  unfold maxLen at hm
  clear hc hr
  by_cases hlen : 1048576 < zs.length
  · have d0 : decide ((1048576 : Int) < (zs.length : Int)) = true := decide_eq_true (by omega)
    go_enter Try.func7, Try.ntmps7
    go_wp2_with fail
    go_ret
    exact ⟨rfl, Below.refl _ _⟩
  have d0 : decide ((1048576 : Int) < (zs.length : Int)) = false := decide_eq_false (by omega)
  have C0 := Lib.hid (spec_DrawOldFrom _ zs w h (by omega))
  clear h
  go_enter Try.func7, Try.ntmps7
  go_wp2_with fail
  refine C0.out.mono ?_
  rintro e w1 ⟨u, xs, rfl, hu, hxl, B1⟩
  obtain ⟨ax, cx, rfl, hxc, hxm, _⟩ := id hu
  unfold maxLen at hxm
  obtain ⟨⟨m, b⟩, hg⟩ : ∃ g, rdM xs = g := ⟨_, rfl⟩
  have HY : Hid (b = true → mOk m = true ∧ mBytes m = xs) := Lib.hid fun h => rdM_yes (by rw [hg, h])
  have C1 : Hid (∀ W u, Ints W u xs → Calls Try.prog 16 #[u] W (MOut W m b)) := Lib.hid fun W u hu => (impl_OldFrom u xs W hu).mono fun e w' h => h.as hg
  have C2 : Hid (∀ W u, Ints W u xs → Calls Try.prog 19 #[u] W (MOut W m b)) := Lib.hid fun W u hu => (spec_OldFrom u xs W hu (by omega)).mono fun e w' h => h.as hg
  have qb : (b != b) = false := by simp
  have qe : (b == b) = true := by simp
  clear hg C0
  obtain ⟨off, timed, time, key, val, hk, miss⟩ := m
  go_wp2_with fail
  refine (C1.out w1 _ hu).mono ?_
  rintro e w2 ⟨v1, rfl, own1, b2⟩
  obtain ⟨kv, vv, rfl, o1, o2, _⟩ := own1
  simp only at o1 o2
  obtain ⟨a1, k1, rfl⟩ := AppRes.lenOf o1
  obtain ⟨a2, k2, rfl⟩ := AppRes.lenOf o2
  have i1 := o1.ints
  have i2 := o2.ints
  have bN := alloc_below' w2 (.cells #[.int .i64 off, .bool timed, .int .i64 time, .slice a1 key.length k1, .slice a2 val.length k2, .bool hk, .bool miss] 25)
  have xN := Blk.made w2 #[.int .i64 off, .bool timed, .int .i64 time, .slice a1 key.length k1, .slice a2 val.length k2, .bool hk, .bool miss] 25
  clear o1 o2
  go_upto_region 5 with (fail)
  generalize hWn : w2.alloc (.cells #[.int .i64 off, .bool timed, .int .i64 time, .slice a1 key.length k1, .slice a2 val.length k2, .bool hk, .bool miss] 25) = w3 at bN xN ⊢
  clear hWn
  have B3 := Bstep (Bstep B1 b2) bN
  have u3 := (hu.below b2).below bN
  have i13 := i1.below bN
  have i23 := i2.below bN
  clear b2 bN i1 i2 B1 hu
  go_wp2_with fail
  refine (C2.out w3 _ u3).mono ?_
  rintro e w4 ⟨v2, rfl, own2, b4⟩
  obtain ⟨kv, vv, rfl, o3, o4, _⟩ := own2
  simp only at o3 o4
  obtain ⟨a3, k3, rfl⟩ := AppRes.lenOf o3
  obtain ⟨a4, k4, rfl⟩ := AppRes.lenOf o4
  have i3 := o3.ints
  have i4 := o4.ints
  have bM := alloc_below' w4 (.cells #[.int .i64 off, .bool timed, .int .i64 time, .slice a3 key.length k3, .slice a4 val.length k4, .bool hk, .bool miss] 25)
  have xM := Blk.made w4 #[.int .i64 off, .bool timed, .int .i64 time, .slice a3 key.length k3, .slice a4 val.length k4, .bool hk, .bool miss] 25
  clear o3 o4 C2
  go_upto_region 6 with (fail)
  generalize hWn : w4.alloc (.cells #[.int .i64 off, .bool timed, .int .i64 time, .slice a3 key.length k3, .slice a4 val.length k4, .bool hk, .bool miss] 25) = w5 at bM xM ⊢
  clear hWn
  have B5 := Bstep (Bstep B3 b4) bM
  have u5 := (u3.below b4).below bM
  have i15 := (i13.below b4).below bM
  have i25 := (i23.below b4).below bM
  have i35 := i3.below bM
  have i45 := i4.below bM
  have xN5 := (xN.belowS b4).belowS bM
  clear b4 bM i13 i23 i3 i4 B3 u3 xN
  have CS : Hid (∀ W, Below w5.heap.size w5 W → Calls Try.prog 17 #[.agg #[.int .i64 off, .bool timed, .int .i64 time, .slice a1 key.length k1, .slice a2 val.length k2, .bool hk, .bool miss], .agg #[.int .i64 off, .bool timed, .int .i64 time, .slice a3 key.length k3, .slice a4 val.length k4, .bool hk, .bool miss]] W (Same W true)) := Lib.hid fun W hW => laws_sameOld _ _ ⟨off, timed, time, key, val, hk, miss⟩ W ⟨_, _, rfl, i15.below hW, i25.below hW⟩ ⟨_, _, rfl, i35.below hW, i45.below hW⟩
  obtain ⟨c0, c1, c2, c3, c4, c5, c6⟩ := xN5.seven?
  obtain ⟨d1, d2, d3, d4, d5, d6, d7⟩ := xM.seven?
  go_wp2_with fail
  refine (CS.out w5 (Below.refl _ _)).mono ?_
  rintro e w6 ⟨rfl, b6⟩
  have xN6 := xN5.belowS b6
  have xM6 := xM.belowS b6
  have B6 := Bstep B5 b6
  have u6 := u5.below b6
  have i16 := i15.below b6
  have i26 := i25.below b6
  clear c0 c1 c2 c3 c4 c5 c6 d1 d2 d3 d4 d5 d6 d7 xN5 xM B5 u5 i15 i25 i35 i45
  obtain ⟨c0, c1, c2, c3, c4, c5, c6⟩ := xN6.seven?
  obtain ⟨d1, d2, d3, d4, d5, d6, d7⟩ := xM6.seven?
  cases b with
  | false =>
    go_wp2_with fail
    refine (CS.out w6 b6).mono ?_
    rintro e w7 ⟨rfl, b7⟩
    go_wp2_with fail
    go_ret
    exact ⟨rfl, Bstep B6 b7⟩
  | true =>
    obtain ⟨hok, hbx⟩ := HY.out rfl
    have HOK := Lib.hid hok
    have HBX := Lib.hid hbx
    clear HY d1 d2 d3 d4 d5 d6 d7 CS hok hbx xM6 b6
    have hN8 : 8 ≤ xs.length := by
      have := mBytes_len HOK.out
      rw [HBX.out] at this
      split at this <;> omega
    have HM1 : rdM (xs.take (xs.length - 1)) = (Mes.zero, false) := by rw [← HBX.out]; exact rdM_short HOK.out
    have HM2 : rdM (xs ++ [0]) = (Mes.zero, false) := by rw [← HBX.out]; exact rdM_more HOK.out 0
    have s0 : IntKind.i64.wrap ((xs.length : Int) - 1) = ((xs.length - 1 : Nat) : Int) := by rw [IntWalk.i64_in _ ⟨by omega, by omega⟩]; omega
    have ut := u6.take (xs.length - 1) (by omega)
    have C6 := (impl_OldFrom _ _ w6 ut).mono fun e w' h => h.as HM1
    have C6 := Lib.hid C6
    clear ut HM1
    clear c0 c1 c2 c3 c4 c5 c6 xN6 i16 i26 C1
    go_wp2_with fail
    refine C6.out.mono ?_
    rintro e w7 ⟨v7, rfl, own7, b7⟩
    obtain ⟨kv7, vv7, rfl, o7, o8, _⟩ := own7
    obtain ⟨a7, k7, rfl⟩ := AppRes.lenOf o7
    obtain ⟨a8, k8, rfl⟩ := AppRes.lenOf o8
    have bF := alloc_below' w7 (.cells #[.int .i64 Mes.zero.off, .bool Mes.zero.timed, .int .i64 Mes.zero.time, .slice a7 Mes.zero.key.length k7, .slice a8 Mes.zero.val.length k8, .bool Mes.zero.hk, .bool Mes.zero.miss] 25)
    go_upto_region 9 with (fail)
    generalize hWn : w7.alloc (.cells #[.int .i64 Mes.zero.off, .bool Mes.zero.timed, .int .i64 Mes.zero.time, .slice a7 Mes.zero.key.length k7, .slice a8 Mes.zero.val.length k8, .bool Mes.zero.hk, .bool Mes.zero.miss] 25) = w8 at bF ⊢
    clear hWn
    have B8 := Bstep (Bstep B6 b7) bF
    have u8 := (u6.below b7).below bF
    clear B6 b7 bF u6 o7 o8 C6
    have own0 := own_empty w8 w8.heap.size (Nat.le_refl _)
    have bE := alloc_below' w8 (.cells #[] 3)
    have iu := u8.below bE
    have hyl : ([] : List Int).length + xs.length < 10000000000 := by simp; omega
    have hsE : w8.heap.size ≤ (w8.alloc (.cells #[] 3)).heap.size := bE.size
    have BE := Bstep B8 bE
    have hw8 : w.heap.size ≤ w8.heap.size := B8.size
    clear bE B8 u8
    go_upto_region 10 with (at_builtin; first
      | (refine wp_appI rfl (.tmp 58) (.tmp 59) rfl w8.heap.size (.slice (some ⟨w8.heap.size, 0, none⟩) 0 0) _ [] xs rfl rfl own0 iu hyl hsE ?_; intro v5 w9 own9 g9; rw [List.nil_append] at own9; have B9 : Below w.heap.size w w9 := BE.grown g9 BE.size (fun q hq => by have := own0.lt q hq; omega))
      | (refine wp_app1 rfl (.tmp 60) (.tmp 61) rfl w8.heap.size v5 xs _ rfl rfl own9 (by omega) (by have := g9.size; omega) ?_; intro v6 w10 own10 g10 hv10; have B10 : Below w.heap.size w w10 := B9.grown g10 B9.size (fun q hq => by have := own9.lt q hq; omega); have C7 := (impl_OldFrom _ _ w10 own10.ints).mono fun e w' h => h.as HM2; have C7 := Lib.hid C7))
    refine C7.out.mono ?_
    rintro e w11 ⟨v11, rfl, own11, b11⟩
    obtain ⟨kv9, vv9, rfl, o9, o0, _⟩ := own11
    obtain ⟨a9, k9, rfl⟩ := AppRes.lenOf o9
    obtain ⟨a0, k0, rfl⟩ := AppRes.lenOf o0
    have B11 := Bstep B10 b11
    have bG := alloc_below' w11 (.cells #[.int .i64 Mes.zero.off, .bool Mes.zero.timed, .int .i64 Mes.zero.time, .slice a9 Mes.zero.key.length k9, .slice a0 Mes.zero.val.length k0, .bool Mes.zero.hk, .bool Mes.zero.miss] 25)
    go_wp2_with fail
    go_ret
    exact ⟨rfl, Bstep B11 bG⟩
end Go.Proofs.Ythlboonobepdaaa
