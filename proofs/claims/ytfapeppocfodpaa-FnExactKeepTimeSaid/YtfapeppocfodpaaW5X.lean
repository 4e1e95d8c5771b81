/- Merged: W3i W5 W5b W5c. -/
import Derived.Test.YtfapeppocfodpaaWX3
import Derived.Test.YtfapeppocfodpaaB0
import Derived.Test.YtfapeppocfodpaaR5
import Derived.Test.YtfapeppocfodpaaG0
import Derived.BigQuiet
namespace Go.Proofs.Ytfapeppocfodpaa
open Go.ChangeShapes Go.WideShapes Go.ChangeAt Go.RowKit
set_option linter.unusedVariables false
set_option maxRecDepth 100000

-- W3i

theorem impl_isBase (o t : Int) (w : World) :
    Calls Try.prog 97 #[.int .i64 o, .int .i64 t] w fun e w' => e = .returned (.bool (baseOk o t)) ∧ w = w' := by
  unfold baseOk
  by_cases h1 : 0 ≤ o
  · have d1 : decide (0 ≤ o) = true := decide_eq_true h1
    by_cases h2 : o ≤ 99999
    · have d2 : decide (o ≤ 99999) = true := decide_eq_true h2
      rw [inR_yes h1 h2]
      by_cases h3 : 0 ≤ t
      · have d3 : decide (0 ≤ t) = true := decide_eq_true h3
        by_cases h4 : t ≤ 99999
        · have d4 : decide (t ≤ 99999) = true := decide_eq_true h4
          rw [inR_yes h3 h4]
          go_enter Try.func97, Try.ntmps97
          go_wp2
          go_ret
          exact ⟨rfl, rfl⟩
        · have d4 : decide (t ≤ 99999) = false := decide_eq_false h4
          rw [inR_hi (by omega)]
          go_enter Try.func97, Try.ntmps97
          go_wp2
          go_ret
          exact ⟨rfl, rfl⟩
      · have d3 : decide (0 ≤ t) = false := decide_eq_false h3
        rw [inR_lo (show t < 0 by omega)]
        go_enter Try.func97, Try.ntmps97
        go_wp2
        go_ret
        exact ⟨rfl, rfl⟩
    · have d2 : decide (o ≤ 99999) = false := decide_eq_false h2
      rw [inR_hi (show 99999 < o by omega), Bool.false_and]
      go_enter Try.func97, Try.ntmps97
      go_wp2
      go_ret
      exact ⟨rfl, rfl⟩
  · have d1 : decide (0 ≤ o) = false := decide_eq_false h1
    rw [inR_lo (show o < 0 by omega), Bool.false_and]
    go_enter Try.func97, Try.ntmps97
    go_wp2
    go_ret
    exact ⟨rfl, rfl⟩

theorem impl_isPart (has : Bool) (v : Value) (xs : List Int) (w : World) (h : Ints w v xs) :
    Calls Try.prog 98 #[.bool has, v] w fun e w' => e = .returned (.bool (partOk has xs)) ∧ w = w' := by
  have C1 := Lib.hid (impl_areBytes v xs w h)
  obtain ⟨a, cap, rfl, hl, hm, hc⟩ := h
  unfold maxLen at hm
  clear hc
  cases has with
  | true =>
    have e0 : partOk true xs = (okBs xs && decide (xs.length ≤ 12)) := by unfold partOk; simp
    rw [e0]
    clear e0
    by_cases h12 : xs.length ≤ 12
    · have d1 : decide ((xs.length : Int) ≤ 12) = true := decide_eq_true (by omega)
      rw [decide_eq_true h12, Bool.and_true]
      go_enter Try.func98, Try.ntmps98
      go_wp2_with fail
      refine C1.out.mono ?_
      rintro e w1 ⟨rfl, rfl⟩
      go_wp2_with fail
      go_ret
      exact ⟨rfl, rfl⟩
    · have d1 : decide ((xs.length : Int) ≤ 12) = false := decide_eq_false (by omega)
      rw [decide_eq_false h12, Bool.and_false]
      go_enter Try.func98, Try.ntmps98
      go_wp2_with fail
      go_ret
      exact ⟨rfl, rfl⟩
  | false =>
    by_cases h0 : xs.length = 0
    · obtain rfl : xs = [] := List.eq_nil_of_length_eq_zero h0
      clear h0 C1
      go_enter Try.func98, Try.ntmps98
      go_wp2_with fail
      go_ret
      exact ⟨rfl, rfl⟩
    · have e0 : partOk false xs = false := by unfold partOk; rw [decide_eq_false h0]; rfl
      rw [e0]
      have d0 : ((xs.length : Int) == 0) = false := by rw [beq_eq_false_iff_ne]; omega
      have d1 : (xs.length == 0) = false := by rw [beq_eq_false_iff_ne]; exact h0
      clear e0 C1
      go_enter Try.func98, Try.ntmps98
      go_wp2_with fail
      go_ret
      exact ⟨rfl, rfl⟩

theorem impl_RecordValid (v : Value) (r : Rec) (w : World) (h : RecV w v r) :
    Calls Try.prog 90 #[v] w (SaysB (recOk r) w) := by
  obtain ⟨kv, vv, rfl, ik, iv⟩ := h
  obtain ⟨off, time, hk, key, hv, val⟩ := r
  have C1 : Hid (∀ wn, Calls Try.prog 97 #[.int .i64 off, .int .i64 time] wn fun e w' => e = .returned (.bool (baseOk off time)) ∧ wn = w') := fun wn => impl_isBase off time wn
  have C3 : Hid (∀ wn, Ints wn kv key → Calls Try.prog 98 #[.bool hk, kv] wn fun e w' => e = .returned (.bool (partOk hk key)) ∧ wn = w') := fun wn hi => impl_isPart hk kv key wn hi
  have C4 : Hid (∀ wn, Ints wn vv val → Calls Try.prog 98 #[.bool hv, vv] wn fun e w' => e = .returned (.bool (partOk hv val)) ∧ wn = w') := fun wn hi => impl_isPart hv vv val wn hi
  have e0 : recOk ⟨off, time, hk, key, hv, val⟩ = (baseOk off time && partOk hk key && partOk hv val) := rfl
  rw [e0]
  simp only at ik iv
  have bel : Hid (∀ o : Obj, Below w.heap.size w (w.alloc o)) := fun o => (Below.refl _ _).alloc (Nat.le_refl _) _
  have iK : Hid (∀ o : Obj, Ints (w.alloc o) kv key) := fun o => ik.below (bel.out o)
  have iV : Hid (∀ o : Obj, Ints (w.alloc o) vv val) := fun o => iv.below (bel.out o)
  obtain ⟨b1, h1⟩ : ∃ b, baseOk off time = b := ⟨_, rfl⟩
  obtain ⟨b2, h2⟩ : ∃ b, partOk hk key = b := ⟨_, rfl⟩
  obtain ⟨b3, h3⟩ : ∃ b, partOk hv val = b := ⟨_, rfl⟩
  rw [h1] at C1 ⊢
  rw [h2] at C3 ⊢
  rw [h3] at C4 ⊢
  clear h1 h2 h3 e0
  go_enter Try.func90, Try.ntmps90
  go_wp2_with fail
  refine (C1.out _).mono ?_
  rintro e w1 ⟨rfl, rfl⟩
  cases b1 with
  | false =>
    go_wp2_with fail
    go_ret
    exact ⟨rfl, bel.out _⟩
  | true =>
    go_wp2_with fail
    refine (C3.out _ (iK.out _)).mono ?_
    rintro e w1 ⟨rfl, rfl⟩
    cases b2 with
    | false =>
      go_wp2_with fail
      go_ret
      exact ⟨rfl, bel.out _⟩
    | true =>
      go_wp2_with fail
      refine (C4.out _ (iV.out _)).mono ?_
      rintro e w1 ⟨rfl, rfl⟩
      go_wp2_with fail
      go_ret
      exact ⟨rfl, bel.out _⟩


theorem impl_withNumber (v : Value) (xs : List Int) (n : Int) (base : Nat) (w : World) (h : Own w base v xs) (hb : base ≤ w.heap.size) (hl : xs.length ≤ 100000000) (n0 : -1000000 ≤ n) (n1 : n ≤ 1000000) :
    Calls Try.prog 109 #[v, .int .i64 n] w (AppRes w base (xs ++ varB n)) := by
  have C1 := Lib.hid (impl_VarBytes n w ⟨by omega, by omega⟩)
  have hlen := varB_len n
  obtain ⟨ys, hys⟩ : ∃ ys, varB n = ys := ⟨_, rfl⟩
  rw [hys] at C1 hlen ⊢
  clear hys
  go_enter Try.func109, Try.ntmps109
  go_wp2_with fail
  refine C1.out.mono ?_
  rintro e w1 ⟨u, rfl, own1, b1⟩
  have own0 := h.below b1
  have bb : Below base w w1 := b1.mono hb
  have hs1 := Nat.le_trans hb b1.size
  go_wp2_with (at_builtin; refine wp_appI rfl _ _ rfl base v u xs ys rfl rfl own0 own1.ints (by omega) hs1 ?_; intro v2 w2 own2 g2)
  go_ret
  exact ⟨_, rfl, own2, bb.grown g2 hs1 own0.lt⟩

theorem impl_withPart (v u : Value) (xs ys : List Int) (has : Bool) (base : Nat) (w : World) (h : Own w base v xs) (hi : Ints w u ys) (hd : ∀ w' : World, Below base w w' → Ints w' u ys) (hb : base ≤ w.heap.size) (hl : xs.length ≤ 10000000) (hy : ys.length ≤ 1000) :
    Calls Try.prog 110 #[v, .bool has, u] w (AppRes w base (xs ++ putP has ys)) := by
  cases has with
  | false =>
    have C1 := Lib.hid (impl_withNumber v xs (-1) base w h hb (by omega) (by omega) (by omega))
    rw [show putP false ys = varB (-1) from rfl]
    obtain ⟨zs, hzs⟩ : ∃ zs, xs ++ varB (-1) = zs := ⟨_, rfl⟩
    rw [hzs] at C1 ⊢
    clear hzs
    go_enter Try.func110, Try.ntmps110
    go_wp2_with fail
    refine C1.out.mono ?_
    rintro e w1 ⟨u, rfl, own1, b1⟩
    go_wp2_with fail
    go_ret
    exact ⟨_, rfl, own1, b1⟩
  | true =>
    have C1 := Lib.hid (impl_withNumber v xs (ys.length : Int) base w h hb (by omega) (by omega) (by omega))
    have hlen := varB_len (ys.length : Int)
    rw [show putP true ys = varB ys.length ++ ys from rfl, ← List.append_assoc]
    obtain ⟨zs, hzs⟩ : ∃ zs, xs ++ varB (ys.length : Int) = zs := ⟨_, rfl⟩
    have hz : zs.length ≤ 20000000 := by rw [← hzs, List.length_append]; omega
    rw [hzs] at C1 ⊢
    have hi2 := hi
    obtain ⟨a, cap, rfl, hl1, hm, hc⟩ := hi2
    unfold maxLen at hm
    clear hzs hlen hc
    go_enter Try.func110, Try.ntmps110
    go_wp2_with fail
    refine C1.out.mono ?_
    rintro e w1 ⟨u1, rfl, own1, b1⟩
    have i1 := hd w1 b1
    have hs1 := Nat.le_trans hb b1.size
    go_wp2_with (at_builtin; refine wp_appI rfl _ _ rfl base u1 _ zs ys rfl rfl own1 i1 (by omega) hs1 ?_; intro v2 w2 own2 g2)
    go_ret
    exact ⟨_, rfl, own2, b1.grown g2 hs1 own1.lt⟩
-- W5

/-- a record of a row, taken apart -/
theorem Recs.parts {w : World} {b off n cap : Nat} {rs : List Rec} (h : Recs w (.slice (some ⟨b, off, .none⟩) n cap) rs) (i : Nat) (hi : i < rs.length) :
    ∃ (r : Rec) (a1 : Option Addr) (c1 : Nat) (a2 : Option Addr) (c2 : Nat), Hid (recAt rs i = r) ∧ RecC w b (off + i * 6) r (.slice a1 r.key.length c1) (.slice a2 r.val.length c2) := by
  obtain ⟨kv, vv, hR⟩ := h.rec i hi
  obtain ⟨a1, c1, rfl, _⟩ := id hR.2.2.2.2.2.2.1
  obtain ⟨a2, c2, rfl, _⟩ := id hR.2.2.2.2.2.2.2
  exact ⟨_, a1, c1, a2, c2, Lib.hid rfl, hR⟩
/-- the cells of a boxed record, and a cell beside them -/
def BoxAnd (W : World) (X : Nat) (v0 v1 v2 v3 v4 v5 : Value) (p : Addr) (u : Value) : Prop :=
  W.cell? ⟨X, 0, none⟩ = some v0 ∧ W.cell? ⟨X, 1, none⟩ = some v1 ∧ W.cell? ⟨X, 2, none⟩ = some v2 ∧ W.cell? ⟨X, 3, none⟩ = some v3 ∧ W.cell? ⟨X, 4, none⟩ = some v4 ∧ W.cell? ⟨X, 5, none⟩ = some v5 ∧ W.cell? p = some u

set_option maxHeartbeats 2000000 in
theorem impl_areInOrder (v : Value) (rs : List Rec) (w : World) (h : Recs w v rs) :
    Calls Try.prog 79 #[v] w (SaysB (ordOk rs) w) := by
  have hv := h
  obtain ⟨a, cap, rfl, hl, hm, hc⟩ := h
  unfold maxLen at hm
  clear hc
  go_enter Try.func79, Try.ntmps79
  go_wp2_with fail
  go_loopw [7] (fun i wr => ∃ k : Nat, k ≤ rs.length ∧ i = .int .i64 k ∧ (∀ j, j < k → stepOk rs j = true) ∧ Below w.heap.size w wr) (fun i _ => rs.length - (intOf i).toNat)
  case atStart => exact ⟨0, Nat.zero_le _, rfl, fun j hj => by omega, Below.refl _ _⟩
  case round =>
    obtain ⟨k, hk, rfl, hrel, bel⟩ := hrel
    by_cases hlt : k < rs.length
    · obtain ⟨b, off, cap', e, hm'⟩ := hv.form (by omega)
      simp only [Value.slice.injEq, true_and] at e
      obtain ⟨rfl, rfl⟩ := e
      have hvr := hv.below bel
      obtain ⟨r, a1, c1, a2, c2, Hr, hR⟩ := hvr.parts k hlt
      have hrec := hR.recV
      have hst : stepOk rs k = (recOk r && (decide (k = 0) || decide ((recAt rs (k - 1)).off < r.off))) := by unfold stepOk; rw [Hr.out]
      obtain ⟨ro, rt, rhk, rkey, rhv, rval⟩ := r
      obtain ⟨c0, c1', c2', c3, c4, c5, _, _⟩ := hR
      simp only at c0 c1' c2' c3 c4 c5 hrec hst
      have c00 := c0
      have HST := Lib.hid hst
      clear hst
      have C1 : Hid (∀ W, Below wr.heap.size wr W → Calls Try.prog 90 #[.agg #[.int .i64 ro, .int .i64 rt, .bool rhk, .slice a1 rkey.length c1, .bool rhv, .slice a2 rval.length c2]] W (SaysB (recOk ⟨ro, rt, rhk, rkey, rhv, rval⟩) W)) := fun W hW => impl_RecordValid _ _ W (hrec.below hW)
      obtain ⟨rb, hrb⟩ : ∃ rb, recOk ⟨ro, rt, rhk, rkey, rhv, rval⟩ = rb := ⟨_, rfl⟩
      have HS := HST.out
      rw [hrb] at C1 HS
      have HSH := Lib.hid HS
      clear hrb HS HST hrec
      go_upto_region 4 with (fail)
      have bX := alloc_below' wr (.cells #[.int .i64 ro, .int .i64 rt, .bool rhk, .slice a1 rkey.length c1, .bool rhv, .slice a2 rval.length c2] 83)
      have xX := Blk.made wr #[.int .i64 ro, .int .i64 rt, .bool rhk, .slice a1 rkey.length c1, .bool rhv, .slice a2 rval.length c2] 83
      generalize hW1 : wr.alloc (.cells #[.int .i64 ro, .int .i64 rt, .bool rhk, .slice a1 rkey.length c1, .bool rhv, .slice a2 rval.length c2] 83) = w1 at bX xX ⊢
      clear hW1 c0 c1' c2' c3 c4 c5
      obtain ⟨X, hX⟩ : ∃ X, wr.heap.size = X := ⟨_, rfl⟩
      rw [hX] at xX ⊢
      have HX := Lib.hid hX
      clear hX
      have hpu0 : wr.cell? ⟨b, off + k * 6, none⟩ = some (.int .i64 ro) := c00
      obtain ⟨p, u, Hpu, hpu⟩ : ∃ (p : Addr) (u : Int), Hid (k ≠ 0 → p = ⟨b, off + (k - 1) * 6, none⟩ ∧ u = (recAt rs (k - 1)).off) ∧ wr.cell? p = some (.int .i64 u) := by
        by_cases k0 : k = 0
        · exact ⟨_, _, Lib.hid fun h => absurd k0 h, hpu0⟩
        · obtain ⟨_, _, hp⟩ := hvr.rec (k - 1) (by omega)
          exact ⟨_, _, Lib.hid fun _ => ⟨rfl, rfl⟩, hp.1⟩
      have HS : Hid (∀ W, Below w1.heap.size w1 W → BoxAnd W X (.int .i64 ro) (.int .i64 rt) (.bool rhk) (.slice a1 rkey.length c1) (.bool rhv) (.slice a2 rval.length c2) p (.int .i64 u)) := Lib.hid fun W hW =>
        have B := Bstep bX hW
        have y := xX.belowS hW
        ⟨y.cell 0, y.cell 1, y.cell 2, y.cell 3, y.cell 4, y.cell 5, (B.cell (World.block_lt_of_cell? _ _ hpu)).trans hpu⟩
      have bdr : Below w1.heap.size w1 w1.drew := below_drewN (Below.refl _ _) 1
      have S1 := HS.out _ bdr
      have D1 := Lib.hid (C1.out w1.drew (Bstep bX bdr))
      refine wp_region_held_drew (S := fun W => BoxAnd W X (.int .i64 ro) (.int .i64 rt) (.bool rhk) (.slice a1 rkey.length c1) (.bool rhv) (.slice a2 rval.length c2) p (.int .i64 u)) (by kernel_rfl) S1 (fun hS => ?_)
      clear S1
      refine takeAt (i := 0) (v := ?_) rfl (by kernel_rfl) (by kernel_rfl) (by kernel_rfl) (fun _ _ _ h => h) (by kernel_rfl) (by assumption) (fun W hSW => ?_) ?_
      rotate_left
      · ((try unfold BoxAnd at hSW); (try unfold SixAnd at hSW); (try unfold FourT at hSW); (try unfold PutT at hSW); (try unfold TwoSix at hSW); go_simp; (try with_reducible rfl))
      simp only [Act.put, List.setIfInBounds_toArray, List.set_cons_zero, List.set_cons_succ]
      refine onlyAt (i := 1) (by kernel_rfl) rfl (by kernel_rfl) (fun K hK => ?_)
      go_simp
      refine D1.out.mono ?_
      rintro e w2 ⟨rfl, b2⟩
      have hS2 := HS.out w2 (Bstep bdr b2)
      have B2 := Bstep (Bstep bel bX) (Bstep bdr b2)
      refine hK.out _ _ hS2 ?_
      clear hK K hS D1 C1
      cases rb with
      | false =>
        refine takeAt (i := 2) (v := ?_) rfl (by kernel_rfl) (by kernel_rfl) (by kernel_rfl) (fun _ _ _ h => h) (by kernel_rfl) (by assumption) (fun W hSW => ?_) ?_
        rotate_left
        · ((try unfold BoxAnd at hSW); (try unfold SixAnd at hSW); (try unfold FourT at hSW); (try unfold PutT at hSW); (try unfold TwoSix at hSW); go_simp; (try with_reducible rfl))
        simp only [Act.put, List.setIfInBounds_toArray, List.set_cons_zero, List.set_cons_succ]
        refine takeAt (i := 3) (v := ?_) rfl (by kernel_rfl) (by kernel_rfl) (by kernel_rfl) (fun _ _ _ h => h) (by kernel_rfl) (by assumption) (fun W hSW => ?_) ?_
        rotate_left
        · ((try unfold BoxAnd at hSW); (try unfold SixAnd at hSW); (try unfold FourT at hSW); (try unfold PutT at hSW); (try unfold TwoSix at hSW); go_simp; (try with_reducible rfl))
        simp only [Act.put, List.setIfInBounds_toArray, List.set_cons_zero, List.set_cons_succ]
        refine passAt (i := 4) rfl (by kernel_rfl) (by kernel_rfl) (by kernel_rfl) (fun _ _ _ h => h) (by kernel_rfl) (by assumption) ?_
        simp only [Act.put, List.setIfInBounds_toArray, List.set_cons_zero, List.set_cons_succ]
        refine passAt (i := 5) rfl (by kernel_rfl) (by kernel_rfl) (by kernel_rfl) (fun _ _ _ h => h) (by kernel_rfl) (by assumption) ?_
        simp only [Act.put, List.setIfInBounds_toArray, List.set_cons_zero, List.set_cons_succ]
        refine passAt (i := 6) rfl (by kernel_rfl) (by kernel_rfl) (by kernel_rfl) (fun _ _ _ h => h) (by kernel_rfl) (by assumption) ?_
        simp only [Act.put, List.setIfInBounds_toArray, List.set_cons_zero, List.set_cons_succ]
        refine passAt (i := 7) rfl (by kernel_rfl) (by kernel_rfl) (by kernel_rfl) (fun _ _ _ h => h) (by kernel_rfl) (by assumption) ?_
        simp only [Act.put, List.setIfInBounds_toArray, List.set_cons_zero, List.set_cons_succ]
        refine passAt (i := 8) rfl (by kernel_rfl) (by kernel_rfl) (by kernel_rfl) (fun _ _ _ h => h) (by kernel_rfl) (by assumption) ?_
        simp only [Act.put, List.setIfInBounds_toArray, List.set_cons_zero, List.set_cons_succ]
        refine passAt (i := 9) rfl (by kernel_rfl) (by kernel_rfl) (by kernel_rfl) (fun _ _ _ h => h) (by kernel_rfl) (by assumption) ?_
        simp only [Act.put, List.setIfInBounds_toArray, List.set_cons_zero, List.set_cons_succ]
        refine passAt (i := 10) rfl (by kernel_rfl) (by kernel_rfl) (by kernel_rfl) (fun _ _ _ h => h) (by kernel_rfl) (by assumption) ?_
        simp only [Act.put, List.setIfInBounds_toArray, List.set_cons_zero, List.set_cons_succ]
        refine passAt (i := 11) rfl (by kernel_rfl) (by kernel_rfl) (by kernel_rfl) (fun _ _ _ h => h) (by kernel_rfl) (by assumption) ?_
        simp only [Act.put, List.setIfInBounds_toArray, List.set_cons_zero, List.set_cons_succ]
        refine passAt (i := 12) rfl (by kernel_rfl) (by kernel_rfl) (by kernel_rfl) (fun _ _ _ h => h) (by kernel_rfl) (by assumption) ?_
        simp only [Act.put, List.setIfInBounds_toArray, List.set_cons_zero, List.set_cons_succ]
        refine passAt (i := 13) rfl (by kernel_rfl) (by kernel_rfl) (by kernel_rfl) (fun _ _ _ h => h) (by kernel_rfl) (by assumption) ?_
        simp only [Act.put, List.setIfInBounds_toArray, List.set_cons_zero, List.set_cons_succ]
        refine passAt (i := 14) rfl (by kernel_rfl) (by kernel_rfl) (by kernel_rfl) (fun _ _ _ h => h) (by kernel_rfl) (by assumption) ?_
        simp only [Act.put, List.setIfInBounds_toArray, List.set_cons_zero, List.set_cons_succ]
        refine passAt (i := 15) rfl (by kernel_rfl) (by kernel_rfl) (by kernel_rfl) (fun _ _ _ h => h) (by kernel_rfl) (by assumption) ?_
        simp only [Act.put, List.setIfInBounds_toArray, List.set_cons_zero, List.set_cons_succ]
        refine passAt (i := 16) rfl (by kernel_rfl) (by kernel_rfl) (by kernel_rfl) (fun _ _ _ h => h) (by kernel_rfl) (by assumption) ?_
        simp only [Act.put, List.setIfInBounds_toArray, List.set_cons_zero, List.set_cons_succ]
        refine takeAt (i := 17) (v := ?_) rfl (by kernel_rfl) (by kernel_rfl) (by kernel_rfl) (fun _ _ _ h => h) (by kernel_rfl) (by assumption) (fun W hSW => ?_) ?_
        rotate_left
        · ((try unfold BoxAnd at hSW); (try unfold SixAnd at hSW); (try unfold FourT at hSW); (try unfold PutT at hSW); (try unfold TwoSix at hSW); go_simp; (try with_reducible rfl))
        simp only [Act.put, List.setIfInBounds_toArray, List.set_cons_zero, List.set_cons_succ]
        refine wpAnyH_done (by kernel_rfl) ?_ _
        go_wp2_with fail
        go_ret
        exact ⟨ret_bool (ordOk_no hlt HSH.out).symm, B2⟩
      | true =>
        by_cases k0 : k = 0
        · have d0 : decide ((0 : Int) < (k : Int)) = false := decide_eq_false (by omega)
          have H1 : ∀ j, j < k + 1 → stepOk rs j = true := fun j hj => by
            by_cases e : j = k
            · rw [e, HSH.out, decide_eq_true k0]; rfl
            · exact hrel j (by omega)
          have d0n : decide (0 < k) = false := decide_eq_false (by omega)
          clear k0 Hpu
          refine takeAt (i := 2) (v := ?_) rfl (by kernel_rfl) (by kernel_rfl) (by kernel_rfl) (fun _ _ _ h => h) (by kernel_rfl) (by assumption) (fun W hSW => ?_) ?_
          rotate_left
          · ((try unfold BoxAnd at hSW); (try unfold SixAnd at hSW); (try unfold FourT at hSW); (try unfold PutT at hSW); (try unfold TwoSix at hSW); go_simp; (try with_reducible rfl))
          simp only [Act.put, List.setIfInBounds_toArray, List.set_cons_zero, List.set_cons_succ]
          refine takeAt (i := 3) (v := ?_) rfl (by kernel_rfl) (by kernel_rfl) (by kernel_rfl) (fun _ _ _ h => h) (by kernel_rfl) (by assumption) (fun W hSW => ?_) ?_
          rotate_left
          · ((try unfold BoxAnd at hSW); (try unfold SixAnd at hSW); (try unfold FourT at hSW); (try unfold PutT at hSW); (try unfold TwoSix at hSW); go_simp; (try with_reducible rfl))
          simp only [Act.put, List.setIfInBounds_toArray, List.set_cons_zero, List.set_cons_succ]
          refine takeAt (i := 4) (v := ?_) rfl (by kernel_rfl) (by kernel_rfl) (by kernel_rfl) (fun _ _ _ h => h) (by kernel_rfl) (by assumption) (fun W hSW => ?_) ?_
          rotate_left
          · ((try unfold BoxAnd at hSW); (try unfold SixAnd at hSW); (try unfold FourT at hSW); (try unfold PutT at hSW); (try unfold TwoSix at hSW); go_simp; (try with_reducible rfl))
          simp only [Act.put, List.setIfInBounds_toArray, List.set_cons_zero, List.set_cons_succ]
          refine takeAt (i := 5) (v := ?_) rfl (by kernel_rfl) (by kernel_rfl) (by kernel_rfl) (fun _ _ _ h => h) (by kernel_rfl) (by assumption) (fun W hSW => ?_) ?_
          rotate_left
          · ((try unfold BoxAnd at hSW); (try unfold SixAnd at hSW); (try unfold FourT at hSW); (try unfold PutT at hSW); (try unfold TwoSix at hSW); go_simp; (try with_reducible rfl))
          simp only [Act.put, List.setIfInBounds_toArray, List.set_cons_zero, List.set_cons_succ]
          refine takeAt (i := 6) (v := ?_) rfl (by kernel_rfl) (by kernel_rfl) (by kernel_rfl) (fun _ _ _ h => h) (by kernel_rfl) (by assumption) (fun W hSW => ?_) ?_
          rotate_left
          · ((try unfold BoxAnd at hSW); (try unfold SixAnd at hSW); (try unfold FourT at hSW); (try unfold PutT at hSW); (try unfold TwoSix at hSW); go_simp; (try with_reducible rfl))
          simp only [Act.put, List.setIfInBounds_toArray, List.set_cons_zero, List.set_cons_succ]
          refine passAt (i := 7) rfl (by kernel_rfl) (by kernel_rfl) (by kernel_rfl) (fun _ _ _ h => h) (by kernel_rfl) (by assumption) ?_
          simp only [Act.put, List.setIfInBounds_toArray, List.set_cons_zero, List.set_cons_succ]
          refine passAt (i := 8) rfl (by kernel_rfl) (by kernel_rfl) (by kernel_rfl) (fun _ _ _ h => h) (by kernel_rfl) (by assumption) ?_
          simp only [Act.put, List.setIfInBounds_toArray, List.set_cons_zero, List.set_cons_succ]
          refine passAt (i := 9) rfl (by kernel_rfl) (by kernel_rfl) (by kernel_rfl) (fun _ _ _ h => h) (by kernel_rfl) (by assumption) ?_
          simp only [Act.put, List.setIfInBounds_toArray, List.set_cons_zero, List.set_cons_succ]
          refine passAt (i := 10) rfl (by kernel_rfl) (by kernel_rfl) (by kernel_rfl) (fun _ _ _ h => h) (by kernel_rfl) (by assumption) ?_
          simp only [Act.put, List.setIfInBounds_toArray, List.set_cons_zero, List.set_cons_succ]
          refine passAt (i := 11) rfl (by kernel_rfl) (by kernel_rfl) (by kernel_rfl) (fun _ _ _ h => h) (by kernel_rfl) (by assumption) ?_
          simp only [Act.put, List.setIfInBounds_toArray, List.set_cons_zero, List.set_cons_succ]
          refine passAt (i := 12) rfl (by kernel_rfl) (by kernel_rfl) (by kernel_rfl) (fun _ _ _ h => h) (by kernel_rfl) (by assumption) ?_
          simp only [Act.put, List.setIfInBounds_toArray, List.set_cons_zero, List.set_cons_succ]
          refine passAt (i := 13) rfl (by kernel_rfl) (by kernel_rfl) (by kernel_rfl) (fun _ _ _ h => h) (by kernel_rfl) (by assumption) ?_
          simp only [Act.put, List.setIfInBounds_toArray, List.set_cons_zero, List.set_cons_succ]
          refine passAt (i := 14) rfl (by kernel_rfl) (by kernel_rfl) (by kernel_rfl) (fun _ _ _ h => h) (by kernel_rfl) (by assumption) ?_
          simp only [Act.put, List.setIfInBounds_toArray, List.set_cons_zero, List.set_cons_succ]
          refine passAt (i := 15) rfl (by kernel_rfl) (by kernel_rfl) (by kernel_rfl) (fun _ _ _ h => h) (by kernel_rfl) (by assumption) ?_
          simp only [Act.put, List.setIfInBounds_toArray, List.set_cons_zero, List.set_cons_succ]
          refine takeAt (i := 16) (v := ?_) rfl (by kernel_rfl) (by kernel_rfl) (by kernel_rfl) (fun _ _ _ h => h) (by kernel_rfl) (by assumption) (fun W hSW => ?_) ?_
          rotate_left
          · ((try unfold BoxAnd at hSW); (try unfold SixAnd at hSW); (try unfold FourT at hSW); (try unfold PutT at hSW); (try unfold TwoSix at hSW); go_simp; (try with_reducible rfl))
          simp only [Act.put, List.setIfInBounds_toArray, List.set_cons_zero, List.set_cons_succ]
          refine takeAt (i := 17) (v := ?_) rfl (by kernel_rfl) (by kernel_rfl) (by kernel_rfl) (fun _ _ _ h => h) (by kernel_rfl) (by assumption) (fun W hSW => ?_) ?_
          rotate_left
          · ((try unfold BoxAnd at hSW); (try unfold SixAnd at hSW); (try unfold FourT at hSW); (try unfold PutT at hSW); (try unfold TwoSix at hSW); go_simp; (try with_reducible rfl))
          simp only [Act.put, List.setIfInBounds_toArray, List.set_cons_zero, List.set_cons_succ]
          refine wpAnyH_done (by kernel_rfl) ?_ _
          go_wp2_with fail
          go_roundw
          case rel => exact ⟨k + 1, by omega, by go_num, H1, B2⟩
          case measure => simp [intOf]; omega
        · have d0 : decide ((0 : Int) < (k : Int)) = true := decide_eq_true (by omega)
          obtain ⟨hp, hu⟩ := Hpu.out k0
          subst hp
          have d0n : decide (0 < k) = true := decide_eq_true (by omega)
          have s1 : IntKind.i64.wrap ((k : Int) - 1) = (k : Int) - 1 := IntWalk.i64_in _ ⟨by omega, by omega⟩
          have n1 : ((k : Int) - 1).toNat = k - 1 := by omega
          have n2 : (1 : Int) ≤ (k : Int) := by omega
          have n3 : (k : Int) - 1 < (rs.length : Int) := by omega
          have HSG := HSH.out
          rw [decide_eq_false k0, ← hu] at HSG
          have HSK := Lib.hid HSG
          clear HSG hu
          by_cases hlo : ro ≤ u
          · have d1 : decide (ro ≤ u) = true := decide_eq_true hlo
            refine takeAt (i := 2) (v := ?_) rfl (by kernel_rfl) (by kernel_rfl) (by kernel_rfl) (fun _ _ _ h => h) (by kernel_rfl) (by assumption) (fun W hSW => ?_) ?_
            rotate_left
            · ((try unfold BoxAnd at hSW); (try unfold SixAnd at hSW); (try unfold FourT at hSW); (try unfold PutT at hSW); (try unfold TwoSix at hSW); go_simp; (try with_reducible rfl))
            simp only [Act.put, List.setIfInBounds_toArray, List.set_cons_zero, List.set_cons_succ]
            refine takeAt (i := 3) (v := ?_) rfl (by kernel_rfl) (by kernel_rfl) (by kernel_rfl) (fun _ _ _ h => h) (by kernel_rfl) (by assumption) (fun W hSW => ?_) ?_
            rotate_left
            · ((try unfold BoxAnd at hSW); (try unfold SixAnd at hSW); (try unfold FourT at hSW); (try unfold PutT at hSW); (try unfold TwoSix at hSW); go_simp; (try with_reducible rfl))
            simp only [Act.put, List.setIfInBounds_toArray, List.set_cons_zero, List.set_cons_succ]
            refine takeAt (i := 4) (v := ?_) rfl (by kernel_rfl) (by kernel_rfl) (by kernel_rfl) (fun _ _ _ h => h) (by kernel_rfl) (by assumption) (fun W hSW => ?_) ?_
            rotate_left
            · ((try unfold BoxAnd at hSW); (try unfold SixAnd at hSW); (try unfold FourT at hSW); (try unfold PutT at hSW); (try unfold TwoSix at hSW); go_simp; (try with_reducible rfl))
            simp only [Act.put, List.setIfInBounds_toArray, List.set_cons_zero, List.set_cons_succ]
            refine takeAt (i := 5) (v := ?_) rfl (by kernel_rfl) (by kernel_rfl) (by kernel_rfl) (fun _ _ _ h => h) (by kernel_rfl) (by assumption) (fun W hSW => ?_) ?_
            rotate_left
            · ((try unfold BoxAnd at hSW); (try unfold SixAnd at hSW); (try unfold FourT at hSW); (try unfold PutT at hSW); (try unfold TwoSix at hSW); go_simp; (try with_reducible rfl))
            simp only [Act.put, List.setIfInBounds_toArray, List.set_cons_zero, List.set_cons_succ]
            refine takeAt (i := 6) (v := ?_) rfl (by kernel_rfl) (by kernel_rfl) (by kernel_rfl) (fun _ _ _ h => h) (by kernel_rfl) (by assumption) (fun W hSW => ?_) ?_
            rotate_left
            · ((try unfold BoxAnd at hSW); (try unfold SixAnd at hSW); (try unfold FourT at hSW); (try unfold PutT at hSW); (try unfold TwoSix at hSW); go_simp; (try with_reducible rfl))
            simp only [Act.put, List.setIfInBounds_toArray, List.set_cons_zero, List.set_cons_succ]
            refine takeAt (i := 7) (v := ?_) rfl (by kernel_rfl) (by kernel_rfl) (by kernel_rfl) (fun _ _ _ h => h) (by kernel_rfl) (by assumption) (fun W hSW => ?_) ?_
            rotate_left
            · ((try unfold BoxAnd at hSW); (try unfold SixAnd at hSW); (try unfold FourT at hSW); (try unfold PutT at hSW); (try unfold TwoSix at hSW); go_simp; (try with_reducible rfl))
            simp only [Act.put, List.setIfInBounds_toArray, List.set_cons_zero, List.set_cons_succ]
            refine takeAt (i := 8) (v := ?_) rfl (by kernel_rfl) (by kernel_rfl) (by kernel_rfl) (fun _ _ _ h => h) (by kernel_rfl) (by assumption) (fun W hSW => ?_) ?_
            rotate_left
            · ((try unfold BoxAnd at hSW); (try unfold SixAnd at hSW); (try unfold FourT at hSW); (try unfold PutT at hSW); (try unfold TwoSix at hSW); go_simp; (try with_reducible rfl))
            simp only [Act.put, List.setIfInBounds_toArray, List.set_cons_zero, List.set_cons_succ]
            refine takeAt (i := 9) (v := ?_) rfl (by kernel_rfl) (by kernel_rfl) (by kernel_rfl) (fun _ _ _ h => h) (by kernel_rfl) (by assumption) (fun W hSW => ?_) ?_
            rotate_left
            · ((try unfold BoxAnd at hSW); (try unfold SixAnd at hSW); (try unfold FourT at hSW); (try unfold PutT at hSW); (try unfold TwoSix at hSW); go_simp; (try with_reducible rfl))
            simp only [Act.put, List.setIfInBounds_toArray, List.set_cons_zero, List.set_cons_succ]
            refine takeAt (i := 10) (v := ?_) rfl (by kernel_rfl) (by kernel_rfl) (by kernel_rfl) (fun _ _ _ h => h) (by kernel_rfl) (by assumption) (fun W hSW => ?_) ?_
            rotate_left
            · ((try unfold BoxAnd at hSW); (try unfold SixAnd at hSW); (try unfold FourT at hSW); (try unfold PutT at hSW); (try unfold TwoSix at hSW); go_simp; (try with_reducible rfl))
            simp only [Act.put, List.setIfInBounds_toArray, List.set_cons_zero, List.set_cons_succ]
            refine takeAt (i := 11) (v := ?_) rfl (by kernel_rfl) (by kernel_rfl) (by kernel_rfl) (fun _ _ _ h => h) (by kernel_rfl) (by assumption) (fun W hSW => ?_) ?_
            rotate_left
            · ((try unfold BoxAnd at hSW); (try unfold SixAnd at hSW); (try unfold FourT at hSW); (try unfold PutT at hSW); (try unfold TwoSix at hSW); go_simp; (try with_reducible rfl))
            simp only [Act.put, List.setIfInBounds_toArray, List.set_cons_zero, List.set_cons_succ]
            refine takeAt (i := 12) (v := ?_) rfl (by kernel_rfl) (by kernel_rfl) (by kernel_rfl) (fun _ _ _ h => h) (by kernel_rfl) (by assumption) (fun W hSW => ?_) ?_
            rotate_left
            · ((try unfold BoxAnd at hSW); (try unfold SixAnd at hSW); (try unfold FourT at hSW); (try unfold PutT at hSW); (try unfold TwoSix at hSW); go_simp; (try with_reducible rfl))
            simp only [Act.put, List.setIfInBounds_toArray, List.set_cons_zero, List.set_cons_succ]
            refine takeAt (i := 13) (v := ?_) rfl (by kernel_rfl) (by kernel_rfl) (by kernel_rfl) (fun _ _ _ h => h) (by kernel_rfl) (by assumption) (fun W hSW => ?_) ?_
            rotate_left
            · ((try unfold BoxAnd at hSW); (try unfold SixAnd at hSW); (try unfold FourT at hSW); (try unfold PutT at hSW); (try unfold TwoSix at hSW); go_simp; (try with_reducible rfl))
            simp only [Act.put, List.setIfInBounds_toArray, List.set_cons_zero, List.set_cons_succ]
            refine takeAt (i := 14) (v := ?_) rfl (by kernel_rfl) (by kernel_rfl) (by kernel_rfl) (fun _ _ _ h => h) (by kernel_rfl) (by assumption) (fun W hSW => ?_) ?_
            rotate_left
            · ((try unfold BoxAnd at hSW); (try unfold SixAnd at hSW); (try unfold FourT at hSW); (try unfold PutT at hSW); (try unfold TwoSix at hSW); go_simp; (try with_reducible rfl))
            simp only [Act.put, List.setIfInBounds_toArray, List.set_cons_zero, List.set_cons_succ]
            refine takeAt (i := 15) (v := ?_) rfl (by kernel_rfl) (by kernel_rfl) (by kernel_rfl) (fun _ _ _ h => h) (by kernel_rfl) (by assumption) (fun W hSW => ?_) ?_
            rotate_left
            · ((try unfold BoxAnd at hSW); (try unfold SixAnd at hSW); (try unfold FourT at hSW); (try unfold PutT at hSW); (try unfold TwoSix at hSW); go_simp; (try with_reducible rfl))
            simp only [Act.put, List.setIfInBounds_toArray, List.set_cons_zero, List.set_cons_succ]
            refine takeAt (i := 16) (v := ?_) rfl (by kernel_rfl) (by kernel_rfl) (by kernel_rfl) (fun _ _ _ h => h) (by kernel_rfl) (by assumption) (fun W hSW => ?_) ?_
            rotate_left
            · ((try unfold BoxAnd at hSW); (try unfold SixAnd at hSW); (try unfold FourT at hSW); (try unfold PutT at hSW); (try unfold TwoSix at hSW); go_simp; (try with_reducible rfl))
            simp only [Act.put, List.setIfInBounds_toArray, List.set_cons_zero, List.set_cons_succ]
            refine takeAt (i := 17) (v := ?_) rfl (by kernel_rfl) (by kernel_rfl) (by kernel_rfl) (fun _ _ _ h => h) (by kernel_rfl) (by assumption) (fun W hSW => ?_) ?_
            rotate_left
            · ((try unfold BoxAnd at hSW); (try unfold SixAnd at hSW); (try unfold FourT at hSW); (try unfold PutT at hSW); (try unfold TwoSix at hSW); go_simp; (try with_reducible rfl))
            simp only [Act.put, List.setIfInBounds_toArray, List.set_cons_zero, List.set_cons_succ]
            refine wpAnyH_done (by kernel_rfl) ?_ _
            go_wp2_with fail
            go_ret
            exact ⟨ret_bool (ordOk_no hlt (by rw [HSK.out, decide_eq_false (by omega)]; rfl)).symm, B2⟩
          · have d1 : decide (ro ≤ u) = false := decide_eq_false hlo
            have H1 : ∀ j, j < k + 1 → stepOk rs j = true := fun j hj => by
              by_cases e : j = k
              · rw [e, HSK.out, decide_eq_true (by omega)]; rfl
              · exact hrel j (by omega)
            refine takeAt (i := 2) (v := ?_) rfl (by kernel_rfl) (by kernel_rfl) (by kernel_rfl) (fun _ _ _ h => h) (by kernel_rfl) (by assumption) (fun W hSW => ?_) ?_
            rotate_left
            · ((try unfold BoxAnd at hSW); (try unfold SixAnd at hSW); (try unfold FourT at hSW); (try unfold PutT at hSW); (try unfold TwoSix at hSW); go_simp; (try with_reducible rfl))
            simp only [Act.put, List.setIfInBounds_toArray, List.set_cons_zero, List.set_cons_succ]
            refine takeAt (i := 3) (v := ?_) rfl (by kernel_rfl) (by kernel_rfl) (by kernel_rfl) (fun _ _ _ h => h) (by kernel_rfl) (by assumption) (fun W hSW => ?_) ?_
            rotate_left
            · ((try unfold BoxAnd at hSW); (try unfold SixAnd at hSW); (try unfold FourT at hSW); (try unfold PutT at hSW); (try unfold TwoSix at hSW); go_simp; (try with_reducible rfl))
            simp only [Act.put, List.setIfInBounds_toArray, List.set_cons_zero, List.set_cons_succ]
            refine takeAt (i := 4) (v := ?_) rfl (by kernel_rfl) (by kernel_rfl) (by kernel_rfl) (fun _ _ _ h => h) (by kernel_rfl) (by assumption) (fun W hSW => ?_) ?_
            rotate_left
            · ((try unfold BoxAnd at hSW); (try unfold SixAnd at hSW); (try unfold FourT at hSW); (try unfold PutT at hSW); (try unfold TwoSix at hSW); go_simp; (try with_reducible rfl))
            simp only [Act.put, List.setIfInBounds_toArray, List.set_cons_zero, List.set_cons_succ]
            refine takeAt (i := 5) (v := ?_) rfl (by kernel_rfl) (by kernel_rfl) (by kernel_rfl) (fun _ _ _ h => h) (by kernel_rfl) (by assumption) (fun W hSW => ?_) ?_
            rotate_left
            · ((try unfold BoxAnd at hSW); (try unfold SixAnd at hSW); (try unfold FourT at hSW); (try unfold PutT at hSW); (try unfold TwoSix at hSW); go_simp; (try with_reducible rfl))
            simp only [Act.put, List.setIfInBounds_toArray, List.set_cons_zero, List.set_cons_succ]
            refine takeAt (i := 6) (v := ?_) rfl (by kernel_rfl) (by kernel_rfl) (by kernel_rfl) (fun _ _ _ h => h) (by kernel_rfl) (by assumption) (fun W hSW => ?_) ?_
            rotate_left
            · ((try unfold BoxAnd at hSW); (try unfold SixAnd at hSW); (try unfold FourT at hSW); (try unfold PutT at hSW); (try unfold TwoSix at hSW); go_simp; (try with_reducible rfl))
            simp only [Act.put, List.setIfInBounds_toArray, List.set_cons_zero, List.set_cons_succ]
            refine takeAt (i := 7) (v := ?_) rfl (by kernel_rfl) (by kernel_rfl) (by kernel_rfl) (fun _ _ _ h => h) (by kernel_rfl) (by assumption) (fun W hSW => ?_) ?_
            rotate_left
            · ((try unfold BoxAnd at hSW); (try unfold SixAnd at hSW); (try unfold FourT at hSW); (try unfold PutT at hSW); (try unfold TwoSix at hSW); go_simp; (try with_reducible rfl))
            simp only [Act.put, List.setIfInBounds_toArray, List.set_cons_zero, List.set_cons_succ]
            refine takeAt (i := 8) (v := ?_) rfl (by kernel_rfl) (by kernel_rfl) (by kernel_rfl) (fun _ _ _ h => h) (by kernel_rfl) (by assumption) (fun W hSW => ?_) ?_
            rotate_left
            · ((try unfold BoxAnd at hSW); (try unfold SixAnd at hSW); (try unfold FourT at hSW); (try unfold PutT at hSW); (try unfold TwoSix at hSW); go_simp; (try with_reducible rfl))
            simp only [Act.put, List.setIfInBounds_toArray, List.set_cons_zero, List.set_cons_succ]
            refine takeAt (i := 9) (v := ?_) rfl (by kernel_rfl) (by kernel_rfl) (by kernel_rfl) (fun _ _ _ h => h) (by kernel_rfl) (by assumption) (fun W hSW => ?_) ?_
            rotate_left
            · ((try unfold BoxAnd at hSW); (try unfold SixAnd at hSW); (try unfold FourT at hSW); (try unfold PutT at hSW); (try unfold TwoSix at hSW); go_simp; (try with_reducible rfl))
            simp only [Act.put, List.setIfInBounds_toArray, List.set_cons_zero, List.set_cons_succ]
            refine takeAt (i := 10) (v := ?_) rfl (by kernel_rfl) (by kernel_rfl) (by kernel_rfl) (fun _ _ _ h => h) (by kernel_rfl) (by assumption) (fun W hSW => ?_) ?_
            rotate_left
            · ((try unfold BoxAnd at hSW); (try unfold SixAnd at hSW); (try unfold FourT at hSW); (try unfold PutT at hSW); (try unfold TwoSix at hSW); go_simp; (try with_reducible rfl))
            simp only [Act.put, List.setIfInBounds_toArray, List.set_cons_zero, List.set_cons_succ]
            refine takeAt (i := 11) (v := ?_) rfl (by kernel_rfl) (by kernel_rfl) (by kernel_rfl) (fun _ _ _ h => h) (by kernel_rfl) (by assumption) (fun W hSW => ?_) ?_
            rotate_left
            · ((try unfold BoxAnd at hSW); (try unfold SixAnd at hSW); (try unfold FourT at hSW); (try unfold PutT at hSW); (try unfold TwoSix at hSW); go_simp; (try with_reducible rfl))
            simp only [Act.put, List.setIfInBounds_toArray, List.set_cons_zero, List.set_cons_succ]
            refine takeAt (i := 12) (v := ?_) rfl (by kernel_rfl) (by kernel_rfl) (by kernel_rfl) (fun _ _ _ h => h) (by kernel_rfl) (by assumption) (fun W hSW => ?_) ?_
            rotate_left
            · ((try unfold BoxAnd at hSW); (try unfold SixAnd at hSW); (try unfold FourT at hSW); (try unfold PutT at hSW); (try unfold TwoSix at hSW); go_simp; (try with_reducible rfl))
            simp only [Act.put, List.setIfInBounds_toArray, List.set_cons_zero, List.set_cons_succ]
            refine takeAt (i := 13) (v := ?_) rfl (by kernel_rfl) (by kernel_rfl) (by kernel_rfl) (fun _ _ _ h => h) (by kernel_rfl) (by assumption) (fun W hSW => ?_) ?_
            rotate_left
            · ((try unfold BoxAnd at hSW); (try unfold SixAnd at hSW); (try unfold FourT at hSW); (try unfold PutT at hSW); (try unfold TwoSix at hSW); go_simp; (try with_reducible rfl))
            simp only [Act.put, List.setIfInBounds_toArray, List.set_cons_zero, List.set_cons_succ]
            refine takeAt (i := 14) (v := ?_) rfl (by kernel_rfl) (by kernel_rfl) (by kernel_rfl) (fun _ _ _ h => h) (by kernel_rfl) (by assumption) (fun W hSW => ?_) ?_
            rotate_left
            · ((try unfold BoxAnd at hSW); (try unfold SixAnd at hSW); (try unfold FourT at hSW); (try unfold PutT at hSW); (try unfold TwoSix at hSW); go_simp; (try with_reducible rfl))
            simp only [Act.put, List.setIfInBounds_toArray, List.set_cons_zero, List.set_cons_succ]
            refine takeAt (i := 15) (v := ?_) rfl (by kernel_rfl) (by kernel_rfl) (by kernel_rfl) (fun _ _ _ h => h) (by kernel_rfl) (by assumption) (fun W hSW => ?_) ?_
            rotate_left
            · ((try unfold BoxAnd at hSW); (try unfold SixAnd at hSW); (try unfold FourT at hSW); (try unfold PutT at hSW); (try unfold TwoSix at hSW); go_simp; (try with_reducible rfl))
            simp only [Act.put, List.setIfInBounds_toArray, List.set_cons_zero, List.set_cons_succ]
            refine takeAt (i := 16) (v := ?_) rfl (by kernel_rfl) (by kernel_rfl) (by kernel_rfl) (fun _ _ _ h => h) (by kernel_rfl) (by assumption) (fun W hSW => ?_) ?_
            rotate_left
            · ((try unfold BoxAnd at hSW); (try unfold SixAnd at hSW); (try unfold FourT at hSW); (try unfold PutT at hSW); (try unfold TwoSix at hSW); go_simp; (try with_reducible rfl))
            simp only [Act.put, List.setIfInBounds_toArray, List.set_cons_zero, List.set_cons_succ]
            refine takeAt (i := 17) (v := ?_) rfl (by kernel_rfl) (by kernel_rfl) (by kernel_rfl) (fun _ _ _ h => h) (by kernel_rfl) (by assumption) (fun W hSW => ?_) ?_
            rotate_left
            · ((try unfold BoxAnd at hSW); (try unfold SixAnd at hSW); (try unfold FourT at hSW); (try unfold PutT at hSW); (try unfold TwoSix at hSW); go_simp; (try with_reducible rfl))
            simp only [Act.put, List.setIfInBounds_toArray, List.set_cons_zero, List.set_cons_succ]
            refine wpAnyH_done (by kernel_rfl) ?_ _
            go_wp2_with fail
            go_roundw
            case rel => exact ⟨k + 1, by omega, by go_num, H1, B2⟩
            case measure => simp [intOf]; omega
    · go_wp2_with fail
      go_ret
      exact ⟨ret_bool (ordOk_iff.2 fun i hi => hrel i (by omega)).symm, bel⟩

/-- six cells of a block from a place on, and a cell beside them -/
def SixAnd (W : World) (b q : Nat) (v0 v1 v2 v3 v4 v5 : Value) (p : Addr) (u : Value) : Prop :=
  W.cell? ⟨b, q, none⟩ = some v0 ∧ W.cell? ⟨b, q + 1, none⟩ = some v1 ∧ W.cell? ⟨b, q + 2, none⟩ = some v2 ∧ W.cell? ⟨b, q + 3, none⟩ = some v3 ∧ W.cell? ⟨b, q + 4, none⟩ = some v4 ∧ W.cell? ⟨b, q + 5, none⟩ = some v5 ∧ W.cell? p = some u
set_option maxHeartbeats 2000000 in
theorem spec_l5Records (v : Value) (rs : List Rec) (w : World) (h : Recs w v rs) :
    Calls Try.prog 73 #[v] w (SaysB (ordOk rs && inR rs.length 1 6) w) := by
  have hv := h
  obtain ⟨a, cap, rfl, hl, hm, hc⟩ := h
  unfold maxLen at hm
  clear hc
  have C0 : Hid (∀ wn, Calls Try.prog 43 #[.int .i64 (rs.length : Int), .int .i64 1, .int .i64 6] wn fun e w' => e = .returned (.bool (inR (rs.length : Int) 1 6)) ∧ wn = w') := fun wn => spec_l6In _ 1 6 wn
  obtain ⟨lb, hlb⟩ : ∃ lb, inR (rs.length : Int) 1 6 = lb := ⟨_, rfl⟩
  rw [hlb] at C0 ⊢
  clear hlb
  go_enter Try.func73, Try.ntmps73
  go_wp2_with fail
  go_loopw [3] (fun i wr => ∃ k : Nat, k ≤ rs.length ∧ i = .int .i64 k ∧ (∀ j, j < k → stepOk rs j = true) ∧ Below w.heap.size w wr) (fun i _ => rs.length - (intOf i).toNat)
  case atStart => exact ⟨0, Nat.zero_le _, rfl, fun j hj => by omega, Below.refl _ _⟩
  case round =>
    obtain ⟨k, hk, rfl, hrel, bel⟩ := hrel
    by_cases hlt : k < rs.length
    · obtain ⟨b, off, cap', e, hm'⟩ := hv.form (by omega)
      simp only [Value.slice.injEq, true_and] at e
      obtain ⟨rfl, rfl⟩ := e
      have hvr := hv.below bel
      obtain ⟨r, a1, c1, a2, c2, Hr, hR⟩ := hvr.parts k hlt
      have hrec := hR.recV
      have hst : stepOk rs k = (recOk r && (decide (k = 0) || decide ((recAt rs (k - 1)).off < r.off))) := by unfold stepOk; rw [Hr.out]
      obtain ⟨ro, rt, rhk, rkey, rhv, rval⟩ := r
      have hR0 := hR
      simp only at hrec hst
      have HST := Lib.hid hst
      clear hst hR
      have C1 : Hid (∀ W, Below wr.heap.size wr W → Calls Try.prog 86 #[.agg #[.int .i64 ro, .int .i64 rt, .bool rhk, .slice a1 rkey.length c1, .bool rhv, .slice a2 rval.length c2]] W (SaysB (recOk ⟨ro, rt, rhk, rkey, rhv, rval⟩) W)) := fun W hW => spec_RecordValid _ _ W (hrec.below hW)
      obtain ⟨rb, hrb⟩ : ∃ rb, recOk ⟨ro, rt, rhk, rkey, rhv, rval⟩ = rb := ⟨_, rfl⟩
      have HS := HST.out
      rw [hrb] at C1 HS
      have HSH := Lib.hid HS
      clear hrb HS HST hrec
      have hpu0 : wr.cell? ⟨b, off + k * 6, none⟩ = some (.int .i64 ro) := hR0.1
      obtain ⟨p, u, Hpu, hpu⟩ : ∃ (p : Addr) (u : Int), Hid (k ≠ 0 → p = ⟨b, off + (k - 1) * 6, none⟩ ∧ u = (recAt rs (k - 1)).off) ∧ wr.cell? p = some (.int .i64 u) := by
        by_cases k0 : k = 0
        · exact ⟨_, _, Lib.hid fun h => absurd k0 h, hpu0⟩
        · obtain ⟨_, _, hp⟩ := hvr.rec (k - 1) (by omega)
          exact ⟨_, _, Lib.hid fun _ => ⟨rfl, rfl⟩, hp.1⟩
      have HS : Hid (∀ W, Below wr.heap.size wr W → SixAnd W b (off + k * 6) (.int .i64 ro) (.int .i64 rt) (.bool rhk) (.slice a1 rkey.length c1) (.bool rhv) (.slice a2 rval.length c2) p (.int .i64 u)) := Lib.hid fun W hW =>
        have y := hR0.below hW
        ⟨y.1, y.2.1, y.2.2.1, y.2.2.2.1, y.2.2.2.2.1, y.2.2.2.2.2.1, (hW.cell (World.block_lt_of_cell? _ _ hpu)).trans hpu⟩
      clear hR0 hpu0
      go_upto_region 4 with (fail)
      have bdr : Below wr.heap.size wr wr.drew := below_drewN (Below.refl _ _) 1
      have S1 := HS.out _ bdr
      have D1 := Lib.hid (C1.out wr.drew bdr)
      refine wp_region_held_drew (S := fun W => SixAnd W b (off + k * 6) (.int .i64 ro) (.int .i64 rt) (.bool rhk) (.slice a1 rkey.length c1) (.bool rhv) (.slice a2 rval.length c2) p (.int .i64 u)) (by kernel_rfl) S1 (fun hS => ?_)
      clear S1
      refine takeAt (i := 0) (v := ?_) rfl (by kernel_rfl) (by kernel_rfl) (by kernel_rfl) (fun _ _ _ h => h) (by kernel_rfl) (by assumption) (fun W hSW => ?_) ?_
      rotate_left
      · ((try unfold BoxAnd at hSW); (try unfold SixAnd at hSW); (try unfold FourT at hSW); (try unfold PutT at hSW); (try unfold TwoSix at hSW); go_simp; (try with_reducible rfl))
      simp only [Act.put, List.setIfInBounds_toArray, List.set_cons_zero, List.set_cons_succ]
      refine takeAt (i := 1) (v := ?_) rfl (by kernel_rfl) (by kernel_rfl) (by kernel_rfl) (fun _ _ _ h => h) (by kernel_rfl) (by assumption) (fun W hSW => ?_) ?_
      rotate_left
      · ((try unfold BoxAnd at hSW); (try unfold SixAnd at hSW); (try unfold FourT at hSW); (try unfold PutT at hSW); (try unfold TwoSix at hSW); go_simp; (try with_reducible rfl))
      simp only [Act.put, List.setIfInBounds_toArray, List.set_cons_zero, List.set_cons_succ]
      refine takeAt (i := 2) (v := ?_) rfl (by kernel_rfl) (by kernel_rfl) (by kernel_rfl) (fun _ _ _ h => h) (by kernel_rfl) (by assumption) (fun W hSW => ?_) ?_
      rotate_left
      · ((try unfold BoxAnd at hSW); (try unfold SixAnd at hSW); (try unfold FourT at hSW); (try unfold PutT at hSW); (try unfold TwoSix at hSW); go_simp; (try with_reducible rfl))
      simp only [Act.put, List.setIfInBounds_toArray, List.set_cons_zero, List.set_cons_succ]
      refine takeAt (i := 3) (v := ?_) rfl (by kernel_rfl) (by kernel_rfl) (by kernel_rfl) (fun _ _ _ h => h) (by kernel_rfl) (by assumption) (fun W hSW => ?_) ?_
      rotate_left
      · ((try unfold BoxAnd at hSW); (try unfold SixAnd at hSW); (try unfold FourT at hSW); (try unfold PutT at hSW); (try unfold TwoSix at hSW); go_simp; (try with_reducible rfl))
      simp only [Act.put, List.setIfInBounds_toArray, List.set_cons_zero, List.set_cons_succ]
      refine onlyAt (i := 4) (by kernel_rfl) rfl (by kernel_rfl) (fun K hK => ?_)
      go_simp
      refine D1.out.mono ?_
      rintro e w2 ⟨rfl, b2⟩
      have hS2 := HS.out w2 (Bstep bdr b2)
      have B2 := Bstep bel (Bstep bdr b2)
      refine hK.out _ _ hS2 ?_
      clear hK K hS D1 C1
      cases rb with
      | false =>
        refine takeAt (i := 5) (v := ?_) rfl (by kernel_rfl) (by kernel_rfl) (by kernel_rfl) (fun _ _ _ h => h) (by kernel_rfl) (by assumption) (fun W hSW => ?_) ?_
        rotate_left
        · ((try unfold BoxAnd at hSW); (try unfold SixAnd at hSW); (try unfold FourT at hSW); (try unfold PutT at hSW); (try unfold TwoSix at hSW); go_simp; (try with_reducible rfl))
        simp only [Act.put, List.setIfInBounds_toArray, List.set_cons_zero, List.set_cons_succ]
        refine takeAt (i := 6) (v := ?_) rfl (by kernel_rfl) (by kernel_rfl) (by kernel_rfl) (fun _ _ _ h => h) (by kernel_rfl) (by assumption) (fun W hSW => ?_) ?_
        rotate_left
        · ((try unfold BoxAnd at hSW); (try unfold SixAnd at hSW); (try unfold FourT at hSW); (try unfold PutT at hSW); (try unfold TwoSix at hSW); go_simp; (try with_reducible rfl))
        simp only [Act.put, List.setIfInBounds_toArray, List.set_cons_zero, List.set_cons_succ]
        refine passAt (i := 7) rfl (by kernel_rfl) (by kernel_rfl) (by kernel_rfl) (fun _ _ _ h => h) (by kernel_rfl) (by assumption) ?_
        simp only [Act.put, List.setIfInBounds_toArray, List.set_cons_zero, List.set_cons_succ]
        refine passAt (i := 8) rfl (by kernel_rfl) (by kernel_rfl) (by kernel_rfl) (fun _ _ _ h => h) (by kernel_rfl) (by assumption) ?_
        simp only [Act.put, List.setIfInBounds_toArray, List.set_cons_zero, List.set_cons_succ]
        refine passAt (i := 9) rfl (by kernel_rfl) (by kernel_rfl) (by kernel_rfl) (fun _ _ _ h => h) (by kernel_rfl) (by assumption) ?_
        simp only [Act.put, List.setIfInBounds_toArray, List.set_cons_zero, List.set_cons_succ]
        refine passAt (i := 10) rfl (by kernel_rfl) (by kernel_rfl) (by kernel_rfl) (fun _ _ _ h => h) (by kernel_rfl) (by assumption) ?_
        simp only [Act.put, List.setIfInBounds_toArray, List.set_cons_zero, List.set_cons_succ]
        refine passAt (i := 11) rfl (by kernel_rfl) (by kernel_rfl) (by kernel_rfl) (fun _ _ _ h => h) (by kernel_rfl) (by assumption) ?_
        simp only [Act.put, List.setIfInBounds_toArray, List.set_cons_zero, List.set_cons_succ]
        refine passAt (i := 12) rfl (by kernel_rfl) (by kernel_rfl) (by kernel_rfl) (fun _ _ _ h => h) (by kernel_rfl) (by assumption) ?_
        simp only [Act.put, List.setIfInBounds_toArray, List.set_cons_zero, List.set_cons_succ]
        refine passAt (i := 13) rfl (by kernel_rfl) (by kernel_rfl) (by kernel_rfl) (fun _ _ _ h => h) (by kernel_rfl) (by assumption) ?_
        simp only [Act.put, List.setIfInBounds_toArray, List.set_cons_zero, List.set_cons_succ]
        refine passAt (i := 14) rfl (by kernel_rfl) (by kernel_rfl) (by kernel_rfl) (fun _ _ _ h => h) (by kernel_rfl) (by assumption) ?_
        simp only [Act.put, List.setIfInBounds_toArray, List.set_cons_zero, List.set_cons_succ]
        refine passAt (i := 15) rfl (by kernel_rfl) (by kernel_rfl) (by kernel_rfl) (fun _ _ _ h => h) (by kernel_rfl) (by assumption) ?_
        simp only [Act.put, List.setIfInBounds_toArray, List.set_cons_zero, List.set_cons_succ]
        refine passAt (i := 16) rfl (by kernel_rfl) (by kernel_rfl) (by kernel_rfl) (fun _ _ _ h => h) (by kernel_rfl) (by assumption) ?_
        simp only [Act.put, List.setIfInBounds_toArray, List.set_cons_zero, List.set_cons_succ]
        refine passAt (i := 17) rfl (by kernel_rfl) (by kernel_rfl) (by kernel_rfl) (fun _ _ _ h => h) (by kernel_rfl) (by assumption) ?_
        simp only [Act.put, List.setIfInBounds_toArray, List.set_cons_zero, List.set_cons_succ]
        refine passAt (i := 18) rfl (by kernel_rfl) (by kernel_rfl) (by kernel_rfl) (fun _ _ _ h => h) (by kernel_rfl) (by assumption) ?_
        simp only [Act.put, List.setIfInBounds_toArray, List.set_cons_zero, List.set_cons_succ]
        refine passAt (i := 19) rfl (by kernel_rfl) (by kernel_rfl) (by kernel_rfl) (fun _ _ _ h => h) (by kernel_rfl) (by assumption) ?_
        simp only [Act.put, List.setIfInBounds_toArray, List.set_cons_zero, List.set_cons_succ]
        refine passAt (i := 20) rfl (by kernel_rfl) (by kernel_rfl) (by kernel_rfl) (fun _ _ _ h => h) (by kernel_rfl) (by assumption) ?_
        simp only [Act.put, List.setIfInBounds_toArray, List.set_cons_zero, List.set_cons_succ]
        refine passAt (i := 21) rfl (by kernel_rfl) (by kernel_rfl) (by kernel_rfl) (fun _ _ _ h => h) (by kernel_rfl) (by assumption) ?_
        simp only [Act.put, List.setIfInBounds_toArray, List.set_cons_zero, List.set_cons_succ]
        refine passAt (i := 22) rfl (by kernel_rfl) (by kernel_rfl) (by kernel_rfl) (fun _ _ _ h => h) (by kernel_rfl) (by assumption) ?_
        simp only [Act.put, List.setIfInBounds_toArray, List.set_cons_zero, List.set_cons_succ]
        refine takeAt (i := 23) (v := ?_) rfl (by kernel_rfl) (by kernel_rfl) (by kernel_rfl) (fun _ _ _ h => h) (by kernel_rfl) (by assumption) (fun W hSW => ?_) ?_
        rotate_left
        · ((try unfold BoxAnd at hSW); (try unfold SixAnd at hSW); (try unfold FourT at hSW); (try unfold PutT at hSW); (try unfold TwoSix at hSW); go_simp; (try with_reducible rfl))
        simp only [Act.put, List.setIfInBounds_toArray, List.set_cons_zero, List.set_cons_succ]
        refine wpAnyH_done (by kernel_rfl) ?_ _
        go_wp2_with fail
        go_ret
        exact ⟨ret_bool (by rw [ordOk_no hlt HSH.out]; rfl), B2⟩
      | true =>
        by_cases k0 : k = 0
        · have d0 : decide ((0 : Int) < (k : Int)) = false := decide_eq_false (by omega)
          have H1 : ∀ j, j < k + 1 → stepOk rs j = true := fun j hj => by
            by_cases e : j = k
            · rw [e, HSH.out, decide_eq_true k0]; rfl
            · exact hrel j (by omega)
          have d0n : decide (0 < k) = false := decide_eq_false (by omega)
          clear k0 Hpu
          refine takeAt (i := 5) (v := ?_) rfl (by kernel_rfl) (by kernel_rfl) (by kernel_rfl) (fun _ _ _ h => h) (by kernel_rfl) (by assumption) (fun W hSW => ?_) ?_
          rotate_left
          · ((try unfold BoxAnd at hSW); (try unfold SixAnd at hSW); (try unfold FourT at hSW); (try unfold PutT at hSW); (try unfold TwoSix at hSW); go_simp; (try with_reducible rfl))
          simp only [Act.put, List.setIfInBounds_toArray, List.set_cons_zero, List.set_cons_succ]
          refine takeAt (i := 6) (v := ?_) rfl (by kernel_rfl) (by kernel_rfl) (by kernel_rfl) (fun _ _ _ h => h) (by kernel_rfl) (by assumption) (fun W hSW => ?_) ?_
          rotate_left
          · ((try unfold BoxAnd at hSW); (try unfold SixAnd at hSW); (try unfold FourT at hSW); (try unfold PutT at hSW); (try unfold TwoSix at hSW); go_simp; (try with_reducible rfl))
          simp only [Act.put, List.setIfInBounds_toArray, List.set_cons_zero, List.set_cons_succ]
          refine takeAt (i := 7) (v := ?_) rfl (by kernel_rfl) (by kernel_rfl) (by kernel_rfl) (fun _ _ _ h => h) (by kernel_rfl) (by assumption) (fun W hSW => ?_) ?_
          rotate_left
          · ((try unfold BoxAnd at hSW); (try unfold SixAnd at hSW); (try unfold FourT at hSW); (try unfold PutT at hSW); (try unfold TwoSix at hSW); go_simp; (try with_reducible rfl))
          simp only [Act.put, List.setIfInBounds_toArray, List.set_cons_zero, List.set_cons_succ]
          refine takeAt (i := 8) (v := ?_) rfl (by kernel_rfl) (by kernel_rfl) (by kernel_rfl) (fun _ _ _ h => h) (by kernel_rfl) (by assumption) (fun W hSW => ?_) ?_
          rotate_left
          · ((try unfold BoxAnd at hSW); (try unfold SixAnd at hSW); (try unfold FourT at hSW); (try unfold PutT at hSW); (try unfold TwoSix at hSW); go_simp; (try with_reducible rfl))
          simp only [Act.put, List.setIfInBounds_toArray, List.set_cons_zero, List.set_cons_succ]
          refine takeAt (i := 9) (v := ?_) rfl (by kernel_rfl) (by kernel_rfl) (by kernel_rfl) (fun _ _ _ h => h) (by kernel_rfl) (by assumption) (fun W hSW => ?_) ?_
          rotate_left
          · ((try unfold BoxAnd at hSW); (try unfold SixAnd at hSW); (try unfold FourT at hSW); (try unfold PutT at hSW); (try unfold TwoSix at hSW); go_simp; (try with_reducible rfl))
          simp only [Act.put, List.setIfInBounds_toArray, List.set_cons_zero, List.set_cons_succ]
          refine passAt (i := 10) rfl (by kernel_rfl) (by kernel_rfl) (by kernel_rfl) (fun _ _ _ h => h) (by kernel_rfl) (by assumption) ?_
          simp only [Act.put, List.setIfInBounds_toArray, List.set_cons_zero, List.set_cons_succ]
          refine passAt (i := 11) rfl (by kernel_rfl) (by kernel_rfl) (by kernel_rfl) (fun _ _ _ h => h) (by kernel_rfl) (by assumption) ?_
          simp only [Act.put, List.setIfInBounds_toArray, List.set_cons_zero, List.set_cons_succ]
          refine passAt (i := 12) rfl (by kernel_rfl) (by kernel_rfl) (by kernel_rfl) (fun _ _ _ h => h) (by kernel_rfl) (by assumption) ?_
          simp only [Act.put, List.setIfInBounds_toArray, List.set_cons_zero, List.set_cons_succ]
          refine passAt (i := 13) rfl (by kernel_rfl) (by kernel_rfl) (by kernel_rfl) (fun _ _ _ h => h) (by kernel_rfl) (by assumption) ?_
          simp only [Act.put, List.setIfInBounds_toArray, List.set_cons_zero, List.set_cons_succ]
          refine passAt (i := 14) rfl (by kernel_rfl) (by kernel_rfl) (by kernel_rfl) (fun _ _ _ h => h) (by kernel_rfl) (by assumption) ?_
          simp only [Act.put, List.setIfInBounds_toArray, List.set_cons_zero, List.set_cons_succ]
          refine passAt (i := 15) rfl (by kernel_rfl) (by kernel_rfl) (by kernel_rfl) (fun _ _ _ h => h) (by kernel_rfl) (by assumption) ?_
          simp only [Act.put, List.setIfInBounds_toArray, List.set_cons_zero, List.set_cons_succ]
          refine passAt (i := 16) rfl (by kernel_rfl) (by kernel_rfl) (by kernel_rfl) (fun _ _ _ h => h) (by kernel_rfl) (by assumption) ?_
          simp only [Act.put, List.setIfInBounds_toArray, List.set_cons_zero, List.set_cons_succ]
          refine passAt (i := 17) rfl (by kernel_rfl) (by kernel_rfl) (by kernel_rfl) (fun _ _ _ h => h) (by kernel_rfl) (by assumption) ?_
          simp only [Act.put, List.setIfInBounds_toArray, List.set_cons_zero, List.set_cons_succ]
          refine passAt (i := 18) rfl (by kernel_rfl) (by kernel_rfl) (by kernel_rfl) (fun _ _ _ h => h) (by kernel_rfl) (by assumption) ?_
          simp only [Act.put, List.setIfInBounds_toArray, List.set_cons_zero, List.set_cons_succ]
          refine passAt (i := 19) rfl (by kernel_rfl) (by kernel_rfl) (by kernel_rfl) (fun _ _ _ h => h) (by kernel_rfl) (by assumption) ?_
          simp only [Act.put, List.setIfInBounds_toArray, List.set_cons_zero, List.set_cons_succ]
          refine passAt (i := 20) rfl (by kernel_rfl) (by kernel_rfl) (by kernel_rfl) (fun _ _ _ h => h) (by kernel_rfl) (by assumption) ?_
          simp only [Act.put, List.setIfInBounds_toArray, List.set_cons_zero, List.set_cons_succ]
          refine passAt (i := 21) rfl (by kernel_rfl) (by kernel_rfl) (by kernel_rfl) (fun _ _ _ h => h) (by kernel_rfl) (by assumption) ?_
          simp only [Act.put, List.setIfInBounds_toArray, List.set_cons_zero, List.set_cons_succ]
          refine takeAt (i := 22) (v := ?_) rfl (by kernel_rfl) (by kernel_rfl) (by kernel_rfl) (fun _ _ _ h => h) (by kernel_rfl) (by assumption) (fun W hSW => ?_) ?_
          rotate_left
          · ((try unfold BoxAnd at hSW); (try unfold SixAnd at hSW); (try unfold FourT at hSW); (try unfold PutT at hSW); (try unfold TwoSix at hSW); go_simp; (try with_reducible rfl))
          simp only [Act.put, List.setIfInBounds_toArray, List.set_cons_zero, List.set_cons_succ]
          refine takeAt (i := 23) (v := ?_) rfl (by kernel_rfl) (by kernel_rfl) (by kernel_rfl) (fun _ _ _ h => h) (by kernel_rfl) (by assumption) (fun W hSW => ?_) ?_
          rotate_left
          · ((try unfold BoxAnd at hSW); (try unfold SixAnd at hSW); (try unfold FourT at hSW); (try unfold PutT at hSW); (try unfold TwoSix at hSW); go_simp; (try with_reducible rfl))
          simp only [Act.put, List.setIfInBounds_toArray, List.set_cons_zero, List.set_cons_succ]
          refine wpAnyH_done (by kernel_rfl) ?_ _
          go_wp2_with fail
          go_roundw
          case rel => exact ⟨k + 1, by omega, by go_num, H1, B2⟩
          case measure => simp [intOf]; omega
        · have d0 : decide ((0 : Int) < (k : Int)) = true := decide_eq_true (by omega)
          obtain ⟨hp, hu⟩ := Hpu.out k0
          subst hp
          have d0n : decide (0 < k) = true := decide_eq_true (by omega)
          have s1 : IntKind.i64.wrap ((k : Int) - 1) = (k : Int) - 1 := IntWalk.i64_in _ ⟨by omega, by omega⟩
          have n1 : ((k : Int) - 1).toNat = k - 1 := by omega
          have n2 : (1 : Int) ≤ (k : Int) := by omega
          have n3 : (k : Int) - 1 < (rs.length : Int) := by omega
          have HSG := HSH.out
          rw [decide_eq_false k0, ← hu] at HSG
          have HSK := Lib.hid HSG
          clear HSG hu
          by_cases hlo : ro ≤ u
          · have d1 : decide (ro ≤ u) = true := decide_eq_true hlo
            refine takeAt (i := 5) (v := ?_) rfl (by kernel_rfl) (by kernel_rfl) (by kernel_rfl) (fun _ _ _ h => h) (by kernel_rfl) (by assumption) (fun W hSW => ?_) ?_
            rotate_left
            · ((try unfold BoxAnd at hSW); (try unfold SixAnd at hSW); (try unfold FourT at hSW); (try unfold PutT at hSW); (try unfold TwoSix at hSW); go_simp; (try with_reducible rfl))
            simp only [Act.put, List.setIfInBounds_toArray, List.set_cons_zero, List.set_cons_succ]
            refine takeAt (i := 6) (v := ?_) rfl (by kernel_rfl) (by kernel_rfl) (by kernel_rfl) (fun _ _ _ h => h) (by kernel_rfl) (by assumption) (fun W hSW => ?_) ?_
            rotate_left
            · ((try unfold BoxAnd at hSW); (try unfold SixAnd at hSW); (try unfold FourT at hSW); (try unfold PutT at hSW); (try unfold TwoSix at hSW); go_simp; (try with_reducible rfl))
            simp only [Act.put, List.setIfInBounds_toArray, List.set_cons_zero, List.set_cons_succ]
            refine takeAt (i := 7) (v := ?_) rfl (by kernel_rfl) (by kernel_rfl) (by kernel_rfl) (fun _ _ _ h => h) (by kernel_rfl) (by assumption) (fun W hSW => ?_) ?_
            rotate_left
            · ((try unfold BoxAnd at hSW); (try unfold SixAnd at hSW); (try unfold FourT at hSW); (try unfold PutT at hSW); (try unfold TwoSix at hSW); go_simp; (try with_reducible rfl))
            simp only [Act.put, List.setIfInBounds_toArray, List.set_cons_zero, List.set_cons_succ]
            refine takeAt (i := 8) (v := ?_) rfl (by kernel_rfl) (by kernel_rfl) (by kernel_rfl) (fun _ _ _ h => h) (by kernel_rfl) (by assumption) (fun W hSW => ?_) ?_
            rotate_left
            · ((try unfold BoxAnd at hSW); (try unfold SixAnd at hSW); (try unfold FourT at hSW); (try unfold PutT at hSW); (try unfold TwoSix at hSW); go_simp; (try with_reducible rfl))
            simp only [Act.put, List.setIfInBounds_toArray, List.set_cons_zero, List.set_cons_succ]
            refine takeAt (i := 9) (v := ?_) rfl (by kernel_rfl) (by kernel_rfl) (by kernel_rfl) (fun _ _ _ h => h) (by kernel_rfl) (by assumption) (fun W hSW => ?_) ?_
            rotate_left
            · ((try unfold BoxAnd at hSW); (try unfold SixAnd at hSW); (try unfold FourT at hSW); (try unfold PutT at hSW); (try unfold TwoSix at hSW); go_simp; (try with_reducible rfl))
            simp only [Act.put, List.setIfInBounds_toArray, List.set_cons_zero, List.set_cons_succ]
            refine takeAt (i := 10) (v := ?_) rfl (by kernel_rfl) (by kernel_rfl) (by kernel_rfl) (fun _ _ _ h => h) (by kernel_rfl) (by assumption) (fun W hSW => ?_) ?_
            rotate_left
            · ((try unfold BoxAnd at hSW); (try unfold SixAnd at hSW); (try unfold FourT at hSW); (try unfold PutT at hSW); (try unfold TwoSix at hSW); go_simp; (try with_reducible rfl))
            simp only [Act.put, List.setIfInBounds_toArray, List.set_cons_zero, List.set_cons_succ]
            refine takeAt (i := 11) (v := ?_) rfl (by kernel_rfl) (by kernel_rfl) (by kernel_rfl) (fun _ _ _ h => h) (by kernel_rfl) (by assumption) (fun W hSW => ?_) ?_
            rotate_left
            · ((try unfold BoxAnd at hSW); (try unfold SixAnd at hSW); (try unfold FourT at hSW); (try unfold PutT at hSW); (try unfold TwoSix at hSW); go_simp; (try with_reducible rfl))
            simp only [Act.put, List.setIfInBounds_toArray, List.set_cons_zero, List.set_cons_succ]
            refine takeAt (i := 12) (v := ?_) rfl (by kernel_rfl) (by kernel_rfl) (by kernel_rfl) (fun _ _ _ h => h) (by kernel_rfl) (by assumption) (fun W hSW => ?_) ?_
            rotate_left
            · ((try unfold BoxAnd at hSW); (try unfold SixAnd at hSW); (try unfold FourT at hSW); (try unfold PutT at hSW); (try unfold TwoSix at hSW); go_simp; (try with_reducible rfl))
            simp only [Act.put, List.setIfInBounds_toArray, List.set_cons_zero, List.set_cons_succ]
            refine takeAt (i := 13) (v := ?_) rfl (by kernel_rfl) (by kernel_rfl) (by kernel_rfl) (fun _ _ _ h => h) (by kernel_rfl) (by assumption) (fun W hSW => ?_) ?_
            rotate_left
            · ((try unfold BoxAnd at hSW); (try unfold SixAnd at hSW); (try unfold FourT at hSW); (try unfold PutT at hSW); (try unfold TwoSix at hSW); go_simp; (try with_reducible rfl))
            simp only [Act.put, List.setIfInBounds_toArray, List.set_cons_zero, List.set_cons_succ]
            refine takeAt (i := 14) (v := ?_) rfl (by kernel_rfl) (by kernel_rfl) (by kernel_rfl) (fun _ _ _ h => h) (by kernel_rfl) (by assumption) (fun W hSW => ?_) ?_
            rotate_left
            · ((try unfold BoxAnd at hSW); (try unfold SixAnd at hSW); (try unfold FourT at hSW); (try unfold PutT at hSW); (try unfold TwoSix at hSW); go_simp; (try with_reducible rfl))
            simp only [Act.put, List.setIfInBounds_toArray, List.set_cons_zero, List.set_cons_succ]
            refine takeAt (i := 15) (v := ?_) rfl (by kernel_rfl) (by kernel_rfl) (by kernel_rfl) (fun _ _ _ h => h) (by kernel_rfl) (by assumption) (fun W hSW => ?_) ?_
            rotate_left
            · ((try unfold BoxAnd at hSW); (try unfold SixAnd at hSW); (try unfold FourT at hSW); (try unfold PutT at hSW); (try unfold TwoSix at hSW); go_simp; (try with_reducible rfl))
            simp only [Act.put, List.setIfInBounds_toArray, List.set_cons_zero, List.set_cons_succ]
            refine takeAt (i := 16) (v := ?_) rfl (by kernel_rfl) (by kernel_rfl) (by kernel_rfl) (fun _ _ _ h => h) (by kernel_rfl) (by assumption) (fun W hSW => ?_) ?_
            rotate_left
            · ((try unfold BoxAnd at hSW); (try unfold SixAnd at hSW); (try unfold FourT at hSW); (try unfold PutT at hSW); (try unfold TwoSix at hSW); go_simp; (try with_reducible rfl))
            simp only [Act.put, List.setIfInBounds_toArray, List.set_cons_zero, List.set_cons_succ]
            refine takeAt (i := 17) (v := ?_) rfl (by kernel_rfl) (by kernel_rfl) (by kernel_rfl) (fun _ _ _ h => h) (by kernel_rfl) (by assumption) (fun W hSW => ?_) ?_
            rotate_left
            · ((try unfold BoxAnd at hSW); (try unfold SixAnd at hSW); (try unfold FourT at hSW); (try unfold PutT at hSW); (try unfold TwoSix at hSW); go_simp; (try with_reducible rfl))
            simp only [Act.put, List.setIfInBounds_toArray, List.set_cons_zero, List.set_cons_succ]
            refine takeAt (i := 18) (v := ?_) rfl (by kernel_rfl) (by kernel_rfl) (by kernel_rfl) (fun _ _ _ h => h) (by kernel_rfl) (by assumption) (fun W hSW => ?_) ?_
            rotate_left
            · ((try unfold BoxAnd at hSW); (try unfold SixAnd at hSW); (try unfold FourT at hSW); (try unfold PutT at hSW); (try unfold TwoSix at hSW); go_simp; (try with_reducible rfl))
            simp only [Act.put, List.setIfInBounds_toArray, List.set_cons_zero, List.set_cons_succ]
            refine takeAt (i := 19) (v := ?_) rfl (by kernel_rfl) (by kernel_rfl) (by kernel_rfl) (fun _ _ _ h => h) (by kernel_rfl) (by assumption) (fun W hSW => ?_) ?_
            rotate_left
            · ((try unfold BoxAnd at hSW); (try unfold SixAnd at hSW); (try unfold FourT at hSW); (try unfold PutT at hSW); (try unfold TwoSix at hSW); go_simp; (try with_reducible rfl))
            simp only [Act.put, List.setIfInBounds_toArray, List.set_cons_zero, List.set_cons_succ]
            refine takeAt (i := 20) (v := ?_) rfl (by kernel_rfl) (by kernel_rfl) (by kernel_rfl) (fun _ _ _ h => h) (by kernel_rfl) (by assumption) (fun W hSW => ?_) ?_
            rotate_left
            · ((try unfold BoxAnd at hSW); (try unfold SixAnd at hSW); (try unfold FourT at hSW); (try unfold PutT at hSW); (try unfold TwoSix at hSW); go_simp; (try with_reducible rfl))
            simp only [Act.put, List.setIfInBounds_toArray, List.set_cons_zero, List.set_cons_succ]
            refine takeAt (i := 21) (v := ?_) rfl (by kernel_rfl) (by kernel_rfl) (by kernel_rfl) (fun _ _ _ h => h) (by kernel_rfl) (by assumption) (fun W hSW => ?_) ?_
            rotate_left
            · ((try unfold BoxAnd at hSW); (try unfold SixAnd at hSW); (try unfold FourT at hSW); (try unfold PutT at hSW); (try unfold TwoSix at hSW); go_simp; (try with_reducible rfl))
            simp only [Act.put, List.setIfInBounds_toArray, List.set_cons_zero, List.set_cons_succ]
            refine takeAt (i := 22) (v := ?_) rfl (by kernel_rfl) (by kernel_rfl) (by kernel_rfl) (fun _ _ _ h => h) (by kernel_rfl) (by assumption) (fun W hSW => ?_) ?_
            rotate_left
            · ((try unfold BoxAnd at hSW); (try unfold SixAnd at hSW); (try unfold FourT at hSW); (try unfold PutT at hSW); (try unfold TwoSix at hSW); go_simp; (try with_reducible rfl))
            simp only [Act.put, List.setIfInBounds_toArray, List.set_cons_zero, List.set_cons_succ]
            refine takeAt (i := 23) (v := ?_) rfl (by kernel_rfl) (by kernel_rfl) (by kernel_rfl) (fun _ _ _ h => h) (by kernel_rfl) (by assumption) (fun W hSW => ?_) ?_
            rotate_left
            · ((try unfold BoxAnd at hSW); (try unfold SixAnd at hSW); (try unfold FourT at hSW); (try unfold PutT at hSW); (try unfold TwoSix at hSW); go_simp; (try with_reducible rfl))
            simp only [Act.put, List.setIfInBounds_toArray, List.set_cons_zero, List.set_cons_succ]
            refine wpAnyH_done (by kernel_rfl) ?_ _
            go_wp2_with fail
            go_ret
            exact ⟨ret_bool (by rw [ordOk_no hlt (by rw [HSK.out, decide_eq_false (by omega)]; rfl)]; rfl), B2⟩
          · have d1 : decide (ro ≤ u) = false := decide_eq_false hlo
            have H1 : ∀ j, j < k + 1 → stepOk rs j = true := fun j hj => by
              by_cases e : j = k
              · rw [e, HSK.out, decide_eq_true (by omega)]; rfl
              · exact hrel j (by omega)
            refine takeAt (i := 5) (v := ?_) rfl (by kernel_rfl) (by kernel_rfl) (by kernel_rfl) (fun _ _ _ h => h) (by kernel_rfl) (by assumption) (fun W hSW => ?_) ?_
            rotate_left
            · ((try unfold BoxAnd at hSW); (try unfold SixAnd at hSW); (try unfold FourT at hSW); (try unfold PutT at hSW); (try unfold TwoSix at hSW); go_simp; (try with_reducible rfl))
            simp only [Act.put, List.setIfInBounds_toArray, List.set_cons_zero, List.set_cons_succ]
            refine takeAt (i := 6) (v := ?_) rfl (by kernel_rfl) (by kernel_rfl) (by kernel_rfl) (fun _ _ _ h => h) (by kernel_rfl) (by assumption) (fun W hSW => ?_) ?_
            rotate_left
            · ((try unfold BoxAnd at hSW); (try unfold SixAnd at hSW); (try unfold FourT at hSW); (try unfold PutT at hSW); (try unfold TwoSix at hSW); go_simp; (try with_reducible rfl))
            simp only [Act.put, List.setIfInBounds_toArray, List.set_cons_zero, List.set_cons_succ]
            refine takeAt (i := 7) (v := ?_) rfl (by kernel_rfl) (by kernel_rfl) (by kernel_rfl) (fun _ _ _ h => h) (by kernel_rfl) (by assumption) (fun W hSW => ?_) ?_
            rotate_left
            · ((try unfold BoxAnd at hSW); (try unfold SixAnd at hSW); (try unfold FourT at hSW); (try unfold PutT at hSW); (try unfold TwoSix at hSW); go_simp; (try with_reducible rfl))
            simp only [Act.put, List.setIfInBounds_toArray, List.set_cons_zero, List.set_cons_succ]
            refine takeAt (i := 8) (v := ?_) rfl (by kernel_rfl) (by kernel_rfl) (by kernel_rfl) (fun _ _ _ h => h) (by kernel_rfl) (by assumption) (fun W hSW => ?_) ?_
            rotate_left
            · ((try unfold BoxAnd at hSW); (try unfold SixAnd at hSW); (try unfold FourT at hSW); (try unfold PutT at hSW); (try unfold TwoSix at hSW); go_simp; (try with_reducible rfl))
            simp only [Act.put, List.setIfInBounds_toArray, List.set_cons_zero, List.set_cons_succ]
            refine takeAt (i := 9) (v := ?_) rfl (by kernel_rfl) (by kernel_rfl) (by kernel_rfl) (fun _ _ _ h => h) (by kernel_rfl) (by assumption) (fun W hSW => ?_) ?_
            rotate_left
            · ((try unfold BoxAnd at hSW); (try unfold SixAnd at hSW); (try unfold FourT at hSW); (try unfold PutT at hSW); (try unfold TwoSix at hSW); go_simp; (try with_reducible rfl))
            simp only [Act.put, List.setIfInBounds_toArray, List.set_cons_zero, List.set_cons_succ]
            refine takeAt (i := 10) (v := ?_) rfl (by kernel_rfl) (by kernel_rfl) (by kernel_rfl) (fun _ _ _ h => h) (by kernel_rfl) (by assumption) (fun W hSW => ?_) ?_
            rotate_left
            · ((try unfold BoxAnd at hSW); (try unfold SixAnd at hSW); (try unfold FourT at hSW); (try unfold PutT at hSW); (try unfold TwoSix at hSW); go_simp; (try with_reducible rfl))
            simp only [Act.put, List.setIfInBounds_toArray, List.set_cons_zero, List.set_cons_succ]
            refine takeAt (i := 11) (v := ?_) rfl (by kernel_rfl) (by kernel_rfl) (by kernel_rfl) (fun _ _ _ h => h) (by kernel_rfl) (by assumption) (fun W hSW => ?_) ?_
            rotate_left
            · ((try unfold BoxAnd at hSW); (try unfold SixAnd at hSW); (try unfold FourT at hSW); (try unfold PutT at hSW); (try unfold TwoSix at hSW); go_simp; (try with_reducible rfl))
            simp only [Act.put, List.setIfInBounds_toArray, List.set_cons_zero, List.set_cons_succ]
            refine takeAt (i := 12) (v := ?_) rfl (by kernel_rfl) (by kernel_rfl) (by kernel_rfl) (fun _ _ _ h => h) (by kernel_rfl) (by assumption) (fun W hSW => ?_) ?_
            rotate_left
            · ((try unfold BoxAnd at hSW); (try unfold SixAnd at hSW); (try unfold FourT at hSW); (try unfold PutT at hSW); (try unfold TwoSix at hSW); go_simp; (try with_reducible rfl))
            simp only [Act.put, List.setIfInBounds_toArray, List.set_cons_zero, List.set_cons_succ]
            refine takeAt (i := 13) (v := ?_) rfl (by kernel_rfl) (by kernel_rfl) (by kernel_rfl) (fun _ _ _ h => h) (by kernel_rfl) (by assumption) (fun W hSW => ?_) ?_
            rotate_left
            · ((try unfold BoxAnd at hSW); (try unfold SixAnd at hSW); (try unfold FourT at hSW); (try unfold PutT at hSW); (try unfold TwoSix at hSW); go_simp; (try with_reducible rfl))
            simp only [Act.put, List.setIfInBounds_toArray, List.set_cons_zero, List.set_cons_succ]
            refine takeAt (i := 14) (v := ?_) rfl (by kernel_rfl) (by kernel_rfl) (by kernel_rfl) (fun _ _ _ h => h) (by kernel_rfl) (by assumption) (fun W hSW => ?_) ?_
            rotate_left
            · ((try unfold BoxAnd at hSW); (try unfold SixAnd at hSW); (try unfold FourT at hSW); (try unfold PutT at hSW); (try unfold TwoSix at hSW); go_simp; (try with_reducible rfl))
            simp only [Act.put, List.setIfInBounds_toArray, List.set_cons_zero, List.set_cons_succ]
            refine takeAt (i := 15) (v := ?_) rfl (by kernel_rfl) (by kernel_rfl) (by kernel_rfl) (fun _ _ _ h => h) (by kernel_rfl) (by assumption) (fun W hSW => ?_) ?_
            rotate_left
            · ((try unfold BoxAnd at hSW); (try unfold SixAnd at hSW); (try unfold FourT at hSW); (try unfold PutT at hSW); (try unfold TwoSix at hSW); go_simp; (try with_reducible rfl))
            simp only [Act.put, List.setIfInBounds_toArray, List.set_cons_zero, List.set_cons_succ]
            refine takeAt (i := 16) (v := ?_) rfl (by kernel_rfl) (by kernel_rfl) (by kernel_rfl) (fun _ _ _ h => h) (by kernel_rfl) (by assumption) (fun W hSW => ?_) ?_
            rotate_left
            · ((try unfold BoxAnd at hSW); (try unfold SixAnd at hSW); (try unfold FourT at hSW); (try unfold PutT at hSW); (try unfold TwoSix at hSW); go_simp; (try with_reducible rfl))
            simp only [Act.put, List.setIfInBounds_toArray, List.set_cons_zero, List.set_cons_succ]
            refine takeAt (i := 17) (v := ?_) rfl (by kernel_rfl) (by kernel_rfl) (by kernel_rfl) (fun _ _ _ h => h) (by kernel_rfl) (by assumption) (fun W hSW => ?_) ?_
            rotate_left
            · ((try unfold BoxAnd at hSW); (try unfold SixAnd at hSW); (try unfold FourT at hSW); (try unfold PutT at hSW); (try unfold TwoSix at hSW); go_simp; (try with_reducible rfl))
            simp only [Act.put, List.setIfInBounds_toArray, List.set_cons_zero, List.set_cons_succ]
            refine takeAt (i := 18) (v := ?_) rfl (by kernel_rfl) (by kernel_rfl) (by kernel_rfl) (fun _ _ _ h => h) (by kernel_rfl) (by assumption) (fun W hSW => ?_) ?_
            rotate_left
            · ((try unfold BoxAnd at hSW); (try unfold SixAnd at hSW); (try unfold FourT at hSW); (try unfold PutT at hSW); (try unfold TwoSix at hSW); go_simp; (try with_reducible rfl))
            simp only [Act.put, List.setIfInBounds_toArray, List.set_cons_zero, List.set_cons_succ]
            refine takeAt (i := 19) (v := ?_) rfl (by kernel_rfl) (by kernel_rfl) (by kernel_rfl) (fun _ _ _ h => h) (by kernel_rfl) (by assumption) (fun W hSW => ?_) ?_
            rotate_left
            · ((try unfold BoxAnd at hSW); (try unfold SixAnd at hSW); (try unfold FourT at hSW); (try unfold PutT at hSW); (try unfold TwoSix at hSW); go_simp; (try with_reducible rfl))
            simp only [Act.put, List.setIfInBounds_toArray, List.set_cons_zero, List.set_cons_succ]
            refine takeAt (i := 20) (v := ?_) rfl (by kernel_rfl) (by kernel_rfl) (by kernel_rfl) (fun _ _ _ h => h) (by kernel_rfl) (by assumption) (fun W hSW => ?_) ?_
            rotate_left
            · ((try unfold BoxAnd at hSW); (try unfold SixAnd at hSW); (try unfold FourT at hSW); (try unfold PutT at hSW); (try unfold TwoSix at hSW); go_simp; (try with_reducible rfl))
            simp only [Act.put, List.setIfInBounds_toArray, List.set_cons_zero, List.set_cons_succ]
            refine takeAt (i := 21) (v := ?_) rfl (by kernel_rfl) (by kernel_rfl) (by kernel_rfl) (fun _ _ _ h => h) (by kernel_rfl) (by assumption) (fun W hSW => ?_) ?_
            rotate_left
            · ((try unfold BoxAnd at hSW); (try unfold SixAnd at hSW); (try unfold FourT at hSW); (try unfold PutT at hSW); (try unfold TwoSix at hSW); go_simp; (try with_reducible rfl))
            simp only [Act.put, List.setIfInBounds_toArray, List.set_cons_zero, List.set_cons_succ]
            refine takeAt (i := 22) (v := ?_) rfl (by kernel_rfl) (by kernel_rfl) (by kernel_rfl) (fun _ _ _ h => h) (by kernel_rfl) (by assumption) (fun W hSW => ?_) ?_
            rotate_left
            · ((try unfold BoxAnd at hSW); (try unfold SixAnd at hSW); (try unfold FourT at hSW); (try unfold PutT at hSW); (try unfold TwoSix at hSW); go_simp; (try with_reducible rfl))
            simp only [Act.put, List.setIfInBounds_toArray, List.set_cons_zero, List.set_cons_succ]
            refine takeAt (i := 23) (v := ?_) rfl (by kernel_rfl) (by kernel_rfl) (by kernel_rfl) (fun _ _ _ h => h) (by kernel_rfl) (by assumption) (fun W hSW => ?_) ?_
            rotate_left
            · ((try unfold BoxAnd at hSW); (try unfold SixAnd at hSW); (try unfold FourT at hSW); (try unfold PutT at hSW); (try unfold TwoSix at hSW); go_simp; (try with_reducible rfl))
            simp only [Act.put, List.setIfInBounds_toArray, List.set_cons_zero, List.set_cons_succ]
            refine wpAnyH_done (by kernel_rfl) ?_ _
            go_wp2_with fail
            go_roundw
            case rel => exact ⟨k + 1, by omega, by go_num, H1, B2⟩
            case measure => simp [intOf]; omega
    · go_wp2_with fail
      refine (C0.out _).mono ?_
      rintro e w2 ⟨rfl, rfl⟩
      go_wp2_with fail
      go_ret
      exact ⟨ret_bool (by rw [ordOk_iff.2 fun i hi => hrel i (by omega)]; rfl), bel⟩
-- W5b

theorem Blk.sixC {w : World} {B : Nat} {v0 v1 v2 v3 v4 v5 : Value} (h : Blk w B #[v0, v1, v2, v3, v4, v5]) :
    w.cell? ⟨B, 0, none⟩ = some v0 ∧ w.cell? ⟨B, 1, none⟩ = some v1 ∧ w.cell? ⟨B, 2, none⟩ = some v2 ∧ w.cell? ⟨B, 3, none⟩ = some v3 ∧ w.cell? ⟨B, 4, none⟩ = some v4 ∧ w.cell? ⟨B, 5, none⟩ = some v5 :=
  ⟨h.cell 0, h.cell 1, h.cell 2, h.cell 3, h.cell 4, h.cell 5⟩
theorem BatV.parts {w : World} {v : Value} {b : Bat} (h : BatV w v b) : ∃ (a : Option Addr) (cap : Nat), v = .agg #[.bool b.packed, .bool b.mark, .int .i64 b.prod, .int .i64 b.epoch, .int .i64 b.seq, .slice a b.recs.length cap] ∧ Recs w (.slice a b.recs.length cap) b.recs ∧ b.recs.length ≤ cap ∧ cap ≤ 9223372036854775807 := by
  obtain ⟨rv, rfl, hr⟩ := h
  obtain ⟨a, cap, rfl, hl, hm, hc⟩ := id hr
  exact ⟨a, cap, rfl, hr, hl, by simpa [maxLen] using hm⟩

theorem impl_isProducerValid (v : Value) (b : Bat) (w : World) (h : BatV w v b) : Calls Try.prog 78 #[v] w (SaysB (prodOk b.mark b.prod b.epoch b.seq) w) := by
  obtain ⟨a, cap, rfl, _, _, _⟩ := h.parts
  obtain ⟨packed, mark, prod, epoch, seq, recs⟩ := b
  simp only
  clear h
  have bel : Hid (∀ o : Obj, Below w.heap.size w (w.alloc o)) := Lib.hid fun o => (Below.refl _ _).alloc (Nat.le_refl _) _
  by_cases hp : prod = 255
  · subst hp
    have q0 : ((255 : Int) == 255) = true := rfl
    cases mark with
    | true =>
      go_enter Try.func78, Try.ntmps78
      go_wp2_with fail
      go_ret
      exact ⟨ret_bool (rfl), bel.out _⟩
    | false =>
      by_cases he : epoch = 0
      · subst he
        by_cases hs : seq = 0
        · subst hs
          go_enter Try.func78, Try.ntmps78
          go_wp2_with fail
          go_ret
          exact ⟨ret_bool (rfl), bel.out _⟩
        · have q2 : (seq == 0) = false := by rw [beq_eq_false_iff_ne]; exact hs
          go_enter Try.func78, Try.ntmps78
          go_wp2_with fail
          go_ret
          exact ⟨ret_bool (by unfold prodOk; simp [hs]), bel.out _⟩
      · have q1 : (epoch == 0) = false := by rw [beq_eq_false_iff_ne]; exact he
        go_enter Try.func78, Try.ntmps78
        go_wp2_with fail
        go_ret
        exact ⟨ret_bool (by unfold prodOk; simp [he]), bel.out _⟩
  · have q0 : (prod == 255) = false := by rw [beq_eq_false_iff_ne]; exact hp
    have e0 : prodOk mark prod epoch seq = (inR prod 0 254 && inR epoch 0 99 && inR seq 0 9999) := if_neg hp
    rw [e0]
    clear hp e0
    by_cases h0 : 0 ≤ prod
    case neg =>
      have d0 : decide (0 ≤ prod) = false := decide_eq_false h0
      go_enter Try.func78, Try.ntmps78
      go_wp2_with fail
      go_ret
      exact ⟨ret_bool (by rw [inR_lo (show prod < 0 by omega)]; rfl), bel.out _⟩
    have d0 : decide (0 ≤ prod) = true := decide_eq_true h0
    by_cases h1 : prod < 255
    case neg =>
      have d1 : decide (prod < 255) = false := decide_eq_false h1
      go_enter Try.func78, Try.ntmps78
      go_wp2_with fail
      go_ret
      exact ⟨ret_bool (by rw [inR_hi (show 254 < prod by omega)]; rfl), bel.out _⟩
    have d1 : decide (prod < 255) = true := decide_eq_true h1
    by_cases h2 : 0 ≤ epoch
    case neg =>
      have d2 : decide (0 ≤ epoch) = false := decide_eq_false h2
      go_enter Try.func78, Try.ntmps78
      go_wp2_with fail
      go_ret
      exact ⟨ret_bool (by rw [inR_lo (show epoch < 0 by omega)]; simp), bel.out _⟩
    have d2 : decide (0 ≤ epoch) = true := decide_eq_true h2
    by_cases h3 : epoch ≤ 99
    case neg =>
      have d3 : decide (epoch ≤ 99) = false := decide_eq_false h3
      go_enter Try.func78, Try.ntmps78
      go_wp2_with fail
      go_ret
      exact ⟨ret_bool (by rw [inR_hi (show 99 < epoch by omega)]; simp), bel.out _⟩
    have d3 : decide (epoch ≤ 99) = true := decide_eq_true h3
    by_cases h4 : 0 ≤ seq
    case neg =>
      have d4 : decide (0 ≤ seq) = false := decide_eq_false h4
      go_enter Try.func78, Try.ntmps78
      go_wp2_with fail
      go_ret
      exact ⟨ret_bool (by rw [inR_lo (show seq < 0 by omega)]; simp), bel.out _⟩
    have d4 : decide (0 ≤ seq) = true := decide_eq_true h4
    by_cases h5 : seq ≤ 9999
    case neg =>
      have d5 : decide (seq ≤ 9999) = false := decide_eq_false h5
      go_enter Try.func78, Try.ntmps78
      go_wp2_with fail
      go_ret
      exact ⟨ret_bool (by rw [inR_hi (show 9999 < seq by omega)]; simp), bel.out _⟩
    have d5 : decide (seq ≤ 9999) = true := decide_eq_true h5
    go_enter Try.func78, Try.ntmps78
    go_wp2_with fail
    go_ret
    exact ⟨ret_bool (by rw [inR_yes h0 (show prod ≤ 254 by omega), inR_yes h2 h3, inR_yes h4 h5]; rfl), bel.out _⟩

theorem impl_BatchValid (v : Value) (b : Bat) (w : World) (h : BatV w v b) : Calls Try.prog 61 #[v] w (SaysB (batOk b) w) := by
  have C1 : Hid (∀ W, Below w.heap.size w W → Calls Try.prog 78 #[v] W (SaysB (prodOk b.mark b.prod b.epoch b.seq) W)) := Lib.hid fun W hW => impl_isProducerValid v b W (h.below hW)
  obtain ⟨a, cap, rfl, hr, hl, hm⟩ := h.parts
  have C2 : Hid (∀ W, Below w.heap.size w W → Calls Try.prog 79 #[.slice a b.recs.length cap] W (SaysB (ordOk b.recs) W)) := Lib.hid fun W hW => impl_areInOrder _ _ W (hr.below hW)
  have e0 : batOk b = (inR b.recs.length 1 6 && (!b.mark || decide (b.recs.length = 1)) && prodOk b.mark b.prod b.epoch b.seq && ordOk b.recs) := rfl
  rw [e0]
  obtain ⟨packed, mark, prod, epoch, seq, recs⟩ := b
  simp only at C1 C2 hl hm ⊢
  obtain ⟨pb, hpb⟩ : ∃ pb, prodOk mark prod epoch seq = pb := ⟨_, rfl⟩
  obtain ⟨ob, hob⟩ : ∃ ob, ordOk recs = ob := ⟨_, rfl⟩
  rw [hpb] at C1 ⊢
  rw [hob] at C2 ⊢
  clear hpb hob h hr e0
  obtain ⟨n, hn⟩ : ∃ n, recs.length = n := ⟨_, rfl⟩
  rw [hn] at C1 C2 hl ⊢
  clear hn
  have bel : Hid (∀ o : Obj, Below w.heap.size w (w.alloc o)) := Lib.hid fun o => (Below.refl _ _).alloc (Nat.le_refl _) _
  have xB := Blk.made w #[.bool packed, .bool mark, .int .i64 prod, .int .i64 epoch, .int .i64 seq, .slice a n cap] 43
  by_cases h1 : n < 1
  · have d1 : decide ((n : Int) < 1) = true := decide_eq_true (by omega)
    have d1n : decide (n < 1) = true := decide_eq_true h1
    rw [inR_lo (show (n : Int) < 1 by omega)]
    clear xB
    go_enter Try.func61, Try.ntmps61
    go_wp2_with fail
    go_ret
    exact ⟨rfl, bel.out _⟩
  have d1 : decide ((n : Int) < 1) = false := decide_eq_false (by omega)
  have d1n : decide (n < 1) = false := decide_eq_false h1
  by_cases h2 : 6 < n
  · have d2 : decide ((6 : Int) < (n : Int)) = true := decide_eq_true (by omega)
    rw [inR_hi (show (6 : Int) < (n : Int) by omega)]
    clear xB
    go_enter Try.func61, Try.ntmps61
    go_wp2_with fail
    go_ret
    exact ⟨rfl, bel.out _⟩
  have d2 : decide ((6 : Int) < (n : Int)) = false := decide_eq_false (by omega)
  rw [inR_yes (show (1 : Int) ≤ (n : Int) by omega) (show (n : Int) ≤ 6 by omega)]
  by_cases h3 : mark = true ∧ 1 < n
  · obtain ⟨rfl, h3⟩ := h3
    have d3 : decide ((1 : Int) < (n : Int)) = true := decide_eq_true (by omega)
    have d3n : decide (1 < n) = true := decide_eq_true h3
    rw [decide_eq_false (show ¬ n = 1 by omega)]
    clear xB
    go_enter Try.func61, Try.ntmps61
    go_wp2_with fail
    go_ret
    exact ⟨rfl, bel.out _⟩
  have e3 : (!mark || decide (n = 1)) = true := by
    cases mark with
    | false => rfl
    | true => simp only [Bool.not_true, Bool.false_or, decide_eq_true_eq]; simp only [true_and] at h3; omega
  have d3 : mark = true → decide ((1 : Int) < (n : Int)) = false := fun hm => decide_eq_false (by simp only [hm, true_and] at h3; omega)
  have d3n : mark = true → decide (1 < n) = false := fun hm => decide_eq_false (by simp only [hm, true_and] at h3; omega)
  rw [e3]
  clear h3 e3
  have fin : Hid (∀ W, Below w.heap.size w W → Below W.heap.size W W) := Lib.hid fun W _ => Below.refl _ _
  cases mark with
  | false =>
    clear d3 d3n
    go_enter Try.func61, Try.ntmps61
    go_wp2_with fail
    generalize hW1 : w.alloc (.cells #[.bool packed, .bool false, .int .i64 prod, .int .i64 epoch, .int .i64 seq, .slice a n cap] 43) = w1 at xB ⊢
    have b1 : Below w.heap.size w w1 := by rw [← hW1]; exact bel.out _
    obtain ⟨X, hX⟩ : ∃ X, w.heap.size = X := ⟨_, rfl⟩
    rw [hX] at xB ⊢
    have HX := Lib.hid hX
    clear hX hW1 bel
    refine (C1.out w1 b1).mono ?_
    rintro e w2 ⟨rfl, b2⟩
    have B2 := Bstep b1 b2
    have x2 := xB.belowS b2
    cases pb with
    | false =>
      obtain ⟨c0, c1, c2, c3, c4, c5⟩ := x2.sixC
      go_wp2_with fail
      go_ret
      exact ⟨rfl, by rw [HX.out] at *; exact B2⟩
    | true =>
      obtain ⟨c0, c1, c2, c3, c4, c5⟩ := x2.sixC
      go_wp2_with fail
      refine (C2.out w2 B2).mono ?_
      rintro e w3 ⟨rfl, b3⟩
      have B3 := Bstep B2 b3
      go_wp2_with fail
      go_ret
      exact ⟨ret_bool (by simp), B3⟩
  | true =>
    have d3 := d3 rfl
    have d3n := d3n rfl
    go_enter Try.func61, Try.ntmps61
    go_wp2_with fail
    generalize hW1 : w.alloc (.cells #[.bool packed, .bool true, .int .i64 prod, .int .i64 epoch, .int .i64 seq, .slice a n cap] 43) = w1 at xB ⊢
    have b1 : Below w.heap.size w w1 := by rw [← hW1]; exact bel.out _
    obtain ⟨X, hX⟩ : ∃ X, w.heap.size = X := ⟨_, rfl⟩
    rw [hX] at xB ⊢
    have HX := Lib.hid hX
    clear hX hW1 bel
    refine (C1.out w1 b1).mono ?_
    rintro e w2 ⟨rfl, b2⟩
    have B2 := Bstep b1 b2
    have x2 := xB.belowS b2
    cases pb with
    | false =>
      obtain ⟨c0, c1, c2, c3, c4, c5⟩ := x2.sixC
      go_wp2_with fail
      go_ret
      exact ⟨rfl, by rw [HX.out] at *; exact B2⟩
    | true =>
      obtain ⟨c0, c1, c2, c3, c4, c5⟩ := x2.sixC
      go_wp2_with fail
      refine (C2.out w2 B2).mono ?_
      rintro e w3 ⟨rfl, b3⟩
      have B3 := Bstep B2 b3
      go_wp2_with fail
      go_ret
      exact ⟨ret_bool (by simp), B3⟩
-- W5c

set_option maxHeartbeats 2000000 in
theorem spec_BatchValid (v : Value) (b : Bat) (w : World) (h : BatV w v b) : Calls Try.prog 58 #[v] w (SaysB (batOk b) w) := by
  obtain ⟨a, cap, rfl, hr, hl, hm⟩ := h.parts
  have C1 : Hid (∀ W, Below w.heap.size w W → Calls Try.prog 73 #[.slice a b.recs.length cap] W (SaysB (ordOk b.recs && inR b.recs.length 1 6) W)) := Lib.hid fun W hW => spec_l5Records _ _ W (hr.below hW)
  rw [batOk_model]
  obtain ⟨packed, mark, prod, epoch, seq, recs⟩ := b
  simp only at C1 hl hm ⊢
  have C2 : Hid (∀ W, Calls Try.prog 43 #[.int .i64 prod, .int .i64 0, .int .i64 255] W fun e w' => e = .returned (.bool (inR prod 0 255)) ∧ W = w') := Lib.hid fun W => spec_l6In prod 0 255 W
  have C3 : Hid (∀ W, Calls Try.prog 43 #[.int .i64 epoch, .int .i64 0, .int .i64 99] W fun e w' => e = .returned (.bool (inR epoch 0 99)) ∧ W = w') := Lib.hid fun W => spec_l6In epoch 0 99 W
  have C4 : Hid (∀ W, Calls Try.prog 43 #[.int .i64 seq, .int .i64 0, .int .i64 9999] W fun e w' => e = .returned (.bool (inR seq 0 9999)) ∧ W = w') := Lib.hid fun W => spec_l6In seq 0 9999 W
  obtain ⟨ob, hob⟩ : ∃ ob, (ordOk recs && inR recs.length 1 6) = ob := ⟨_, rfl⟩
  obtain ⟨pb, hpb⟩ : ∃ pb, inR prod 0 255 = pb := ⟨_, rfl⟩
  obtain ⟨eb, heb⟩ : ∃ eb, inR epoch 0 99 = eb := ⟨_, rfl⟩
  obtain ⟨sb, hsb⟩ : ∃ sb, inR seq 0 9999 = sb := ⟨_, rfl⟩
  rw [hob] at C1 ⊢
  rw [hpb] at C2 ⊢
  rw [heb] at C3 ⊢
  rw [hsb] at C4 ⊢
  obtain ⟨R, hR⟩ : ∃ R, (ob && pb && eb && sb && (if prod = 255 then decide (epoch = 0) && decide (seq = 0) && !mark else !mark || decide (recs.length = 1))) = R := ⟨_, rfl⟩
  rw [hR]
  have HR := Lib.hid hR
  clear hR hob hpb heb hsb h hr
  obtain ⟨n, hn⟩ : ∃ n, recs.length = n := ⟨_, rfl⟩
  rw [hn] at C1 hl HR ⊢
  clear hn
  have bel : Hid (∀ o : Obj, Below w.heap.size w (w.alloc o)) := Lib.hid fun o => (Below.refl _ _).alloc (Nat.le_refl _) _
  have xB := Blk.made w #[.bool packed, .bool mark, .int .i64 prod, .int .i64 epoch, .int .i64 seq, .slice a n cap] 43
  go_enter Try.func58, Try.ntmps58
  go_wp2_with fail
  generalize hW1 : w.alloc (.cells #[.bool packed, .bool mark, .int .i64 prod, .int .i64 epoch, .int .i64 seq, .slice a n cap] 43) = w1 at xB ⊢
  have b1 : Below w.heap.size w w1 := by rw [← hW1]; exact bel.out _
  obtain ⟨X, hX⟩ : ∃ X, w.heap.size = X := ⟨_, rfl⟩
  rw [hX] at xB ⊢
  have HX := Lib.hid hX
  clear hX hW1 bel
  refine (C1.out w1 b1).mono ?_
  rintro e w2 ⟨rfl, b2⟩
  have B2 := Bstep b1 b2
  have x2 := xB.belowS b2
  clear xB
  obtain ⟨c0, c1, c2, c3, c4, c5⟩ := x2.sixC
  cases ob with
  | false =>
    go_wp2_with fail
    go_ret
    exact ⟨ret_bool (by rw [← HR.out]; simp), B2⟩
  | true =>
  go_wp2_with fail
  refine (C2.out w2).mono ?_
  rintro e w2' ⟨rfl, rfl⟩
  cases pb with
  | false =>
    go_wp2_with fail
    go_ret
    exact ⟨ret_bool (by rw [← HR.out]; simp), B2⟩
  | true =>
  go_wp2_with fail
  refine (C3.out w2).mono ?_
  rintro e w2' ⟨rfl, rfl⟩
  cases eb with
  | false =>
    go_wp2_with fail
    go_ret
    exact ⟨ret_bool (by rw [← HR.out]; simp), B2⟩
  | true =>
  go_wp2_with fail
  refine (C4.out w2).mono ?_
  rintro e w2' ⟨rfl, rfl⟩
  cases sb with
  | false =>
    go_wp2_with fail
    go_ret
    exact ⟨ret_bool (by rw [← HR.out]; simp), B2⟩
  | true =>
  by_cases hp : prod = 255
  · subst hp
    have q0 : ((255 : Int) == 255) = true := rfl
    by_cases he : epoch = 0
    · subst he
      have q1 : ((0 : Int) == 0) = true := rfl
      by_cases hs : seq = 0
      · subst hs
        cases mark
        all_goals
          go_wp2_with fail
          go_ret
          exact ⟨ret_bool (by rw [← HR.out]; simp), B2⟩
      · have q2 : (seq == 0) = false := by rw [beq_eq_false_iff_ne]; exact hs
        have E2 := Lib.hid hs
        clear hs
        go_wp2_with fail
        go_ret
        exact ⟨ret_bool (by rw [← HR.out]; simp [E2.out]), B2⟩
    · have q1 : (epoch == 0) = false := by rw [beq_eq_false_iff_ne]; exact he
      have E2 := Lib.hid he
      clear he
      go_wp2_with fail
      go_ret
      exact ⟨ret_bool (by rw [← HR.out]; simp [E2.out]), B2⟩
  · have q0 : (prod == 255) = false := by rw [beq_eq_false_iff_ne]; exact hp
    have E0 := Lib.hid hp
    clear hp
    cases mark with
    | false =>
      go_wp2_with fail
      go_ret
      exact ⟨ret_bool (by rw [← HR.out]; simp [E0.out]), B2⟩
    | true =>
      by_cases h1 : n = 1
      · have q3 : ((n : Int) == 1) = true := by rw [beq_iff_eq]; omega
        have q3n : (n == 1) = true := by rw [beq_iff_eq]; exact h1
        have E3 := Lib.hid h1
        clear h1
        go_wp2_with fail
        go_ret
        exact ⟨ret_bool (by rw [← HR.out]; simp [E0.out, E3.out]), B2⟩
      · have q3 : ((n : Int) == 1) = false := by rw [beq_eq_false_iff_ne]; omega
        have q3n : (n == 1) = false := by rw [beq_eq_false_iff_ne]; exact h1
        have E3 := Lib.hid h1
        clear h1
        go_wp2_with fail
        go_ret
        exact ⟨ret_bool (by rw [← HR.out]; simp [E0.out, E3.out]), B2⟩

/-- the first and the last offset, and whether the batch is valid -/
def SpanIs (ok : Bool) (f l : Int) (w : World) (e : Ending) (w' : World) : Prop := e = .returned (.tuple #[.int .i64 (if ok = true then f else 0), .int .i64 (if ok = true then l else 0), .bool ok]) ∧ Below w.heap.size w w'
def SpanRes (b : Bat) (w : World) (e : Ending) (w' : World) : Prop := e = .returned (.tuple #[.int .i64 (spanF b), .int .i64 (spanL b), .bool (batOk b)]) ∧ Below w.heap.size w w'

set_option maxHeartbeats 1000000 in
theorem impl_BatchSpan (v : Value) (b : Bat) (w : World) (h : BatV w v b) : Calls Try.prog 91 #[v] w (SpanRes b w) := by
  have C1 : Hid (∀ W, Below w.heap.size w W → Calls Try.prog 61 #[v] W (SaysB (batOk b) W)) := Lib.hid fun W hW => impl_BatchValid v b W (h.below hW)
  obtain ⟨a, cap, rfl, hr, hl, hm⟩ := h.parts
  have HV : Hid (batOk b = true → 1 ≤ b.recs.length ∧ b.recs.length ≤ 6) := Lib.hid fun hb => (batOk_iff.1 hb).1
  show Calls Try.prog 91 _ w (SpanIs (batOk b) (recAt b.recs 0).off (recAt b.recs (b.recs.length - 1)).off w)
  obtain ⟨packed, mark, prod, epoch, seq, recs⟩ := b
  simp only at C1 hl hm hr HV ⊢
  obtain ⟨ok, hok⟩ : ∃ ok, batOk ⟨packed, mark, prod, epoch, seq, recs⟩ = ok := ⟨_, rfl⟩
  obtain ⟨o0, ho0⟩ : ∃ o0, (recAt recs 0).off = o0 := ⟨_, rfl⟩
  obtain ⟨o1, ho1⟩ : ∃ o1, (recAt recs (recs.length - 1)).off = o1 := ⟨_, rfl⟩
  rw [hok] at C1 HV
  rw [hok, ho0, ho1]
  have HO0 := Lib.hid ho0
  have HO1 := Lib.hid ho1
  clear hok h ho0 ho1
  have bel : Hid (∀ o : Obj, Below w.heap.size w (w.alloc o)) := Lib.hid fun o => (Below.refl _ _).alloc (Nat.le_refl _) _
  have xB := Blk.made w #[.bool packed, .bool mark, .int .i64 prod, .int .i64 epoch, .int .i64 seq, .slice a recs.length cap] 43
  have Hr := Lib.hid hr
  clear hr
  go_enter Try.func91, Try.ntmps91
  go_wp2_with fail
  generalize hW1 : w.alloc (.cells #[.bool packed, .bool mark, .int .i64 prod, .int .i64 epoch, .int .i64 seq, .slice a recs.length cap] 43) = w1 at xB ⊢
  have b1 : Below w.heap.size w w1 := by rw [← hW1]; exact bel.out _
  obtain ⟨X, hX⟩ : ∃ X, w.heap.size = X := ⟨_, rfl⟩
  rw [hX] at xB ⊢
  have HX := Lib.hid hX
  clear hX hW1 bel
  refine (C1.out w1 b1).mono ?_
  rintro e w2 ⟨rfl, b2⟩
  have B2 := Bstep b1 b2
  have x2 := xB.belowS b2
  clear xB
  obtain ⟨c0, c1, c2, c3, c4, c5⟩ := x2.sixC
  cases ok with
  | false =>
    go_wp2_with fail
    go_ret3
    exact ⟨rfl, B2⟩
  | true =>
    obtain ⟨l1, l6⟩ := HV.out rfl
    obtain ⟨g, off, cap', e, hm'⟩ := Hr.out.form (by omega)
    simp only [Value.slice.injEq, true_and] at e
    obtain ⟨rfl, rfl⟩ := e
    have hr2 := Hr.out.below B2
    obtain ⟨_, _, r0⟩ := hr2.rec 0 (by omega)
    obtain ⟨_, _, r1⟩ := hr2.rec (recs.length - 1) (by omega)
    have f0 := r0.1
    have f1 := r1.1
    rw [Nat.zero_mul, Nat.add_zero] at f0
    rw [HO0.out] at f0
    rw [HO1.out] at f1
    clear r0 r1 hr2 hm'
    have s1 : IntKind.i64.wrap ((recs.length : Int) - 1) = (recs.length : Int) - 1 := IntWalk.i64_in _ ⟨by omega, by omega⟩
    have n1 : ((recs.length : Int) - 1).toNat = recs.length - 1 := by omega
    have n2 : (1 : Int) ≤ (recs.length : Int) := by omega
    have n4 : 0 < recs.length := by omega
    have n3 : (recs.length : Int) - 1 < (recs.length : Int) := by omega
    go_wp2_with fail
    go_quiet (fail)
    go_wp2_with fail
    go_ret3
    exact ⟨rfl, Bstep B2 (below_drewN (Below.refl _ _) nq)⟩

end Go.Proofs.Ytfapeppocfodpaa
