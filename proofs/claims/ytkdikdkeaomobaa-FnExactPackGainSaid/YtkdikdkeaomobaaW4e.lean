/- Chapter 4: the model's packing, whole. -/
import Derived.Test.YtkdikdkeaomobaaW4d
import Derived.Maps.AppendAt
namespace Go.Proofs.Ytkdikdkeaomobaa
open Go.ChangeShapes Go.WideShapes Go.ChangeAt Go.RowKit
set_option linter.unusedVariables false

/-- 'append(s, u...)', with where the new slice lies -/
theorem wp_appW {w : World} {ops : Array Oper} {rest : List Oper} {o : Oper} {a : Act} {Q : Exit → Act → World → Prop}
    (hg : o.guard = none) (s x : Operand) (hop : o.op = Op.call { callee := Callee.builtin Builtin.append, args := #[s, x], argTypes := #[23, 23] })
    (base : Nat) (v u : Value) (xs ys : List Int) (hs : a.eval s = v) (hx : a.eval x = u)
    (hown : Own w base v xs) (hsrc : Ints w u ys) (hlen : xs.length + ys.length < 10000000000) (hb : base ≤ w.heap.size)
    (hK : ∀ v' w', Own w' base v' (xs ++ ys) → w.grownBy w' v.ownBlock → (v'.ownBlock = v.ownBlock ∨ v'.ownBlock = some w.heap.size) → wpList Try.prog ops Q rest (a.put o.dst v') w') :
    wpList Try.prog ops Q (o :: rest) a w := by
  obtain ⟨i0, hi, hz0, hz1, hz2⟩ := info_parts info_int
  obtain ⟨ad, cap, rfl, hl, hm, hc⟩ := hsrc
  cases ad with
  | none =>
    have h0 : ys = [] := by
      rcases Nat.eq_zero_or_pos ys.length with h | h
      · exact List.eq_nil_of_length_eq_zero h
      · obtain ⟨b, off, e, _⟩ := hc h; cases e
    subst h0
    refine wpList_append_own_any hg s x 23 hop base 3 i0 1 Try.underlying23 hi v xs.length _ hs hown cap hx ?_
    exact hK v w (by simpa using hown) (World.grownBy.refl _ _) (.inl rfl)
  | some ad =>
    refine wpList_append_own_at w hg s x 23 hop base 3 i0 (.int .i64 0) 1 8 Try.underlying23 hi hz0 hz1 hz2 rfl (by decide) v xs.length _ hs hown ad ys.length cap (ys.map (Value.int .i64)) hx (by simp) ?_ (ints_oneCell _ _) ?_ ?_ hb ?_
    · intro j u hu
      have hj : j < ys.length := by
        rcases Nat.lt_or_ge j ys.length with h | h
        · exact h
        · simp [List.getElem?_eq_none (show (ys.map (Value.int .i64)).length ≤ j by simpa using h)] at hu
      obtain ⟨b, off, e, hcell⟩ := hc (by omega)
      simp only [Option.some.injEq] at e
      subst e
      rw [Addr.add_lit, hcell j hj]
      simp [hj] at hu
      simp [List.getD, hj, hu]
    · unfold maxLen; omega
    · omega
    · intro v' w' hown' hgrow _ hat
      refine hK v' w' ?_ hgrow hat
      unfold Own
      simpa using hown'
theorem lit1 (w : World) (x : Int) : Ints (w.alloc (.cells #[.int .i64 x] 3)) (.slice (some ⟨w.heap.size, 0, none⟩) 1 1) [x] :=
  ⟨_, 1, rfl, by simp, by unfold maxLen; omega, fun _ => ⟨_, 0, rfl, fun i hi => by
    have : i = 0 := by simpa using hi
    subst this
    exact (Blk.made w #[.int .i64 x] 3).cell 0⟩⟩
theorem lit2 (w : World) (x y : Int) : Ints (w.alloc (.cells #[.int .i64 x, .int .i64 y] 3)) (.slice (some ⟨w.heap.size, 0, none⟩) 2 2) [x, y] :=
  ⟨_, 2, rfl, by simp, by unfold maxLen; omega, fun _ => ⟨_, 0, rfl, fun i hi => by
    match i, hi with
    | 0, _ => exact (Blk.made w #[.int .i64 x, .int .i64 y] 3).cell 0
    | 1, _ => exact (Blk.made w #[.int .i64 x, .int .i64 y] 3).cell 1
    | n + 2, hi => simp at hi; omega⟩⟩
/-- two values lie in different blocks -/
def Apart (u v : Value) : Prop := ∀ k, v.ownBlock = some k → u.ownBlock ≠ some k
theorem Apart.comm {u v : Value} (h : Apart u v) : Apart v u := fun k hk e => h k e hk
theorem Own.growA {w w' : World} {base : Nat} {u v : Value} {xs : List Int} (h : Own w base u xs) (hg : w.grownBy w' v.ownBlock) (ha : Apart u v) : Own w' base u xs := h.grown hg (by
  cases e : u.ownBlock with
  | none => exact .inl rfl
  | some q => exact .inr fun e2 => ha q e2.symm e)
/-- what was appended to lies apart from what lay apart -/
theorem Apart.step {w : World} {base : Nat} {u v v' : Value} {xs : List Int} {n : Nat} (ha : Apart u v) (hu : Own w base u xs) (hn : w.heap.size ≤ n) (hat : v'.ownBlock = v.ownBlock ∨ v'.ownBlock = some n) : Apart u v' := fun k hk e => by
  rcases hat with h | h
  · exact ha k (h ▸ hk) e
  · have h1 := hu.lt2 k e
    rw [h] at hk
    simp only [Option.some.injEq] at hk
    omega

set_option maxHeartbeats 2000000 in
theorem spec_l4Pack (v : Value) (xs : List Int) (w : World) (h : Ints w v xs) (hl : xs.length ≤ 200) :
    Calls Try.prog 35 #[v] w (NewInts1 w (packP xs)) := by
  obtain ⟨R, hR⟩ : ∃ R, packP xs = R := ⟨_, rfl⟩
  rw [hR]
  have H0 : Hid ([] ++ packF xs (xs.length - 0) 0 [] = R) := Lib.hid hR
  have HR : Hid (R.length ≤ 210) := Lib.hid (by rw [← hR]; have := packP_len xs; omega)
  have C1 : Hid (∀ wn (j : Nat), j ≤ 200 → Below w.heap.size w wn → Calls Try.prog 43 #[v, .int .i64 (j : Int)] wn (BestRes (bestB xs j (min j 200)) wn)) := fun wn j hj hw => spec_l4Best v xs j wn (h.below hw) hj (by omega)
  have C2 : Hid (∀ wn u ys, Ints wn u ys → ys.length ≤ 1000 → Calls Try.prog 44 #[u] wn (NewInts1 wn (plainP ys))) := fun wn u ys hu hy => spec_l4Plain u ys wn hu hy
  have hv := h
  obtain ⟨a, cap, rfl, l1, m1, c0⟩ := h
  unfold maxLen at m1
  have HC := Lib.hid c0
  have own0 : Own ((w.alloc (.cells #[] 3)).alloc (.cells #[] 3)) w.heap.size (.slice (some ⟨w.heap.size, 0, none⟩) 0 0) [] := (own_empty w _ (Nat.le_refl _)).below (alloc_below' _ _)
  have own1 : Own ((w.alloc (.cells #[] 3)).alloc (.cells #[] 3)) w.heap.size (.slice (some ⟨w.heap.size + 1, 0, none⟩) 0 0) [] := by
    have := own_empty (w.alloc (.cells #[] 3)) w.heap.size (by simp)
    have e : (w.alloc (.cells #[] 3)).heap.size = w.heap.size + 1 := by simp
    rwa [e] at this
  have ap0 : Apart (.slice (some ⟨w.heap.size, 0, none⟩) 0 0) (.slice (some ⟨w.heap.size + 1, 0, none⟩) 0 0) := fun k hk e => by
    simp only [Value.ownBlock, Option.some.injEq] at hk e
    omega
  have b0 := Bstep (alloc_below' w (.cells #[] 3)) (alloc_below' _ (.cells #[] 3))
  clear c0 hR
  go_enter Try.func35, Try.ntmps35
  go_wp2_with fail
  go_loopw [3, 4, 5] (fun r p i wr => ∃ (j : Nat) (cur pl : List Int), i = .int .i64 j ∧ j ≤ xs.length ∧ Own wr w.heap.size r cur ∧ Own wr w.heap.size p pl ∧ Apart r p ∧ pl.length ≤ j ∧ Hid (cur ++ packF xs (xs.length - j) j pl = R) ∧ Below w.heap.size w wr) (fun _ _ i _ => xs.length - (intOf i).toNat)
  case atStart => exact ⟨0, [], [], rfl, Nat.zero_le _, own0, own1, ap0, Nat.le_refl _, H0, b0⟩
  case round =>
    obtain ⟨j, cur, pl, rfl, hj, hor, hop, hap, hpl, heq, hbel⟩ := hrel
    have hsz := hbel.size
    have hcl : cur.length ≤ 210 := by have h1 := HR.out; rw [← heq.out, List.length_append] at h1; omega
    by_cases hlt : j < xs.length
    · obtain ⟨b, off, rfl, hcell0⟩ := HC.out (by omega)
      have hx := (hbel.cell (World.block_lt_of_cell? w _ (hcell0 j hlt))).trans (hcell0 j hlt)
      have hq := heq.out
      rw [show xs.length - j = (xs.length - (j + 1)) + 1 by omega] at hq
      unfold packF at hq
      rw [if_pos hlt] at hq
      have D1' := C1.out wr j (by omega) hbel
      obtain ⟨q1, q2, q3⟩ := bestB_le xs j (min j 200)
      obtain ⟨⟨L, B⟩, hLB⟩ : ∃ g, bestB xs j (min j 200) = g := ⟨_, rfl⟩
      rw [hLB] at D1' hq q1 q2 q3
      simp only at hq q1 q2 q3
      have D1 := Lib.hid D1'
      obtain ⟨x, ex⟩ : ∃ x, xs.getD j 0 = x := ⟨_, rfl⟩
      rw [ex] at hx hq
      clear D1' hLB hcell0 ex
      by_cases hL : L < 3
      · rw [if_pos hL] at hq
        have d1 : decide ((L : Int) < 3) = true := decide_eq_true (by omega)
        have d2 : decide (L < 3) = true := decide_eq_true hL
        have HQ := Lib.hid hq
        clear hq
        go_wp2_with fail
        refine D1.out.mono ?_
        rintro e w2 ⟨rfl, b2⟩
        have hor2 := hor.below b2
        have hop2 := hop.below b2
        have hbel2 := Bstep hbel b2
        have hbl : b < wr.heap.size := World.block_lt_of_cell? wr _ hx
        have hx2 := (b2.cell (p := ⟨b, off + j, none⟩) hbl).trans hx
        have B3 := alloc_below' w2 (.cells #[.int .i64 x] 3)
        have hsz3 : w.heap.size ≤ (w2.alloc (.cells #[.int .i64 x] 3)).heap.size := Nat.le_trans hbel2.size B3.size
        have hop3 := hop2.below B3
        have hor3 := hor2.below B3
        clear hx hor hop
        go_wp2_with (at_builtin; refine wp_appW rfl _ _ rfl w.heap.size _ (.slice (some ⟨w2.heap.size, 0, none⟩) 1 1) pl [x] rfl rfl hop3 (lit1 w2 x) (by simp; omega) hsz3 ?_; intro v4 w4 own4 g4 at4)
        go_roundw
        case rel =>
          exact ⟨j + 1, cur, pl ++ [x], by go_num, by omega, hor3.growA g4 hap, own4, hap.step hor3 (Nat.le_refl _) at4, by rw [List.length_append, List.length_singleton]; omega, HQ, (Bstep hbel2 B3).grown g4 hsz3 hop3.lt⟩
        case measure => simp [intOf]; omega
      · rw [if_neg hL] at hq
        have d1 : decide ((L : Int) < 3) = false := decide_eq_false (by omega)
        have d2 : decide (L < 3) = false := decide_eq_false hL
        have e1 : ((61 + L : Nat) : Int) = 61 + (L : Int) := by omega
        rw [e1, packF_more xs (xs.length - (j + 1)) (xs.length - (j + L)) (j + L) [] (by omega) (by omega)] at hq
        have HQ := Lib.hid hq
        have hplen := plainP_len pl
        obtain ⟨pp, hpp⟩ : ∃ pp, plainP pl = pp := ⟨_, rfl⟩
        rw [hpp] at hplen
        have HPP := Lib.hid hpp
        have hppl : pp.length ≤ 300 := by omega
        have s1 : IntKind.i64.wrap (64 + (L : Int)) = 64 + (L : Int) := IntWalk.i64_in _ ⟨by omega, by omega⟩
        have s2 : IntKind.i64.wrap (64 + (L : Int) - 3) = 61 + (L : Int) := by rw [IntWalk.i64_in _ ⟨by omega, by omega⟩]; omega
        have s3 : 64 + (L : Int) - 3 = 61 + (L : Int) := by omega
        clear hq e1 hpp hplen hx
        go_wp2_with fail
        refine D1.out.mono ?_
        rintro e w2 ⟨rfl, b2⟩
        have hor2 := hor.below b2
        have hop2 := hop.below b2
        have hbel2 := Bstep hbel b2
        have D2' := C2.out w2 _ pl hop2.ints (by omega)
        rw [HPP.out] at D2'
        have D2 := Lib.hid D2'
        clear hor hop D2'
        go_wp2_with fail
        refine D2.out.mono ?_
        rintro e w3 ⟨v3, rfl, own3, b3⟩
        have hor3 := hor2.below b3
        have hbel3 := Bstep hbel2 b3
        have hsz3 := hbel3.size
        go_wp2_with (first
          | (at_builtin; refine wp_appW rfl _ _ rfl w.heap.size u3 v3 cur pp rfl rfl hor3 own3.ints (by omega) hsz3 ?_; intro v4 w4 own4 g4 at4; have hbel4 := hbel3.grown g4 hsz3 hor3.lt; have B5 := alloc_below' w4 (.cells #[.int .i64 (61 + (L : Int)), .int .i64 (B : Int)] 3); have own5 := own4.below B5; have hsz5 : w.heap.size ≤ (w4.alloc (.cells #[.int .i64 (61 + (L : Int)), .int .i64 (B : Int)] 3)).heap.size := Nat.le_trans hbel4.size B5.size)
          | (at_builtin; refine wp_appW rfl _ _ rfl w.heap.size v4 (.slice (some ⟨w4.heap.size, 0, none⟩) 2 2) (cur ++ pp) [61 + (L : Int), (B : Int)] rfl rfl own5 (lit2 w4 _ _) (by simp; omega) hsz5 ?_; intro v6 w6 own6 g6 at6))
        have hbel6 : Below w.heap.size w w6 := (Bstep hbel4 B5).grown g6 hsz5 own5.lt
        refine ⟨⟨j + L, cur ++ pp ++ [61 + (L : Int), (B : Int)], [], by go_num, by omega, own6.below (alloc_below' _ _), own_empty w6 _ hbel6.size, ?_, Nat.zero_le _, ?_, Bstep hbel6 (alloc_below' _ _)⟩, by simp [intOf]; omega⟩
        · intro k hk e
          have h1 := own6.lt2 k e
          simp only [Value.ownBlock, Option.some.injEq] at hk
          omega
        · have hh := HQ.out
          rw [HPP.out] at hh
          unfold Hid
          rw [← hh]
          simp
    · obtain rfl : j = xs.length := by omega
      have hq := heq.out
      rw [Nat.sub_self] at hq
      have hq2 : cur ++ plainP pl = R := hq
      have D2' := C2.out wr _ pl hop.ints (by omega)
      have hplen := plainP_len pl
      obtain ⟨pp, hpp⟩ : ∃ pp, plainP pl = pp := ⟨_, rfl⟩
      rw [hpp] at D2' hq2 hplen
      have D2 := Lib.hid D2'
      have HQ := Lib.hid hq2
      have hppl : pp.length ≤ 300 := by omega
      clear D2' hpp hq hq2 hplen
      go_wp2_with fail
      refine D2.out.mono ?_
      rintro e w3 ⟨v3, rfl, own3, b3⟩
      have hor3 := hor.below b3
      have hbel3 := Bstep hbel b3
      have hsz3 := hbel3.size
      go_wp2_with (at_builtin; refine wp_appW rfl _ _ rfl w.heap.size u3 v3 cur pp rfl rfl hor3 own3.ints (by omega) hsz3 ?_; intro v4 w4 own4 g4 at4)
      go_ret
      rw [HQ.out] at own4
      exact ⟨_, rfl, own4, hbel3.grown g4 hsz3 hor3.lt⟩

/-- what packing answers -/
def pckB (xs : List Int) : Bool := okBs xs && decide (xs.length ≤ 200)
def pckL (xs : List Int) : List Int := if pckB xs = true then packP xs else []
theorem pckL_len (xs : List Int) : (pckL xs).length ≤ 210 := by
  unfold pckL pckB
  split
  · rename_i h
    have h2 := of_decide_eq_true (Bool.and_eq_true_iff.1 h).2
    have := packP_len xs
    omega
  · simp
theorem pckB_iff {xs : List Int} : pckB xs = true ↔ okBs xs = true ∧ xs.length ≤ 200 := by unfold pckB; rw [Bool.and_eq_true, decide_eq_true_eq]
/-- how many bytes a packed form is shorter -/
def gainN (xs : List Int) : Int := if pckB xs = true then (xs.length : Int) - ((packP xs).length : Int) else 0
theorem spec_PackBytes (v : Value) (xs : List Int) (w : World) (h : Ints w v xs) (hfl : xs.length ≤ 2000000) :
    Calls Try.prog 15 #[v] w (NewInts w (pckL xs) (pckB xs)) := by
  have C1 := Lib.hid (spec_l1Ok v xs w h)
  cases hok : okBs xs with
  | false =>
    rw [hok] at C1
    have e1 : pckB xs = false := by unfold pckB; rw [hok]; rfl
    rw [show pckL xs = [] by unfold pckL; rw [e1]; rfl, e1]
    obtain ⟨a, cap, rfl, l1, m1, c0⟩ := h
    clear hok e1 c0
    go_enter Try.func15, Try.ntmps15
    go_wp2_with fail
    refine C1.out.mono ?_
    rintro e w1 ⟨rfl, rfl⟩
    go_wp2_with fail
    go_ret2
    exact ⟨_, rfl, own_empty w _ (Nat.le_refl _), alloc_below' _ _⟩
  | true =>
    rw [hok] at C1
    by_cases hl : xs.length ≤ 200
    · have C2' := spec_l4Pack v xs w h hl
      have e1 : pckB xs = true := pckB_iff.2 ⟨hok, hl⟩
      rw [show pckL xs = packP xs by unfold pckL; rw [e1]; rfl, e1]
      obtain ⟨R, hR⟩ : ∃ R, packP xs = R := ⟨_, rfl⟩
      rw [hR] at C2' ⊢
      have C2 := Lib.hid C2'
      have d1 : decide ((200 : Int) < (xs.length : Int)) = false := decide_eq_false (by omega)
      have d2 : decide (200 < xs.length) = false := decide_eq_false (by omega)
      obtain ⟨a, cap, rfl, l1, m1, c0⟩ := h
      unfold maxLen at m1
      clear hok e1 c0 C2' hR
      go_enter Try.func15, Try.ntmps15
      go_wp2_with fail
      refine C1.out.mono ?_
      rintro e w1 ⟨rfl, rfl⟩
      go_wp2_with fail
      refine C2.out.mono ?_
      rintro e w2 ⟨u, rfl, own, bel⟩
      go_wp2_with fail
      go_ret2
      exact ⟨_, rfl, own, bel⟩
    · have e1 : pckB xs = false := by unfold pckB; rw [decide_eq_false hl]; simp
      rw [show pckL xs = [] by unfold pckL; rw [e1]; rfl, e1]
      have d1 : decide ((200 : Int) < (xs.length : Int)) = true := decide_eq_true (by omega)
      have d2 : decide (200 < xs.length) = true := decide_eq_true (by omega)
      obtain ⟨a, cap, rfl, l1, m1, c0⟩ := h
      unfold maxLen at m1
      clear hok e1 c0
      go_enter Try.func15, Try.ntmps15
      go_wp2_with fail
      refine C1.out.mono ?_
      rintro e w1 ⟨rfl, rfl⟩
      go_wp2_with fail
      go_ret2
      exact ⟨_, rfl, own_empty w _ (Nat.le_refl _), alloc_below' _ _⟩
end Go.Proofs.Ytkdikdkeaomobaa
